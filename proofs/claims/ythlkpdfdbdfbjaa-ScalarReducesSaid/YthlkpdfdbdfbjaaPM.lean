/- Package scalar: numbers in blocks, as one state of the memory; laws of the walk over it. -/
import Derived.Test.YthlkpdfdbdfbjaaP4
import Derived.Test.YthlkpdfdbdfbjaaSwayA
import Derived.Great.Ranges
set_option linter.unusedSimpArgs false
set_option linter.unusedVariables false
namespace Go.Proofs.Ythlkpdfdbdfbjaa
open Go.RowKit Go.Lib
def numA (x : Nat) : Array Value := (numC .u32 (nL x)).toArray
theorem numV_eq (x : Nat) : numV x = .agg (numA x) := rfl
theorem numA_size (x : Nat) : (numA x).size = 16 := by rw [numA, List.size_toArray, numC_length, nL_len]
theorem numA_one (x : Nat) : (numA x).all (·.oneCell') = true := numC_one _ _
theorem numA_info (x : Nat) : (Try.prog.info? 41).map (·.size) = some (numA x).size := by rw [infoN, numA_size]
theorem zero_num : ∀ w, (zeroValue 41).run Try.prog w = .ok (.agg (numA 0)) w := by
  have h : (numA 0) = (numC .u32 (List.replicate 16 0)).toArray := rfl
  rw [h]
  exact (zero_of_info (n := 16) (by kernel_rfl)).1
/-- A number in a block. -/
def NumAt (w : World) (g : Nat) (x : Nat) : Prop := w.heap[g]? = some (.cells (numA x) 41 (0, 0))
theorem NumAt.lt {w : World} {g x : Nat} (h : NumAt w g x) : g < w.heap.size := (Array.getElem?_eq_some_iff.1 h).1
/-- What the call has: since its first world what was there is as it was, and of its own blocks these hold these numbers. -/
structure Mem (w0 w : World) (L : List (Nat × Nat)) : Prop where
  below : Below w0.heap.size w0 w
  holds : ∀ g x, (g, x) ∈ L → NumAt w g x
  ours : ∀ g x, (g, x) ∈ L → w0.heap.size ≤ g
  apart : (L.map (·.1)).Nodup
section
variable {w0 w w' : World} {L : List (Nat × Nat)} {g x y : Nat}
theorem Mem.start (w : World) : Mem w w [] := ⟨Below.refl _ _, by simp, by simp, by simp⟩
theorem Mem.grow (H : Mem w0 w L) (hb : Below w.heap.size w w') : Mem w0 w' L :=
  ⟨H.below.trans (hb.mono H.below.size), fun g x h => (hb.block g (H.holds g x h).lt).trans (H.holds g x h), H.ours, H.apart⟩
theorem Mem.new (H : Mem w0 w L) (x : Nat) : Mem w0 (w.alloc (.cells (numA x) 41)) ((w.heap.size, x) :: L) := by
  have H2 := H.grow ((Below.refl _ w).alloc (Nat.le_refl _) (.cells (numA x) 41))
  refine ⟨H2.below, fun g y h => ?_, fun g y h => ?_, ?_⟩
  · rcases List.mem_cons.1 h with h | h
    · injection h with h1 h2; subst h1; subst h2; exact heap_alloc_new w _
    · exact H2.holds g y h
  · rcases List.mem_cons.1 h with h | h
    · injection h with h1 h2; subst h1; exact H.below.size
    · exact H.ours g y h
  · rw [List.map_cons, List.nodup_cons]
    refine ⟨fun h => ?_, H.apart⟩
    obtain ⟨⟨g, y⟩, hm, he⟩ := List.mem_map.1 h
    have := (H.holds g y hm).lt
    simp only at he
    omega
theorem Mem.extra (H : Mem w0 w L) (h : From w.drew w') (hF : Fresh w 41 (numA 0) g w') : Mem w0 w' ((g, 0) :: L) := by
  have H2 := H.grow h.of_drew
  refine ⟨H2.below, fun g' y h => ?_, fun g' y h => ?_, ?_⟩
  · rcases List.mem_cons.1 h with h | h
    · injection h with h1 h2; subst h1; subst h2; exact hF.1
    · exact H2.holds g' y h
  · rcases List.mem_cons.1 h with h | h
    · injection h with h1 h2; subst h1; exact Nat.le_trans H.below.size hF.2
    · exact H.ours g' y h
  · rw [List.map_cons, List.nodup_cons]
    refine ⟨fun h => ?_, H.apart⟩
    obtain ⟨⟨g', y⟩, hm, he⟩ := List.mem_map.1 h
    have h3 := (H.holds g' y hm).lt
    have h4 := hF.2
    simp only at he
    omega
/-- The number at a block, replaced. -/
def putN (g y : Nat) (L : List (Nat × Nat)) : List (Nat × Nat) := L.map fun p => if p.1 = g then (g, y) else p
theorem mem_fst (hn : (L.map (·.1)).Nodup) (h1 : (g, x) ∈ L) (h2 : (g, y) ∈ L) : x = y := by
  induction L with
  | nil => simp at h1
  | cons p r ih =>
    rw [List.map_cons, List.nodup_cons] at hn
    rcases List.mem_cons.1 h1 with e1 | e1
    · rcases List.mem_cons.1 h2 with e2 | e2
      · rw [← e1] at e2; injection e2 with _ e; exact e.symm
      · exact absurd (List.mem_map.2 ⟨(g, y), e2, by rw [← e1]⟩) hn.1
    · rcases List.mem_cons.1 h2 with e2 | e2
      · exact absurd (List.mem_map.2 ⟨(g, x), e1, by rw [← e2]⟩) hn.1
      · exact ih hn.2 e1 e2
theorem setRow_other (w : World) (g g' : Nat) (cs : Array Value) (h : g' ≠ g) : (w.setRow g cs).heap[g']? = w.heap[g']? := by
  show (w.heap.modify g _)[g']? = _
  rw [Array.getElem?_modify, if_neg (Ne.symm h)]
theorem Mem.put (H : Mem w0 w L) (h : (g, x) ∈ L) (y : Nat) : Mem w0 (w.setRow g (numA y)) (putN g y L) := by
  have hk : (putN g y L).map (·.1) = L.map (·.1) := by
    unfold putN
    rw [List.map_map]
    refine List.map_congr_left fun p _ => ?_
    simp only [Function.comp]
    split
    · rename_i e; exact e.symm
    · rfl
  refine ⟨below_setRow H.below (H.ours g x h) _, fun g' z h' => ?_, fun g' z h' => ?_, by rw [hk]; exact H.apart⟩
  · unfold putN at h'
    obtain ⟨⟨g2, z2⟩, hm, he⟩ := List.mem_map.1 h'
    by_cases e : g2 = g
    · rw [if_pos e] at he
      injection he with e1 e2
      subst e1; subst e2
      exact setRow_heap _ _ _ _ _ _ (H.holds g x h)
    · rw [if_neg e] at he
      injection he with e1 e2
      subst e1; subst e2
      exact (setRow_other w g g2 _ e).trans (H.holds g2 z2 hm)
  · have : g' ∈ L.map (·.1) := by rw [← hk]; exact List.mem_map.2 ⟨(g', z), h', rfl⟩
    obtain ⟨⟨g2, z2⟩, hm, he⟩ := List.mem_map.1 this
    simp only at he
    subst he
    exact H.ours g2 z2 hm
end
section
variable {ops : Array Oper} {rest : List Oper} {o : Oper} {a : Act} {w0 w : World} {Q : Exit → Act → World → Prop} {L : List (Nat × Nat)}
theorem mem_box (hg : o.guard = none) (x : Operand) (ho : o.op = .box 41 x) (y : Nat) (hx : a.eval x = .agg (numA y)) (H : Mem w0 w L)
    (h : ∀ g w', Mem w0 w' ((g, y) :: L) → wpList Try.prog ops Q rest (a.put o.dst (.pointer (some ⟨g, 0, none⟩))) w') : wpList Try.prog ops Q (o :: rest) a w :=
  Great.wpList_boxTo hg 41 x ho o.dst rfl w.heap.size rfl (numA y) (by rw [hx]; rfl) (h _ _ (H.new y))
theorem mem_alloc (hg : o.guard = none) (ho : o.op = .alloc 41) (H : Mem w0 w L)
    (h : ∀ g w', Mem w0 w' ((g, 0) :: L) → wpList Try.prog ops Q rest (a.put o.dst (.pointer (some ⟨g, 0, none⟩))) w') : wpList Try.prog ops Q (o :: rest) a w := by
  refine wpList_plain hg fun K hK => ?_
  unfold Oper.wp execOp
  simp only [ho, Instr.alloc, Sem.run_bind, zero_num, newVar, newRow, run_newObj_alloc, Sem.run_pure, Result.andThen_ok]
  exact hK _ _ (h _ _ (H.new 0))
theorem mem_load (hg : o.guard = none) (x : Operand) (ho : o.op = .load 41 x) (g y : Nat) (hx : a.eval x = .pointer (some ⟨g, 0, none⟩)) (H : Mem w0 w L) (hm : (g, y) ∈ L)
    (h : wpList Try.prog ops Q rest (a.put o.dst (.agg (numA y))) w) : wpList Try.prog ops Q (o :: rest) a w :=
  wpList_load_row hg 41 x ho g hx 41 (numA y) (0, 0) _ (H.holds g y hm) Try.underlying41 rfl (numA_info y) h
theorem mem_store (hg : o.guard = none) (x v : Operand) (ho : o.op = .store 41 x v) (g old y : Nat) (hx : a.eval x = .pointer (some ⟨g, 0, none⟩)) (hv : a.eval v = .agg (numA y)) (H : Mem w0 w L) (hm : (g, old) ∈ L)
    (h : ∀ w', Mem w0 w' (putN g y L) → wpList Try.prog ops Q rest (a.put o.dst undef) w') : wpList Try.prog ops Q (o :: rest) a w :=
  wpList_store_row hg 41 x v ho g (numA y) hx hv 41 (numA old) (H.holds g old hm) (numA_info y) (by rw [numA_size, numA_size]) (numA_one y) (h _ (H.put hm y))
theorem putN_none {g y : Nat} : ∀ (L : List (Nat × Nat)), g ∉ L.map (·.1) → putN g y L = L
  | [], _ => rfl
  | p :: r, h => by
    rw [List.map_cons, List.mem_cons, not_or] at h
    have := putN_none (y := y) r h.2
    unfold putN at this ⊢
    rw [List.map_cons, this, if_neg (Ne.symm h.1)]
theorem putN_mid {g y old : Nat} : ∀ (A B : List (Nat × Nat)), ((A ++ (g, old) :: B).map (·.1)).Nodup → putN g y (A ++ (g, old) :: B) = A ++ (g, y) :: B
  | [], B, h => by
    rw [List.nil_append, List.map_cons, List.nodup_cons] at h
    have := putN_none (y := y) B h.1
    unfold putN at this ⊢
    rw [List.nil_append, List.map_cons, this, if_pos rfl, List.nil_append]
  | p :: A, B, h => by
    rw [List.cons_append, List.map_cons, List.nodup_cons] at h
    have := putN_mid (y := y) A B h.2
    have hne : p.1 ≠ g := fun e => h.1 (List.mem_map.2 ⟨(g, old), by simp, e.symm⟩)
    unfold putN at this ⊢
    rw [List.cons_append, List.map_cons, this, if_neg hne, List.cons_append]
theorem mem_store_mid (hg : o.guard = none) (x v : Operand) (ho : o.op = .store 41 x v) (g old y : Nat) (hx : a.eval x = .pointer (some ⟨g, 0, none⟩)) (hv : a.eval v = .agg (numA y)) (A B : List (Nat × Nat)) (H : Mem w0 w (A ++ (g, old) :: B))
    (h : ∀ w', Mem w0 w' (A ++ (g, y) :: B) → wpList Try.prog ops Q rest (a.put o.dst undef) w') : wpList Try.prog ops Q (o :: rest) a w :=
  mem_store hg x v ho g old y hx hv H (by simp) fun w' H' => h w' (putN_mid A B H.apart ▸ H')
theorem mem_store0 (hg : o.guard = none) (x v : Operand) (ho : o.op = .store 41 x v) (g old y : Nat) (hx : a.eval x = .pointer (some ⟨g, 0, none⟩)) (hv : a.eval v = .agg (numA y)) (B : List (Nat × Nat)) (H : Mem w0 w ((g, old) :: B))
    (h : ∀ w', Mem w0 w' ((g, y) :: B) → wpList Try.prog ops Q rest (a.put o.dst undef) w') : wpList Try.prog ops Q (o :: rest) a w := mem_store_mid hg x v ho g old y hx hv [] B H h
theorem mem_store1 (hg : o.guard = none) (x v : Operand) (ho : o.op = .store 41 x v) (g old y : Nat) (hx : a.eval x = .pointer (some ⟨g, 0, none⟩)) (hv : a.eval v = .agg (numA y)) (p : Nat × Nat) (B : List (Nat × Nat)) (H : Mem w0 w (p :: (g, old) :: B))
    (h : ∀ w', Mem w0 w' (p :: (g, y) :: B) → wpList Try.prog ops Q rest (a.put o.dst undef) w') : wpList Try.prog ops Q (o :: rest) a w := mem_store_mid hg x v ho g old y hx hv [p] B H h
theorem mem_store2 (hg : o.guard = none) (x v : Operand) (ho : o.op = .store 41 x v) (g old y : Nat) (hx : a.eval x = .pointer (some ⟨g, 0, none⟩)) (hv : a.eval v = .agg (numA y)) (p q : Nat × Nat) (B : List (Nat × Nat)) (H : Mem w0 w (p :: q :: (g, old) :: B))
    (h : ∀ w', Mem w0 w' (p :: q :: (g, y) :: B) → wpList Try.prog ops Q rest (a.put o.dst undef) w') : wpList Try.prog ops Q (o :: rest) a w := mem_store_mid hg x v ho g old y hx hv [p, q] B H h
theorem mem_store3 (hg : o.guard = none) (x v : Operand) (ho : o.op = .store 41 x v) (g old y : Nat) (hx : a.eval x = .pointer (some ⟨g, 0, none⟩)) (hv : a.eval v = .agg (numA y)) (p q r : Nat × Nat) (B : List (Nat × Nat)) (H : Mem w0 w (p :: q :: r :: (g, old) :: B))
    (h : ∀ w', Mem w0 w' (p :: q :: r :: (g, y) :: B) → wpList Try.prog ops Q rest (a.put o.dst undef) w') : wpList Try.prog ops Q (o :: rest) a w := mem_store_mid hg x v ho g old y hx hv [p, q, r] B H h
theorem mem_call {f : FuncId} {args : Array Value} {v : Value} {Q : Ending → World → Prop} (H : Mem w0 w L) (c : Calls Try.prog f args w fun e w' => e = .returned v ∧ Below w.heap.size w w')
    (h : ∀ w', Mem w0 w' L → Q (.returned v) w') : Calls Try.prog f args w Q :=
  c.mono fun _ w' ⟨he, hb⟩ => he ▸ h w' (H.grow hb)
theorem mem_from {w' : World} (H : Mem w0 w L) (h : From w.drew w') : Mem w0 w' L := H.grow h.of_drew
theorem mem_quiet_load {K : Act → Prop} (x : Operand) (ho : o.op = .load 41 x) (g y : Nat) (hx : a.eval x = .pointer (some ⟨g, 0, none⟩)) (H : Mem w0 w L) (hm : (g, y) ∈ L)
    (h : K (a.put o.dst (.agg (numA y)))) : o.quiet Try.prog a (fun w' => ∃ u : Held (From w.drew), w' = u.w) K :=
  quiet_load_row 41 x ho g hx 41 (numA y) _ (fun _ ⟨u, e⟩ => ⟨(0, 0), e ▸ (mem_from H u.h).holds g y hm⟩) Try.underlying41 rfl (numA_info y) h
theorem mem_quiet_load_u {K : Act → Prop} (x : Operand) (ho : o.op = .load 41 x) (g y : Nat) (hx : a.eval x = .pointer (some ⟨g, 0, none⟩)) (H : Mem w0 w L) (hm : (g, y) ∈ L)
    (h : K (a.put o.dst (.agg (numA y)))) : o.quiet Try.prog a (fun w' => ∃ u : Held (From w), w' = u.w) K :=
  quiet_load_row 41 x ho g hx 41 (numA y) _ (fun _ ⟨u, e⟩ => ⟨(0, 0), e ▸ (H.grow u.h.below).holds g y hm⟩) Try.underlying41 rfl (numA_info y) h
/-- A callee's contract, in a world that has grown. -/
theorem held_call_u {f : FuncId} {args : Array Value} {w : World} {v : Value} (u : Held (From w)) (h : Calls Try.prog f args u.w fun e w' => e = .returned v ∧ Below u.w.heap.size u.w w') :
    Calls Try.prog f args u.w fun e w'' => e = .returned v ∧ ∃ u' : Held (From w), w'' = u'.w := held_call u h
/-- The end: the result stands in a block. -/
theorem mem_ret {fn : Func} {p : Tmp} {x : Nat} {g : Nat} (hr : fn.results = #[.cell p 41]) (a : Act) (hp : a.tmps.getD p undef = .pointer (some ⟨g, 0, none⟩)) (hd : a.defers = []) (H : Mem w0 w L) (hm : (g, x) ∈ L) :
    bodyPost Try.prog fn (NP x w0) .ret a w :=
  bodyPost_ret (results_cell_row hr _ _ g 41 (numA x) (0, 0) _ hp (H.holds g x hm) Try.underlying41 rfl (numA_info x)) hd ⟨rfl, H.below⟩
end
section
variable {ops : Array Oper} {rest : List Oper} {o : Oper} {a : Act} {w0 w : World} {Q : Exit → Act → World → Prop} {L : List (Nat × Nat)}
theorem built_few (ps : List (Nat × Value)) (P : Program) (t : TypeId) (c : Array Value) (h : P.built t ps = some c) (parts : Array (Nat × Operand)) (a : Act) (e : (parts.map fun (i, x) => (i, a.eval x)).toList = ps) :
    (P.built t (parts.map fun (i, x) => (i, a.eval x)).toList).isSome = true ∧ (P.built t (parts.map fun (i, x) => (i, a.eval x)).toList).getD #[] = c := by
  rw [e, h]; exact ⟨rfl, rfl⟩
theorem mem_build (hg : o.guard = none) (parts : Array (Nat × Operand)) (ho : o.op = .build 41 parts) (ps : List (Nat × Value)) (e : (parts.map fun (i, x) => (i, a.eval x)).toList = ps) (x : Nat) (hb : Try.prog.built 41 ps = some (numA x))
    (h : wpList Try.prog ops Q rest (a.put o.dst (.agg (numA x))) w) : wpList Try.prog ops Q (o :: rest) a w := by
  obtain ⟨h1, h2⟩ := built_few ps _ _ _ hb parts a e
  exact wpList_build hg 41 parts ho h1 (by rw [h2]; exact h)
end
theorem built_order : Try.prog.built 41 [(0, .int .u32 1559614445), (1, .int .u32 1477600026), (2, .int .u32 2734136534), (3, .int .u32 350157278), (4, .int .u32 0), (5, .int .u32 0), (6, .int .u32 0), (7, .int .u32 268435456)] = some (numA oN) := by
  unfold numA
  rw [nL_o]
  kernel_rfl
theorem nL_lo (x : Nat) (h : x < 4294967296) : nL x = [x, 0, 0, 0, 0, 0, 0, 0, 0, 0, 0, 0, 0, 0, 0, 0] := by
  refine (nL_of _ x rfl (fun y hy => ?_) ?_).symm
  · simp at hy
    omega
  · simp [valB]
theorem nL_lo2 (x y : Nat) (h : x < 4294967296) (h' : y < 4294967296) : nL (x + 4294967296 * y) = [x, y, 0, 0, 0, 0, 0, 0, 0, 0, 0, 0, 0, 0, 0, 0] := by
  refine (nL_of _ _ rfl (fun z hz => ?_) ?_).symm
  · simp at hz
    omega
  · simp [valB]
theorem built_one (x : Nat) (h : x < 4294967296) : Try.prog.built 41 [(0, .int .u32 (x : Int))] = some (numA x) := by
  unfold numA
  rw [nL_lo x h]
  rfl
theorem built_two (x y : Nat) (h : x < 4294967296) (h' : y < 4294967296) : Try.prog.built 41 [(0, .int .u32 (x : Int)), (1, .int .u32 (y : Int))] = some (numA (x + 4294967296 * y)) := by
  unfold numA
  rw [nL_lo2 x y h h']
  rfl
end Go.Proofs.Ythlkpdfdbdfbjaa
