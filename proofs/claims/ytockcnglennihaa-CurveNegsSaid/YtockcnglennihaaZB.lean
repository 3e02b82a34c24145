/- Package field: numbers in blocks, as one state of the memory; laws of the walk over it.
Package field: what is negated, reduced, squared.
Package field: what is reduced; powers of ones; inverses; roots.
Package field: whether two numbers are the same.
Package field: roots.
Package field: the number of bytes.
Package field: the bytes of a number. -/
import Derived.Test.YtockcnglennihaaZA
import Derived.Test.YtockcnglennihaaZK
import Derived.Great.Ranges
import Derived.Deep.LoopGhost
import Derived.ChangeKeysEq
import Derived.Laws.StructEq
section
namespace Go.Proofs.Ytockcnglennihaa
open Go.RowKit Go.Lib
def numA (x : Nat) : Array Value := (numC .u32 (nL x)).toArray
theorem numV_eq (x : Nat) : numV x = .agg (numA x) := rfl
theorem numA_size (x : Nat) : (numA x).size = 8 := by rw [numA, List.size_toArray, numC_length, nL_len]
theorem numA_one (x : Nat) : (numA x).all (·.oneCell') = true := numC_one _ _
theorem numA_info (x : Nat) : (Try.prog.info? 78).map (·.size) = some (numA x).size := by rw [infoN, numA_size]
theorem zero_num : ∀ w, (zeroValue 78).run Try.prog w = .ok (.agg (numA 0)) w := by
  have h : (numA 0) = (numC .u32 (List.replicate 8 0)).toArray := rfl
  rw [h]
  exact (zero_of_info (n := 8) (by kernel_rfl)).1
/-- A number in a block. -/
def NumAt (w : World) (g : Nat) (x : Nat) : Prop := w.heap[g]? = some (.cells (numA x) 78 (0, 0))
theorem NumAt.lt {w : World} {g x : Nat} (h : NumAt w g x) : g < w.heap.size := (Array.getElem?_eq_some_iff.1 h).1
/-- What the call has: since its first world what was there is as it was, and of its own blocks these hold these numbers. -/
structure Mem (w0 w : World) (L : List (Nat × Nat)) : Prop where
  below : Below w0.heap.size w0 w
  holds : ∀ g x, (g, x) ∈ L → NumAt w g x
  ours : ∀ g x, (g, x) ∈ L → w0.heap.size ≤ g
  apart : (L.map (·.1)).Nodup
section
variable {w0 w w' : World} {L : List (Nat × Nat)} {g x y : Nat}
theorem Mem.start (w : World) : Mem w w [] := ⟨Below.refl _ _, by simp, by simp, by simp⟩
theorem Mem.grow (H : Mem w0 w L) (hb : Below w.heap.size w w') : Mem w0 w' L :=
  ⟨H.below.trans (hb.mono H.below.size), fun g x h => (hb.block g (H.holds g x h).lt).trans (H.holds g x h), H.ours, H.apart⟩
theorem Mem.new (H : Mem w0 w L) (x : Nat) : Mem w0 (w.alloc (.cells (numA x) 78)) ((w.heap.size, x) :: L) := by
  have H2 := H.grow ((Below.refl _ w).alloc (Nat.le_refl _) (.cells (numA x) 78))
  refine ⟨H2.below, fun g y h => ?_, fun g y h => ?_, ?_⟩
  · rcases List.mem_cons.1 h with h | h
    · injection h with h1 h2; subst h1; subst h2; exact heap_alloc_new w _
    · exact H2.holds g y h
  · rcases List.mem_cons.1 h with h | h
    · injection h with h1 h2; subst h1; exact H.below.size
    · exact H.ours g y h
  · rw [List.map_cons, List.nodup_cons]
    refine ⟨fun h => ?_, H.apart⟩
    obtain ⟨⟨g, y⟩, hm, he⟩ := List.mem_map.1 h
    have := (H.holds g y hm).lt
    simp only at he
    omega
theorem Mem.extra (H : Mem w0 w L) (h : From w.drew w') (hF : Fresh w 78 (numA 0) g w') : Mem w0 w' ((g, 0) :: L) := by
  have H2 := H.grow h.of_drew
  refine ⟨H2.below, fun g' y h => ?_, fun g' y h => ?_, ?_⟩
  · rcases List.mem_cons.1 h with h | h
    · injection h with h1 h2; subst h1; subst h2; exact hF.1
    · exact H2.holds g' y h
  · rcases List.mem_cons.1 h with h | h
    · injection h with h1 h2; subst h1; exact Nat.le_trans H.below.size hF.2
    · exact H.ours g' y h
  · rw [List.map_cons, List.nodup_cons]
    refine ⟨fun h => ?_, H.apart⟩
    obtain ⟨⟨g', y⟩, hm, he⟩ := List.mem_map.1 h
    have h3 := (H.holds g' y hm).lt
    have h4 := hF.2
    simp only at he
    omega
/-- The number at a block, replaced. -/
def putN (g y : Nat) (L : List (Nat × Nat)) : List (Nat × Nat) := L.map fun p => if p.1 = g then (g, y) else p
theorem mem_fst (hn : (L.map (·.1)).Nodup) (h1 : (g, x) ∈ L) (h2 : (g, y) ∈ L) : x = y := by
  induction L with
  | nil => simp at h1
  | cons p r ih =>
    rw [List.map_cons, List.nodup_cons] at hn
    rcases List.mem_cons.1 h1 with e1 | e1
    · rcases List.mem_cons.1 h2 with e2 | e2
      · rw [← e1] at e2; injection e2 with _ e; exact e.symm
      · exact absurd (List.mem_map.2 ⟨(g, y), e2, by rw [← e1]⟩) hn.1
    · rcases List.mem_cons.1 h2 with e2 | e2
      · exact absurd (List.mem_map.2 ⟨(g, x), e1, by rw [← e2]⟩) hn.1
      · exact ih hn.2 e1 e2
theorem setRow_other (w : World) (g g' : Nat) (cs : Array Value) (h : g' ≠ g) : (w.setRow g cs).heap[g']? = w.heap[g']? := by
  show (w.heap.modify g _)[g']? = _
  rw [Array.getElem?_modify, if_neg (Ne.symm h)]
theorem Mem.put (H : Mem w0 w L) (h : (g, x) ∈ L) (y : Nat) : Mem w0 (w.setRow g (numA y)) (putN g y L) := by
  have hk : (putN g y L).map (·.1) = L.map (·.1) := by
    unfold putN
    rw [List.map_map]
    refine List.map_congr_left fun p _ => ?_
    simp only [Function.comp]
    split
    · rename_i e; exact e.symm
    · rfl
  refine ⟨below_setRow H.below (H.ours g x h) _, fun g' z h' => ?_, fun g' z h' => ?_, by rw [hk]; exact H.apart⟩
  · unfold putN at h'
    obtain ⟨⟨g2, z2⟩, hm, he⟩ := List.mem_map.1 h'
    by_cases e : g2 = g
    · rw [if_pos e] at he
      injection he with e1 e2
      subst e1; subst e2
      exact setRow_heap _ _ _ _ _ _ (H.holds g x h)
    · rw [if_neg e] at he
      injection he with e1 e2
      subst e1; subst e2
      exact (setRow_other w g g2 _ e).trans (H.holds g2 z2 hm)
  · have : g' ∈ L.map (·.1) := by rw [← hk]; exact List.mem_map.2 ⟨(g', z), h', rfl⟩
    obtain ⟨⟨g2, z2⟩, hm, he⟩ := List.mem_map.1 this
    simp only at he
    subst he
    exact H.ours g2 z2 hm
end
section
variable {ops : Array Oper} {rest : List Oper} {o : Oper} {a : Act} {w0 w : World} {Q : Exit → Act → World → Prop} {L : List (Nat × Nat)}
theorem mem_box (hg : o.guard = none) (x : Operand) (ho : o.op = .box 78 x) (y : Nat) (hx : a.eval x = .agg (numA y)) (H : Mem w0 w L)
    (h : ∀ g w', Mem w0 w' ((g, y) :: L) → wpList Try.prog ops Q rest (a.put o.dst (.pointer (some ⟨g, 0, none⟩))) w') : wpList Try.prog ops Q (o :: rest) a w :=
  Great.wpList_boxTo hg 78 x ho o.dst rfl w.heap.size rfl (numA y) (by rw [hx]; rfl) (h _ _ (H.new y))
theorem mem_alloc (hg : o.guard = none) (ho : o.op = .alloc 78) (H : Mem w0 w L)
    (h : ∀ g w', Mem w0 w' ((g, 0) :: L) → wpList Try.prog ops Q rest (a.put o.dst (.pointer (some ⟨g, 0, none⟩))) w') : wpList Try.prog ops Q (o :: rest) a w := by
  refine wpList_plain hg fun K hK => ?_
  unfold Oper.wp execOp
  simp only [ho, Instr.alloc, Sem.run_bind, zero_num, newVar, newRow, run_newObj_alloc, Sem.run_pure, Result.andThen_ok]
  exact hK _ _ (h _ _ (H.new 0))
theorem mem_load (hg : o.guard = none) (x : Operand) (ho : o.op = .load 78 x) (g y : Nat) (hx : a.eval x = .pointer (some ⟨g, 0, none⟩)) (H : Mem w0 w L) (hm : (g, y) ∈ L)
    (h : wpList Try.prog ops Q rest (a.put o.dst (.agg (numA y))) w) : wpList Try.prog ops Q (o :: rest) a w :=
  wpList_load_row hg 78 x ho g hx 78 (numA y) (0, 0) _ (H.holds g y hm) Try.underlying78 rfl (numA_info y) h
theorem mem_store (hg : o.guard = none) (x v : Operand) (ho : o.op = .store 78 x v) (g old y : Nat) (hx : a.eval x = .pointer (some ⟨g, 0, none⟩)) (hv : a.eval v = .agg (numA y)) (H : Mem w0 w L) (hm : (g, old) ∈ L)
    (h : ∀ w', Mem w0 w' (putN g y L) → wpList Try.prog ops Q rest (a.put o.dst undef) w') : wpList Try.prog ops Q (o :: rest) a w :=
  wpList_store_row hg 78 x v ho g (numA y) hx hv 78 (numA old) (H.holds g old hm) (numA_info y) (by rw [numA_size, numA_size]) (numA_one y) (h _ (H.put hm y))
theorem putN_none {g y : Nat} : ∀ (L : List (Nat × Nat)), g ∉ L.map (·.1) → putN g y L = L
  | [], _ => rfl
  | p :: r, h => by
    rw [List.map_cons, List.mem_cons, not_or] at h
    have := putN_none (y := y) r h.2
    unfold putN at this ⊢
    rw [List.map_cons, this, if_neg (Ne.symm h.1)]
theorem putN_mid {g y old : Nat} : ∀ (A B : List (Nat × Nat)), ((A ++ (g, old) :: B).map (·.1)).Nodup → putN g y (A ++ (g, old) :: B) = A ++ (g, y) :: B
  | [], B, h => by
    rw [List.nil_append, List.map_cons, List.nodup_cons] at h
    have := putN_none (y := y) B h.1
    unfold putN at this ⊢
    rw [List.nil_append, List.map_cons, this, if_pos rfl, List.nil_append]
  | p :: A, B, h => by
    rw [List.cons_append, List.map_cons, List.nodup_cons] at h
    have := putN_mid (y := y) A B h.2
    have hne : p.1 ≠ g := fun e => h.1 (List.mem_map.2 ⟨(g, old), by simp, e.symm⟩)
    unfold putN at this ⊢
    rw [List.cons_append, List.map_cons, this, if_neg hne, List.cons_append]
theorem mem_store_mid (hg : o.guard = none) (x v : Operand) (ho : o.op = .store 78 x v) (g old y : Nat) (hx : a.eval x = .pointer (some ⟨g, 0, none⟩)) (hv : a.eval v = .agg (numA y)) (A B : List (Nat × Nat)) (H : Mem w0 w (A ++ (g, old) :: B))
    (h : ∀ w', Mem w0 w' (A ++ (g, y) :: B) → wpList Try.prog ops Q rest (a.put o.dst undef) w') : wpList Try.prog ops Q (o :: rest) a w :=
  mem_store hg x v ho g old y hx hv H (by simp) fun w' H' => h w' (putN_mid A B H.apart ▸ H')
theorem mem_store0 (hg : o.guard = none) (x v : Operand) (ho : o.op = .store 78 x v) (g old y : Nat) (hx : a.eval x = .pointer (some ⟨g, 0, none⟩)) (hv : a.eval v = .agg (numA y)) (B : List (Nat × Nat)) (H : Mem w0 w ((g, old) :: B))
    (h : ∀ w', Mem w0 w' ((g, y) :: B) → wpList Try.prog ops Q rest (a.put o.dst undef) w') : wpList Try.prog ops Q (o :: rest) a w := mem_store_mid hg x v ho g old y hx hv [] B H h
theorem mem_store1 (hg : o.guard = none) (x v : Operand) (ho : o.op = .store 78 x v) (g old y : Nat) (hx : a.eval x = .pointer (some ⟨g, 0, none⟩)) (hv : a.eval v = .agg (numA y)) (p : Nat × Nat) (B : List (Nat × Nat)) (H : Mem w0 w (p :: (g, old) :: B))
    (h : ∀ w', Mem w0 w' (p :: (g, y) :: B) → wpList Try.prog ops Q rest (a.put o.dst undef) w') : wpList Try.prog ops Q (o :: rest) a w := mem_store_mid hg x v ho g old y hx hv [p] B H h
theorem mem_store2 (hg : o.guard = none) (x v : Operand) (ho : o.op = .store 78 x v) (g old y : Nat) (hx : a.eval x = .pointer (some ⟨g, 0, none⟩)) (hv : a.eval v = .agg (numA y)) (p q : Nat × Nat) (B : List (Nat × Nat)) (H : Mem w0 w (p :: q :: (g, old) :: B))
    (h : ∀ w', Mem w0 w' (p :: q :: (g, y) :: B) → wpList Try.prog ops Q rest (a.put o.dst undef) w') : wpList Try.prog ops Q (o :: rest) a w := mem_store_mid hg x v ho g old y hx hv [p, q] B H h
theorem mem_store3 (hg : o.guard = none) (x v : Operand) (ho : o.op = .store 78 x v) (g old y : Nat) (hx : a.eval x = .pointer (some ⟨g, 0, none⟩)) (hv : a.eval v = .agg (numA y)) (p q r : Nat × Nat) (B : List (Nat × Nat)) (H : Mem w0 w (p :: q :: r :: (g, old) :: B))
    (h : ∀ w', Mem w0 w' (p :: q :: r :: (g, y) :: B) → wpList Try.prog ops Q rest (a.put o.dst undef) w') : wpList Try.prog ops Q (o :: rest) a w := mem_store_mid hg x v ho g old y hx hv [p, q, r] B H h
theorem mem_call {f : FuncId} {args : Array Value} {v : Value} {Q : Ending → World → Prop} (H : Mem w0 w L) (c : Calls Try.prog f args w fun e w' => e = .returned v ∧ Below w.heap.size w w')
    (h : ∀ w', Mem w0 w' L → Q (.returned v) w') : Calls Try.prog f args w Q :=
  c.mono fun _ w' ⟨he, hb⟩ => he ▸ h w' (H.grow hb)
theorem mem_from {w' : World} (H : Mem w0 w L) (h : From w.drew w') : Mem w0 w' L := H.grow h.of_drew
theorem mem_quiet_load {K : Act → Prop} (x : Operand) (ho : o.op = .load 78 x) (g y : Nat) (hx : a.eval x = .pointer (some ⟨g, 0, none⟩)) (H : Mem w0 w L) (hm : (g, y) ∈ L)
    (h : K (a.put o.dst (.agg (numA y)))) : o.quiet Try.prog a (fun w' => ∃ u : Held (From w.drew), w' = u.w) K :=
  quiet_load_row 78 x ho g hx 78 (numA y) _ (fun _ ⟨u, e⟩ => ⟨(0, 0), e ▸ (mem_from H u.h).holds g y hm⟩) Try.underlying78 rfl (numA_info y) h
theorem mem_quiet_load_u {K : Act → Prop} (x : Operand) (ho : o.op = .load 78 x) (g y : Nat) (hx : a.eval x = .pointer (some ⟨g, 0, none⟩)) (H : Mem w0 w L) (hm : (g, y) ∈ L)
    (h : K (a.put o.dst (.agg (numA y)))) : o.quiet Try.prog a (fun w' => ∃ u : Held (From w), w' = u.w) K :=
  quiet_load_row 78 x ho g hx 78 (numA y) _ (fun _ ⟨u, e⟩ => ⟨(0, 0), e ▸ (H.grow u.h.below).holds g y hm⟩) Try.underlying78 rfl (numA_info y) h
/-- A callee's contract, in a world that has grown. -/
theorem held_call_u {f : FuncId} {args : Array Value} {w : World} {v : Value} (u : Held (From w)) (h : Calls Try.prog f args u.w fun e w' => e = .returned v ∧ Below u.w.heap.size u.w w') :
    Calls Try.prog f args u.w fun e w'' => e = .returned v ∧ ∃ u' : Held (From w), w'' = u'.w := held_call u h
/-- The end: the result stands in a block. -/
theorem mem_ret {fn : Func} {p : Tmp} {x : Nat} {g : Nat} (hr : fn.results = #[.cell p 78]) (a : Act) (hp : a.tmps.getD p undef = .pointer (some ⟨g, 0, none⟩)) (hd : a.defers = []) (H : Mem w0 w L) (hm : (g, x) ∈ L) :
    bodyPost Try.prog fn (NP x w0) .ret a w :=
  bodyPost_ret (results_cell_row hr _ _ g 78 (numA x) (0, 0) _ hp (H.holds g x hm) Try.underlying78 rfl (numA_info x)) hd ⟨rfl, H.below⟩
end
end Go.Proofs.Ytockcnglennihaa
end
section
set_option linter.unusedSimpArgs false
set_option linter.unusedVariables false
namespace Go.Proofs.Ytockcnglennihaa
open Go.RowKit
theorem p_big : pF < big := by decide +kernel
set_option maxHeartbeats 1000000 in
theorem negated_any (x : Nat) (hx : x ≤ pF) (w : World) : Calls Try.prog 80 #[numV x] w (NP (pF - x) w) := by
  have H := Mem.start w
  have cd := Kept.mk fun w => diffN_any pF x p_big hx w
  clear hx
  rw [numV_eq]
  go_enter Try.func80, Try.ntmps80
  go_wp2_with (first
    | (refine mem_box rfl _ rfl _ rfl (by assumption) ?_; intro g w H; try simp only [Act.put, List.setIfInBounds_toArray, List.set_cons_succ, List.set_cons_zero])
    | (refine mem_alloc rfl rfl (by assumption) ?_; intro g w H; try simp only [Act.put, List.setIfInBounds_toArray, List.set_cons_succ, List.set_cons_zero])
    | (refine mem_load rfl _ rfl _ _ rfl (by assumption) (by (first | exact .head _ | exact .tail _ (.head _) | exact .tail _ (.tail _ (.head _)) | exact .tail _ (.tail _ (.tail _ (.head _))) | exact .tail _ (.tail _ (.tail _ (.tail _ (.head _)))))) ?_; try simp only [Act.put, List.setIfInBounds_toArray, List.set_cons_succ, List.set_cons_zero])
    | (refine mem_store0 rfl _ _ rfl _ _ _ rfl rfl _ (by assumption) ?_; intro w H; try simp only [Act.put, List.setIfInBounds_toArray, List.set_cons_succ, List.set_cons_zero])
    | (refine mem_store1 rfl _ _ rfl _ _ _ rfl rfl _ _ (by assumption) ?_; intro w H; try simp only [Act.put, List.setIfInBounds_toArray, List.set_cons_succ, List.set_cons_zero])
    | (refine mem_store2 rfl _ _ rfl _ _ _ rfl rfl _ _ _ (by assumption) ?_; intro w H; try simp only [Act.put, List.setIfInBounds_toArray, List.set_cons_succ, List.set_cons_zero])
    | (refine mem_store3 rfl _ _ rfl _ _ _ rfl rfl _ _ _ _ (by assumption) ?_; intro w H; try simp only [Act.put, List.setIfInBounds_toArray, List.set_cons_succ, List.set_cons_zero]))
  refine wp_region_from_tail 3 (by kernel_rfl) (by kernel_rfl) ?_
  simp only [List.take_succ_cons, List.take_zero, List.drop_succ_cons, List.drop_zero]
  repeat (first
    | (go_big_quiet_want; (refine mem_quiet_load _ rfl _ _ rfl (by assumption) (by (first | exact .head _ | exact .tail _ (.head _) | exact .tail _ (.tail _ (.head _)) | exact .tail _ (.tail _ (.tail _ (.head _))) | exact .tail _ (.tail _ (.tail _ (.tail _ (.head _)))))) ?_); try simp only [Act.put, List.setIfInBounds_toArray, List.set_cons_succ, List.set_cons_zero]; go_big_quiet_on)
    | go_big_quiet_step (((first | (go_at_call 82; exact held_call _ (prime_any _)) | (go_at_call 85; exact held_call _ (cd.out _))))))
  refine wpQuiet_nil ?_
  intro w5 hw5
  have H := mem_from H hw5
  clear hw5
  go_wp2_with (first
    | (refine mem_box rfl _ rfl _ rfl (by assumption) ?_; intro g w H; try simp only [Act.put, List.setIfInBounds_toArray, List.set_cons_succ, List.set_cons_zero])
    | (refine mem_alloc rfl rfl (by assumption) ?_; intro g w H; try simp only [Act.put, List.setIfInBounds_toArray, List.set_cons_succ, List.set_cons_zero])
    | (refine mem_load rfl _ rfl _ _ rfl (by assumption) (by (first | exact .head _ | exact .tail _ (.head _) | exact .tail _ (.tail _ (.head _)) | exact .tail _ (.tail _ (.tail _ (.head _))) | exact .tail _ (.tail _ (.tail _ (.tail _ (.head _)))))) ?_; try simp only [Act.put, List.setIfInBounds_toArray, List.set_cons_succ, List.set_cons_zero])
    | (refine mem_store0 rfl _ _ rfl _ _ _ rfl rfl _ (by assumption) ?_; intro w H; try simp only [Act.put, List.setIfInBounds_toArray, List.set_cons_succ, List.set_cons_zero])
    | (refine mem_store1 rfl _ _ rfl _ _ _ rfl rfl _ _ (by assumption) ?_; intro w H; try simp only [Act.put, List.setIfInBounds_toArray, List.set_cons_succ, List.set_cons_zero])
    | (refine mem_store2 rfl _ _ rfl _ _ _ rfl rfl _ _ _ (by assumption) ?_; intro w H; try simp only [Act.put, List.setIfInBounds_toArray, List.set_cons_succ, List.set_cons_zero])
    | (refine mem_store3 rfl _ _ rfl _ _ _ rfl rfl _ _ _ _ (by assumption) ?_; intro w H; try simp only [Act.put, List.setIfInBounds_toArray, List.set_cons_succ, List.set_cons_zero]))
  exact mem_ret Try.results80 _ rfl rfl (by assumption) (by (first | exact .head _ | exact .tail _ (.head _) | exact .tail _ (.tail _ (.head _)) | exact .tail _ (.tail _ (.tail _ (.head _))) | exact .tail _ (.tail _ (.tail _ (.tail _ (.head _))))))
/-- Rounds of squares. -/
def sqN (n : Nat) : Nat → Nat
  | 0 => n
  | k + 1 => prodN (sqN n k) (sqN n k)
set_option maxHeartbeats 1000000 in
theorem squared_any (n m : Nat) (hm : m < 100000) (wS : World) : Calls Try.prog 86 #[numV n, .int .i64 (m : Int)] wS (NP (sqN n m) wS) := by
  have H := Mem.start wS
  rw [numV_eq]
  go_enter Try.func86, Try.ntmps86
  go_wp2_with (first
    | (refine mem_box rfl _ rfl _ rfl (by assumption) ?_; intro g w H; try simp only [Act.put, List.setIfInBounds_toArray, List.set_cons_succ, List.set_cons_zero])
    | (refine mem_alloc rfl rfl (by assumption) ?_; intro g w H; try simp only [Act.put, List.setIfInBounds_toArray, List.set_cons_succ, List.set_cons_zero])
    | (refine mem_load rfl _ rfl _ _ rfl (by assumption) (by (first | exact .head _ | exact .tail _ (.head _) | exact .tail _ (.tail _ (.head _)) | exact .tail _ (.tail _ (.tail _ (.head _))) | exact .tail _ (.tail _ (.tail _ (.tail _ (.head _)))))) ?_; try simp only [Act.put, List.setIfInBounds_toArray, List.set_cons_succ, List.set_cons_zero])
    | (refine mem_store0 rfl _ _ rfl _ _ _ rfl rfl _ (by assumption) ?_; intro w H; try simp only [Act.put, List.setIfInBounds_toArray, List.set_cons_succ, List.set_cons_zero])
    | (refine mem_store1 rfl _ _ rfl _ _ _ rfl rfl _ _ (by assumption) ?_; intro w H; try simp only [Act.put, List.setIfInBounds_toArray, List.set_cons_succ, List.set_cons_zero])
    | (refine mem_store2 rfl _ _ rfl _ _ _ rfl rfl _ _ _ (by assumption) ?_; intro w H; try simp only [Act.put, List.setIfInBounds_toArray, List.set_cons_succ, List.set_cons_zero])
    | (refine mem_store3 rfl _ _ rfl _ _ _ rfl rfl _ _ _ _ (by assumption) ?_; intro w H; try simp only [Act.put, List.setIfInBounds_toArray, List.set_cons_succ, List.set_cons_zero]))
  rename_i gb _ _ w1 _
  go_loopw [6] (fun v6 wr => ∃ (i : Nat), i ≤ m ∧ v6 = .int .i64 (i : Int) ∧ Mem wS wr [(g, 0), (gb, sqN n i)]) (fun v6 _ => m - (RowKit.intOf v6).toNat)
  case atStart => exact ⟨0, Nat.zero_le _, rfl, H⟩
  case round =>
    clear H
    obtain ⟨i, hi, rfl, H⟩ := hrel
    by_cases hlt : i < m
    · have hlti : (i : Int) < (m : Int) := by omega
      clear hi
      go_wp2_with (first
        | (refine mem_box rfl _ rfl _ rfl (by assumption) ?_; intro g w H; try simp only [Act.put, List.setIfInBounds_toArray, List.set_cons_succ, List.set_cons_zero])
        | (refine mem_alloc rfl rfl (by assumption) ?_; intro g w H; try simp only [Act.put, List.setIfInBounds_toArray, List.set_cons_succ, List.set_cons_zero])
        | (refine mem_load rfl _ rfl _ _ rfl (by assumption) (by (first | exact .head _ | exact .tail _ (.head _) | exact .tail _ (.tail _ (.head _)) | exact .tail _ (.tail _ (.tail _ (.head _))) | exact .tail _ (.tail _ (.tail _ (.tail _ (.head _)))))) ?_; try simp only [Act.put, List.setIfInBounds_toArray, List.set_cons_succ, List.set_cons_zero])
        | (refine mem_store0 rfl _ _ rfl _ _ _ rfl rfl _ (by assumption) ?_; intro w H; try simp only [Act.put, List.setIfInBounds_toArray, List.set_cons_succ, List.set_cons_zero])
        | (refine mem_store1 rfl _ _ rfl _ _ _ rfl rfl _ _ (by assumption) ?_; intro w H; try simp only [Act.put, List.setIfInBounds_toArray, List.set_cons_succ, List.set_cons_zero])
        | (refine mem_store2 rfl _ _ rfl _ _ _ rfl rfl _ _ _ (by assumption) ?_; intro w H; try simp only [Act.put, List.setIfInBounds_toArray, List.set_cons_succ, List.set_cons_zero])
        | (refine mem_store3 rfl _ _ rfl _ _ _ rfl rfl _ _ _ _ (by assumption) ?_; intro w H; try simp only [Act.put, List.setIfInBounds_toArray, List.set_cons_succ, List.set_cons_zero])
        | (go_at_call 76; refine mem_call (by assumption) (prodN_any _ _ _) ?_; intro w H))
      go_roundw
      case rel => exact ⟨i + 1, hlt, val_eq (by omega), H⟩
      case measure => simp [RowKit.intOf]; omega
    · obtain rfl : i = m := by omega
      go_wp2_with (first
        | (refine mem_box rfl _ rfl _ rfl (by assumption) ?_; intro g w H; try simp only [Act.put, List.setIfInBounds_toArray, List.set_cons_succ, List.set_cons_zero])
        | (refine mem_alloc rfl rfl (by assumption) ?_; intro g w H; try simp only [Act.put, List.setIfInBounds_toArray, List.set_cons_succ, List.set_cons_zero])
        | (refine mem_load rfl _ rfl _ _ rfl (by assumption) (by (first | exact .head _ | exact .tail _ (.head _) | exact .tail _ (.tail _ (.head _)) | exact .tail _ (.tail _ (.tail _ (.head _))) | exact .tail _ (.tail _ (.tail _ (.tail _ (.head _)))))) ?_; try simp only [Act.put, List.setIfInBounds_toArray, List.set_cons_succ, List.set_cons_zero])
        | (refine mem_store0 rfl _ _ rfl _ _ _ rfl rfl _ (by assumption) ?_; intro w H; try simp only [Act.put, List.setIfInBounds_toArray, List.set_cons_succ, List.set_cons_zero])
        | (refine mem_store1 rfl _ _ rfl _ _ _ rfl rfl _ _ (by assumption) ?_; intro w H; try simp only [Act.put, List.setIfInBounds_toArray, List.set_cons_succ, List.set_cons_zero])
        | (refine mem_store2 rfl _ _ rfl _ _ _ rfl rfl _ _ _ (by assumption) ?_; intro w H; try simp only [Act.put, List.setIfInBounds_toArray, List.set_cons_succ, List.set_cons_zero])
        | (refine mem_store3 rfl _ _ rfl _ _ _ rfl rfl _ _ _ _ (by assumption) ?_; intro w H; try simp only [Act.put, List.setIfInBounds_toArray, List.set_cons_succ, List.set_cons_zero]))
      exact mem_ret Try.results86 _ rfl rfl (by assumption) (by (first | exact .head _ | exact .tail _ (.head _) | exact .tail _ (.tail _ (.head _)) | exact .tail _ (.tail _ (.tail _ (.head _))) | exact .tail _ (.tail _ (.tail _ (.tail _ (.head _))))))
end Go.Proofs.Ytockcnglennihaa
end
section
set_option linter.unusedSimpArgs false
set_option linter.unusedVariables false
namespace Go.Proofs.Ytockcnglennihaa
open Go.RowKit
theorem isRed_yes (x : Nat) (hx : x < big) (h : x < pF) (w : World) : Calls Try.prog 73 #[numV x] w fun e w' => e = .returned (.bool true) ∧ Below w.heap.size w w' := by
  have c := isReduced_any x hx w
  rw [decide_eq_true h] at c
  exact c
theorem isRed_no (x : Nat) (hx : x < big) (h : ¬ x < pF) (w : World) : Calls Try.prog 73 #[numV x] w fun e w' => e = .returned (.bool false) ∧ Below w.heap.size w w' := by
  have c := isReduced_any x hx w
  rw [decide_eq_false h] at c
  exact c
set_option maxHeartbeats 1000000 in
theorem reduced_any (x : Nat) (hx : x < big) (wS : World) : Calls Try.prog 77 #[numV x] wS (NP (x % pF) wS) := by
  have H := Mem.start wS
  have hx3 : x < (2 + 1) * pF := by have := big_p; have h2 : 38 < pF := by decide +kernel
                                    omega
  rw [numV_eq]
  go_enter Try.func77, Try.ntmps77
  go_wp2_with (first
    | (refine mem_box rfl _ rfl _ rfl (by assumption) ?_; intro g w H; try simp only [Act.put, List.setIfInBounds_toArray, List.set_cons_succ, List.set_cons_zero])
    | (refine mem_alloc rfl rfl (by assumption) ?_; intro g w H; try simp only [Act.put, List.setIfInBounds_toArray, List.set_cons_succ, List.set_cons_zero])
    | (refine mem_load rfl _ rfl _ _ rfl (by assumption) (by (first | exact .head _ | exact .tail _ (.head _) | exact .tail _ (.tail _ (.head _)) | exact .tail _ (.tail _ (.tail _ (.head _))) | exact .tail _ (.tail _ (.tail _ (.tail _ (.head _)))))) ?_; try simp only [Act.put, List.setIfInBounds_toArray, List.set_cons_succ, List.set_cons_zero])
    | (refine mem_store0 rfl _ _ rfl _ _ _ rfl rfl _ (by assumption) ?_; intro w H; try simp only [Act.put, List.setIfInBounds_toArray, List.set_cons_succ, List.set_cons_zero])
    | (refine mem_store1 rfl _ _ rfl _ _ _ rfl rfl _ _ (by assumption) ?_; intro w H; try simp only [Act.put, List.setIfInBounds_toArray, List.set_cons_succ, List.set_cons_zero])
    | (refine mem_store2 rfl _ _ rfl _ _ _ rfl rfl _ _ _ (by assumption) ?_; intro w H; try simp only [Act.put, List.setIfInBounds_toArray, List.set_cons_succ, List.set_cons_zero])
    | (refine mem_store3 rfl _ _ rfl _ _ _ rfl rfl _ _ _ _ (by assumption) ?_; intro w H; try simp only [Act.put, List.setIfInBounds_toArray, List.set_cons_succ, List.set_cons_zero]))
  rename_i gb _ _ K _
  go_loopg [] 2 (fun k wr => ∃ y, y < big ∧ y < (k + 1) * pF ∧ Kept (y % pF = x % pF) ∧ Mem wS wr [(g, 0), (gb, y)])
  case atStart => exact ⟨x, hx, hx3, ⟨rfl⟩, H⟩
  case round =>
    clear H hx3
    obtain ⟨y, hyb, hyk, HY, H⟩ := hrel
    by_cases hr : y < pF
    · have hres := HY.out
      rw [Nat.mod_eq_of_lt hr] at hres
      replace hres := Kept.mk hres
      have cR := Kept.mk fun w => isRed_yes y hyb hr w
      clear hyb hyk hr
      go_wp2_with (first
        | (refine mem_box rfl _ rfl _ rfl (by assumption) ?_; intro g w H; try simp only [Act.put, List.setIfInBounds_toArray, List.set_cons_succ, List.set_cons_zero])
        | (refine mem_alloc rfl rfl (by assumption) ?_; intro g w H; try simp only [Act.put, List.setIfInBounds_toArray, List.set_cons_succ, List.set_cons_zero])
        | (refine mem_load rfl _ rfl _ _ rfl (by assumption) (by (first | exact .head _ | exact .tail _ (.head _) | exact .tail _ (.tail _ (.head _)) | exact .tail _ (.tail _ (.tail _ (.head _))) | exact .tail _ (.tail _ (.tail _ (.tail _ (.head _)))))) ?_; try simp only [Act.put, List.setIfInBounds_toArray, List.set_cons_succ, List.set_cons_zero])
        | (refine mem_store0 rfl _ _ rfl _ _ _ rfl rfl _ (by assumption) ?_; intro w H; try simp only [Act.put, List.setIfInBounds_toArray, List.set_cons_succ, List.set_cons_zero])
        | (refine mem_store1 rfl _ _ rfl _ _ _ rfl rfl _ _ (by assumption) ?_; intro w H; try simp only [Act.put, List.setIfInBounds_toArray, List.set_cons_succ, List.set_cons_zero])
        | (refine mem_store2 rfl _ _ rfl _ _ _ rfl rfl _ _ _ (by assumption) ?_; intro w H; try simp only [Act.put, List.setIfInBounds_toArray, List.set_cons_succ, List.set_cons_zero])
        | (refine mem_store3 rfl _ _ rfl _ _ _ rfl rfl _ _ _ _ (by assumption) ?_; intro w H; try simp only [Act.put, List.setIfInBounds_toArray, List.set_cons_succ, List.set_cons_zero])
        | (go_at_call 73; refine mem_call (by assumption) (cR.out _) ?_; intro w H))
      rw [← hres.out]
      exact mem_ret Try.results77 _ rfl rfl (by assumption) (by (first | exact .head _ | exact .tail _ (.head _) | exact .tail _ (.tail _ (.head _)) | exact .tail _ (.tail _ (.tail _ (.head _))) | exact .tail _ (.tail _ (.tail _ (.tail _ (.head _))))))
    · obtain ⟨k, rfl⟩ : ∃ k, gk = k + 1 := by
        cases gk with
        | zero => rw [Nat.zero_add, Nat.one_mul] at hyk; exact absurd hyk hr
        | succ k => exact ⟨k, rfl⟩
      have cR := Kept.mk fun w => isRed_no y hyb hr w
      have cd := Kept.mk fun w => diffN_any y pF hyb (Nat.not_lt.1 hr) w
      have n1 : y - pF < big := by omega
      have n2 : y - pF < (k + 1) * pF := by rw [Nat.add_mul (k + 1), Nat.one_mul] at hyk; omega
      have n3 : (y - pF) % pF = x % pF := by
        have h := HY.out
        rw [← Nat.sub_add_cancel (Nat.not_lt.1 hr), Nat.add_mod_right] at h
        exact h
      replace n3 := Kept.mk n3
      clear hyb hyk hr HY
      go_wp2_with (first
        | (refine mem_box rfl _ rfl _ rfl (by assumption) ?_; intro g w H; try simp only [Act.put, List.setIfInBounds_toArray, List.set_cons_succ, List.set_cons_zero])
        | (refine mem_alloc rfl rfl (by assumption) ?_; intro g w H; try simp only [Act.put, List.setIfInBounds_toArray, List.set_cons_succ, List.set_cons_zero])
        | (refine mem_load rfl _ rfl _ _ rfl (by assumption) (by (first | exact .head _ | exact .tail _ (.head _) | exact .tail _ (.tail _ (.head _)) | exact .tail _ (.tail _ (.tail _ (.head _))) | exact .tail _ (.tail _ (.tail _ (.tail _ (.head _)))))) ?_; try simp only [Act.put, List.setIfInBounds_toArray, List.set_cons_succ, List.set_cons_zero])
        | (refine mem_store0 rfl _ _ rfl _ _ _ rfl rfl _ (by assumption) ?_; intro w H; try simp only [Act.put, List.setIfInBounds_toArray, List.set_cons_succ, List.set_cons_zero])
        | (refine mem_store1 rfl _ _ rfl _ _ _ rfl rfl _ _ (by assumption) ?_; intro w H; try simp only [Act.put, List.setIfInBounds_toArray, List.set_cons_succ, List.set_cons_zero])
        | (refine mem_store2 rfl _ _ rfl _ _ _ rfl rfl _ _ _ (by assumption) ?_; intro w H; try simp only [Act.put, List.setIfInBounds_toArray, List.set_cons_succ, List.set_cons_zero])
        | (refine mem_store3 rfl _ _ rfl _ _ _ rfl rfl _ _ _ _ (by assumption) ?_; intro w H; try simp only [Act.put, List.setIfInBounds_toArray, List.set_cons_succ, List.set_cons_zero])
        | (go_at_call 73; refine mem_call (by assumption) (cR.out _) ?_; intro w H))
      refine wp_region_from_tail 3 (by kernel_rfl) (by kernel_rfl) ?_
      simp only [List.take_succ_cons, List.take_zero, List.drop_succ_cons, List.drop_zero]
      repeat (first
        | (go_big_quiet_want; (refine mem_quiet_load _ rfl _ _ rfl (by assumption) (by (first | exact .head _ | exact .tail _ (.head _) | exact .tail _ (.tail _ (.head _)) | exact .tail _ (.tail _ (.tail _ (.head _))) | exact .tail _ (.tail _ (.tail _ (.tail _ (.head _)))))) ?_); try simp only [Act.put, List.setIfInBounds_toArray, List.set_cons_succ, List.set_cons_zero]; go_big_quiet_on)
        | go_big_quiet_step (((first | (go_at_call 82; exact held_call _ (prime_any _)) | (go_at_call 85; exact held_call _ (cd.out _))))))
      refine wpQuiet_nil ?_
      intro w5 hw5
      have H := mem_from H hw5
      clear hw5
      go_wp2_with (first
        | (refine mem_box rfl _ rfl _ rfl (by assumption) ?_; intro g w H; try simp only [Act.put, List.setIfInBounds_toArray, List.set_cons_succ, List.set_cons_zero])
        | (refine mem_alloc rfl rfl (by assumption) ?_; intro g w H; try simp only [Act.put, List.setIfInBounds_toArray, List.set_cons_succ, List.set_cons_zero])
        | (refine mem_load rfl _ rfl _ _ rfl (by assumption) (by (first | exact .head _ | exact .tail _ (.head _) | exact .tail _ (.tail _ (.head _)) | exact .tail _ (.tail _ (.tail _ (.head _))) | exact .tail _ (.tail _ (.tail _ (.tail _ (.head _)))))) ?_; try simp only [Act.put, List.setIfInBounds_toArray, List.set_cons_succ, List.set_cons_zero])
        | (refine mem_store0 rfl _ _ rfl _ _ _ rfl rfl _ (by assumption) ?_; intro w H; try simp only [Act.put, List.setIfInBounds_toArray, List.set_cons_succ, List.set_cons_zero])
        | (refine mem_store1 rfl _ _ rfl _ _ _ rfl rfl _ _ (by assumption) ?_; intro w H; try simp only [Act.put, List.setIfInBounds_toArray, List.set_cons_succ, List.set_cons_zero])
        | (refine mem_store2 rfl _ _ rfl _ _ _ rfl rfl _ _ _ (by assumption) ?_; intro w H; try simp only [Act.put, List.setIfInBounds_toArray, List.set_cons_succ, List.set_cons_zero])
        | (refine mem_store3 rfl _ _ rfl _ _ _ rfl rfl _ _ _ _ (by assumption) ?_; intro w H; try simp only [Act.put, List.setIfInBounds_toArray, List.set_cons_succ, List.set_cons_zero]))
      go_roundg k
      case rel => exact ⟨y - pF, n1, n2, n3, H⟩
      case measure => omega
/-- A count of binary ones. -/
def onesN (n : Nat) : Nat → Nat
  | c => if h : c ≤ 1 then n else
    bif c % 2 == 1 then prodN (sqN (prodN (sqN (onesN n (c / 2)) (c / 2)) (onesN n (c / 2))) 1) n else prodN (sqN (onesN n (c / 2)) (c / 2)) (onesN n (c / 2))
termination_by c => c
decreasing_by all_goals omega
set_option maxHeartbeats 1000000 in
theorem ones_any (n : Nat) : ∀ (c : Nat), 1 ≤ c → c ≤ 1000 → ∀ (wS : World), Calls Try.prog 87 #[numV n, .int .i64 (c : Int)] wS (NP (onesN n c) wS) := by
  intro c
  induction c using Nat.strongRecOn with
  | _ c ih =>
    intro h1 h2 wS
    have H := Mem.start wS
    by_cases hc : c = 1
    · subst hc
      have e : onesN n 1 = n := by rw [onesN, dif_pos (by omega)]
      rw [e, show ((1 : Nat) : Int) = 1 from rfl, numV_eq]
      clear ih e h1 h2
      go_enter Try.func87, Try.ntmps87
      go_wp2_with (first
        | (refine mem_box rfl _ rfl _ rfl (by assumption) ?_; intro g w H; try simp only [Act.put, List.setIfInBounds_toArray, List.set_cons_succ, List.set_cons_zero])
        | (refine mem_alloc rfl rfl (by assumption) ?_; intro g w H; try simp only [Act.put, List.setIfInBounds_toArray, List.set_cons_succ, List.set_cons_zero])
        | (refine mem_load rfl _ rfl _ _ rfl (by assumption) (by (first | exact .head _ | exact .tail _ (.head _) | exact .tail _ (.tail _ (.head _)) | exact .tail _ (.tail _ (.tail _ (.head _))) | exact .tail _ (.tail _ (.tail _ (.tail _ (.head _)))))) ?_; try simp only [Act.put, List.setIfInBounds_toArray, List.set_cons_succ, List.set_cons_zero])
        | (refine mem_store0 rfl _ _ rfl _ _ _ rfl rfl _ (by assumption) ?_; intro w H; try simp only [Act.put, List.setIfInBounds_toArray, List.set_cons_succ, List.set_cons_zero])
        | (refine mem_store1 rfl _ _ rfl _ _ _ rfl rfl _ _ (by assumption) ?_; intro w H; try simp only [Act.put, List.setIfInBounds_toArray, List.set_cons_succ, List.set_cons_zero])
        | (refine mem_store2 rfl _ _ rfl _ _ _ rfl rfl _ _ _ (by assumption) ?_; intro w H; try simp only [Act.put, List.setIfInBounds_toArray, List.set_cons_succ, List.set_cons_zero])
        | (refine mem_store3 rfl _ _ rfl _ _ _ rfl rfl _ _ _ _ (by assumption) ?_; intro w H; try simp only [Act.put, List.setIfInBounds_toArray, List.set_cons_succ, List.set_cons_zero]))
      exact mem_ret Try.results87 _ rfl rfl (by assumption) (by (first | exact .head _ | exact .tail _ (.head _) | exact .tail _ (.tail _ (.head _)) | exact .tail _ (.tail _ (.tail _ (.head _))) | exact .tail _ (.tail _ (.tail _ (.tail _ (.head _))))))
    · obtain ⟨k, hk⟩ : ∃ k, c / 2 = k := ⟨_, rfl⟩
      have hq : (c : Int) / 2 = (k : Int) := by omega
      have hn1 : ((c : Int) == 1) = false := by simp; omega
      have hcl : (0 : Int) ≤ (c : Int) := by omega
      have hcu : (c : Int) ≤ 1000 := by omega
      have cO := Kept.mk (ih k (by omega) (by omega) (by omega))
      have cS := Kept.mk fun x w => squared_any x k (by omega) w
      have c1 := Kept.mk fun x w => squared_any x 1 (by omega) w
      rw [show ((1 : Nat) : Int) = 1 from rfl] at c1
      by_cases ho : c % 2 = 1
      · have hr : (c : Int) % 2 = 1 := by omega
        have e : onesN n c = prodN (sqN (prodN (sqN (onesN n k) k) (onesN n k)) 1) n := by
          rw [onesN, dif_neg (by omega), hk, show (c % 2 == 1) = true by simp [ho]]; rfl
        rw [e, numV_eq]
        clear ih e h1 h2 hc
        replace hk := Kept.mk hk
        replace ho := Kept.mk ho
        go_enter Try.func87, Try.ntmps87
        go_wp2_with (first
          | (refine mem_box rfl _ rfl _ rfl (by assumption) ?_; intro g w H; try simp only [Act.put, List.setIfInBounds_toArray, List.set_cons_succ, List.set_cons_zero])
          | (refine mem_alloc rfl rfl (by assumption) ?_; intro g w H; try simp only [Act.put, List.setIfInBounds_toArray, List.set_cons_succ, List.set_cons_zero])
          | (refine mem_load rfl _ rfl _ _ rfl (by assumption) (by (first | exact .head _ | exact .tail _ (.head _) | exact .tail _ (.tail _ (.head _)) | exact .tail _ (.tail _ (.tail _ (.head _))) | exact .tail _ (.tail _ (.tail _ (.tail _ (.head _)))))) ?_; try simp only [Act.put, List.setIfInBounds_toArray, List.set_cons_succ, List.set_cons_zero])
          | (refine mem_store0 rfl _ _ rfl _ _ _ rfl rfl _ (by assumption) ?_; intro w H; try simp only [Act.put, List.setIfInBounds_toArray, List.set_cons_succ, List.set_cons_zero])
          | (refine mem_store1 rfl _ _ rfl _ _ _ rfl rfl _ _ (by assumption) ?_; intro w H; try simp only [Act.put, List.setIfInBounds_toArray, List.set_cons_succ, List.set_cons_zero])
          | (refine mem_store2 rfl _ _ rfl _ _ _ rfl rfl _ _ _ (by assumption) ?_; intro w H; try simp only [Act.put, List.setIfInBounds_toArray, List.set_cons_succ, List.set_cons_zero])
          | (refine mem_store3 rfl _ _ rfl _ _ _ rfl rfl _ _ _ _ (by assumption) ?_; intro w H; try simp only [Act.put, List.setIfInBounds_toArray, List.set_cons_succ, List.set_cons_zero])
          | (go_at_call 87; refine mem_call (by assumption) (cO.out _) ?_; intro w H))
        refine wp_region_from_alloc 7 6 _ 78 (numA 0) rfl rfl rfl zero_num (by kernel_rfl) (by kernel_rfl) ?_
        apply Exists.intro
        refine And.intro ?_ (And.intro ?_ ?_)
        · intro u hu x
          have H := mem_from H hu
          simp only [List.take_succ_cons, List.take_zero, List.eraseIdx_cons_succ, List.eraseIdx_cons_zero, Act.put, List.setIfInBounds_toArray, List.set_cons_succ, List.set_cons_zero]
          repeat (first
            | (go_big_quiet_want; (refine mem_quiet_load_u _ rfl _ _ rfl (by assumption) (by (first | exact .head _ | exact .tail _ (.head _) | exact .tail _ (.tail _ (.head _)) | exact .tail _ (.tail _ (.tail _ (.head _))) | exact .tail _ (.tail _ (.tail _ (.tail _ (.head _)))))) ?_); try simp only [Act.put, List.setIfInBounds_toArray, List.set_cons_succ, List.set_cons_zero]; go_big_quiet_on)
            | go_big_quiet_step (((first | (go_at_call 86; exact held_call _ (cS.out _ _)) | (go_at_call 76; exact held_call _ (prodN_any _ _ _))))))
          exact wpQuiet_nil rfl
        · exact fun _ => rfl
        intro x w5 hw5 hF
        have H := H.extra hw5 hF
        simp only [List.drop_succ_cons, List.drop_zero]
        go_wp2_with (first
          | (refine mem_box rfl _ rfl _ rfl (by assumption) ?_; intro g w H; try simp only [Act.put, List.setIfInBounds_toArray, List.set_cons_succ, List.set_cons_zero])
          | (refine mem_alloc rfl rfl (by assumption) ?_; intro g w H; try simp only [Act.put, List.setIfInBounds_toArray, List.set_cons_succ, List.set_cons_zero])
          | (refine mem_load rfl _ rfl _ _ rfl (by assumption) (by (first | exact .head _ | exact .tail _ (.head _) | exact .tail _ (.tail _ (.head _)) | exact .tail _ (.tail _ (.tail _ (.head _))) | exact .tail _ (.tail _ (.tail _ (.tail _ (.head _)))))) ?_; try simp only [Act.put, List.setIfInBounds_toArray, List.set_cons_succ, List.set_cons_zero])
          | (refine mem_store0 rfl _ _ rfl _ _ _ rfl rfl _ (by assumption) ?_; intro w H; try simp only [Act.put, List.setIfInBounds_toArray, List.set_cons_succ, List.set_cons_zero])
          | (refine mem_store1 rfl _ _ rfl _ _ _ rfl rfl _ _ (by assumption) ?_; intro w H; try simp only [Act.put, List.setIfInBounds_toArray, List.set_cons_succ, List.set_cons_zero])
          | (refine mem_store2 rfl _ _ rfl _ _ _ rfl rfl _ _ _ (by assumption) ?_; intro w H; try simp only [Act.put, List.setIfInBounds_toArray, List.set_cons_succ, List.set_cons_zero])
          | (refine mem_store3 rfl _ _ rfl _ _ _ rfl rfl _ _ _ _ (by assumption) ?_; intro w H; try simp only [Act.put, List.setIfInBounds_toArray, List.set_cons_succ, List.set_cons_zero]))
        refine wp_region_from_tail 4 (by kernel_rfl) (by kernel_rfl) ?_
        simp only [List.take_succ_cons, List.take_zero, List.drop_succ_cons, List.drop_zero]
        repeat (first
          | (go_big_quiet_want; (refine mem_quiet_load _ rfl _ _ rfl (by assumption) (by (first | exact .head _ | exact .tail _ (.head _) | exact .tail _ (.tail _ (.head _)) | exact .tail _ (.tail _ (.tail _ (.head _))) | exact .tail _ (.tail _ (.tail _ (.tail _ (.head _)))))) ?_); try simp only [Act.put, List.setIfInBounds_toArray, List.set_cons_succ, List.set_cons_zero]; go_big_quiet_on)
          | go_big_quiet_step (((first | (go_at_call 86; exact held_call _ (c1.out _ _)) | (go_at_call 76; exact held_call _ (prodN_any _ _ _))))))
        refine wpQuiet_nil ?_
        intro w5 hw5
        have H := mem_from H hw5
        clear hw5
        go_wp2_with (first
          | (refine mem_box rfl _ rfl _ rfl (by assumption) ?_; intro g w H; try simp only [Act.put, List.setIfInBounds_toArray, List.set_cons_succ, List.set_cons_zero])
          | (refine mem_alloc rfl rfl (by assumption) ?_; intro g w H; try simp only [Act.put, List.setIfInBounds_toArray, List.set_cons_succ, List.set_cons_zero])
          | (refine mem_load rfl _ rfl _ _ rfl (by assumption) (by (first | exact .head _ | exact .tail _ (.head _) | exact .tail _ (.tail _ (.head _)) | exact .tail _ (.tail _ (.tail _ (.head _))) | exact .tail _ (.tail _ (.tail _ (.tail _ (.head _)))))) ?_; try simp only [Act.put, List.setIfInBounds_toArray, List.set_cons_succ, List.set_cons_zero])
          | (refine mem_store0 rfl _ _ rfl _ _ _ rfl rfl _ (by assumption) ?_; intro w H; try simp only [Act.put, List.setIfInBounds_toArray, List.set_cons_succ, List.set_cons_zero])
          | (refine mem_store1 rfl _ _ rfl _ _ _ rfl rfl _ _ (by assumption) ?_; intro w H; try simp only [Act.put, List.setIfInBounds_toArray, List.set_cons_succ, List.set_cons_zero])
          | (refine mem_store2 rfl _ _ rfl _ _ _ rfl rfl _ _ _ (by assumption) ?_; intro w H; try simp only [Act.put, List.setIfInBounds_toArray, List.set_cons_succ, List.set_cons_zero])
          | (refine mem_store3 rfl _ _ rfl _ _ _ rfl rfl _ _ _ _ (by assumption) ?_; intro w H; try simp only [Act.put, List.setIfInBounds_toArray, List.set_cons_succ, List.set_cons_zero]))
        exact mem_ret Try.results87 _ rfl rfl (by assumption) (by (first | exact .head _ | exact .tail _ (.head _) | exact .tail _ (.tail _ (.head _)) | exact .tail _ (.tail _ (.tail _ (.head _))) | exact .tail _ (.tail _ (.tail _ (.tail _ (.head _))))))
      · have hr : (c : Int) % 2 = 0 := by omega
        have e : onesN n c = prodN (sqN (onesN n k) k) (onesN n k) := by
          rw [onesN, dif_neg (by omega), hk, show (c % 2 == 1) = false by simp; omega]; rfl
        rw [e, numV_eq]
        clear ih e h1 h2 hc
        replace hk := Kept.mk hk
        replace ho := Kept.mk ho
        go_enter Try.func87, Try.ntmps87
        go_wp2_with (first
          | (refine mem_box rfl _ rfl _ rfl (by assumption) ?_; intro g w H; try simp only [Act.put, List.setIfInBounds_toArray, List.set_cons_succ, List.set_cons_zero])
          | (refine mem_alloc rfl rfl (by assumption) ?_; intro g w H; try simp only [Act.put, List.setIfInBounds_toArray, List.set_cons_succ, List.set_cons_zero])
          | (refine mem_load rfl _ rfl _ _ rfl (by assumption) (by (first | exact .head _ | exact .tail _ (.head _) | exact .tail _ (.tail _ (.head _)) | exact .tail _ (.tail _ (.tail _ (.head _))) | exact .tail _ (.tail _ (.tail _ (.tail _ (.head _)))))) ?_; try simp only [Act.put, List.setIfInBounds_toArray, List.set_cons_succ, List.set_cons_zero])
          | (refine mem_store0 rfl _ _ rfl _ _ _ rfl rfl _ (by assumption) ?_; intro w H; try simp only [Act.put, List.setIfInBounds_toArray, List.set_cons_succ, List.set_cons_zero])
          | (refine mem_store1 rfl _ _ rfl _ _ _ rfl rfl _ _ (by assumption) ?_; intro w H; try simp only [Act.put, List.setIfInBounds_toArray, List.set_cons_succ, List.set_cons_zero])
          | (refine mem_store2 rfl _ _ rfl _ _ _ rfl rfl _ _ _ (by assumption) ?_; intro w H; try simp only [Act.put, List.setIfInBounds_toArray, List.set_cons_succ, List.set_cons_zero])
          | (refine mem_store3 rfl _ _ rfl _ _ _ rfl rfl _ _ _ _ (by assumption) ?_; intro w H; try simp only [Act.put, List.setIfInBounds_toArray, List.set_cons_succ, List.set_cons_zero])
          | (go_at_call 87; refine mem_call (by assumption) (cO.out _) ?_; intro w H))
        refine wp_region_from_alloc 7 6 _ 78 (numA 0) rfl rfl rfl zero_num (by kernel_rfl) (by kernel_rfl) ?_
        apply Exists.intro
        refine And.intro ?_ (And.intro ?_ ?_)
        · intro u hu x
          have H := mem_from H hu
          simp only [List.take_succ_cons, List.take_zero, List.eraseIdx_cons_succ, List.eraseIdx_cons_zero, Act.put, List.setIfInBounds_toArray, List.set_cons_succ, List.set_cons_zero]
          repeat (first
            | (go_big_quiet_want; (refine mem_quiet_load_u _ rfl _ _ rfl (by assumption) (by (first | exact .head _ | exact .tail _ (.head _) | exact .tail _ (.tail _ (.head _)) | exact .tail _ (.tail _ (.tail _ (.head _))) | exact .tail _ (.tail _ (.tail _ (.tail _ (.head _)))))) ?_); try simp only [Act.put, List.setIfInBounds_toArray, List.set_cons_succ, List.set_cons_zero]; go_big_quiet_on)
            | go_big_quiet_step (((first | (go_at_call 86; exact held_call _ (cS.out _ _)) | (go_at_call 76; exact held_call _ (prodN_any _ _ _))))))
          exact wpQuiet_nil rfl
        · exact fun _ => rfl
        intro x w5 hw5 hF
        have H := H.extra hw5 hF
        simp only [List.drop_succ_cons, List.drop_zero]
        go_wp2_with (first
          | (refine mem_box rfl _ rfl _ rfl (by assumption) ?_; intro g w H; try simp only [Act.put, List.setIfInBounds_toArray, List.set_cons_succ, List.set_cons_zero])
          | (refine mem_alloc rfl rfl (by assumption) ?_; intro g w H; try simp only [Act.put, List.setIfInBounds_toArray, List.set_cons_succ, List.set_cons_zero])
          | (refine mem_load rfl _ rfl _ _ rfl (by assumption) (by (first | exact .head _ | exact .tail _ (.head _) | exact .tail _ (.tail _ (.head _)) | exact .tail _ (.tail _ (.tail _ (.head _))) | exact .tail _ (.tail _ (.tail _ (.tail _ (.head _)))))) ?_; try simp only [Act.put, List.setIfInBounds_toArray, List.set_cons_succ, List.set_cons_zero])
          | (refine mem_store0 rfl _ _ rfl _ _ _ rfl rfl _ (by assumption) ?_; intro w H; try simp only [Act.put, List.setIfInBounds_toArray, List.set_cons_succ, List.set_cons_zero])
          | (refine mem_store1 rfl _ _ rfl _ _ _ rfl rfl _ _ (by assumption) ?_; intro w H; try simp only [Act.put, List.setIfInBounds_toArray, List.set_cons_succ, List.set_cons_zero])
          | (refine mem_store2 rfl _ _ rfl _ _ _ rfl rfl _ _ _ (by assumption) ?_; intro w H; try simp only [Act.put, List.setIfInBounds_toArray, List.set_cons_succ, List.set_cons_zero])
          | (refine mem_store3 rfl _ _ rfl _ _ _ rfl rfl _ _ _ _ (by assumption) ?_; intro w H; try simp only [Act.put, List.setIfInBounds_toArray, List.set_cons_succ, List.set_cons_zero]))
        exact mem_ret Try.results87 _ rfl rfl (by assumption) (by (first | exact .head _ | exact .tail _ (.head _) | exact .tail _ (.tail _ (.head _)) | exact .tail _ (.tail _ (.tail _ (.head _))) | exact .tail _ (.tail _ (.tail _ (.tail _ (.head _))))))
set_option maxHeartbeats 1000000 in
theorem inverse_any (n : Nat) (wS : World) : Calls Try.prog 81 #[numV n] wS (NP (prodN (sqN (onesN n 250) 5) (prodN (sqN (prodN (sqN n 2) n) 1) n)) wS) := by
  have H := Mem.start wS
  have c1 := Kept.mk fun x w => squared_any x 1 (by omega) w
  have c2 := Kept.mk fun x w => squared_any x 2 (by omega) w
  have c5 := Kept.mk fun x w => squared_any x 5 (by omega) w
  have cO := Kept.mk fun w => ones_any n 250 (by omega) (by omega) w
  rw [show ((1 : Nat) : Int) = 1 from rfl] at c1
  rw [show ((2 : Nat) : Int) = 2 from rfl] at c2
  rw [show ((5 : Nat) : Int) = 5 from rfl] at c5
  rw [show ((250 : Nat) : Int) = 250 from rfl] at cO
  rw [numV_eq]
  go_enter Try.func81, Try.ntmps81
  go_wp2_with (first
    | (refine mem_box rfl _ rfl _ rfl (by assumption) ?_; intro g w H; try simp only [Act.put, List.setIfInBounds_toArray, List.set_cons_succ, List.set_cons_zero])
    | (refine mem_alloc rfl rfl (by assumption) ?_; intro g w H; try simp only [Act.put, List.setIfInBounds_toArray, List.set_cons_succ, List.set_cons_zero])
    | (refine mem_load rfl _ rfl _ _ rfl (by assumption) (by (first | exact .head _ | exact .tail _ (.head _) | exact .tail _ (.tail _ (.head _)) | exact .tail _ (.tail _ (.tail _ (.head _))) | exact .tail _ (.tail _ (.tail _ (.tail _ (.head _)))))) ?_; try simp only [Act.put, List.setIfInBounds_toArray, List.set_cons_succ, List.set_cons_zero])
    | (refine mem_store0 rfl _ _ rfl _ _ _ rfl rfl _ (by assumption) ?_; intro w H; try simp only [Act.put, List.setIfInBounds_toArray, List.set_cons_succ, List.set_cons_zero])
    | (refine mem_store1 rfl _ _ rfl _ _ _ rfl rfl _ _ (by assumption) ?_; intro w H; try simp only [Act.put, List.setIfInBounds_toArray, List.set_cons_succ, List.set_cons_zero])
    | (refine mem_store2 rfl _ _ rfl _ _ _ rfl rfl _ _ _ (by assumption) ?_; intro w H; try simp only [Act.put, List.setIfInBounds_toArray, List.set_cons_succ, List.set_cons_zero])
    | (refine mem_store3 rfl _ _ rfl _ _ _ rfl rfl _ _ _ _ (by assumption) ?_; intro w H; try simp only [Act.put, List.setIfInBounds_toArray, List.set_cons_succ, List.set_cons_zero]))
  refine wp_region_from_alloc 5 4 _ 78 (numA 0) rfl rfl rfl zero_num (by kernel_rfl) (by kernel_rfl) ?_
  apply Exists.intro
  refine And.intro ?_ (And.intro ?_ ?_)
  · intro u hu x
    have H := mem_from H hu
    simp only [List.take_succ_cons, List.take_zero, List.eraseIdx_cons_succ, List.eraseIdx_cons_zero, Act.put, List.setIfInBounds_toArray, List.set_cons_succ, List.set_cons_zero]
    repeat (first
      | (go_big_quiet_want; (refine mem_quiet_load_u _ rfl _ _ rfl (by assumption) (by (first | exact .head _ | exact .tail _ (.head _) | exact .tail _ (.tail _ (.head _)) | exact .tail _ (.tail _ (.tail _ (.head _))) | exact .tail _ (.tail _ (.tail _ (.tail _ (.head _)))))) ?_); try simp only [Act.put, List.setIfInBounds_toArray, List.set_cons_succ, List.set_cons_zero]; go_big_quiet_on)
      | go_big_quiet_step (((first | (go_at_call 86; exact held_call _ (c2.out _ _)) | (go_at_call 76; exact held_call _ (prodN_any _ _ _))))))
    exact wpQuiet_nil rfl
  · exact fun _ => rfl
  intro x w5 hw5 hF
  have H := H.extra hw5 hF
  simp only [List.drop_succ_cons, List.drop_zero]
  go_wp2_with (first
    | (refine mem_box rfl _ rfl _ rfl (by assumption) ?_; intro g w H; try simp only [Act.put, List.setIfInBounds_toArray, List.set_cons_succ, List.set_cons_zero])
    | (refine mem_alloc rfl rfl (by assumption) ?_; intro g w H; try simp only [Act.put, List.setIfInBounds_toArray, List.set_cons_succ, List.set_cons_zero])
    | (refine mem_load rfl _ rfl _ _ rfl (by assumption) (by (first | exact .head _ | exact .tail _ (.head _) | exact .tail _ (.tail _ (.head _)) | exact .tail _ (.tail _ (.tail _ (.head _))) | exact .tail _ (.tail _ (.tail _ (.tail _ (.head _)))))) ?_; try simp only [Act.put, List.setIfInBounds_toArray, List.set_cons_succ, List.set_cons_zero])
    | (refine mem_store0 rfl _ _ rfl _ _ _ rfl rfl _ (by assumption) ?_; intro w H; try simp only [Act.put, List.setIfInBounds_toArray, List.set_cons_succ, List.set_cons_zero])
    | (refine mem_store1 rfl _ _ rfl _ _ _ rfl rfl _ _ (by assumption) ?_; intro w H; try simp only [Act.put, List.setIfInBounds_toArray, List.set_cons_succ, List.set_cons_zero])
    | (refine mem_store2 rfl _ _ rfl _ _ _ rfl rfl _ _ _ (by assumption) ?_; intro w H; try simp only [Act.put, List.setIfInBounds_toArray, List.set_cons_succ, List.set_cons_zero])
    | (refine mem_store3 rfl _ _ rfl _ _ _ rfl rfl _ _ _ _ (by assumption) ?_; intro w H; try simp only [Act.put, List.setIfInBounds_toArray, List.set_cons_succ, List.set_cons_zero]))
  refine wp_region_from_alloc 5 4 _ 78 (numA 0) rfl rfl rfl zero_num (by kernel_rfl) (by kernel_rfl) ?_
  apply Exists.intro
  refine And.intro ?_ (And.intro ?_ ?_)
  · intro u hu x
    have H := mem_from H hu
    simp only [List.take_succ_cons, List.take_zero, List.eraseIdx_cons_succ, List.eraseIdx_cons_zero, Act.put, List.setIfInBounds_toArray, List.set_cons_succ, List.set_cons_zero]
    repeat (first
      | (go_big_quiet_want; (refine mem_quiet_load_u _ rfl _ _ rfl (by assumption) (by (first | exact .head _ | exact .tail _ (.head _) | exact .tail _ (.tail _ (.head _)) | exact .tail _ (.tail _ (.tail _ (.head _))) | exact .tail _ (.tail _ (.tail _ (.tail _ (.head _)))))) ?_); try simp only [Act.put, List.setIfInBounds_toArray, List.set_cons_succ, List.set_cons_zero]; go_big_quiet_on)
      | go_big_quiet_step (((first | (go_at_call 86; exact held_call _ (c1.out _ _)) | (go_at_call 76; exact held_call _ (prodN_any _ _ _))))))
    exact wpQuiet_nil rfl
  · exact fun _ => rfl
  intro x w5 hw5 hF
  have H := H.extra hw5 hF
  simp only [List.drop_succ_cons, List.drop_zero]
  go_wp2_with (first
    | (refine mem_box rfl _ rfl _ rfl (by assumption) ?_; intro g w H; try simp only [Act.put, List.setIfInBounds_toArray, List.set_cons_succ, List.set_cons_zero])
    | (refine mem_alloc rfl rfl (by assumption) ?_; intro g w H; try simp only [Act.put, List.setIfInBounds_toArray, List.set_cons_succ, List.set_cons_zero])
    | (refine mem_load rfl _ rfl _ _ rfl (by assumption) (by (first | exact .head _ | exact .tail _ (.head _) | exact .tail _ (.tail _ (.head _)) | exact .tail _ (.tail _ (.tail _ (.head _))) | exact .tail _ (.tail _ (.tail _ (.tail _ (.head _)))))) ?_; try simp only [Act.put, List.setIfInBounds_toArray, List.set_cons_succ, List.set_cons_zero])
    | (refine mem_store0 rfl _ _ rfl _ _ _ rfl rfl _ (by assumption) ?_; intro w H; try simp only [Act.put, List.setIfInBounds_toArray, List.set_cons_succ, List.set_cons_zero])
    | (refine mem_store1 rfl _ _ rfl _ _ _ rfl rfl _ _ (by assumption) ?_; intro w H; try simp only [Act.put, List.setIfInBounds_toArray, List.set_cons_succ, List.set_cons_zero])
    | (refine mem_store2 rfl _ _ rfl _ _ _ rfl rfl _ _ _ (by assumption) ?_; intro w H; try simp only [Act.put, List.setIfInBounds_toArray, List.set_cons_succ, List.set_cons_zero])
    | (refine mem_store3 rfl _ _ rfl _ _ _ rfl rfl _ _ _ _ (by assumption) ?_; intro w H; try simp only [Act.put, List.setIfInBounds_toArray, List.set_cons_succ, List.set_cons_zero]))
  refine wp_region_from_tail 5 (by kernel_rfl) (by kernel_rfl) ?_
  simp only [List.take_succ_cons, List.take_zero, List.drop_succ_cons, List.drop_zero]
  repeat (first
    | (go_big_quiet_want; (refine mem_quiet_load _ rfl _ _ rfl (by assumption) (by (first | exact .head _ | exact .tail _ (.head _) | exact .tail _ (.tail _ (.head _)) | exact .tail _ (.tail _ (.tail _ (.head _))) | exact .tail _ (.tail _ (.tail _ (.tail _ (.head _)))))) ?_); try simp only [Act.put, List.setIfInBounds_toArray, List.set_cons_succ, List.set_cons_zero]; go_big_quiet_on)
    | go_big_quiet_step (((first | (go_at_call 87; exact held_call _ (cO.out _)) | (go_at_call 86; exact held_call _ (c5.out _ _)) | (go_at_call 76; exact held_call _ (prodN_any _ _ _))))))
  refine wpQuiet_nil ?_
  intro w5 hw5
  have H := mem_from H hw5
  clear hw5
  go_wp2_with (first
    | (refine mem_box rfl _ rfl _ rfl (by assumption) ?_; intro g w H; try simp only [Act.put, List.setIfInBounds_toArray, List.set_cons_succ, List.set_cons_zero])
    | (refine mem_alloc rfl rfl (by assumption) ?_; intro g w H; try simp only [Act.put, List.setIfInBounds_toArray, List.set_cons_succ, List.set_cons_zero])
    | (refine mem_load rfl _ rfl _ _ rfl (by assumption) (by (first | exact .head _ | exact .tail _ (.head _) | exact .tail _ (.tail _ (.head _)) | exact .tail _ (.tail _ (.tail _ (.head _))) | exact .tail _ (.tail _ (.tail _ (.tail _ (.head _)))))) ?_; try simp only [Act.put, List.setIfInBounds_toArray, List.set_cons_succ, List.set_cons_zero])
    | (refine mem_store0 rfl _ _ rfl _ _ _ rfl rfl _ (by assumption) ?_; intro w H; try simp only [Act.put, List.setIfInBounds_toArray, List.set_cons_succ, List.set_cons_zero])
    | (refine mem_store1 rfl _ _ rfl _ _ _ rfl rfl _ _ (by assumption) ?_; intro w H; try simp only [Act.put, List.setIfInBounds_toArray, List.set_cons_succ, List.set_cons_zero])
    | (refine mem_store2 rfl _ _ rfl _ _ _ rfl rfl _ _ _ (by assumption) ?_; intro w H; try simp only [Act.put, List.setIfInBounds_toArray, List.set_cons_succ, List.set_cons_zero])
    | (refine mem_store3 rfl _ _ rfl _ _ _ rfl rfl _ _ _ _ (by assumption) ?_; intro w H; try simp only [Act.put, List.setIfInBounds_toArray, List.set_cons_succ, List.set_cons_zero]))
  exact mem_ret Try.results81 _ rfl rfl (by assumption) (by (first | exact .head _ | exact .tail _ (.head _) | exact .tail _ (.tail _ (.head _)) | exact .tail _ (.tail _ (.tail _ (.head _))) | exact .tail _ (.tail _ (.tail _ (.tail _ (.head _))))))
end Go.Proofs.Ytockcnglennihaa
end
section
set_option linter.unusedVariables false
namespace Go.Proofs.Ytockcnglennihaa
open Go.RowKit
theorem cells33 : Try.prog.cellsOf 76 = 1 := by kernel_rfl
theorem plain33 : Try.prog.plainKey 76 = true := by kernel_rfl
theorem eq_u32 (d : Nat) (x y : Int) (w : World) : (Op.equalIn (d + 1) 76 (.int .u32 x) (.int .u32 y)).run Try.prog w = .ok (x == y) w := by
  simp only [Op.equalIn, Sem.run_bind, run_underlying Try.underlying76, Result.andThen_ok, if_true, Sem.run_pure]
theorem eqItems_num (d : Nat) (a b : List Nat) (hl : a.length = b.length) (w : World) : ∀ (m k : Nat), k + m = a.length →
    (Op.eqItems (d + 1) 76 (Try.prog.cellsOf 76) (numC .u32 a).toArray (numC .u32 b).toArray (List.range' k m)).run Try.prog w = .ok (decide (a.drop k = b.drop k)) w
  | 0, k, h => by
    rw [List.range'_zero, Op.eqItems, List.drop_eq_nil_of_le (by omega), List.drop_eq_nil_of_le (by omega)]
    rfl
  | m + 1, k, h => by
    have hka : (numC .u32 a).toArray[k * 1]? = some (.int .u32 (a.getD k 0 : Nat)) := by
      rw [Nat.mul_one]; simp [numC, show k < a.length by omega]
    have hkb : (numC .u32 b).toArray[k * 1]? = some (.int .u32 (b.getD k 0 : Nat)) := by
      rw [Nat.mul_one]; simp [numC, show k < b.length by omega]
    have ih := eqItems_num d a b hl w m (k + 1) (by omega)
    rw [cells33] at ih ⊢
    rw [List.range'_succ]
    simp only [Op.eqItems, Sem.run_bind, run_part_plain w plain33 hka, run_part_plain w plain33 hkb, eq_u32, Result.andThen_ok]
    rw [drop_getD a k (by omega), drop_getD b k (by omega)]
    generalize a.getD k 0 = p
    generalize b.getD k 0 = q
    by_cases he : p = q
    · rw [show ((p : Int) == (q : Int)) = true by rw [he]; simp]
      simp only [Bool.not_true, Bool.false_eq_true, if_false]
      rw [ih]
      congr 1
      simp [he]
    · rw [show ((p : Int) == (q : Int)) = false by simp; omega]
      simp only [Bool.not_false, if_true, Sem.run_pure]
      congr 1
      simp only [List.cons.injEq, he, false_and, decide_false]
theorem equal_num (x y : Nat) (hx : x < big) (hy : y < big) (w : World) : (Op.equal 78 (.agg (numA x)) (.agg (numA y))).run Try.prog w = .ok (decide (x = y)) w := by
  obtain ⟨i, hi⟩ : ∃ i, Try.prog.info? 76 = some i := by
    have h : (Try.prog.info? 76).isSome = true := by kernel_rfl
    exact Option.isSome_iff_exists.1 h
  unfold Op.equal
  rw [show Op.maxDepth = 9998 + 1 + 1 from rfl, run_equalIn_array w (9998 + 1) (n := 8) (e := 76) (numA x) (numA y) Try.underlying78 hi]
  have h := eqItems_num 9998 (nL x) (nL y) (by rw [nL_len, nL_len]) w 8 0 (by rw [nL_len])
  rw [List.range_eq_range']
  unfold numA
  rw [h]
  congr 1
  rw [List.drop_zero, List.drop_zero, decide_eq_decide]
  constructor
  · intro h
    rw [← nL_val x hx, ← nL_val y hy, h]
  · intro h; rw [h]
theorem run_neq_num (x y : Nat) (hx : x < big) (hy : y < big) (w : World) : (binOp .neq 78 (.agg (numA x)) (.agg (numA y))).run Try.prog w = .ok (.bool (!decide (x = y))) w := by
  unfold binOp
  simp only [Sem.run_bind, equal_num x y hx hy, Result.andThen_ok, Sem.run_pure]
theorem quiet_neq_num {o : Oper} {a : Act} {C : World → Prop} {K : Act → Prop} (x y : Operand) (rt : TypeId) (ho : o.op = .binOp .neq 78 x y rt) (m n : Nat) (hx : a.eval x = .agg (numA m)) (hy : a.eval y = .agg (numA n)) (hm : m < big) (hn : n < big)
    (h : K (a.put o.dst (.bool (!decide (m = n))))) : o.quiet Try.prog a C K := by
  refine ⟨.bool (!decide (m = n)), fun w _ => ?_, h⟩
  unfold Oper.quietAt execOp
  simp only [ho, hx, hy]
  have hg := fun x y => run_eqGuard_agg (P := Try.prog) w .neq 78 x y (numA m) (numA n) (by kernel_rfl)
  simp only [Sem.run_bind, hg, Result.andThen_ok, run_neq_num m n hm hn, Sem.run_pure]
  exact ⟨rfl, rfl⟩
section
variable {ops : Array Oper} {rest : List Oper} {o : Oper} {a : Act} {w0 w : World} {Q : Exit → Act → World → Prop} {L : List (Nat × Nat)}
theorem built_num : Try.prog.built 78 [] = some (numA 0) := by kernel_rfl
theorem mem_build (hg : o.guard = none) (ho : o.op = .build 78 #[]) (h : wpList Try.prog ops Q rest (a.put o.dst (.agg (numA 0))) w) : wpList Try.prog ops Q (o :: rest) a w :=
  wpList_build hg 78 #[] ho (by rw [Array.map_empty, built_num]; rfl) (by rw [Array.map_empty, built_num]; exact h)
/-- The end: a number in a block, and what stands in a slot. -/
theorem mem_ret2 {R : Ending → World → Prop} {fn : Func} {p q : Tmp} {x : Nat} {v : Value} {g : Nat} (hr : fn.results = #[.cell p 78, .tmp q]) (a : Act) (hp : a.tmps.getD p undef = .pointer (some ⟨g, 0, none⟩)) (hq : a.tmps.getD q undef = v) (hd : a.defers = []) (H : Mem w0 w L) (hm : (g, x) ∈ L)
    (h : R (.returned (.tuple #[.agg (numA x), v])) w) : bodyPost Try.prog fn R .ret a w := by
  have hp' : a.tmps[p]?.getD undef = .pointer (some ⟨g, 0, none⟩) := by simpa using hp
  have hq' : a.tmps[q]?.getD undef = v := by simpa using hq
  have hl := run_loadVar_row (P := Try.prog) w g 78 78 (numA x) (0, 0) _ (H.holds g x hm) Try.underlying78 rfl (numA_info x)
  refine bodyPost_ret (v := .tuple #[.agg (numA x), v]) ?_ hd h
  simp [results, hr, hp', hq', asAddr, hl]
theorem mem_ret3 {R : Ending → World → Prop} {fn : Func} {p r q : Tmp} {x y : Nat} {v : Value} {g g' : Nat} (hr : fn.results = #[.cell p 78, .cell r 78, .tmp q]) (a : Act) (hp : a.tmps.getD p undef = .pointer (some ⟨g, 0, none⟩)) (hp2 : a.tmps.getD r undef = .pointer (some ⟨g', 0, none⟩)) (hq : a.tmps.getD q undef = v) (hd : a.defers = []) (H : Mem w0 w L) (hm : (g, x) ∈ L) (hm2 : (g', y) ∈ L)
    (h : R (.returned (.tuple #[.agg (numA x), .agg (numA y), v])) w) : bodyPost Try.prog fn R .ret a w := by
  have hp' : a.tmps[p]?.getD undef = .pointer (some ⟨g, 0, none⟩) := by simpa using hp
  have hp2' : a.tmps[r]?.getD undef = .pointer (some ⟨g', 0, none⟩) := by simpa using hp2
  have hq' : a.tmps[q]?.getD undef = v := by simpa using hq
  have hl := run_loadVar_row (P := Try.prog) w g 78 78 (numA x) (0, 0) _ (H.holds g x hm) Try.underlying78 rfl (numA_info x)
  have hl2 := run_loadVar_row (P := Try.prog) w g' 78 78 (numA y) (0, 0) _ (H.holds g' y hm2) Try.underlying78 rfl (numA_info y)
  refine bodyPost_ret (v := .tuple #[.agg (numA x), .agg (numA y), v]) ?_ hd h
  simp [results, hr, hp', hp2', hq', asAddr, hl, hl2]
end
end Go.Proofs.Ytockcnglennihaa
end
section
set_option linter.unusedSimpArgs false
set_option linter.unusedVariables false
namespace Go.Proofs.Ytockcnglennihaa
open Go.RowKit
theorem prodN_big (x y : Nat) : prodN x y < big := prodN_lt x y
theorem sq1_big (x : Nat) : sqN x 1 < big := prodN_lt _ _
def r0N (n : Nat) : Nat := sqN (onesN n 251) 1
def r1N (n : Nat) : Nat := if sqN (r0N n) 1 % pF = n then r0N n else prodN (r0N n) iF
/-- The even one of a root and its like. -/
def evenN (r : Nat) : Nat := if r % 2 = 1 then pF - r else r
def RootPost (n : Nat) (w : World) (e : Ending) (w' : World) : Prop :=
  e = .returned (if sqN (r1N n) 1 % pF = n then .tuple #[numV (evenN (r1N n % pF)), .bool true] else .tuple #[numV 0, .bool false]) ∧ Below w.heap.size w w'
theorem r1_big (n : Nat) : r1N n < big := by
  unfold r1N
  split
  · exact prodN_lt _ _
  · exact prodN_lt _ _
theorem arr_of {w0 w : World} {L : List (Nat × Nat)} {g x : Nat} (H : Mem w0 w L) (hm : (g, x) ∈ L) : Arr w g 78 .u32 (nL x) := ⟨H.holds g x hm⟩
theorem low_limb (x : Nat) : (nL x).getD 0 0 = x % 4294967296 := rfl
theorem limb0 {w0 w : World} {L : List (Nat × Nat)} {g x l0 : Nat} (H : Mem w0 w ((g, x) :: L)) (hl : x % 4294967296 = l0) : w.cell? ⟨g, 0, none⟩ = some (.int .u32 (l0 : Int)) := by
  have h := (arr_of H (.head _)).cell 0 (by rw [nL_len]; omega)
  rw [h, low_limb, hl]
set_option maxHeartbeats 4000000 in
theorem root_any (n : Nat) (hn : n < pF) (wS : World) : Calls Try.prog 83 #[numV n] wS (RootPost n wS) := by
  have H := Mem.start wS
  have hnb := Kept.mk (show n < big from Nat.lt_trans hn p_big)
  have c1 := Kept.mk fun x w => squared_any x 1 (by omega) w
  have cO := Kept.mk fun w => ones_any n 251 (by omega) (by omega) w
  rw [show ((1 : Nat) : Int) = 1 from rfl] at c1
  rw [show ((251 : Nat) : Int) = 251 from rfl] at cO
  have hR : RootPost n wS = RootPost n wS := rfl
  obtain ⟨R, hRd⟩ : ∃ R, RootPost n wS = R := ⟨_, rfl⟩
  rw [hRd]
  have hr0 : sqN (onesN n 251) 1 = r0N n := rfl
  clear hR hn
  replace hRd := Kept.mk hRd
  obtain ⟨r0, hr0e⟩ : ∃ r0, r0N n = r0 := ⟨_, rfl⟩
  rw [hr0e] at hr0
  have cr := Kept.mk fun w => ones_any n 251 (by omega) (by omega) w
  have c1' := c1.out (onesN n 251)
  rw [hr0] at c1'
  replace c1' := Kept.mk c1'
  replace hr0e := Kept.mk hr0e
  clear hr0
  rw [numV_eq]
  go_enter Try.func83, Try.ntmps83
  go_wp2_with (first
    | (refine mem_box rfl _ rfl _ rfl (by assumption) ?_; intro g w H; try simp only [Act.put, List.setIfInBounds_toArray, List.set_cons_succ, List.set_cons_zero])
    | (refine mem_alloc rfl rfl (by assumption) ?_; intro g w H; try simp only [Act.put, List.setIfInBounds_toArray, List.set_cons_succ, List.set_cons_zero])
    | (refine mem_load rfl _ rfl _ _ rfl (by assumption) (by (first | exact .head _ | exact .tail _ (.head _) | exact .tail _ (.tail _ (.head _)) | exact .tail _ (.tail _ (.tail _ (.head _))) | exact .tail _ (.tail _ (.tail _ (.tail _ (.head _)))))) ?_; try simp only [Act.put, List.setIfInBounds_toArray, List.set_cons_succ, List.set_cons_zero])
    | (refine mem_store0 rfl _ _ rfl _ _ _ rfl rfl _ (by assumption) ?_; intro w H; try simp only [Act.put, List.setIfInBounds_toArray, List.set_cons_succ, List.set_cons_zero])
    | (refine mem_store1 rfl _ _ rfl _ _ _ rfl rfl _ _ (by assumption) ?_; intro w H; try simp only [Act.put, List.setIfInBounds_toArray, List.set_cons_succ, List.set_cons_zero])
    | (refine mem_store2 rfl _ _ rfl _ _ _ rfl rfl _ _ _ (by assumption) ?_; intro w H; try simp only [Act.put, List.setIfInBounds_toArray, List.set_cons_succ, List.set_cons_zero])
    | (refine mem_store3 rfl _ _ rfl _ _ _ rfl rfl _ _ _ _ (by assumption) ?_; intro w H; try simp only [Act.put, List.setIfInBounds_toArray, List.set_cons_succ, List.set_cons_zero])
    | (refine mem_build rfl rfl ?_; try simp only [Act.put, List.setIfInBounds_toArray, List.set_cons_succ, List.set_cons_zero])
    | (go_at_call 87; refine mem_call (by assumption) (cO.out _) ?_; intro w H)
    | (go_at_call 86; refine mem_call (by assumption) (c1'.out _) ?_; intro w H))
  obtain ⟨s0, hs0⟩ : ∃ s, sqN r0 1 % pF = s := ⟨_, rfl⟩
  have hs0b : s0 < big := hs0 ▸ Nat.lt_trans (Nat.mod_lt _ (by decide +kernel)) p_big
  have cR0 := Kept.mk fun w => reduced_any (sqN r0 1) (sq1_big r0) w
  rw [hs0] at cR0
  have hb := Kept.mk hs0b
  clear hs0b c1'
  by_cases h0 : s0 = n
  · have hd0 : (!decide (s0 = n)) = false := by simp [h0]
    have hr1 : r1N n = r0 := by unfold r1N; rw [hr0e.out, hs0, if_pos h0]
    have hq1 : sqN (r1N n) 1 % pF = n := by rw [hr1, hs0, h0]
    replace hs0 := Kept.mk hs0
    replace hr1 := Kept.mk hr1
    replace hq1 := Kept.mk hq1
    replace h0 := Kept.mk h0
    refine wp_region_from (by kernel_rfl) (by kernel_rfl) ?_
    repeat (first
      | (go_big_quiet_want; (refine mem_quiet_load _ rfl _ _ rfl (by assumption) (by (first | exact .head _ | exact .tail _ (.head _) | exact .tail _ (.tail _ (.head _)) | exact .tail _ (.tail _ (.tail _ (.head _))) | exact .tail _ (.tail _ (.tail _ (.tail _ (.head _)))))) ?_); try simp only [Act.put, List.setIfInBounds_toArray, List.set_cons_succ, List.set_cons_zero]; go_big_quiet_on)
      | (go_big_quiet_want; (refine quiet_neq_num _ _ _ rfl _ _ rfl rfl (hb.out) (hnb.out) ?_); rw [hd0]; try simp only [Act.put, List.setIfInBounds_toArray, List.set_cons_succ, List.set_cons_zero]; go_big_quiet_on)
      | go_big_quiet_step (((first | (go_at_call 86; exact held_call _ (c1.out _ _)) | (go_at_call 77; exact held_call _ (cR0.out _))))))
    refine wpQuiet_nil ?_
    intro w5 hw5
    have H := mem_from H hw5
    clear hw5
    go_wp2_with (first
      | (refine mem_box rfl _ rfl _ rfl (by assumption) ?_; intro g w H; try simp only [Act.put, List.setIfInBounds_toArray, List.set_cons_succ, List.set_cons_zero])
      | (refine mem_alloc rfl rfl (by assumption) ?_; intro g w H; try simp only [Act.put, List.setIfInBounds_toArray, List.set_cons_succ, List.set_cons_zero])
      | (refine mem_load rfl _ rfl _ _ rfl (by assumption) (by (first | exact .head _ | exact .tail _ (.head _) | exact .tail _ (.tail _ (.head _)) | exact .tail _ (.tail _ (.tail _ (.head _))) | exact .tail _ (.tail _ (.tail _ (.tail _ (.head _)))))) ?_; try simp only [Act.put, List.setIfInBounds_toArray, List.set_cons_succ, List.set_cons_zero])
      | (refine mem_store0 rfl _ _ rfl _ _ _ rfl rfl _ (by assumption) ?_; intro w H; try simp only [Act.put, List.setIfInBounds_toArray, List.set_cons_succ, List.set_cons_zero])
      | (refine mem_store1 rfl _ _ rfl _ _ _ rfl rfl _ _ (by assumption) ?_; intro w H; try simp only [Act.put, List.setIfInBounds_toArray, List.set_cons_succ, List.set_cons_zero])
      | (refine mem_store2 rfl _ _ rfl _ _ _ rfl rfl _ _ _ (by assumption) ?_; intro w H; try simp only [Act.put, List.setIfInBounds_toArray, List.set_cons_succ, List.set_cons_zero])
      | (refine mem_store3 rfl _ _ rfl _ _ _ rfl rfl _ _ _ _ (by assumption) ?_; intro w H; try simp only [Act.put, List.setIfInBounds_toArray, List.set_cons_succ, List.set_cons_zero])
      | (refine mem_build rfl rfl ?_; try simp only [Act.put, List.setIfInBounds_toArray, List.set_cons_succ, List.set_cons_zero]))
    have hrb := Kept.mk (show r0 < big from hr0e.out ▸ sq1_big (onesN n 251))
    clear hb
    obtain ⟨s1, hs1⟩ : ∃ s, sqN r0 1 % pF = s := ⟨_, rfl⟩
    have hb := Kept.mk (show s1 < big from hs1 ▸ Nat.lt_trans (Nat.mod_lt _ (by decide +kernel)) p_big)
    have cR1 := Kept.mk fun w => reduced_any (sqN r0 1) (sq1_big r0) w
    rw [hs1] at cR1
    by_cases h1 : s1 = n
    · have hd1 : (!decide (s1 = n)) = false := by simp [h1]
      have hq1 : sqN (r1N n) 1 % pF = n := by rw [hr1.out, hs1, h1]
      obtain ⟨t, ht⟩ : ∃ t, r0 % pF = t := ⟨_, rfl⟩
      have htp : t < pF := ht ▸ Nat.mod_lt _ (by decide +kernel)
      have cRt := Kept.mk fun w => reduced_any r0 hrb.out w
      rw [ht] at cRt
      have cN := Kept.mk fun w => negated_any t (Nat.le_of_lt htp) w
      obtain ⟨l0, hl0⟩ : ∃ l, t % 4294967296 = l := ⟨_, rfl⟩
      have hl0b : l0 < 4294967296 := hl0 ▸ Nat.mod_lt _ (by decide)
      clear htp
      replace hs1 := Kept.mk hs1
      replace h1 := Kept.mk h1
      replace hq1 := Kept.mk hq1
      replace ht := Kept.mk ht
      by_cases hpar : t % 2 = 1
      · have hp0 : (l0 : Int) % 2 = 1 := by omega
        have hres : evenN (r1N n % pF) = pF - t := by rw [hr1.out, ht.out]; unfold evenN; rw [if_pos hpar]
        replace hl0 := Kept.mk hl0
        replace hpar := Kept.mk hpar
        replace hres := Kept.mk hres
        refine wp_region_from (by kernel_rfl) (by kernel_rfl) ?_
        repeat (first
          | (go_big_quiet_want; (refine mem_quiet_load _ rfl _ _ rfl (by assumption) (by (first | exact .head _ | exact .tail _ (.head _) | exact .tail _ (.tail _ (.head _)) | exact .tail _ (.tail _ (.tail _ (.head _))) | exact .tail _ (.tail _ (.tail _ (.tail _ (.head _)))))) ?_); try simp only [Act.put, List.setIfInBounds_toArray, List.set_cons_succ, List.set_cons_zero]; go_big_quiet_on)
          | (go_big_quiet_want; (refine quiet_neq_num _ _ _ rfl _ _ rfl rfl (hb.out) (hnb.out) ?_); rw [hd1]; try simp only [Act.put, List.setIfInBounds_toArray, List.set_cons_succ, List.set_cons_zero]; go_big_quiet_on)
          | go_big_quiet_step (((first | (go_at_call 86; exact held_call _ (c1.out _ _)) | (go_at_call 77; exact held_call _ (cR1.out _))))))
        refine wpQuiet_nil ?_
        intro w5 hw5
        have H := mem_from H hw5
        clear hw5
        go_wp2_with (first
          | (refine mem_store0 rfl _ _ rfl _ _ _ rfl rfl _ (by assumption) ?_; intro w H; have hc := limb0 H hl0.out; try simp only [Act.put, List.setIfInBounds_toArray, List.set_cons_succ, List.set_cons_zero])
          | (refine mem_box rfl _ rfl _ rfl (by assumption) ?_; intro g w H; try simp only [Act.put, List.setIfInBounds_toArray, List.set_cons_succ, List.set_cons_zero])
          | (refine mem_alloc rfl rfl (by assumption) ?_; intro g w H; try simp only [Act.put, List.setIfInBounds_toArray, List.set_cons_succ, List.set_cons_zero])
          | (refine mem_load rfl _ rfl _ _ rfl (by assumption) (by (first | exact .head _ | exact .tail _ (.head _) | exact .tail _ (.tail _ (.head _)) | exact .tail _ (.tail _ (.tail _ (.head _))) | exact .tail _ (.tail _ (.tail _ (.tail _ (.head _)))))) ?_; try simp only [Act.put, List.setIfInBounds_toArray, List.set_cons_succ, List.set_cons_zero])
          | (refine mem_store0 rfl _ _ rfl _ _ _ rfl rfl _ (by assumption) ?_; intro w H; try simp only [Act.put, List.setIfInBounds_toArray, List.set_cons_succ, List.set_cons_zero])
          | (refine mem_store1 rfl _ _ rfl _ _ _ rfl rfl _ _ (by assumption) ?_; intro w H; try simp only [Act.put, List.setIfInBounds_toArray, List.set_cons_succ, List.set_cons_zero])
          | (refine mem_store2 rfl _ _ rfl _ _ _ rfl rfl _ _ _ (by assumption) ?_; intro w H; try simp only [Act.put, List.setIfInBounds_toArray, List.set_cons_succ, List.set_cons_zero])
          | (refine mem_store3 rfl _ _ rfl _ _ _ rfl rfl _ _ _ _ (by assumption) ?_; intro w H; try simp only [Act.put, List.setIfInBounds_toArray, List.set_cons_succ, List.set_cons_zero])
          | (refine mem_build rfl rfl ?_; try simp only [Act.put, List.setIfInBounds_toArray, List.set_cons_succ, List.set_cons_zero])
          | (go_at_call 77; refine mem_call (by assumption) (cRt.out _) ?_; intro w H)
          | (go_at_call 80; refine mem_call (by assumption) (cN.out _) ?_; intro w H))
        refine mem_ret2 Try.results83 _ rfl rfl rfl (by assumption) (by (first | exact .head _ | exact .tail _ (.head _) | exact .tail _ (.tail _ (.head _)) | exact .tail _ (.tail _ (.tail _ (.head _))) | exact .tail _ (.tail _ (.tail _ (.tail _ (.head _)))))) ?_
        rw [← hRd.out]
        exact ⟨by rw [if_pos hq1.out, hres.out]; rfl, H.below⟩
      · have hp0 : (l0 : Int) % 2 = 0 := by omega
        have hres : evenN (r1N n % pF) = t := by rw [hr1.out, ht.out]; unfold evenN; rw [if_neg hpar]
        replace hl0 := Kept.mk hl0
        replace hpar := Kept.mk hpar
        replace hres := Kept.mk hres
        refine wp_region_from (by kernel_rfl) (by kernel_rfl) ?_
        repeat (first
          | (go_big_quiet_want; (refine mem_quiet_load _ rfl _ _ rfl (by assumption) (by (first | exact .head _ | exact .tail _ (.head _) | exact .tail _ (.tail _ (.head _)) | exact .tail _ (.tail _ (.tail _ (.head _))) | exact .tail _ (.tail _ (.tail _ (.tail _ (.head _)))))) ?_); try simp only [Act.put, List.setIfInBounds_toArray, List.set_cons_succ, List.set_cons_zero]; go_big_quiet_on)
          | (go_big_quiet_want; (refine quiet_neq_num _ _ _ rfl _ _ rfl rfl (hb.out) (hnb.out) ?_); rw [hd1]; try simp only [Act.put, List.setIfInBounds_toArray, List.set_cons_succ, List.set_cons_zero]; go_big_quiet_on)
          | go_big_quiet_step (((first | (go_at_call 86; exact held_call _ (c1.out _ _)) | (go_at_call 77; exact held_call _ (cR1.out _))))))
        refine wpQuiet_nil ?_
        intro w5 hw5
        have H := mem_from H hw5
        clear hw5
        go_wp2_with (first
          | (refine mem_store0 rfl _ _ rfl _ _ _ rfl rfl _ (by assumption) ?_; intro w H; have hc := limb0 H hl0.out; try simp only [Act.put, List.setIfInBounds_toArray, List.set_cons_succ, List.set_cons_zero])
          | (refine mem_box rfl _ rfl _ rfl (by assumption) ?_; intro g w H; try simp only [Act.put, List.setIfInBounds_toArray, List.set_cons_succ, List.set_cons_zero])
          | (refine mem_alloc rfl rfl (by assumption) ?_; intro g w H; try simp only [Act.put, List.setIfInBounds_toArray, List.set_cons_succ, List.set_cons_zero])
          | (refine mem_load rfl _ rfl _ _ rfl (by assumption) (by (first | exact .head _ | exact .tail _ (.head _) | exact .tail _ (.tail _ (.head _)) | exact .tail _ (.tail _ (.tail _ (.head _))) | exact .tail _ (.tail _ (.tail _ (.tail _ (.head _)))))) ?_; try simp only [Act.put, List.setIfInBounds_toArray, List.set_cons_succ, List.set_cons_zero])
          | (refine mem_store0 rfl _ _ rfl _ _ _ rfl rfl _ (by assumption) ?_; intro w H; try simp only [Act.put, List.setIfInBounds_toArray, List.set_cons_succ, List.set_cons_zero])
          | (refine mem_store1 rfl _ _ rfl _ _ _ rfl rfl _ _ (by assumption) ?_; intro w H; try simp only [Act.put, List.setIfInBounds_toArray, List.set_cons_succ, List.set_cons_zero])
          | (refine mem_store2 rfl _ _ rfl _ _ _ rfl rfl _ _ _ (by assumption) ?_; intro w H; try simp only [Act.put, List.setIfInBounds_toArray, List.set_cons_succ, List.set_cons_zero])
          | (refine mem_store3 rfl _ _ rfl _ _ _ rfl rfl _ _ _ _ (by assumption) ?_; intro w H; try simp only [Act.put, List.setIfInBounds_toArray, List.set_cons_succ, List.set_cons_zero])
          | (refine mem_build rfl rfl ?_; try simp only [Act.put, List.setIfInBounds_toArray, List.set_cons_succ, List.set_cons_zero])
          | (go_at_call 77; refine mem_call (by assumption) (cRt.out _) ?_; intro w H))
        refine mem_ret2 Try.results83 _ rfl rfl rfl (by assumption) (by (first | exact .head _ | exact .tail _ (.head _) | exact .tail _ (.tail _ (.head _)) | exact .tail _ (.tail _ (.tail _ (.head _))) | exact .tail _ (.tail _ (.tail _ (.tail _ (.head _)))))) ?_
        rw [← hRd.out]
        exact ⟨by rw [if_pos hq1.out, hres.out]; rfl, H.below⟩
    · have hd1 : (!decide (s1 = n)) = true := by simp [h1]
      have hq1 : ¬ sqN (r1N n) 1 % pF = n := by rw [hr1.out, hs1]; exact h1
      replace hs1 := Kept.mk hs1
      replace h1 := Kept.mk h1
      replace hq1 := Kept.mk hq1
      refine wp_region_from (by kernel_rfl) (by kernel_rfl) ?_
      repeat (first
        | (go_big_quiet_want; (refine mem_quiet_load _ rfl _ _ rfl (by assumption) (by (first | exact .head _ | exact .tail _ (.head _) | exact .tail _ (.tail _ (.head _)) | exact .tail _ (.tail _ (.tail _ (.head _))) | exact .tail _ (.tail _ (.tail _ (.tail _ (.head _)))))) ?_); try simp only [Act.put, List.setIfInBounds_toArray, List.set_cons_succ, List.set_cons_zero]; go_big_quiet_on)
        | (go_big_quiet_want; (refine quiet_neq_num _ _ _ rfl _ _ rfl rfl (hb.out) (hnb.out) ?_); rw [hd1]; try simp only [Act.put, List.setIfInBounds_toArray, List.set_cons_succ, List.set_cons_zero]; go_big_quiet_on)
        | go_big_quiet_step (((first | (go_at_call 86; exact held_call _ (c1.out _ _)) | (go_at_call 77; exact held_call _ (cR1.out _))))))
      refine wpQuiet_nil ?_
      intro w5 hw5
      have H := mem_from H hw5
      clear hw5
      go_wp2_with (first
        | (refine mem_box rfl _ rfl _ rfl (by assumption) ?_; intro g w H; try simp only [Act.put, List.setIfInBounds_toArray, List.set_cons_succ, List.set_cons_zero])
        | (refine mem_alloc rfl rfl (by assumption) ?_; intro g w H; try simp only [Act.put, List.setIfInBounds_toArray, List.set_cons_succ, List.set_cons_zero])
        | (refine mem_load rfl _ rfl _ _ rfl (by assumption) (by (first | exact .head _ | exact .tail _ (.head _) | exact .tail _ (.tail _ (.head _)) | exact .tail _ (.tail _ (.tail _ (.head _))) | exact .tail _ (.tail _ (.tail _ (.tail _ (.head _)))))) ?_; try simp only [Act.put, List.setIfInBounds_toArray, List.set_cons_succ, List.set_cons_zero])
        | (refine mem_store0 rfl _ _ rfl _ _ _ rfl rfl _ (by assumption) ?_; intro w H; try simp only [Act.put, List.setIfInBounds_toArray, List.set_cons_succ, List.set_cons_zero])
        | (refine mem_store1 rfl _ _ rfl _ _ _ rfl rfl _ _ (by assumption) ?_; intro w H; try simp only [Act.put, List.setIfInBounds_toArray, List.set_cons_succ, List.set_cons_zero])
        | (refine mem_store2 rfl _ _ rfl _ _ _ rfl rfl _ _ _ (by assumption) ?_; intro w H; try simp only [Act.put, List.setIfInBounds_toArray, List.set_cons_succ, List.set_cons_zero])
        | (refine mem_store3 rfl _ _ rfl _ _ _ rfl rfl _ _ _ _ (by assumption) ?_; intro w H; try simp only [Act.put, List.setIfInBounds_toArray, List.set_cons_succ, List.set_cons_zero])
        | (refine mem_build rfl rfl ?_; try simp only [Act.put, List.setIfInBounds_toArray, List.set_cons_succ, List.set_cons_zero]))
      refine mem_ret2 Try.results83 _ rfl rfl rfl (by assumption) (by (first | exact .head _ | exact .tail _ (.head _) | exact .tail _ (.tail _ (.head _)) | exact .tail _ (.tail _ (.tail _ (.head _))) | exact .tail _ (.tail _ (.tail _ (.tail _ (.head _)))))) ?_
      rw [← hRd.out]
      exact ⟨by rw [if_neg hq1.out]; rfl, H.below⟩
  · have hd0 : (!decide (s0 = n)) = true := by simp [h0]
    obtain ⟨r1, hr1i⟩ : ∃ r, prodN r0 iF = r := ⟨_, rfl⟩
    have hr1 : r1N n = r1 := by unfold r1N; rw [hr0e.out, hs0, if_neg h0, hr1i]
    have cP := Kept.mk fun w => prodN_any r0 iF w
    rw [hr1i] at cP
    have hrb := Kept.mk (show r1 < big from hr1i ▸ prodN_lt r0 iF)
    replace hr1i := Kept.mk hr1i
    replace hs0 := Kept.mk hs0
    replace hr1 := Kept.mk hr1
    replace h0 := Kept.mk h0
    refine wp_region_from (by kernel_rfl) (by kernel_rfl) ?_
    repeat (first
      | (go_big_quiet_want; (refine mem_quiet_load _ rfl _ _ rfl (by assumption) (by (first | exact .head _ | exact .tail _ (.head _) | exact .tail _ (.tail _ (.head _)) | exact .tail _ (.tail _ (.tail _ (.head _))) | exact .tail _ (.tail _ (.tail _ (.tail _ (.head _)))))) ?_); try simp only [Act.put, List.setIfInBounds_toArray, List.set_cons_succ, List.set_cons_zero]; go_big_quiet_on)
      | (go_big_quiet_want; (refine quiet_neq_num _ _ _ rfl _ _ rfl rfl (hb.out) (hnb.out) ?_); rw [hd0]; try simp only [Act.put, List.setIfInBounds_toArray, List.set_cons_succ, List.set_cons_zero]; go_big_quiet_on)
      | go_big_quiet_step (((first | (go_at_call 86; exact held_call _ (c1.out _ _)) | (go_at_call 77; exact held_call _ (cR0.out _))))))
    refine wpQuiet_nil ?_
    intro w5 hw5
    have H := mem_from H hw5
    clear hw5
    go_wp2_with (first
      | (refine mem_box rfl _ rfl _ rfl (by assumption) ?_; intro g w H; try simp only [Act.put, List.setIfInBounds_toArray, List.set_cons_succ, List.set_cons_zero])
      | (refine mem_alloc rfl rfl (by assumption) ?_; intro g w H; try simp only [Act.put, List.setIfInBounds_toArray, List.set_cons_succ, List.set_cons_zero])
      | (refine mem_load rfl _ rfl _ _ rfl (by assumption) (by (first | exact .head _ | exact .tail _ (.head _) | exact .tail _ (.tail _ (.head _)) | exact .tail _ (.tail _ (.tail _ (.head _))) | exact .tail _ (.tail _ (.tail _ (.tail _ (.head _)))))) ?_; try simp only [Act.put, List.setIfInBounds_toArray, List.set_cons_succ, List.set_cons_zero])
      | (refine mem_store0 rfl _ _ rfl _ _ _ rfl rfl _ (by assumption) ?_; intro w H; try simp only [Act.put, List.setIfInBounds_toArray, List.set_cons_succ, List.set_cons_zero])
      | (refine mem_store1 rfl _ _ rfl _ _ _ rfl rfl _ _ (by assumption) ?_; intro w H; try simp only [Act.put, List.setIfInBounds_toArray, List.set_cons_succ, List.set_cons_zero])
      | (refine mem_store2 rfl _ _ rfl _ _ _ rfl rfl _ _ _ (by assumption) ?_; intro w H; try simp only [Act.put, List.setIfInBounds_toArray, List.set_cons_succ, List.set_cons_zero])
      | (refine mem_store3 rfl _ _ rfl _ _ _ rfl rfl _ _ _ _ (by assumption) ?_; intro w H; try simp only [Act.put, List.setIfInBounds_toArray, List.set_cons_succ, List.set_cons_zero])
      | (refine mem_build rfl rfl ?_; try simp only [Act.put, List.setIfInBounds_toArray, List.set_cons_succ, List.set_cons_zero]))
    refine wp_region_from_tail 3 (by kernel_rfl) (by kernel_rfl) ?_
    simp only [List.take_succ_cons, List.take_zero, List.drop_succ_cons, List.drop_zero]
    repeat (first
      | (go_big_quiet_want; (refine mem_quiet_load _ rfl _ _ rfl (by assumption) (by (first | exact .head _ | exact .tail _ (.head _) | exact .tail _ (.tail _ (.head _)) | exact .tail _ (.tail _ (.tail _ (.head _))) | exact .tail _ (.tail _ (.tail _ (.tail _ (.head _)))))) ?_); try simp only [Act.put, List.setIfInBounds_toArray, List.set_cons_succ, List.set_cons_zero]; go_big_quiet_on)
      | go_big_quiet_step (((first | (go_at_call 88; exact held_call _ (iroot_any _)) | (go_at_call 76; exact held_call _ (cP.out _))))))
    refine wpQuiet_nil ?_
    intro w5 hw5
    have H := mem_from H hw5
    clear hw5
    go_wp2_with (first
      | (refine mem_box rfl _ rfl _ rfl (by assumption) ?_; intro g w H; try simp only [Act.put, List.setIfInBounds_toArray, List.set_cons_succ, List.set_cons_zero])
      | (refine mem_alloc rfl rfl (by assumption) ?_; intro g w H; try simp only [Act.put, List.setIfInBounds_toArray, List.set_cons_succ, List.set_cons_zero])
      | (refine mem_load rfl _ rfl _ _ rfl (by assumption) (by (first | exact .head _ | exact .tail _ (.head _) | exact .tail _ (.tail _ (.head _)) | exact .tail _ (.tail _ (.tail _ (.head _))) | exact .tail _ (.tail _ (.tail _ (.tail _ (.head _)))))) ?_; try simp only [Act.put, List.setIfInBounds_toArray, List.set_cons_succ, List.set_cons_zero])
      | (refine mem_store0 rfl _ _ rfl _ _ _ rfl rfl _ (by assumption) ?_; intro w H; try simp only [Act.put, List.setIfInBounds_toArray, List.set_cons_succ, List.set_cons_zero])
      | (refine mem_store1 rfl _ _ rfl _ _ _ rfl rfl _ _ (by assumption) ?_; intro w H; try simp only [Act.put, List.setIfInBounds_toArray, List.set_cons_succ, List.set_cons_zero])
      | (refine mem_store2 rfl _ _ rfl _ _ _ rfl rfl _ _ _ (by assumption) ?_; intro w H; try simp only [Act.put, List.setIfInBounds_toArray, List.set_cons_succ, List.set_cons_zero])
      | (refine mem_store3 rfl _ _ rfl _ _ _ rfl rfl _ _ _ _ (by assumption) ?_; intro w H; try simp only [Act.put, List.setIfInBounds_toArray, List.set_cons_succ, List.set_cons_zero])
      | (refine mem_build rfl rfl ?_; try simp only [Act.put, List.setIfInBounds_toArray, List.set_cons_succ, List.set_cons_zero]))
    clear hb
    obtain ⟨s1, hs1⟩ : ∃ s, sqN r1 1 % pF = s := ⟨_, rfl⟩
    have hb := Kept.mk (show s1 < big from hs1 ▸ Nat.lt_trans (Nat.mod_lt _ (by decide +kernel)) p_big)
    have cR1 := Kept.mk fun w => reduced_any (sqN r1 1) (sq1_big r1) w
    rw [hs1] at cR1
    by_cases h1 : s1 = n
    · have hd1 : (!decide (s1 = n)) = false := by simp [h1]
      have hq1 : sqN (r1N n) 1 % pF = n := by rw [hr1.out, hs1, h1]
      obtain ⟨t, ht⟩ : ∃ t, r1 % pF = t := ⟨_, rfl⟩
      have htp : t < pF := ht ▸ Nat.mod_lt _ (by decide +kernel)
      have cRt := Kept.mk fun w => reduced_any r1 hrb.out w
      rw [ht] at cRt
      have cN := Kept.mk fun w => negated_any t (Nat.le_of_lt htp) w
      obtain ⟨l0, hl0⟩ : ∃ l, t % 4294967296 = l := ⟨_, rfl⟩
      have hl0b : l0 < 4294967296 := hl0 ▸ Nat.mod_lt _ (by decide)
      clear htp
      replace hs1 := Kept.mk hs1
      replace h1 := Kept.mk h1
      replace hq1 := Kept.mk hq1
      replace ht := Kept.mk ht
      by_cases hpar : t % 2 = 1
      · have hp0 : (l0 : Int) % 2 = 1 := by omega
        have hres : evenN (r1N n % pF) = pF - t := by rw [hr1.out, ht.out]; unfold evenN; rw [if_pos hpar]
        replace hl0 := Kept.mk hl0
        replace hpar := Kept.mk hpar
        replace hres := Kept.mk hres
        refine wp_region_from (by kernel_rfl) (by kernel_rfl) ?_
        repeat (first
          | (go_big_quiet_want; (refine mem_quiet_load _ rfl _ _ rfl (by assumption) (by (first | exact .head _ | exact .tail _ (.head _) | exact .tail _ (.tail _ (.head _)) | exact .tail _ (.tail _ (.tail _ (.head _))) | exact .tail _ (.tail _ (.tail _ (.tail _ (.head _)))))) ?_); try simp only [Act.put, List.setIfInBounds_toArray, List.set_cons_succ, List.set_cons_zero]; go_big_quiet_on)
          | (go_big_quiet_want; (refine quiet_neq_num _ _ _ rfl _ _ rfl rfl (hb.out) (hnb.out) ?_); rw [hd1]; try simp only [Act.put, List.setIfInBounds_toArray, List.set_cons_succ, List.set_cons_zero]; go_big_quiet_on)
          | go_big_quiet_step (((first | (go_at_call 86; exact held_call _ (c1.out _ _)) | (go_at_call 77; exact held_call _ (cR1.out _))))))
        refine wpQuiet_nil ?_
        intro w5 hw5
        have H := mem_from H hw5
        clear hw5
        go_wp2_with (first
          | (refine mem_store0 rfl _ _ rfl _ _ _ rfl rfl _ (by assumption) ?_; intro w H; have hc := limb0 H hl0.out; try simp only [Act.put, List.setIfInBounds_toArray, List.set_cons_succ, List.set_cons_zero])
          | (refine mem_box rfl _ rfl _ rfl (by assumption) ?_; intro g w H; try simp only [Act.put, List.setIfInBounds_toArray, List.set_cons_succ, List.set_cons_zero])
          | (refine mem_alloc rfl rfl (by assumption) ?_; intro g w H; try simp only [Act.put, List.setIfInBounds_toArray, List.set_cons_succ, List.set_cons_zero])
          | (refine mem_load rfl _ rfl _ _ rfl (by assumption) (by (first | exact .head _ | exact .tail _ (.head _) | exact .tail _ (.tail _ (.head _)) | exact .tail _ (.tail _ (.tail _ (.head _))) | exact .tail _ (.tail _ (.tail _ (.tail _ (.head _)))))) ?_; try simp only [Act.put, List.setIfInBounds_toArray, List.set_cons_succ, List.set_cons_zero])
          | (refine mem_store0 rfl _ _ rfl _ _ _ rfl rfl _ (by assumption) ?_; intro w H; try simp only [Act.put, List.setIfInBounds_toArray, List.set_cons_succ, List.set_cons_zero])
          | (refine mem_store1 rfl _ _ rfl _ _ _ rfl rfl _ _ (by assumption) ?_; intro w H; try simp only [Act.put, List.setIfInBounds_toArray, List.set_cons_succ, List.set_cons_zero])
          | (refine mem_store2 rfl _ _ rfl _ _ _ rfl rfl _ _ _ (by assumption) ?_; intro w H; try simp only [Act.put, List.setIfInBounds_toArray, List.set_cons_succ, List.set_cons_zero])
          | (refine mem_store3 rfl _ _ rfl _ _ _ rfl rfl _ _ _ _ (by assumption) ?_; intro w H; try simp only [Act.put, List.setIfInBounds_toArray, List.set_cons_succ, List.set_cons_zero])
          | (refine mem_build rfl rfl ?_; try simp only [Act.put, List.setIfInBounds_toArray, List.set_cons_succ, List.set_cons_zero])
          | (go_at_call 77; refine mem_call (by assumption) (cRt.out _) ?_; intro w H)
          | (go_at_call 80; refine mem_call (by assumption) (cN.out _) ?_; intro w H))
        refine mem_ret2 Try.results83 _ rfl rfl rfl (by assumption) (by (first | exact .head _ | exact .tail _ (.head _) | exact .tail _ (.tail _ (.head _)) | exact .tail _ (.tail _ (.tail _ (.head _))) | exact .tail _ (.tail _ (.tail _ (.tail _ (.head _)))))) ?_
        rw [← hRd.out]
        exact ⟨by rw [if_pos hq1.out, hres.out]; rfl, H.below⟩
      · have hp0 : (l0 : Int) % 2 = 0 := by omega
        have hres : evenN (r1N n % pF) = t := by rw [hr1.out, ht.out]; unfold evenN; rw [if_neg hpar]
        replace hl0 := Kept.mk hl0
        replace hpar := Kept.mk hpar
        replace hres := Kept.mk hres
        refine wp_region_from (by kernel_rfl) (by kernel_rfl) ?_
        repeat (first
          | (go_big_quiet_want; (refine mem_quiet_load _ rfl _ _ rfl (by assumption) (by (first | exact .head _ | exact .tail _ (.head _) | exact .tail _ (.tail _ (.head _)) | exact .tail _ (.tail _ (.tail _ (.head _))) | exact .tail _ (.tail _ (.tail _ (.tail _ (.head _)))))) ?_); try simp only [Act.put, List.setIfInBounds_toArray, List.set_cons_succ, List.set_cons_zero]; go_big_quiet_on)
          | (go_big_quiet_want; (refine quiet_neq_num _ _ _ rfl _ _ rfl rfl (hb.out) (hnb.out) ?_); rw [hd1]; try simp only [Act.put, List.setIfInBounds_toArray, List.set_cons_succ, List.set_cons_zero]; go_big_quiet_on)
          | go_big_quiet_step (((first | (go_at_call 86; exact held_call _ (c1.out _ _)) | (go_at_call 77; exact held_call _ (cR1.out _))))))
        refine wpQuiet_nil ?_
        intro w5 hw5
        have H := mem_from H hw5
        clear hw5
        go_wp2_with (first
          | (refine mem_store0 rfl _ _ rfl _ _ _ rfl rfl _ (by assumption) ?_; intro w H; have hc := limb0 H hl0.out; try simp only [Act.put, List.setIfInBounds_toArray, List.set_cons_succ, List.set_cons_zero])
          | (refine mem_box rfl _ rfl _ rfl (by assumption) ?_; intro g w H; try simp only [Act.put, List.setIfInBounds_toArray, List.set_cons_succ, List.set_cons_zero])
          | (refine mem_alloc rfl rfl (by assumption) ?_; intro g w H; try simp only [Act.put, List.setIfInBounds_toArray, List.set_cons_succ, List.set_cons_zero])
          | (refine mem_load rfl _ rfl _ _ rfl (by assumption) (by (first | exact .head _ | exact .tail _ (.head _) | exact .tail _ (.tail _ (.head _)) | exact .tail _ (.tail _ (.tail _ (.head _))) | exact .tail _ (.tail _ (.tail _ (.tail _ (.head _)))))) ?_; try simp only [Act.put, List.setIfInBounds_toArray, List.set_cons_succ, List.set_cons_zero])
          | (refine mem_store0 rfl _ _ rfl _ _ _ rfl rfl _ (by assumption) ?_; intro w H; try simp only [Act.put, List.setIfInBounds_toArray, List.set_cons_succ, List.set_cons_zero])
          | (refine mem_store1 rfl _ _ rfl _ _ _ rfl rfl _ _ (by assumption) ?_; intro w H; try simp only [Act.put, List.setIfInBounds_toArray, List.set_cons_succ, List.set_cons_zero])
          | (refine mem_store2 rfl _ _ rfl _ _ _ rfl rfl _ _ _ (by assumption) ?_; intro w H; try simp only [Act.put, List.setIfInBounds_toArray, List.set_cons_succ, List.set_cons_zero])
          | (refine mem_store3 rfl _ _ rfl _ _ _ rfl rfl _ _ _ _ (by assumption) ?_; intro w H; try simp only [Act.put, List.setIfInBounds_toArray, List.set_cons_succ, List.set_cons_zero])
          | (refine mem_build rfl rfl ?_; try simp only [Act.put, List.setIfInBounds_toArray, List.set_cons_succ, List.set_cons_zero])
          | (go_at_call 77; refine mem_call (by assumption) (cRt.out _) ?_; intro w H))
        refine mem_ret2 Try.results83 _ rfl rfl rfl (by assumption) (by (first | exact .head _ | exact .tail _ (.head _) | exact .tail _ (.tail _ (.head _)) | exact .tail _ (.tail _ (.tail _ (.head _))) | exact .tail _ (.tail _ (.tail _ (.tail _ (.head _)))))) ?_
        rw [← hRd.out]
        exact ⟨by rw [if_pos hq1.out, hres.out]; rfl, H.below⟩
    · have hd1 : (!decide (s1 = n)) = true := by simp [h1]
      have hq1 : ¬ sqN (r1N n) 1 % pF = n := by rw [hr1.out, hs1]; exact h1
      replace hs1 := Kept.mk hs1
      replace h1 := Kept.mk h1
      replace hq1 := Kept.mk hq1
      refine wp_region_from (by kernel_rfl) (by kernel_rfl) ?_
      repeat (first
        | (go_big_quiet_want; (refine mem_quiet_load _ rfl _ _ rfl (by assumption) (by (first | exact .head _ | exact .tail _ (.head _) | exact .tail _ (.tail _ (.head _)) | exact .tail _ (.tail _ (.tail _ (.head _))) | exact .tail _ (.tail _ (.tail _ (.tail _ (.head _)))))) ?_); try simp only [Act.put, List.setIfInBounds_toArray, List.set_cons_succ, List.set_cons_zero]; go_big_quiet_on)
        | (go_big_quiet_want; (refine quiet_neq_num _ _ _ rfl _ _ rfl rfl (hb.out) (hnb.out) ?_); rw [hd1]; try simp only [Act.put, List.setIfInBounds_toArray, List.set_cons_succ, List.set_cons_zero]; go_big_quiet_on)
        | go_big_quiet_step (((first | (go_at_call 86; exact held_call _ (c1.out _ _)) | (go_at_call 77; exact held_call _ (cR1.out _))))))
      refine wpQuiet_nil ?_
      intro w5 hw5
      have H := mem_from H hw5
      clear hw5
      go_wp2_with (first
        | (refine mem_box rfl _ rfl _ rfl (by assumption) ?_; intro g w H; try simp only [Act.put, List.setIfInBounds_toArray, List.set_cons_succ, List.set_cons_zero])
        | (refine mem_alloc rfl rfl (by assumption) ?_; intro g w H; try simp only [Act.put, List.setIfInBounds_toArray, List.set_cons_succ, List.set_cons_zero])
        | (refine mem_load rfl _ rfl _ _ rfl (by assumption) (by (first | exact .head _ | exact .tail _ (.head _) | exact .tail _ (.tail _ (.head _)) | exact .tail _ (.tail _ (.tail _ (.head _))) | exact .tail _ (.tail _ (.tail _ (.tail _ (.head _)))))) ?_; try simp only [Act.put, List.setIfInBounds_toArray, List.set_cons_succ, List.set_cons_zero])
        | (refine mem_store0 rfl _ _ rfl _ _ _ rfl rfl _ (by assumption) ?_; intro w H; try simp only [Act.put, List.setIfInBounds_toArray, List.set_cons_succ, List.set_cons_zero])
        | (refine mem_store1 rfl _ _ rfl _ _ _ rfl rfl _ _ (by assumption) ?_; intro w H; try simp only [Act.put, List.setIfInBounds_toArray, List.set_cons_succ, List.set_cons_zero])
        | (refine mem_store2 rfl _ _ rfl _ _ _ rfl rfl _ _ _ (by assumption) ?_; intro w H; try simp only [Act.put, List.setIfInBounds_toArray, List.set_cons_succ, List.set_cons_zero])
        | (refine mem_store3 rfl _ _ rfl _ _ _ rfl rfl _ _ _ _ (by assumption) ?_; intro w H; try simp only [Act.put, List.setIfInBounds_toArray, List.set_cons_succ, List.set_cons_zero])
        | (refine mem_build rfl rfl ?_; try simp only [Act.put, List.setIfInBounds_toArray, List.set_cons_succ, List.set_cons_zero]))
      refine mem_ret2 Try.results83 _ rfl rfl rfl (by assumption) (by (first | exact .head _ | exact .tail _ (.head _) | exact .tail _ (.tail _ (.head _)) | exact .tail _ (.tail _ (.tail _ (.head _))) | exact .tail _ (.tail _ (.tail _ (.tail _ (.head _)))))) ?_
      rw [← hRd.out]
      exact ⟨by rw [if_neg hq1.out]; rfl, H.below⟩
end Go.Proofs.Ytockcnglennihaa
end
section
set_option linter.unusedSimpArgs false
set_option linter.unusedVariables false
namespace Go.Proofs.Ytockcnglennihaa
open Go.RowKit
/-- The number of bytes. -/
def numB (l : List UInt8) : Nat := valB 256 (l.map (·.toNat))
def w4 (l : List UInt8) (i : Nat) : Nat := (l.getD (4 * i) 0).toNat + 256 * (l.getD (4 * i + 1) 0).toNat + 65536 * (l.getD (4 * i + 2) 0).toNat + 16777216 * (l.getD (4 * i + 3) 0).toNat
theorem w4_lt (l : List UInt8) (i : Nat) : w4 l i < 4294967296 := by
  unfold w4
  have h0 := (l.getD (4 * i) 0).toNat_lt
  have h1 := (l.getD (4 * i + 1) 0).toNat_lt
  have h2 := (l.getD (4 * i + 2) 0).toNat_lt
  have h3 := (l.getD (4 * i + 3) 0).toNat_lt
  omega
theorem four_words : ∀ (n : Nat) (l : List UInt8), l.length = 4 * n → valB 4294967296 ((List.range n).map (w4 l)) = numB l
  | 0, l, h => by
    have : l = [] := List.eq_nil_of_length_eq_zero (by omega)
    subst this; rfl
  | n + 1, l, h => by
    match l, h with
    | a :: b :: c :: d :: r, h =>
      have ih := four_words n r (by simp at h; omega)
      rw [List.range_succ_eq_map, List.map_cons, List.map_map, valB]
      have e : (List.range n).map (w4 (a :: b :: c :: d :: r) ∘ Nat.succ) = (List.range n).map (w4 r) := by
        refine List.map_congr_left fun i _ => ?_
        simp only [Function.comp, w4]
        rw [show 4 * i.succ = 4 * i + 4 by omega]
        simp
      rw [e, ih]
      simp [numB, valB, w4]
      omega
theorem bits_or_u32 (a b : Nat) (ha : a < 4294967296) (hb : b < 4294967296) : bits .or .u32 (a : Int) (b : Int) = ((a ||| b : Nat) : Int) := by
  have hx : a ||| b < 2 ^ 32 := Nat.or_lt_two_pow (by omega) (by omega)
  have h1 : (BitVec.ofInt 32 (a : Int)).toNat = a := by
    rw [BitVec.ofInt_natCast, BitVec.toNat_ofNat]; exact Nat.mod_eq_of_lt (by omega)
  have h2 : (BitVec.ofInt 32 (b : Int)).toNat = b := by
    rw [BitVec.ofInt_natCast, BitVec.toNat_ofNat]; exact Nat.mod_eq_of_lt (by omega)
  show IntKind.u32.wrap ((BitVec.ofInt 32 (a : Int) ||| BitVec.ofInt 32 (b : Int)).toNat : Int) = _
  rw [BitVec.toNat_or, h1, h2]
  simp [IntKind.wrap, IntKind.signed, IntKind.bits]
  omega
theorem or_shift (a b k : Nat) (h : a < 2 ^ k) : a ||| b * 2 ^ k = a + b * 2 ^ k := by
  rw [Nat.or_comm, Nat.mul_comm, ← Nat.two_pow_add_eq_or_of_lt h]
  omega
theorem or4 (a b c d : Nat) (ha : a < 256) (hb : b < 256) (hc : c < 256) (hd : d < 256) :
    bits .or .u32 (bits .or .u32 (bits .or .u32 ((a : Int) % 4294967296) ((b : Int) % 4294967296 * 256 % 4294967296)) ((c : Int) % 4294967296 * 65536 % 4294967296)) ((d : Int) % 4294967296 * 16777216 % 4294967296) = ((a + 256 * b + 65536 * c + 16777216 * d : Nat) : Int) := by
  rw [show (a : Int) % 4294967296 = (a : Int) by omega, show (b : Int) % 4294967296 * 256 % 4294967296 = ((b * 256 : Nat) : Int) by omega, show (c : Int) % 4294967296 * 65536 % 4294967296 = ((c * 65536 : Nat) : Int) by omega,
    show (d : Int) % 4294967296 * 16777216 % 4294967296 = ((d * 16777216 : Nat) : Int) by omega]
  rw [bits_or_u32 a (b * 256) (by omega) (by omega), show a ||| b * 256 = a + b * 256 from or_shift a b 8 (by omega)]
  rw [bits_or_u32 (a + b * 256) (c * 65536) (by omega) (by omega), show (a + b * 256) ||| c * 65536 = a + b * 256 + c * 65536 from or_shift _ c 16 (by omega)]
  rw [bits_or_u32 (a + b * 256 + c * 65536) (d * 16777216) (by omega) (by omega), show (a + b * 256 + c * 65536) ||| d * 16777216 = a + b * 256 + c * 65536 + d * 16777216 from or_shift _ d 24 (by omega)]
  congr 1
  omega
theorem cut4 (l : List UInt8) (k : Nat) (h : k + 4 ≤ l.length) : (S l).extract k (k + 4) = S [l.getD k 0, l.getD (k + 1) 0, l.getD (k + 2) 0, l.getD (k + 3) 0] := by
  apply ByteArray.ext
  apply Array.ext'
  rw [ByteArray.data_extract, Array.toList_extract]
  show (l.drop k).take (k + 4 - k) = _
  rw [show k + 4 - k = 4 by omega]
  have e := drop_cons l k (by rw [S_size]; omega)
  have e1 := drop_cons l (k + 1) (by rw [S_size]; omega)
  have e2 := drop_cons l (k + 2) (by rw [S_size]; omega)
  have e3 := drop_cons l (k + 3) (by rw [S_size]; omega)
  rw [byte_at] at e e1 e2 e3
  rw [e, e1, e2, e3]
  simp [S]
set_option maxHeartbeats 1000000 in
theorem parse_any (l : List UInt8) (hl : l.length = 32) (wS : World) : Calls Try.prog 72 #[.string (S l)] wS (NP (numB l) wS) := by
  have hsz : (S l).size = 32 := by rw [S_size, hl]
  have hres : nL (numB l) = (List.range 8).map (w4 l) := (nL_of _ _ (by simp) (fun x hx => by obtain ⟨i, _, rfl⟩ := List.mem_map.1 hx; exact w4_lt l i) (four_words 8 l (by omega))).symm
  have hz := zero_num
  have z0 : (numA 0) = (numC .u32 (List.replicate 8 0)).toArray := rfl
  obtain ⟨Z, hZ⟩ : ∃ Z, numA 0 = Z := ⟨_, rfl⟩
  rw [hZ] at hz z0
  have hs8 : Z.size = 8 := by rw [z0]; simp [numC]
  replace hres := Kept.mk hres
  replace z0 := Kept.mk z0
  replace hl := Kept.mk hl
  replace hs8 := Kept.mk hs8
  replace hZ := Kept.mk hZ
  replace hsz := Kept.mk hsz
  go_enter Try.func72, Try.ntmps72
  go_wp2
  have h3 : ((wS.alloc (.cells Z 78)).alloc (.cells Z 78)).heap[wS.heap.size]? = some (.cells Z 78 (0, 0)) := by
    rw [(Below.alloc (Below.refl _ (wS.alloc (.cells Z 78))) (Nat.le_refl _) (.cells Z 78)).block wS.heap.size (by simp)]
    exact heap_alloc_new wS _
  have h5 : Arr ((wS.alloc (.cells Z 78)).alloc (.cells Z 78)) (wS.heap.size + 1) 78 .u32 (List.replicate 8 0) := by
    have h := Arr.new (wS.alloc (.cells Z 78)) 78 .u32 (List.replicate 8 0)
    rw [← z0.out, World.size_alloc] at h
    exact h
  have h4 : Below wS.heap.size wS ((wS.alloc (.cells Z 78)).alloc (.cells Z 78)) := ((Below.refl _ _).alloc (Nat.le_refl _) _).alloc (by simp) _
  generalize (wS.alloc (.cells Z 78)).alloc (.cells Z 78) = w0 at h3 h4 h5 ⊢
  obtain ⟨n, hn⟩ : ∃ n, wS.heap.size = n := ⟨_, rfl⟩
  rw [hn] at h3 h5 ⊢
  replace h3 := Kept.mk h3
  replace h4 := Kept.mk h4
  replace h5 := Kept.mk h5
  replace hn := Kept.mk hn
  obtain ⟨z8, hz8⟩ : ∃ z, List.replicate 8 0 = z := ⟨_, rfl⟩
  rw [hz8] at h5
  have hzl : z8.length = 8 := by rw [← hz8]; rfl
  replace hz8 := Kept.mk hz8
  replace hzl := Kept.mk hzl
  go_loopw [6] (fun v6 wr => ∃ (i : Nat), i ≤ 8 ∧ v6 = .int .i64 (i : Int) ∧ Kept (wr.heap[n]? = some (.cells Z 78 (0, 0))) ∧ Kept (Arr wr (n + 1) 78 .u32 ((List.range i).map (w4 l) ++ z8.drop i)) ∧ Kept (Below wS.heap.size wS wr)) (fun v6 _ => 8 - (RowKit.intOf v6).toNat)
  case atStart => exact ⟨0, by omega, rfl, h3, ⟨by have h := h5.out; exact h⟩, h4⟩
  case round =>
    clear h3 h4 h5
    obtain ⟨i, hi, rfl, H3, H5, H4⟩ := hrel
    by_cases hlt : i < 8
    · have hlti : (i : Int) < 8 := by omega
      have k1 : IntKind.i64.wrap (4 * (i : Int)) = 4 * (i : Int) := by simp [IntKind.wrap, IntKind.signed, IntKind.bits]; omega
      have k2 : IntKind.i64.wrap (4 * (i : Int) + 4) = 4 * (i : Int) + 4 := by simp [IntKind.wrap, IntKind.signed, IntKind.bits]; omega
      have hs := hsz.out
      go_wp2
      obtain ⟨b0, hb0⟩ : ∃ b, l.getD (4 * i) 0 = b := ⟨_, rfl⟩
      obtain ⟨b1, hb1⟩ : ∃ b, l.getD (4 * i + 1) 0 = b := ⟨_, rfl⟩
      obtain ⟨b2, hb2⟩ : ∃ b, l.getD (4 * i + 2) 0 = b := ⟨_, rfl⟩
      obtain ⟨b3, hb3⟩ : ∃ b, l.getD (4 * i + 3) 0 = b := ⟨_, rfl⟩
      have he : (S l).extract (4 * i) (4 * i + 4) = S [b0, b1, b2, b3] := by
        rw [cut4 l (4 * i) (by rw [hl.out]; omega), hb0, hb1, hb2, hb3]
      have hw : w4 l i = b0.toNat + 256 * b1.toNat + 65536 * b2.toNat + 16777216 * b3.toNat := by unfold w4; rw [hb0, hb1, hb2, hb3]
      rw [he]
      have hq : (S [b0, b1, b2, b3]).size = 4 := rfl
      have l0 := b0.toNat_lt
      have l1 := b1.toNat_lt
      have l2 := b2.toNat_lt
      have l3 := b3.toNat_lt
      clear hs k1 k2 he
      replace hw := Kept.mk hw
      replace hb0 := Kept.mk hb0
      replace hb1 := Kept.mk hb1
      replace hb2 := Kept.mk hb2
      replace hb3 := Kept.mk hb3
      refine wp_region_from_tail 20 (by kernel_rfl) (by kernel_rfl) ?_
      simp only [List.take_succ_cons, List.take_zero, List.drop_succ_cons, List.drop_zero]
      repeat (go_big_quiet_step (fail))
      refine wpQuiet_nil ?_
      intro w5 hw5
      have e0 : (S [b0, b1, b2, b3])[0] = b0 := rfl
      have e1 : (S [b0, b1, b2, b3])[1] = b1 := rfl
      have e2 : (S [b0, b1, b2, b3])[2] = b2 := rfl
      have e3 : (S [b0, b1, b2, b3])[3] = b3 := rfl
      rw [e0, e1, e2, e3, or4 _ _ _ _ l0 l1 l2 l3, ← hw.out]
      have hdz := drop_getD z8 i (by rw [hzl.out]; omega)
      have hln : ((List.range i).map (w4 l)).length = i := by simp
      have H55 := H5.out.from hw5.of_drew
      have f5 := H55.frozen i
      have c5 := H55.cellMid hdz hln
      have h35 := (hw5.of_drew.block n (Array.getElem?_eq_some_iff.1 H3.out).1).trans H3.out
      have b5 := H4.out.trans (hw5.of_drew.mono H4.out.size)
      replace hdz := Kept.mk hdz
      replace hln := Kept.mk hln
      replace H55 := Kept.mk H55
      replace h35 := Kept.mk h35
      replace b5 := Kept.mk b5
      clear e0 e1 e2 e3 hq hw5
      go_wp2
      go_roundw
      case rel => exact ⟨i + 1, by omega, val_eq (by omega), ⟨(Below.heap_setCell w5 ⟨n + 1, i, none⟩ _ n (by simp)).trans h35.out⟩, ⟨by
        have h := H55.out.step hdz.out hln.out (w4 l i) (v := (w4 l i : Nat)) rfl
        rw [List.range_succ, List.map_append]
        exact h⟩, ⟨b5.out.setCell (by show wS.heap.size ≤ n + 1; rw [hn.out]; omega) _⟩⟩
      case measure => simp [RowKit.intOf]; omega
    · obtain rfl : i = 8 := by omega
      have hA : Arr wr (n + 1) 78 .u32 (nL (numB l)) := by
        have h := H5.out
        rw [List.drop_eq_nil_of_le (by rw [hzl.out]; omega), List.append_nil, ← hres.out] at h
        exact h
      replace hA := Kept.mk hA
      clear H5 hi
      go_wp2_with (first
        | (refine wpList_load_row rfl 78 (.tmp 3) rfl (n + 1) rfl 78 (numA (numB l)) (0, 0) _ hA.out.blk Try.underlying78 rfl ?_ ?_; (rw [infoN, numA_size]))
        | (refine wpList_store_row rfl 78 (.tmp 2) (.tmp 37) rfl n (numA (numB l)) rfl rfl 78 Z H3.out ?_ ?_ (numA_one _) ?_; (rw [infoN, numA_size]); (rw [hs8.out, numA_size])))
      exact bodyPost_ret (results_cell_row (p := 2) (ty := 78) Try.results72 _ _ n 78 (numA (numB l)) (0, 0) _ rfl (setRow_heap _ _ _ _ _ _ H3.out) Try.underlying78 rfl (numA_info _)) rfl
        ⟨rfl, below_setRow H4.out (by rw [hn.out]; omega) _⟩
end Go.Proofs.Ytockcnglennihaa
end
section
set_option linter.unusedSimpArgs false
set_option linter.unusedVariables false
namespace Go.Proofs.Ytockcnglennihaa
open Go.RowKit
def b4 (y : Nat) : List UInt8 := [UInt8.ofNat y, UInt8.ofNat (y / 256), UInt8.ofNat (y / 65536), UInt8.ofNat (y / 16777216)]
/-- The bytes of a number. -/
def leB (x : Nat) : List UInt8 := (nL x).flatMap b4
theorem flat_len : ∀ (ws : List Nat), (ws.flatMap b4).length = 4 * ws.length
  | [] => rfl
  | y :: r => by rw [List.flatMap_cons, List.length_append, flat_len r, List.length_cons]; simp [b4]; omega
theorem flat_val : ∀ (ws : List Nat), (∀ x ∈ ws, x < 4294967296) → numB (ws.flatMap b4) = valB 4294967296 ws
  | [], _ => rfl
  | y :: r, h => by
    have ih := flat_val r fun z hz => h z (by simp [hz])
    have hy := h y (by simp)
    rw [List.flatMap_cons, valB, ← ih]
    simp [b4, numB, valB]
    omega
theorem leB_len (x : Nat) : (leB x).length = 32 := by unfold leB; rw [flat_len, nL_len]
theorem numB_leB (x : Nat) (h : x < big) : numB (leB x) = x := by unfold leB; rw [flat_val _ (nL_lt x), nL_val x h]
theorem bytes_of (l : List UInt8) : (limbs 256 l.length (numB l)).map UInt8.ofNat = l := by
  unfold numB
  have h := limbs_val (B := 256) (by decide) (l.map (·.toNat)) (fun x hx => by obtain ⟨b, _, rfl⟩ := List.mem_map.1 hx; exact b.toNat_lt)
  rw [List.length_map] at h
  rw [h, List.map_map]
  conv => rhs; rw [← List.map_id l]
  refine List.map_congr_left fun b _ => ?_
  simp
theorem leB_numB (l : List UInt8) (h : l.length = 32) (hb : numB l < big) : leB (numB l) = l := by
  rw [← bytes_of (leB (numB l)), leB_len, numB_leB _ hb, ← h, bytes_of]
theorem numB_lt (l : List UInt8) (h : l.length = 32) : numB l < big := by
  have h2 := valB_lt (B := 256) (by decide) (l.map (·.toNat)) (fun x hx => by obtain ⟨b, _, rfl⟩ := List.mem_map.1 hx; exact b.toNat_lt)
  rw [List.length_map, h, show (256 : Nat) ^ 32 = big by decide +kernel] at h2
  exact h2
theorem leB_inj {x y : Nat} (hx : x < big) (hy : y < big) (h : leB x = leB y) : x = y := by rw [← numB_leB x hx, ← numB_leB y hy, h]
def BytesPost (x : Nat) (w : World) (e : Ending) (w' : World) : Prop := e = .returned (.string (S (leB x))) ∧ Below w.heap.size w w'
theorem byte0 (y : Nat) : (y : Int) % 256 = ((UInt8.ofNat y).toNat : Int) := by simp
theorem byte1 (y : Nat) : (y : Int) / 256 % 256 = ((UInt8.ofNat (y / 256)).toNat : Int) := by simp
theorem byte2 (y : Nat) : (y : Int) / 65536 % 256 = ((UInt8.ofNat (y / 65536)).toNat : Int) := by simp
theorem byte3 (y : Nat) (h : y < 4294967296) : (y : Int) / 16777216 = ((UInt8.ofNat (y / 16777216)).toNat : Int) := by simp; omega
theorem b4_cells (y : Nat) : Lib.byteCells (b4 y) = [Value.int .u8 ((UInt8.ofNat y).toNat : Nat), Value.int .u8 ((UInt8.ofNat (y / 256)).toNat : Nat), Value.int .u8 ((UInt8.ofNat (y / 65536)).toNat : Nat), Value.int .u8 ((UInt8.ofNat (y / 16777216)).toNat : Nat)] := rfl
set_option maxHeartbeats 1000000 in
theorem bytes_any (x : Nat) (wS : World) : Calls Try.prog 78 #[numV x] wS (BytesPost x wS) := by
  obtain ⟨i0, hi0, hz0, hz1, hz2⟩ := info_parts info5
  obtain ⟨a, ha⟩ : ∃ a, nL x = a := ⟨_, rfl⟩
  have hal : a.length = 8 := by rw [← ha, nL_len]
  have haW : ∀ x ∈ a, x < 4294967296 := ha ▸ nL_lt x
  obtain ⟨tot, htot⟩ : ∃ t, leB x = t := ⟨_, rfl⟩
  have htt : a.flatMap b4 = tot := by rw [← htot, ← ha]; rfl
  unfold BytesPost
  rw [htot]
  obtain ⟨A, hA⟩ : ∃ A, (numC .u32 a).toArray = A := ⟨_, rfl⟩
  unfold numV aggN
  rw [ha, hA]
  replace ha := Kept.mk ha
  replace hal := Kept.mk hal
  replace haW := Kept.mk haW
  replace htt := Kept.mk htt
  replace htot := Kept.mk htot
  go_enter Try.func78, Try.ntmps78
  go_wp2_with (refine wpList_make_own _ rfl _ _ 36 rfl (wS.heap.size + 1) 5 i0 (.int .u8 0) 1 Try.underlying36 hi0 hz0 hz1 .i64 .i64 32 32 rfl rfl rfl (by rw [hz2]; omega) (by unfold maxLen; omega) (by simp) ?_; intro w1 ho1 hg1)
  have h1 : Arr w1 wS.heap.size 78 .u32 a := by
    have h := Arr.new wS 78 .u32 a
    rw [hA] at h
    exact h.of_heap (hg1.block _ (by simp) (by intro e; cases e))
  have h4 : Below wS.heap.size wS w1 := ((Below.refl _ _).alloc (Nat.le_refl _) _).grown hg1 (by simp) (fun _ e => by cases e)
  have hsz1 : wS.heap.size + 1 ≤ w1.heap.size := by have := hg1.size; simpa using this
  replace hA := Kept.mk hA
  clear hg1
  obtain ⟨n, hn⟩ : ∃ n, wS.heap.size = n := ⟨_, rfl⟩
  rw [World.size_alloc] at ho1
  rw [hn] at h1 ho1 hsz1 ⊢
  generalize Value.slice (some ⟨n + 1, 0, none⟩) 0 32 = v0 at ho1 ⊢
  replace h1 := Kept.mk h1
  replace h4 := Kept.mk h4
  replace ho1 := Kept.mk ho1
  replace hn := Kept.mk hn
  go_loopw [3, 6] (fun v3 v6 wr => ∃ (i : Nat) (acc : List UInt8), i ≤ 8 ∧ v6 = .int .i64 (i : Int) ∧ Kept (acc.length = 4 * i) ∧ Kept (wr.ownsRow (n + 1) 5 1 v3 acc.length (Lib.byteCells acc)) ∧ n + 1 ≤ wr.heap.size ∧ Kept (Arr wr n 78 .u32 a) ∧ Kept (Below wS.heap.size wS wr) ∧ Kept (acc ++ (a.drop i).flatMap b4 = tot)) (fun _ v6 _ => 8 - (RowKit.intOf v6).toNat)
  case atStart => exact ⟨0, [], by omega, rfl, ⟨rfl⟩, ho1, hsz1, h1, h4, htt⟩
  case round =>
    clear h1 h4 ho1 hsz1
    obtain ⟨i, acc, hi, rfl, hacl, HO, hsz, H1, H4, HT⟩ := hrel
    obtain ⟨AA, cap, rfl⟩ := own_form HO.out
    have hle : acc.length ≤ 32 := by have := hacl.out; omega
    by_cases hlt : i < 8
    · obtain ⟨y, hy⟩ : ∃ y, a.getD i 0 = y := ⟨_, rfl⟩
      have hda := drop_getD a i (by rw [hal.out]; exact hlt)
      rw [hy] at hda
      have hyl : y < 4294967296 := hy ▸ getD_ltN haW.out i (by rw [hal.out]; exact hlt)
      have c1 : ∀ u : Held (From wr.drew), u.w.cell? ⟨n, i, none⟩ = some (.int .u32 (y : Int)) := fun u => hy ▸ (H1.out.from u.h.of_drew).cell i (by rw [hal.out]; exact hlt)
      have hlti : (i : Int) < 8 := by omega
      replace hy := Kept.mk hy
      replace hda := Kept.mk hda
      go_wp2
      refine wp_region_from_tailP 20 0 _ (.tmp 3) rfl rfl rfl (by kernel_rfl) (by kernel_rfl) (fun _ _ _ h => h) ?_
      simp only [List.take_succ_cons, List.take_zero, List.drop_succ_cons, List.drop_zero, List.eraseIdx_cons_zero, Act.put, Act.eval, List.setIfInBounds_toArray, List.set_cons_succ, List.set_cons_zero, Array.getD_eq_getD_getElem?, List.getElem?_toArray, List.getElem?_cons_succ, List.getElem?_cons_zero, Option.getD_some]
      repeat (go_big_quiet_step (fail))
      refine wpQuiet_nil ?_
      intro w5 hw5
      rw [byte0, byte1, byte2, byte3 y hyl]
      have H15 := H1.out.from hw5.of_drew
      have b5 := H4.out.trans (hw5.of_drew.mono H4.out.size)
      have o5 := ownsRow_below HO.out hw5.of_drew
      have s5 : n + 1 ≤ w5.heap.size := Nat.le_trans hsz hw5.of_drew.size
      replace H15 := Kept.mk H15
      replace b5 := Kept.mk b5
      replace o5 := Kept.mk o5
      have hb4 := Kept.mk (b4_cells y)
      obtain ⟨e0, he0⟩ : ∃ e, (UInt8.ofNat y).toNat = e := ⟨_, rfl⟩
      obtain ⟨e1, he1⟩ : ∃ e, (UInt8.ofNat (y / 256)).toNat = e := ⟨_, rfl⟩
      obtain ⟨e2, he2⟩ : ∃ e, (UInt8.ofNat (y / 65536)).toNat = e := ⟨_, rfl⟩
      obtain ⟨e3, he3⟩ : ∃ e, (UInt8.ofNat (y / 16777216)).toNat = e := ⟨_, rfl⟩
      rw [he0, he1, he2, he3] at hb4 ⊢
      replace he0 := Kept.mk he0
      replace he1 := Kept.mk he1
      replace he2 := Kept.mk he2
      replace he3 := Kept.mk he3
      clear c1 hw5 HO H1 H4
      go_wp2_with (at_builtin; refine wpList_append_own _ rfl _ _ 36 rfl (n + 1) 5 i0 (.int .u8 0) 1 1 Try.underlying36 hi0 hz0 hz1 hz2 rfl (by decide) _ _ _ rfl (o5.out.alloc _) ⟨w5.heap.size, 0, none⟩ 4 4 [.int .u8 (e0 : Int), .int .u8 (e1 : Int), .int .u8 (e2 : Int), .int .u8 (e3 : Int)] rfl rfl ?c1 ?c2 ?c3 ?c4 ?c5 ?_)
      case c1 => exact row_new w5 [_, _, _, _] 5
      case c2 => intro u hu; simp at hu; rcases hu with rfl | rfl | rfl | rfl <;> rfl
      case c3 => unfold maxLen; omega
      case c4 => omega
      case c5 => rw [World.size_alloc]; omega
      intro v' w7 ho7 hgr _
      have hown := o5.out
      have hAA : ∀ g, (Value.slice AA acc.length cap).ownBlock = some g → n + 1 ≤ g := fun g hg => (hown.lt g hg).1
      have H17 : Arr w7 n 78 .u32 a := (H15.out.from ((Below.refl _ _).alloc (Nat.le_refl _) _)).of_heap (hgr.block n (by rw [World.size_alloc]; omega) (fun e => by have := hAA n e.symm; omega))
      have b7 : Below wS.heap.size wS w7 := (b5.out.alloc (by rw [hn.out]; omega) _).grown hgr (by rw [World.size_alloc, hn.out]; omega) (fun g hg => by have := hAA g hg; rw [hn.out]; omega)
      have s7 : n + 1 ≤ w7.heap.size := by have := hgr.size; rw [World.size_alloc] at this; omega
      have ho8 : w7.ownsRow (n + 1) 5 1 v' (acc ++ b4 y).length (Lib.byteCells (acc ++ b4 y)) := by
        rw [Lib.byteCells_append, List.length_append, hb4.out]; exact ho7
      clear ho7 hgr hown hAA
      replace H17 := Kept.mk H17
      replace b7 := Kept.mk b7
      replace ho8 := Kept.mk ho8
      go_wp2
      go_roundw
      case rel => exact ⟨i + 1, acc ++ b4 y, by omega, val_eq (by omega), ⟨by have := hacl.out; rw [List.length_append]; simp [b4]; omega⟩, ho8, s7, H17, b7, ⟨by have h := HT.out; rw [hda.out, List.flatMap_cons] at h; rw [List.append_assoc]; exact h⟩⟩
      case measure => simp [RowKit.intOf]; omega
    · obtain rfl : i = 8 := by omega
      have hd : acc = tot := by have h := HT.out; rw [List.drop_eq_nil_of_le (by rw [hal.out]; omega), List.flatMap_nil, List.append_nil] at h; exact h
      have hcv := conv_own HO.out
      rw [hd] at hcv
      have Hd := Kept.mk hd
      clear hd HT
      rw [show acc.length = tot.length by rw [Hd.out]]
      go_wp2
      go_ret
      exact ⟨rfl, H4.out⟩
end Go.Proofs.Ytockcnglennihaa
end
