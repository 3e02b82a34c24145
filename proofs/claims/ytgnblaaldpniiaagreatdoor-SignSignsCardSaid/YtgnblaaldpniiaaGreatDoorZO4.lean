/- Package scalar: numbers in blocks, as one state of the memory; laws of the walk over it.
Package scalar: the order; a number with a word behind it.
Package scalar: what is left of a number below 2^32 times the order.
Package scalar: a number modulo the order, a word after the other. -/
import Derived.Test.YtgnblaaldpniiaaGreatDoorZO3
import Derived.Test.YtgnblaaldpniiaaGreatDoorZK1
import Derived.Great.Ranges
import Derived.Test.YtgnblaaldpniiaaGreatDoorZK2
import Derived.Deep.LoopGhost
section
set_option linter.unusedSimpArgs false
set_option linter.unusedVariables false
set_option maxRecDepth 100000
namespace Go.Proofs.YtgnblaaldpniiaaGreatDoor.Sc
open Go.RowKit Go.Lib
def numA (x : Nat) : Array Value := (numC .u32 (nL x)).toArray
theorem numV_eq (x : Nat) : numV x = .agg (numA x) := rfl
theorem numA_size (x : Nat) : (numA x).size = 16 := by rw [numA, List.size_toArray, numC_length, nL_len]
theorem numA_one (x : Nat) : (numA x).all (·.oneCell') = true := numC_one _ _
theorem numA_info (x : Nat) : (Tryz.prog.info? 87).map (·.size) = some (numA x).size := by rw [infoN, numA_size]
theorem zero_num : ∀ w, (zeroValue 87).run Tryz.prog w = .ok (.agg (numA 0)) w := by
  have h : (numA 0) = (numC .u32 (List.replicate 16 0)).toArray := rfl
  rw [h]
  exact (zero_of_info (n := 16) (by kernel_rfl)).1
def NumAt (w : World) (g : Nat) (x : Nat) : Prop := w.heap[g]? = some (.cells (numA x) 87 (0, 0))
theorem NumAt.lt {w : World} {g x : Nat} (h : NumAt w g x) : g < w.heap.size := (Array.getElem?_eq_some_iff.1 h).1
structure Mem (w0 w : World) (L : List (Nat × Nat)) : Prop where
  below : Below w0.heap.size w0 w
  holds : ∀ g x, (g, x) ∈ L → NumAt w g x
  ours : ∀ g x, (g, x) ∈ L → w0.heap.size ≤ g
  apart : (L.map (·.1)).Nodup
section
variable {w0 w w' : World} {L : List (Nat × Nat)} {g x y : Nat}
theorem Mem.start (w : World) : Mem w w [] := ⟨Below.refl _ _, by simp, by simp, by simp⟩
theorem Mem.grow (H : Mem w0 w L) (hb : Below w.heap.size w w') : Mem w0 w' L :=
  ⟨H.below.trans (hb.mono H.below.size), fun g x h => (hb.block g (H.holds g x h).lt).trans (H.holds g x h), H.ours, H.apart⟩
theorem Mem.new (H : Mem w0 w L) (x : Nat) : Mem w0 (w.alloc (.cells (numA x) 87)) ((w.heap.size, x) :: L) := by
  have H2 := H.grow ((Below.refl _ w).alloc (Nat.le_refl _) (.cells (numA x) 87))
  refine ⟨H2.below, fun g y h => ?_, fun g y h => ?_, ?_⟩
  · rcases List.mem_cons.1 h with h | h
    · injection h with h1 h2; subst h1; subst h2; exact heap_alloc_new w _
    · exact H2.holds g y h
  · rcases List.mem_cons.1 h with h | h
    · injection h with h1 h2; subst h1; exact H.below.size
    · exact H.ours g y h
  · rw [List.map_cons, List.nodup_cons]
    refine ⟨fun h => ?_, H.apart⟩
    obtain ⟨⟨g, y⟩, hm, he⟩ := List.mem_map.1 h
    have := (H.holds g y hm).lt
    simp only at he
    omega
theorem Mem.extra (H : Mem w0 w L) (h : From w.drew w') (hF : Fresh w 87 (numA 0) g w') : Mem w0 w' ((g, 0) :: L) := by
  have H2 := H.grow h.of_drew
  refine ⟨H2.below, fun g' y h => ?_, fun g' y h => ?_, ?_⟩
  · rcases List.mem_cons.1 h with h | h
    · injection h with h1 h2; subst h1; subst h2; exact hF.1
    · exact H2.holds g' y h
  · rcases List.mem_cons.1 h with h | h
    · injection h with h1 h2; subst h1; exact Nat.le_trans H.below.size hF.2
    · exact H.ours g' y h
  · rw [List.map_cons, List.nodup_cons]
    refine ⟨fun h => ?_, H.apart⟩
    obtain ⟨⟨g', y⟩, hm, he⟩ := List.mem_map.1 h
    have h3 := (H.holds g' y hm).lt
    have h4 := hF.2
    simp only at he
    omega
def putN (g y : Nat) (L : List (Nat × Nat)) : List (Nat × Nat) := L.map fun p => if p.1 = g then (g, y) else p
theorem setRow_other (w : World) (g g' : Nat) (cs : Array Value) (h : g' ≠ g) : (w.setRow g cs).heap[g']? = w.heap[g']? := by
  show (w.heap.modify g _)[g']? = _
  rw [Array.getElem?_modify, if_neg (Ne.symm h)]
theorem Mem.put (H : Mem w0 w L) (h : (g, x) ∈ L) (y : Nat) : Mem w0 (w.setRow g (numA y)) (putN g y L) := by
  have hk : (putN g y L).map (·.1) = L.map (·.1) := by
    unfold putN
    rw [List.map_map]
    refine List.map_congr_left fun p _ => ?_
    simp only [Function.comp]
    split
    · rename_i e; exact e.symm
    · rfl
  refine ⟨below_setRow H.below (H.ours g x h) _, fun g' z h' => ?_, fun g' z h' => ?_, by rw [hk]; exact H.apart⟩
  · unfold putN at h'
    obtain ⟨⟨g2, z2⟩, hm, he⟩ := List.mem_map.1 h'
    by_cases e : g2 = g
    · rw [if_pos e] at he
      injection he with e1 e2
      subst e1; subst e2
      exact setRow_heap _ _ _ _ _ _ (H.holds g x h)
    · rw [if_neg e] at he
      injection he with e1 e2
      subst e1; subst e2
      exact (setRow_other w g g2 _ e).trans (H.holds g2 z2 hm)
  · have : g' ∈ L.map (·.1) := by rw [← hk]; exact List.mem_map.2 ⟨(g', z), h', rfl⟩
    obtain ⟨⟨g2, z2⟩, hm, he⟩ := List.mem_map.1 this
    simp only at he
    subst he
    exact H.ours g2 z2 hm
end
section
variable {ops : Array Oper} {rest : List Oper} {o : Oper} {a : Act} {w0 w : World} {Q : Exit → Act → World → Prop} {L : List (Nat × Nat)}
theorem mem_box (hg : o.guard = none) (x : Operand) (ho : o.op = .box 87 x) (y : Nat) (hx : a.eval x = .agg (numA y)) (H : Mem w0 w L)
    (h : ∀ g w', Mem w0 w' ((g, y) :: L) → wpList Tryz.prog ops Q rest (a.put o.dst (.pointer (some ⟨g, 0, none⟩))) w') : wpList Tryz.prog ops Q (o :: rest) a w :=
  Great.wpList_boxTo hg 87 x ho o.dst rfl w.heap.size rfl (numA y) (by rw [hx]; rfl) (h _ _ (H.new y))
theorem mem_alloc (hg : o.guard = none) (ho : o.op = .alloc 87) (H : Mem w0 w L)
    (h : ∀ g w', Mem w0 w' ((g, 0) :: L) → wpList Tryz.prog ops Q rest (a.put o.dst (.pointer (some ⟨g, 0, none⟩))) w') : wpList Tryz.prog ops Q (o :: rest) a w := by
  refine wpList_plain hg fun K hK => ?_
  unfold Oper.wp execOp
  simp only [ho, Instr.alloc, Sem.run_bind, zero_num, newVar, newRow, run_newObj_alloc, Sem.run_pure, Result.andThen_ok]
  exact hK _ _ (h _ _ (H.new 0))
theorem mem_load (hg : o.guard = none) (x : Operand) (ho : o.op = .load 87 x) (g y : Nat) (hx : a.eval x = .pointer (some ⟨g, 0, none⟩)) (H : Mem w0 w L) (hm : (g, y) ∈ L)
    (h : wpList Tryz.prog ops Q rest (a.put o.dst (.agg (numA y))) w) : wpList Tryz.prog ops Q (o :: rest) a w :=
  wpList_load_row hg 87 x ho g hx 87 (numA y) (0, 0) _ (H.holds g y hm) Tryz.underlying87 rfl (numA_info y) h
theorem mem_store (hg : o.guard = none) (x v : Operand) (ho : o.op = .store 87 x v) (g old y : Nat) (hx : a.eval x = .pointer (some ⟨g, 0, none⟩)) (hv : a.eval v = .agg (numA y)) (H : Mem w0 w L) (hm : (g, old) ∈ L)
    (h : ∀ w', Mem w0 w' (putN g y L) → wpList Tryz.prog ops Q rest (a.put o.dst undef) w') : wpList Tryz.prog ops Q (o :: rest) a w :=
  wpList_store_row hg 87 x v ho g (numA y) hx hv 87 (numA old) (H.holds g old hm) (numA_info y) (by rw [numA_size, numA_size]) (numA_one y) (h _ (H.put hm y))
theorem putN_none {g y : Nat} : ∀ (L : List (Nat × Nat)), g ∉ L.map (·.1) → putN g y L = L
  | [], _ => rfl
  | p :: r, h => by
    rw [List.map_cons, List.mem_cons, not_or] at h
    have := putN_none (y := y) r h.2
    unfold putN at this ⊢
    rw [List.map_cons, this, if_neg (Ne.symm h.1)]
theorem putN_mid {g y old : Nat} : ∀ (A B : List (Nat × Nat)), ((A ++ (g, old) :: B).map (·.1)).Nodup → putN g y (A ++ (g, old) :: B) = A ++ (g, y) :: B
  | [], B, h => by
    rw [List.nil_append, List.map_cons, List.nodup_cons] at h
    have := putN_none (y := y) B h.1
    unfold putN at this ⊢
    rw [List.nil_append, List.map_cons, this, if_pos rfl, List.nil_append]
  | p :: A, B, h => by
    rw [List.cons_append, List.map_cons, List.nodup_cons] at h
    have := putN_mid (y := y) A B h.2
    have hne : p.1 ≠ g := fun e => h.1 (List.mem_map.2 ⟨(g, old), by simp, e.symm⟩)
    unfold putN at this ⊢
    rw [List.cons_append, List.map_cons, this, if_neg hne, List.cons_append]
theorem mem_store_mid (hg : o.guard = none) (x v : Operand) (ho : o.op = .store 87 x v) (g old y : Nat) (hx : a.eval x = .pointer (some ⟨g, 0, none⟩)) (hv : a.eval v = .agg (numA y)) (A B : List (Nat × Nat)) (H : Mem w0 w (A ++ (g, old) :: B))
    (h : ∀ w', Mem w0 w' (A ++ (g, y) :: B) → wpList Tryz.prog ops Q rest (a.put o.dst undef) w') : wpList Tryz.prog ops Q (o :: rest) a w :=
  mem_store hg x v ho g old y hx hv H (by simp) fun w' H' => h w' (putN_mid A B H.apart ▸ H')
theorem mem_store0 (hg : o.guard = none) (x v : Operand) (ho : o.op = .store 87 x v) (g old y : Nat) (hx : a.eval x = .pointer (some ⟨g, 0, none⟩)) (hv : a.eval v = .agg (numA y)) (B : List (Nat × Nat)) (H : Mem w0 w ((g, old) :: B))
    (h : ∀ w', Mem w0 w' ((g, y) :: B) → wpList Tryz.prog ops Q rest (a.put o.dst undef) w') : wpList Tryz.prog ops Q (o :: rest) a w := mem_store_mid hg x v ho g old y hx hv [] B H h
theorem mem_store1 (hg : o.guard = none) (x v : Operand) (ho : o.op = .store 87 x v) (g old y : Nat) (hx : a.eval x = .pointer (some ⟨g, 0, none⟩)) (hv : a.eval v = .agg (numA y)) (p : Nat × Nat) (B : List (Nat × Nat)) (H : Mem w0 w (p :: (g, old) :: B))
    (h : ∀ w', Mem w0 w' (p :: (g, y) :: B) → wpList Tryz.prog ops Q rest (a.put o.dst undef) w') : wpList Tryz.prog ops Q (o :: rest) a w := mem_store_mid hg x v ho g old y hx hv [p] B H h
theorem mem_store2 (hg : o.guard = none) (x v : Operand) (ho : o.op = .store 87 x v) (g old y : Nat) (hx : a.eval x = .pointer (some ⟨g, 0, none⟩)) (hv : a.eval v = .agg (numA y)) (p q : Nat × Nat) (B : List (Nat × Nat)) (H : Mem w0 w (p :: q :: (g, old) :: B))
    (h : ∀ w', Mem w0 w' (p :: q :: (g, y) :: B) → wpList Tryz.prog ops Q rest (a.put o.dst undef) w') : wpList Tryz.prog ops Q (o :: rest) a w := mem_store_mid hg x v ho g old y hx hv [p, q] B H h
theorem mem_call {f : FuncId} {args : Array Value} {v : Value} {Q : Ending → World → Prop} (H : Mem w0 w L) (c : Calls Tryz.prog f args w fun e w' => e = .returned v ∧ Below w.heap.size w w')
    (h : ∀ w', Mem w0 w' L → Q (.returned v) w') : Calls Tryz.prog f args w Q :=
  c.mono fun _ w' ⟨he, hb⟩ => he ▸ h w' (H.grow hb)
theorem mem_from {w' : World} (H : Mem w0 w L) (h : From w.drew w') : Mem w0 w' L := H.grow h.of_drew
theorem mem_quiet_load {K : Act → Prop} (x : Operand) (ho : o.op = .load 87 x) (g y : Nat) (hx : a.eval x = .pointer (some ⟨g, 0, none⟩)) (H : Mem w0 w L) (hm : (g, y) ∈ L)
    (h : K (a.put o.dst (.agg (numA y)))) : o.quiet Tryz.prog a (fun w' => ∃ u : Held (From w.drew), w' = u.w) K :=
  quiet_load_row 87 x ho g hx 87 (numA y) _ (fun _ ⟨u, e⟩ => ⟨(0, 0), e ▸ (mem_from H u.h).holds g y hm⟩) Tryz.underlying87 rfl (numA_info y) h
theorem mem_quiet_load_u {K : Act → Prop} (x : Operand) (ho : o.op = .load 87 x) (g y : Nat) (hx : a.eval x = .pointer (some ⟨g, 0, none⟩)) (H : Mem w0 w L) (hm : (g, y) ∈ L)
    (h : K (a.put o.dst (.agg (numA y)))) : o.quiet Tryz.prog a (fun w' => ∃ u : Held (From w), w' = u.w) K :=
  quiet_load_row 87 x ho g hx 87 (numA y) _ (fun _ ⟨u, e⟩ => ⟨(0, 0), e ▸ (H.grow u.h.below).holds g y hm⟩) Tryz.underlying87 rfl (numA_info y) h
theorem mem_ret {fn : Func} {p : Tmp} {x : Nat} {g : Nat} (hr : fn.results = #[.cell p 87]) (a : Act) (hp : a.tmps.getD p undef = .pointer (some ⟨g, 0, none⟩)) (hd : a.defers = []) (H : Mem w0 w L) (hm : (g, x) ∈ L) :
    bodyPost Tryz.prog fn (NP x w0) .ret a w :=
  bodyPost_ret (results_cell_row hr _ _ g 87 (numA x) (0, 0) _ hp (H.holds g x hm) Tryz.underlying87 rfl (numA_info x)) hd ⟨rfl, H.below⟩
end
section
variable {ops : Array Oper} {rest : List Oper} {o : Oper} {a : Act} {w0 w : World} {Q : Exit → Act → World → Prop} {L : List (Nat × Nat)}
theorem built_few (ps : List (Nat × Value)) (P : Program) (t : TypeId) (c : Array Value) (h : P.built t ps = some c) (parts : Array (Nat × Operand)) (a : Act) (e : (parts.map fun (i, x) => (i, a.eval x)).toList = ps) :
    (P.built t (parts.map fun (i, x) => (i, a.eval x)).toList).isSome = true ∧ (P.built t (parts.map fun (i, x) => (i, a.eval x)).toList).getD #[] = c := by
  rw [e, h]; exact ⟨rfl, rfl⟩
theorem mem_build (hg : o.guard = none) (parts : Array (Nat × Operand)) (ho : o.op = .build 87 parts) (ps : List (Nat × Value)) (e : (parts.map fun (i, x) => (i, a.eval x)).toList = ps) (x : Nat) (hb : Tryz.prog.built 87 ps = some (numA x))
    (h : wpList Tryz.prog ops Q rest (a.put o.dst (.agg (numA x))) w) : wpList Tryz.prog ops Q (o :: rest) a w := by
  obtain ⟨h1, h2⟩ := built_few ps _ _ _ hb parts a e
  exact wpList_build hg 87 parts ho h1 (by rw [h2]; exact h)
end
theorem built_order : Tryz.prog.built 87 [(0, .int .u32 1559614445), (1, .int .u32 1477600026), (2, .int .u32 2734136534), (3, .int .u32 350157278), (4, .int .u32 0), (5, .int .u32 0), (6, .int .u32 0), (7, .int .u32 268435456)] = some (numA oN) := by
  unfold numA
  rw [nL_o]
  kernel_rfl
theorem nL_lo (x : Nat) (h : x < 4294967296) : nL x = [x, 0, 0, 0, 0, 0, 0, 0, 0, 0, 0, 0, 0, 0, 0, 0] := by
  refine (nL_of _ x rfl (fun y hy => ?_) ?_).symm
  · simp at hy
    omega
  · simp [valB]
theorem nL_lo2 (x y : Nat) (h : x < 4294967296) (h' : y < 4294967296) : nL (x + 4294967296 * y) = [x, y, 0, 0, 0, 0, 0, 0, 0, 0, 0, 0, 0, 0, 0, 0] := by
  refine (nL_of _ _ rfl (fun z hz => ?_) ?_).symm
  · simp at hz
    omega
  · simp [valB]
theorem built_one (x : Nat) (h : x < 4294967296) : Tryz.prog.built 87 [(0, .int .u32 (x : Int))] = some (numA x) := by
  unfold numA
  rw [nL_lo x h]
  rfl
theorem built_two (x y : Nat) (h : x < 4294967296) (h' : y < 4294967296) : Tryz.prog.built 87 [(0, .int .u32 (x : Int)), (1, .int .u32 (y : Int))] = some (numA (x + 4294967296 * y)) := by
  unfold numA
  rw [nL_lo2 x y h h']
  rfl
end Go.Proofs.YtgnblaaldpniiaaGreatDoor.Sc
end
section
set_option linter.unusedSimpArgs false
set_option linter.unusedVariables false
set_option maxRecDepth 100000
namespace Go.Proofs.YtgnblaaldpniiaaGreatDoor.Sc
open Go.RowKit
theorem order_num (w : World) : Calls Tryz.prog 112 #[] w (NP oN w) := by
  have H := Mem.start w
  have hb := Kept.mk built_order
  go_enter Tryz.func112, Tryz.ntmps112
  go_wp2_with (first
    | (refine mem_alloc rfl rfl (by assumption) ?_; intro g w H; try simp only [Act.put, yI, yC, yZ])
    | (refine mem_store0 rfl _ _ rfl _ _ _ rfl rfl _ (by assumption) ?_; intro w H; try simp only [Act.put, yI, yC, yZ])
    | (refine mem_build rfl _ rfl _ (by rw [Array.toList_map]; rfl) _ hb.out ?_; try simp only [Act.put, yI, yC, yZ]))
  exact mem_ret Tryz.results112 _ rfl rfl (by assumption) (by (repeat (first | exact .head _ | refine .tail _ ?_)))

theorem nL_above (x n : Nat) (h : x < 4294967296) : nL (x + 4294967296 * n) = x :: (nL n).take 15 := by
  unfold nL
  rw [limbs_take _ _ _ _ (by decide), limbs, Nat.add_mul_mod_self_left, Nat.mod_eq_of_lt h, Nat.add_mul_div_left _ _ (by decide), Nat.div_eq_of_lt h, Nat.zero_add]
theorem above_row (x n : Nat) (h : x < 4294967296) : ((numA x).toList.take 1 ++ (((numC .u32 (nL n)).take 15) ++ (numA x).toList.drop (1 + ((numC .u32 (nL n)).take 15).length))).toArray = numA (x + 4294967296 * n) := by
  unfold numA
  rw [nL_above x n h, nL_lo x h]
  have hl : ((numC .u32 (nL n)).take 15).length = 15 := by rw [List.length_take, numC_length, nL_len]; rfl
  rw [hl]
  simp [numC, List.map_take]
theorem add0 (g j : Nat) : ((⟨g, 0, none⟩ : Addr).add j) = ⟨g, j, none⟩ := by
  unfold Addr.add; split <;> simp_all
section
variable {ops : Array Oper} {rest : List Oper} {o : Oper} {a : Act} {w0 w : World} {Q : Exit → Act → World → Prop} {L : List (Nat × Nat)}
theorem mem_copy (hg : o.guard = none) (d s : Operand) (ho : o.op = .call { callee := .builtin .copy, args := #[d, s], argTypes := #[116, 116] }) (g g' x n : Nat) (hd : a.eval d = .slice (some ⟨g, 1, none⟩) 15 15) (hs : a.eval s = .slice (some ⟨g', 0, none⟩) 16 16)
    (H : Mem w0 w ((g, x) :: L)) (hm : (g', n) ∈ (g, x) :: L) (hrow : ((numA x).toList.take 1 ++ (((numC .u32 (nL n)).take 15) ++ (numA x).toList.drop (1 + ((numC .u32 (nL n)).take 15).length))).toArray = numA (x + 4294967296 * n))
    (h : ∀ w', Mem w0 w' ((g, x + 4294967296 * n) :: L) → wpList Tryz.prog ops Q rest (a.put o.dst (goInt 15)) w') : wpList Tryz.prog ops Q (o :: rest) a w := by
  have hl : ((numC .u32 (nL n)).take 15).length = 15 := by rw [List.length_take, numC_length, nL_len]; rfl
  have hone := numA_one n
  have h1 := H.holds g x (.head _)
  have h2 := H.holds g' n hm
  refine wpList_copy_own hg d s _ _ ho 85 Tryz.underlying116 (by kernel_rfl) g 1 15 15 ⟨g', 0, none⟩ 16 16 hd hs (numA x) 87 h1 ((numC .u32 (nL n)).take 15) (by rw [hl]; rfl) (fun j v hj => ?_) (by rw [hl, numA_size]; decide) (fun v hv => ?_) ?_
  · rw [add0, cell_of_row w g' _ _ _ _ h2]
    rw [List.getElem?_take] at hj
    split at hj
    · unfold numA
      rw [List.getElem?_toArray]
      exact hj
    · cases hj
  · obtain ⟨y, _, rfl⟩ := List.mem_map.1 (List.mem_of_mem_take hv)
    rfl
  · rw [hl] at hrow ⊢
    rw [hrow]
    have hk := H.put (.head _) (x + 4294967296 * n)
    rw [show putN g (x + 4294967296 * n) ((g, x) :: L) = (g, x + 4294967296 * n) :: L from putN_mid [] L H.apart] at hk
    exact h _ hk
end
set_option maxHeartbeats 1000000 in
theorem above_any (n x : Nat) (hx : x < 4294967296) (w : World) : Calls Tryz.prog 96 #[numV n, .int .u32 (x : Int)] w (NP (x + 4294967296 * n) w) := by
  have H := Mem.start w
  have hb := Kept.mk (built_one x hx)
  have hrow := Kept.mk (above_row x n hx)
  clear hx
  rw [numV_eq]
  go_enter Tryz.func96, Tryz.ntmps96
  go_wp2_with (first
    | (refine mem_box rfl _ rfl _ rfl (by assumption) ?_; intro g w H; try simp only [Act.put, yI, yC, yZ])
    | (refine mem_alloc rfl rfl (by assumption) ?_; intro g w H; try simp only [Act.put, yI, yC, yZ])
    | (refine mem_store0 rfl _ _ rfl _ _ _ rfl rfl _ (by assumption) ?_; intro w H; try simp only [Act.put, yI, yC, yZ])
    | (refine mem_build rfl _ rfl _ (by rw [Array.toList_map]; rfl) _ hb.out ?_; try simp only [Act.put, yI, yC, yZ]))
  refine wp_region_from_tail 2 (by kernel_rfl) (by kernel_rfl) ?_
  simp only [List.take_succ_cons, List.take_zero, List.drop_succ_cons, List.drop_zero]
  repeat (go_big_quiet_step (fail))
  refine wpQuiet_nil ?_
  intro w5 hw5
  have H := mem_from H hw5
  clear hw5
  go_wp2_with (first
    | (refine mem_load rfl _ rfl _ _ rfl (by assumption) (by (repeat (first | exact .head _ | refine .tail _ ?_))) ?_; try simp only [Act.put, yI, yC, yZ])
    | (refine mem_store1 rfl _ _ rfl _ _ _ rfl rfl _ _ (by assumption) ?_; intro w H; try simp only [Act.put, yI, yC, yZ])
    | (refine mem_copy rfl _ _ rfl _ _ _ _ rfl rfl (by assumption) (by (repeat (first | exact .head _ | refine .tail _ ?_))) hrow.out ?_; intro w H; try simp only [Act.put, yI, yC, yZ]))
  exact mem_ret Tryz.results96 _ rfl rfl (by assumption) (by (repeat (first | exact .head _ | refine .tail _ ?_)))
end Go.Proofs.YtgnblaaldpniiaaGreatDoor.Sc
end
section
set_option linter.unusedSimpArgs false
set_option linter.unusedVariables false
set_option maxRecDepth 100000
namespace Go.Proofs.YtgnblaaldpniiaaGreatDoor.Sc
open Go.RowKit
def two252 : Nat := 7237005577332262213973186563042994240829374041602535252466099000494570602496
def qN (n : Nat) : Nat := n / two252
theorem word_at : ∀ (k i x : Nat), i < k → (limbs 4294967296 k x).getD i 0 = x / 4294967296 ^ i % 4294967296
  | 0, _, _, h => by omega
  | k + 1, 0, x, _ => by rw [limbs]; simp
  | k + 1, i + 1, x, h => by
    rw [limbs]
    show (limbs 4294967296 k (x / 4294967296)).getD i 0 = _
    rw [word_at k i _ (by omega), Nat.pow_succ, Nat.mul_comm (4294967296 ^ i), Nat.div_div_eq_div_mul]
theorem Mem.word {w0 w : World} {L : List (Nat × Nat)} {g n : Nat} (H : Mem w0 w L) (hm : (g, n) ∈ L) (i : Nat) (hi : i < 16) : w.cell? ⟨g, i, none⟩ = some (.int .u32 ((n / 4294967296 ^ i % 4294967296 : Nat) : Int)) := by
  have h := (Arr.cell (l := nL n) (k := .u32) ⟨H.holds g n hm⟩ i (by rw [nL_len]; exact hi))
  rw [h]
  unfold nL
  rw [word_at 16 i n hi]
theorem bits_or_u32 (a b : Nat) (ha : a < 4294967296) (hb : b < 4294967296) : bits .or .u32 (a : Int) (b : Int) = ((a ||| b : Nat) : Int) := by
  have hx : a ||| b < 2 ^ 32 := Nat.or_lt_two_pow (by omega) (by omega)
  have h1 : (BitVec.ofInt 32 (a : Int)).toNat = a := by
    rw [BitVec.ofInt_natCast, BitVec.toNat_ofNat]; exact Nat.mod_eq_of_lt (by omega)
  have h2 : (BitVec.ofInt 32 (b : Int)).toNat = b := by
    rw [BitVec.ofInt_natCast, BitVec.toNat_ofNat]; exact Nat.mod_eq_of_lt (by omega)
  show IntKind.u32.wrap ((BitVec.ofInt 32 (a : Int) ||| BitVec.ofInt 32 (b : Int)).toNat : Int) = _
  rw [BitVec.toNat_or, h1, h2]
  simp [IntKind.wrap, IntKind.signed, IntKind.bits]
  omega
theorem or_shift (a b k : Nat) (h : a < 2 ^ k) : a ||| b * 2 ^ k = a + b * 2 ^ k := by
  rw [Nat.or_comm, Nat.mul_comm, ← Nat.two_pow_add_eq_or_of_lt h]
  omega
theorem q_or (a b : Nat) (ha : a < 4294967296) (hb : b < 4294967296) : bits .or .u32 ((a : Int) / 268435456) ((b : Int) * 16 % 4294967296) = ((a / 268435456 + b * 16 % 4294967296 : Nat) : Int) := by
  rw [show (a : Int) / 268435456 = ((a / 268435456 : Nat) : Int) by omega, show (b : Int) * 16 % 4294967296 = ((b * 16 % 4294967296 : Nat) : Int) by omega, bits_or_u32 _ _ (by omega) (by omega)]
  have e := or_shift (a / 268435456) (b % 268435456) 4 (by omega)
  rw [show b * 16 % 4294967296 = b % 268435456 * 2 ^ 4 by omega, e]
theorem built_q (n a b : Nat) (hn : n < 4294967296 * oN) (ha : n / 4294967296 ^ 7 % 4294967296 = a) (hb : n / 4294967296 ^ 8 % 4294967296 = b) :
    Tryz.prog.built 87 [(0, .int .u32 (bits .or .u32 ((a : Int) / 268435456) ((b : Int) * 16 % 4294967296))), (1, .int .u32 ((b : Int) / 268435456))] = some (numA (qN n)) := by
  have h1 : a < 4294967296 := by omega
  have h2 : b < 4294967296 := by omega
  rw [q_or a b h1 h2, show (b : Int) / 268435456 = ((b / 268435456 : Nat) : Int) by omega, built_two _ _ (by omega) (by omega)]
  have e : qN n = n / 4294967296 ^ 7 / 268435456 := by
    unfold qN
    rw [Nat.div_div_eq_div_mul]
    rfl
  have e8 : n / 4294967296 ^ 8 = n / 4294967296 ^ 7 / 4294967296 := by rw [Nat.div_div_eq_div_mul]
  have ht : n / 4294967296 ^ 7 < 18446744073709551616 := by
    refine Nat.div_lt_of_lt_mul (Nat.lt_trans hn ?_)
    decide +kernel
  rw [e8] at hb
  rw [e]
  generalize n / 4294967296 ^ 7 = t at ha hb ht ⊢
  congr 2
  omega
def d252 : Nat := 27742317777372353535851937790883648493
theorem o_parts : oN = two252 + d252 := by decide +kernel
theorem rem_letters (n K D B q : Nat) (hK : 8589934592 * D < K) (hB : 100000000000 * K < B) (hn : n < 4294967296 * (K + D)) (h1 : q * K ≤ n) (h2 : n < (q + 1) * K) :
    n < B ∧ q < 8589934592 ∧ q * (K + D) < B ∧ (n < q * (K + D) → ((n + B - q * (K + D)) % B + (K + D)) % B = n % (K + D)) ∧ (¬ n < q * (K + D) → (n + B - q * (K + D)) % B = n % (K + D)) := by
  have hq : q < 8589934592 := Nat.lt_of_mul_lt_mul_right (a := K) (by omega)
  have hqD : q * D ≤ 8589934592 * D := Nat.mul_le_mul_right D (by omega)
  have hr : n + (K + D) - q * (K + D) < (K + D) + (K + D) := by
    rw [Nat.mul_add]
    rw [Nat.add_mul, Nat.one_mul] at h2
    generalize q * K = x at *
    generalize q * D = y at *
    omega
  have hle : q * (K + D) ≤ n + K := by
    rw [Nat.mul_add]
    generalize q * K = x at *
    generalize q * D = y at *
    omega
  have hmod : ∀ r, r + q * (K + D) = n + (K + D) → r < K + D → r = n % (K + D) := fun r he hlt => by
    have h := Nat.add_mul_mod_self_right r q (K + D)
    rw [he, Nat.add_mod_right, Nat.mod_eq_of_lt hlt] at h
    exact h.symm
  have hmod2 : ∀ r, r + q * (K + D) = n → r < K + D → r = n % (K + D) := fun r he hlt => by
    have h := Nat.add_mul_mod_self_right r q (K + D)
    rw [he, Nat.mod_eq_of_lt hlt] at h
    exact h.symm
  generalize q * (K + D) = p at *
  refine ⟨by omega, hq, by omega, fun h => ?_, fun h => ?_⟩
  · rw [Nat.mod_eq_of_lt (a := n + B - p) (by omega), show n + B - p + (K + D) = (n + (K + D) - p) + B by omega, Nat.add_mod_right, Nat.mod_eq_of_lt (by omega)]
    exact hmod _ (by omega) (by omega)
  · rw [show n + B - p = (n - p) + B by omega, Nat.add_mod_right, Nat.mod_eq_of_lt (by omega)]
    exact hmod2 _ (by omega) (by omega)
theorem rem_parts (n : Nat) (hn : n < 4294967296 * oN) : n < big ∧ qN n < mid ∧ qN n * oN < big ∧ (n < qN n * oN → ((n + big - qN n * oN) % big + oN) % big = n % oN) ∧ (¬ n < qN n * oN → (n + big - qN n * oN) % big = n % oN) := by
  have h1 : qN n * two252 ≤ n := Nat.div_mul_le_self _ _
  have h2 : n < (qN n + 1) * two252 := by
    have := Nat.lt_div_mul_add (a := n) (b := two252) (by decide +kernel)
    rw [Nat.add_mul, Nat.one_mul]
    exact this
  rw [o_parts] at hn ⊢
  obtain ⟨a1, a2, a3, a4, a5⟩ := rem_letters n two252 d252 big (qN n) (by decide +kernel) (by decide +kernel) hn h1 h2
  exact ⟨a1, Nat.lt_trans a2 (by decide +kernel), a3, a4, a5⟩
set_option maxHeartbeats 1000000 in
theorem remainder_any (n : Nat) (hn : n < 4294967296 * oN) (w : World) : Calls Tryz.prog 97 #[numV n] w (NP (n % oN) w) := by
  have H := Mem.start w
  obtain ⟨hnb, hqm, hqb, hyes, hno⟩ := rem_parts n hn
  obtain ⟨p, hp⟩ : ∃ p, qN n * oN = p := ⟨_, rfl⟩
  have cO := Kept.mk fun w => order_num w
  have cP := Kept.mk fun w => prodN_any (qN n) oN hqm (by decide +kernel) w
  have cD := Kept.mk fun w => diffN_any n p hnb (by rw [← hp]; exact hqb) w
  have cS := Kept.mk fun w => sumN_any ((n + big - p) % big) oN (Nat.mod_lt _ big_pos) (by decide +kernel) w
  rw [hp] at hqb hyes hno cP
  obtain ⟨a7, h7⟩ : ∃ x, n / 4294967296 ^ 7 % 4294967296 = x := ⟨_, rfl⟩
  obtain ⟨a8, h8⟩ : ∃ x, n / 4294967296 ^ 8 % 4294967296 = x := ⟨_, rfl⟩
  have hb := Kept.mk (built_q n a7 a8 hn h7 h8)
  generalize qN n = q at hp hqm cP hb
  clear hqm hqb hn hnb hp
  rw [numV_eq]
  go_enter Tryz.func97, Tryz.ntmps97
  go_wp2_with (first
    | (refine mem_build rfl _ rfl _ (by rw [Array.toList_map]; rfl) _ hb.out ?_; try simp only [Act.put, yI, yC, yZ])
    | (refine mem_box rfl _ rfl _ rfl (by assumption) ?_; intro g w H; try simp only [Act.put, yI, yC, yZ])
    | (refine mem_alloc rfl rfl (by assumption) ?_; intro g w H; have c7 := H.word (.tail _ (.head _)) 7 (by decide); have c8 := H.word (.tail _ (.head _)) 8 (by decide); try rw [h7] at c7; try rw [h8] at c8; try simp only [Act.put, yI, yC, yZ])
    | (refine mem_store0 rfl _ _ rfl _ _ _ rfl rfl _ (by assumption) ?_; intro w H; try simp only [Act.put, yI, yC, yZ]))
  by_cases hlt : n < p
  · have hres := hyes hlt
    rw [decide_eq_true hlt] at cD
    replace hres := Kept.mk hres
    clear hyes hno hlt
    refine wp_region_from_allocL 9 8 7 _ _ _ _ 87 (numA 0) rfl rfl rfl rfl rfl zero_num (by kernel_rfl) (by kernel_rfl) (by kernel_rfl) (fun _ _ _ _ h => h) ?_
    apply Exists.intro
    refine And.intro ?_ (And.intro ?_ ?_)
    · intro u hu x
      have H := mem_from H hu
      simp only [List.take_succ_cons, List.take_zero, List.eraseIdx_cons_succ, List.eraseIdx_cons_zero, Act.put, yI, yC, yZ]
      repeat (first
        | (go_big_quiet_want; (refine mem_quiet_load_u _ rfl _ _ rfl (by assumption) (by (repeat (first | exact .head _ | refine .tail _ ?_))) ?_); try simp only [Act.put, yI, yC, yZ]; go_big_quiet_on)
        | go_big_quiet_step (((first | (go_at_call 112; exact held_call _ (cO.out _)) | (go_at_call 72; exact held_call _ (cP.out _)) | (go_at_call 111; exact held_call _ (cD.out _))))))
      exact wpQuiet_nil rfl
    · exact fun _ => rfl
    intro x w5 hw5 hF
    have H := H.extra hw5 hF
    simp only [List.drop_succ_cons, List.drop_zero]
    go_wp2_with (first
      | (refine mem_store0 rfl _ _ rfl _ _ _ rfl rfl _ (by assumption) ?_; intro w H; try simp only [Act.put, yI, yC, yZ]))
    refine wp_region_from_tail 3 (by kernel_rfl) (by kernel_rfl) ?_
    simp only [List.take_succ_cons, List.take_zero, List.drop_succ_cons, List.drop_zero]
    repeat (first
      | (go_big_quiet_want; (refine mem_quiet_load _ rfl _ _ rfl (by assumption) (by (repeat (first | exact .head _ | refine .tail _ ?_))) ?_); try simp only [Act.put, yI, yC, yZ]; go_big_quiet_on)
      | go_big_quiet_step (((first | (go_at_call 112; exact held_call _ (cO.out _)) | (go_at_call 73; exact held_call _ (cS.out _))))))
    refine wpQuiet_nil ?_
    intro w5 hw5
    have H := mem_from H hw5
    clear hw5
    go_wp2_with (first
      | (refine mem_load rfl _ rfl _ _ rfl (by assumption) (by (repeat (first | exact .head _ | refine .tail _ ?_))) ?_; try simp only [Act.put, yI, yC, yZ])
      | (refine mem_store0 rfl _ _ rfl _ _ _ rfl rfl _ (by assumption) ?_; intro w H; try simp only [Act.put, yI, yC, yZ])
      | (refine mem_store2 rfl _ _ rfl _ _ _ rfl rfl _ _ _ (by assumption) ?_; intro w H; try simp only [Act.put, yI, yC, yZ]))
    rw [hres.out] at *
    exact mem_ret Tryz.results97 _ rfl rfl (by assumption) (by (repeat (first | exact .head _ | refine .tail _ ?_)))
  · have hres := hno hlt
    rw [decide_eq_false hlt] at cD
    replace hres := Kept.mk hres
    clear hyes hno hlt cS
    refine wp_region_from_allocL 9 8 7 _ _ _ _ 87 (numA 0) rfl rfl rfl rfl rfl zero_num (by kernel_rfl) (by kernel_rfl) (by kernel_rfl) (fun _ _ _ _ h => h) ?_
    apply Exists.intro
    refine And.intro ?_ (And.intro ?_ ?_)
    · intro u hu x
      have H := mem_from H hu
      simp only [List.take_succ_cons, List.take_zero, List.eraseIdx_cons_succ, List.eraseIdx_cons_zero, Act.put, yI, yC, yZ]
      repeat (first
        | (go_big_quiet_want; (refine mem_quiet_load_u _ rfl _ _ rfl (by assumption) (by (repeat (first | exact .head _ | refine .tail _ ?_))) ?_); try simp only [Act.put, yI, yC, yZ]; go_big_quiet_on)
        | go_big_quiet_step (((first | (go_at_call 112; exact held_call _ (cO.out _)) | (go_at_call 72; exact held_call _ (cP.out _)) | (go_at_call 111; exact held_call _ (cD.out _))))))
      exact wpQuiet_nil rfl
    · exact fun _ => rfl
    intro x w5 hw5 hF
    have H := H.extra hw5 hF
    simp only [List.drop_succ_cons, List.drop_zero]
    go_wp2_with (first
      | (refine mem_load rfl _ rfl _ _ rfl (by assumption) (by (repeat (first | exact .head _ | refine .tail _ ?_))) ?_; try simp only [Act.put, yI, yC, yZ])
      | (refine mem_store0 rfl _ _ rfl _ _ _ rfl rfl _ (by assumption) ?_; intro w H; try simp only [Act.put, yI, yC, yZ])
      | (refine mem_store2 rfl _ _ rfl _ _ _ rfl rfl _ _ _ (by assumption) ?_; intro w H; try simp only [Act.put, yI, yC, yZ]))
    rw [hres.out] at *
    exact mem_ret Tryz.results97 _ rfl rfl (by assumption) (by (repeat (first | exact .head _ | refine .tail _ ?_)))
end Go.Proofs.YtgnblaaldpniiaaGreatDoor.Sc
end
section
set_option linter.unusedSimpArgs false
set_option linter.unusedVariables false
set_option maxRecDepth 100000
namespace Go.Proofs.YtgnblaaldpniiaaGreatDoor.Sc
open Go.RowKit
theorem red_step (n j : Nat) : (n / 4294967296 ^ j % 4294967296 + 4294967296 * (n / 4294967296 ^ (j + 1) % oN)) % oN = n / 4294967296 ^ j % oN := by
  have e : n / 4294967296 ^ (j + 1) = n / 4294967296 ^ j / 4294967296 := by rw [Nat.div_div_eq_div_mul, Nat.pow_succ]
  rw [e]
  generalize n / 4294967296 ^ j = t
  have h1 := Nat.div_add_mod t 4294967296
  have h2 := Nat.div_add_mod (t / 4294967296) oN
  have h3 : t = (t % 4294967296 + 4294967296 * (t / 4294967296 % oN)) + oN * (4294967296 * (t / 4294967296 / oN)) := by
    rw [Nat.mul_left_comm oN 4294967296]
    omega
  conv => rhs; rw [h3, Nat.add_mul_mod_self_left]
theorem red_lt (n j : Nat) : n / 4294967296 ^ j % 4294967296 + 4294967296 * (n / 4294967296 ^ (j + 1) % oN) < 4294967296 * oN := by
  have h1 : n / 4294967296 ^ j % 4294967296 < 4294967296 := Nat.mod_lt _ (by decide)
  have h2 : n / 4294967296 ^ (j + 1) % oN < oN := Nat.mod_lt _ o_pos
  have h3 : 4294967296 * (n / 4294967296 ^ (j + 1) % oN + 1) ≤ 4294967296 * oN := Nat.mul_le_mul_left _ h2
  rw [Nat.mul_add] at h3
  omega
set_option maxHeartbeats 1000000 in
theorem reduced_any (n : Nat) (hn : n < big) (wS : World) : Calls Tryz.prog 70 #[numV n] wS (NP (n % oN) wS) := by
  have H := Mem.start wS
  have h0 : n / 4294967296 ^ 16 % oN = 0 := by rw [Nat.div_eq_of_lt (show n < 4294967296 ^ 16 from hn)]; rfl
  replace h0 := Kept.mk h0
  clear hn
  rw [numV_eq]
  go_enter Tryz.func70, Tryz.ntmps70
  go_wp2_with (first
    | (refine mem_box rfl _ rfl _ rfl (by assumption) ?_; intro g w H; try simp only [Act.put, yI, yC, yZ])
    | (refine mem_alloc rfl rfl (by assumption) ?_; intro g w H; try simp only [Act.put, yI, yC, yZ]))
  rename_i gn _ _ gr _ _ _ _
  go_loopw [4] (fun v4 wr => ∃ (j : Nat), j ≤ 16 ∧ v4 = .int .i64 ((j : Int) - 1) ∧ Mem wS wr [(g, n / 4294967296 ^ j % oN), (gr, 0), (gn, n)]) (fun v4 _ => (RowKit.intOf v4 + 1).toNat)
  case atStart => exact ⟨16, by omega, rfl, by rw [h0.out]; exact H⟩
  case round =>
    clear H
    obtain ⟨j, hj, rfl, H⟩ := hrel
    by_cases hlt : j = 0
    · subst hlt
      rw [Nat.pow_zero, Nat.div_one] at H
      go_wp2_with (first
        | (refine mem_load rfl _ rfl _ _ rfl (by assumption) (by (repeat (first | exact .head _ | refine .tail _ ?_))) ?_; try simp only [Act.put, yI, yC, yZ])
        | (refine mem_store0 rfl _ _ rfl _ _ _ rfl rfl _ (by assumption) ?_; intro w H; try simp only [Act.put, yI, yC, yZ])
        | (refine mem_store1 rfl _ _ rfl _ _ _ rfl rfl _ _ (by assumption) ?_; intro w H; try simp only [Act.put, yI, yC, yZ]))
      exact mem_ret Tryz.results70 _ rfl rfl (by assumption) (by (repeat (first | exact .head _ | refine .tail _ ?_)))
    · obtain ⟨i, rfl⟩ : ∃ i, j = i + 1 := ⟨j - 1, by omega⟩
      have hst := red_step n i
      have hlo := red_lt n i
      have hwl : n / 4294967296 ^ i % 4294967296 < 4294967296 := Nat.mod_lt _ (by decide)
      have c1 : ∀ u : Held (From wr.drew), u.w.cell? ⟨gn, i, none⟩ = some (.int .u32 ((n / 4294967296 ^ i % 4294967296 : Nat) : Int)) := fun u => (mem_from H u.h).word (.tail _ (.tail _ (.head _))) i (by omega)
      rw [show ((i + 1 : Nat) : Int) - 1 = (i : Int) by omega]
      generalize n / 4294967296 ^ (i + 1) % oN = y at H hst hlo
      generalize n / 4294967296 ^ i % 4294967296 = wd at hst hlo hwl c1
      have cA := Kept.mk fun w => above_any y wd hwl w
      have cR := Kept.mk fun w => remainder_any (wd + 4294967296 * y) hlo w
      rw [hst] at cR
      replace hst := Kept.mk hst
      clear hlo hwl
      have hi0 : (0 : Int) ≤ (i : Int) := by omega
      have hi16 : (i : Int) < 16 := by omega
      have k1 : IntKind.i64.wrap ((i : Int) - 1) = (i : Int) - 1 := by simp [IntKind.wrap, IntKind.signed, IntKind.bits]; omega
      have k2 : wrap64 ((i : Int) - 1) = (i : Int) - 1 := by simp [wrap64]; omega
      go_wp2
      refine wp_region_from_tail 6 (by kernel_rfl) (by kernel_rfl) ?_
      simp only [List.take_succ_cons, List.take_zero, List.drop_succ_cons, List.drop_zero]
      repeat (first
        | (go_big_quiet_want; (refine mem_quiet_load _ rfl _ _ rfl (by assumption) (by (repeat (first | exact .head _ | refine .tail _ ?_))) ?_); try simp only [Act.put, yI, yC, yZ]; go_big_quiet_on)
        | go_big_quiet_step (((first | (go_at_call 96; exact held_call _ (cA.out _)) | (go_at_call 97; exact held_call _ (cR.out _))))))
      refine wpQuiet_nil ?_
      intro w5 hw5
      have H := mem_from H hw5
      clear hw5
      go_wp2_with (first
        | (refine mem_load rfl _ rfl _ _ rfl (by assumption) (by (repeat (first | exact .head _ | refine .tail _ ?_))) ?_; try simp only [Act.put, yI, yC, yZ])
        | (refine mem_store0 rfl _ _ rfl _ _ _ rfl rfl _ (by assumption) ?_; intro w H; try simp only [Act.put, yI, yC, yZ]))
      go_roundw
      case rel => exact ⟨i, by omega, val_eq (by omega), H⟩
      case measure => first | (simp [RowKit.intOf]; done) | (simp [RowKit.intOf]; omega)
end Go.Proofs.YtgnblaaldpniiaaGreatDoor.Sc
end
