/- Package field: elements.
Package field: its calls.
Package field: what its powers are, modulo p; what follows of p's being a prime. No walk. -/
import Derived.Test.YtockcnglennihaaZB
import Derived.BigRegion
section
set_option linter.unusedSimpArgs false
set_option linter.unusedVariables false
namespace Go.Proofs.Ytockcnglennihaa
open Go.RowKit
section
variable {P : Program} {md : Region.Mode} {ops : Array Oper} {Q : Exit → Act → World → Prop} {f : Nat} {listed : Array Bool} {a : Act} {w : World}
theorem wpAny_one (i : Nat) {o : Oper} (hr : Region.ready md ops listed = [i]) (ho : ops[i]? = some o) (hg : o.guard = none) (h : o.wp P a w (wpAny P md ops Q f (listed.setIfInBounds i true)) Q) : wpAny P md ops Q (f + 1) listed a w := by
  refine wpAny_all hr (by simp) fun j hj => ?_
  obtain rfl : j = i := by simpa using hj
  unfold wpOp
  simp only [ho]
  rw [if_pos (by simp [Region.wanted, hg])]
  exact .inl h
theorem wpAny_two (i k : Nat) {o o' : Oper} (hr : Region.ready md ops listed = [i, k]) (ho : ops[i]? = some o) (ho' : ops[k]? = some o') (hg : o.guard = none) (hg' : o'.guard = none)
    (h : o.wp P a w (wpAny P md ops Q f (listed.setIfInBounds i true)) Q) (h' : o'.wp P a w (wpAny P md ops Q f (listed.setIfInBounds k true)) Q) : wpAny P md ops Q (f + 1) listed a w := by
  refine wpAny_all hr (by simp) fun j hj => ?_
  rcases List.mem_cons.1 hj with rfl | hj
  · unfold wpOp
    simp only [ho]
    rw [if_pos (by simp [Region.wanted, hg])]
    exact .inl h
  · obtain rfl : j = k := by simpa using hj
    unfold wpOp
    simp only [ho']
    rw [if_pos (by simp [Region.wanted, hg'])]
    exact .inl h'
end
section
variable {o : Oper} {a : Act} {w0 w : World} {K : Act → World → Prop} {Q : Exit → Act → World → Prop} {L : List (Nat × Nat)}
theorem assign_wp (x : Operand) (ho : o.op = .assign x) (h : K (a.put o.dst (a.eval x)) w) : o.wp Try.prog a w K Q := by
  unfold Oper.wp
  rw [BigFrame.run_assign x ho]
  exact h
theorem mem_load_wp (x : Operand) (ho : o.op = .load 78 x) (g y : Nat) (hx : a.eval x = .pointer (some ⟨g, 0, none⟩)) (H : Mem w0 w L) (hm : (g, y) ∈ L)
    (h : K (a.put o.dst (.agg (numA y))) w) : o.wp Try.prog a w K Q :=
  wp_load_row 78 x ho g hx 78 (numA y) (0, 0) _ (H.holds g y hm) Try.underlying78 rfl (numA_info y) h
theorem mem_store_wp (x v : Operand) (ho : o.op = .store 78 x v) (g old y : Nat) (hx : a.eval x = .pointer (some ⟨g, 0, none⟩)) (hv : a.eval v = .agg (numA y)) (A B : List (Nat × Nat)) (H : Mem w0 w (A ++ (g, old) :: B))
    (h : ∀ w', Mem w0 w' (A ++ (g, y) :: B) → K (a.put o.dst undef) w') : o.wp Try.prog a w K Q :=
  wp_store_row 78 x v ho g (numA y) hx hv 78 (numA old) (H.holds g old (by simp)) (numA_info y) (by rw [numA_size, numA_size]) (numA_one y) (h _ (putN_mid A B H.apart ▸ H.put (x := old) (by simp) y))
theorem mem_store2_wp (x v : Operand) (ho : o.op = .store 78 x v) (g old y : Nat) (hx : a.eval x = .pointer (some ⟨g, 0, none⟩)) (hv : a.eval v = .agg (numA y)) (p q : Nat × Nat) (B : List (Nat × Nat)) (H : Mem w0 w (p :: q :: (g, old) :: B))
    (h : ∀ w', Mem w0 w' (p :: q :: (g, y) :: B) → K (a.put o.dst undef) w') : o.wp Try.prog a w K Q := mem_store_wp x v ho g old y hx hv [p, q] B H h
theorem mem_store3_wp (x v : Operand) (ho : o.op = .store 78 x v) (g old y : Nat) (hx : a.eval x = .pointer (some ⟨g, 0, none⟩)) (hv : a.eval v = .agg (numA y)) (p q r : Nat × Nat) (B : List (Nat × Nat)) (H : Mem w0 w (p :: q :: r :: (g, old) :: B))
    (h : ∀ w', Mem w0 w' (p :: q :: r :: (g, y) :: B) → K (a.put o.dst undef) w') : o.wp Try.prog a w K Q := mem_store_wp x v ho g old y hx hv [p, q, r] B H h
end
/-- Are bytes an element's? -/
def isEl (l : List UInt8) : Bool := decide (l.length = 32) && decide (numB l < pF)
def elN (l : List UInt8) : Nat := if l.length = 32 then numB l else 0
theorem isEl_len {l : List UInt8} (h : isEl l = true) : l.length = 32 := by unfold isEl at h; simp at h; exact h.1
theorem isEl_lt {l : List UInt8} (h : isEl l = true) : numB l < pF := by unfold isEl at h; simp at h; exact h.2
theorem elN_eq {l : List UInt8} (h : isEl l = true) : elN l = numB l := if_pos (isEl_len h)
theorem elN_lt {l : List UInt8} (h : isEl l = true) : elN l < pF := by rw [elN_eq h]; exact isEl_lt h
theorem elN_big (l : List UInt8) : elN l < big := by
  unfold elN
  split
  · rename_i h; exact numB_lt l h
  · decide +kernel
def ElPost (x : Nat) (b : Bool) (w : World) (e : Ending) (w' : World) : Prop := e = .returned (.tuple #[numV x, .bool b]) ∧ Below w.heap.size w w'
set_option maxHeartbeats 1000000 in
theorem element_any (l : List UInt8) (wS : World) : Calls Try.prog 63 #[.string (S l)] wS (ElPost (elN l) (isEl l) wS) := by
  have H := Mem.start wS
  by_cases hl : l.length = 32
  · have hsz : (S l).size = 32 := by rw [S_size, hl]
    have cP := Kept.mk fun w => parse_any l hl w
    have hbg := numB_lt l hl
    have e1 : elN l = numB l := if_pos hl
    by_cases hp : numB l < pF
    · have e2 : isEl l = true := by unfold isEl; simp [hl, hp]
      have cR := Kept.mk fun w => isRed_yes (numB l) hbg hp w
      rw [e1, e2]
      clear e1 e2 hp hl hbg
      go_enter Try.func63, Try.ntmps63
      go_wp2_with (first
        | (refine mem_box rfl _ rfl _ rfl (by assumption) ?_; intro g w H; try simp only [Act.put, List.setIfInBounds_toArray, List.set_cons_succ, List.set_cons_zero])
        | (refine mem_alloc rfl rfl (by assumption) ?_; intro g w H; try simp only [Act.put, List.setIfInBounds_toArray, List.set_cons_succ, List.set_cons_zero])
        | (refine mem_load rfl _ rfl _ _ rfl (by assumption) (by (first | exact .head _ | exact .tail _ (.head _) | exact .tail _ (.tail _ (.head _)) | exact .tail _ (.tail _ (.tail _ (.head _))) | exact .tail _ (.tail _ (.tail _ (.tail _ (.head _)))))) ?_; try simp only [Act.put, List.setIfInBounds_toArray, List.set_cons_succ, List.set_cons_zero])
        | (refine mem_store0 rfl _ _ rfl _ _ _ rfl rfl _ (by assumption) ?_; intro w H; try simp only [Act.put, List.setIfInBounds_toArray, List.set_cons_succ, List.set_cons_zero])
        | (refine mem_store1 rfl _ _ rfl _ _ _ rfl rfl _ _ (by assumption) ?_; intro w H; try simp only [Act.put, List.setIfInBounds_toArray, List.set_cons_succ, List.set_cons_zero])
        | (refine mem_store2 rfl _ _ rfl _ _ _ rfl rfl _ _ _ (by assumption) ?_; intro w H; try simp only [Act.put, List.setIfInBounds_toArray, List.set_cons_succ, List.set_cons_zero])
        | (refine mem_store3 rfl _ _ rfl _ _ _ rfl rfl _ _ _ _ (by assumption) ?_; intro w H; try simp only [Act.put, List.setIfInBounds_toArray, List.set_cons_succ, List.set_cons_zero])
        | (refine mem_build rfl rfl ?_; try simp only [Act.put, List.setIfInBounds_toArray, List.set_cons_succ, List.set_cons_zero])
        | (go_at_call 72; refine mem_call (by assumption) (cP.out _) ?_; intro w H))
      refine wp_region_from_tail 3 (by kernel_rfl) (by kernel_rfl) ?_
      simp only [List.take_succ_cons, List.take_zero, List.drop_succ_cons, List.drop_zero]
      repeat (first
        | (go_big_quiet_want; (refine mem_quiet_load _ rfl _ _ rfl (by assumption) (by (first | exact .head _ | exact .tail _ (.head _) | exact .tail _ (.tail _ (.head _)) | exact .tail _ (.tail _ (.tail _ (.head _))) | exact .tail _ (.tail _ (.tail _ (.tail _ (.head _)))))) ?_); try simp only [Act.put, List.setIfInBounds_toArray, List.set_cons_succ, List.set_cons_zero]; go_big_quiet_on)
        | go_big_quiet_step (((first | (go_at_call 73; exact held_call _ (cR.out _))))))
      refine wpQuiet_nil ?_
      intro w5 hw5
      have H := mem_from H hw5
      clear hw5
      go_wp2_with (first
        | (refine mem_box rfl _ rfl _ rfl (by assumption) ?_; intro g w H; try simp only [Act.put, List.setIfInBounds_toArray, List.set_cons_succ, List.set_cons_zero])
        | (refine mem_alloc rfl rfl (by assumption) ?_; intro g w H; try simp only [Act.put, List.setIfInBounds_toArray, List.set_cons_succ, List.set_cons_zero])
        | (refine mem_load rfl _ rfl _ _ rfl (by assumption) (by (first | exact .head _ | exact .tail _ (.head _) | exact .tail _ (.tail _ (.head _)) | exact .tail _ (.tail _ (.tail _ (.head _))) | exact .tail _ (.tail _ (.tail _ (.tail _ (.head _)))))) ?_; try simp only [Act.put, List.setIfInBounds_toArray, List.set_cons_succ, List.set_cons_zero])
        | (refine mem_store0 rfl _ _ rfl _ _ _ rfl rfl _ (by assumption) ?_; intro w H; try simp only [Act.put, List.setIfInBounds_toArray, List.set_cons_succ, List.set_cons_zero])
        | (refine mem_store1 rfl _ _ rfl _ _ _ rfl rfl _ _ (by assumption) ?_; intro w H; try simp only [Act.put, List.setIfInBounds_toArray, List.set_cons_succ, List.set_cons_zero])
        | (refine mem_store2 rfl _ _ rfl _ _ _ rfl rfl _ _ _ (by assumption) ?_; intro w H; try simp only [Act.put, List.setIfInBounds_toArray, List.set_cons_succ, List.set_cons_zero])
        | (refine mem_store3 rfl _ _ rfl _ _ _ rfl rfl _ _ _ _ (by assumption) ?_; intro w H; try simp only [Act.put, List.setIfInBounds_toArray, List.set_cons_succ, List.set_cons_zero])
        | (refine mem_build rfl rfl ?_; try simp only [Act.put, List.setIfInBounds_toArray, List.set_cons_succ, List.set_cons_zero]))
      exact mem_ret2 Try.results63 _ rfl rfl rfl (by assumption) (by (first | exact .head _ | exact .tail _ (.head _) | exact .tail _ (.tail _ (.head _)) | exact .tail _ (.tail _ (.tail _ (.head _))) | exact .tail _ (.tail _ (.tail _ (.tail _ (.head _)))))) ⟨rfl, H.below⟩
    · have e2 : isEl l = false := by unfold isEl; simp [hp]
      have cR := Kept.mk fun w => isRed_no (numB l) hbg hp w
      rw [e1, e2]
      clear e1 e2 hp hl hbg
      go_enter Try.func63, Try.ntmps63
      go_wp2_with (first
        | (refine mem_box rfl _ rfl _ rfl (by assumption) ?_; intro g w H; try simp only [Act.put, List.setIfInBounds_toArray, List.set_cons_succ, List.set_cons_zero])
        | (refine mem_alloc rfl rfl (by assumption) ?_; intro g w H; try simp only [Act.put, List.setIfInBounds_toArray, List.set_cons_succ, List.set_cons_zero])
        | (refine mem_load rfl _ rfl _ _ rfl (by assumption) (by (first | exact .head _ | exact .tail _ (.head _) | exact .tail _ (.tail _ (.head _)) | exact .tail _ (.tail _ (.tail _ (.head _))) | exact .tail _ (.tail _ (.tail _ (.tail _ (.head _)))))) ?_; try simp only [Act.put, List.setIfInBounds_toArray, List.set_cons_succ, List.set_cons_zero])
        | (refine mem_store0 rfl _ _ rfl _ _ _ rfl rfl _ (by assumption) ?_; intro w H; try simp only [Act.put, List.setIfInBounds_toArray, List.set_cons_succ, List.set_cons_zero])
        | (refine mem_store1 rfl _ _ rfl _ _ _ rfl rfl _ _ (by assumption) ?_; intro w H; try simp only [Act.put, List.setIfInBounds_toArray, List.set_cons_succ, List.set_cons_zero])
        | (refine mem_store2 rfl _ _ rfl _ _ _ rfl rfl _ _ _ (by assumption) ?_; intro w H; try simp only [Act.put, List.setIfInBounds_toArray, List.set_cons_succ, List.set_cons_zero])
        | (refine mem_store3 rfl _ _ rfl _ _ _ rfl rfl _ _ _ _ (by assumption) ?_; intro w H; try simp only [Act.put, List.setIfInBounds_toArray, List.set_cons_succ, List.set_cons_zero])
        | (refine mem_build rfl rfl ?_; try simp only [Act.put, List.setIfInBounds_toArray, List.set_cons_succ, List.set_cons_zero])
        | (go_at_call 72; refine mem_call (by assumption) (cP.out _) ?_; intro w H))
      refine wp_region_from_tail 3 (by kernel_rfl) (by kernel_rfl) ?_
      simp only [List.take_succ_cons, List.take_zero, List.drop_succ_cons, List.drop_zero]
      repeat (first
        | (go_big_quiet_want; (refine mem_quiet_load _ rfl _ _ rfl (by assumption) (by (first | exact .head _ | exact .tail _ (.head _) | exact .tail _ (.tail _ (.head _)) | exact .tail _ (.tail _ (.tail _ (.head _))) | exact .tail _ (.tail _ (.tail _ (.tail _ (.head _)))))) ?_); try simp only [Act.put, List.setIfInBounds_toArray, List.set_cons_succ, List.set_cons_zero]; go_big_quiet_on)
        | go_big_quiet_step (((first | (go_at_call 73; exact held_call _ (cR.out _))))))
      refine wpQuiet_nil ?_
      intro w5 hw5
      have H := mem_from H hw5
      clear hw5
      go_wp2_with (first
        | (refine mem_box rfl _ rfl _ rfl (by assumption) ?_; intro g w H; try simp only [Act.put, List.setIfInBounds_toArray, List.set_cons_succ, List.set_cons_zero])
        | (refine mem_alloc rfl rfl (by assumption) ?_; intro g w H; try simp only [Act.put, List.setIfInBounds_toArray, List.set_cons_succ, List.set_cons_zero])
        | (refine mem_load rfl _ rfl _ _ rfl (by assumption) (by (first | exact .head _ | exact .tail _ (.head _) | exact .tail _ (.tail _ (.head _)) | exact .tail _ (.tail _ (.tail _ (.head _))) | exact .tail _ (.tail _ (.tail _ (.tail _ (.head _)))))) ?_; try simp only [Act.put, List.setIfInBounds_toArray, List.set_cons_succ, List.set_cons_zero])
        | (refine mem_store0 rfl _ _ rfl _ _ _ rfl rfl _ (by assumption) ?_; intro w H; try simp only [Act.put, List.setIfInBounds_toArray, List.set_cons_succ, List.set_cons_zero])
        | (refine mem_store1 rfl _ _ rfl _ _ _ rfl rfl _ _ (by assumption) ?_; intro w H; try simp only [Act.put, List.setIfInBounds_toArray, List.set_cons_succ, List.set_cons_zero])
        | (refine mem_store2 rfl _ _ rfl _ _ _ rfl rfl _ _ _ (by assumption) ?_; intro w H; try simp only [Act.put, List.setIfInBounds_toArray, List.set_cons_succ, List.set_cons_zero])
        | (refine mem_store3 rfl _ _ rfl _ _ _ rfl rfl _ _ _ _ (by assumption) ?_; intro w H; try simp only [Act.put, List.setIfInBounds_toArray, List.set_cons_succ, List.set_cons_zero])
        | (refine mem_build rfl rfl ?_; try simp only [Act.put, List.setIfInBounds_toArray, List.set_cons_succ, List.set_cons_zero]))
      exact mem_ret2 Try.results63 _ rfl rfl rfl (by assumption) (by (first | exact .head _ | exact .tail _ (.head _) | exact .tail _ (.tail _ (.head _)) | exact .tail _ (.tail _ (.tail _ (.head _))) | exact .tail _ (.tail _ (.tail _ (.tail _ (.head _)))))) ⟨rfl, H.below⟩
  · have e1 : elN l = 0 := if_neg hl
    have e2 : isEl l = false := by unfold isEl; simp [hl]
    have hsz : (((S l).size : Int) != 32) = true := by rw [S_size]; simp; omega
    rw [e1, e2]
    clear e1 e2 hl
    go_enter Try.func63, Try.ntmps63
    go_wp2_with (first
      | (refine mem_box rfl _ rfl _ rfl (by assumption) ?_; intro g w H; try simp only [Act.put, List.setIfInBounds_toArray, List.set_cons_succ, List.set_cons_zero])
      | (refine mem_alloc rfl rfl (by assumption) ?_; intro g w H; try simp only [Act.put, List.setIfInBounds_toArray, List.set_cons_succ, List.set_cons_zero])
      | (refine mem_load rfl _ rfl _ _ rfl (by assumption) (by (first | exact .head _ | exact .tail _ (.head _) | exact .tail _ (.tail _ (.head _)) | exact .tail _ (.tail _ (.tail _ (.head _))) | exact .tail _ (.tail _ (.tail _ (.tail _ (.head _)))))) ?_; try simp only [Act.put, List.setIfInBounds_toArray, List.set_cons_succ, List.set_cons_zero])
      | (refine mem_store0 rfl _ _ rfl _ _ _ rfl rfl _ (by assumption) ?_; intro w H; try simp only [Act.put, List.setIfInBounds_toArray, List.set_cons_succ, List.set_cons_zero])
      | (refine mem_store1 rfl _ _ rfl _ _ _ rfl rfl _ _ (by assumption) ?_; intro w H; try simp only [Act.put, List.setIfInBounds_toArray, List.set_cons_succ, List.set_cons_zero])
      | (refine mem_store2 rfl _ _ rfl _ _ _ rfl rfl _ _ _ (by assumption) ?_; intro w H; try simp only [Act.put, List.setIfInBounds_toArray, List.set_cons_succ, List.set_cons_zero])
      | (refine mem_store3 rfl _ _ rfl _ _ _ rfl rfl _ _ _ _ (by assumption) ?_; intro w H; try simp only [Act.put, List.setIfInBounds_toArray, List.set_cons_succ, List.set_cons_zero])
      | (refine mem_build rfl rfl ?_; try simp only [Act.put, List.setIfInBounds_toArray, List.set_cons_succ, List.set_cons_zero]))
    exact mem_ret2 Try.results63 _ rfl rfl rfl (by assumption) (by (first | exact .head _ | exact .tail _ (.head _) | exact .tail _ (.tail _ (.head _)) | exact .tail _ (.tail _ (.tail _ (.head _))) | exact .tail _ (.tail _ (.tail _ (.tail _ (.head _)))))) ⟨rfl, H.below⟩
def ElsPost (x y : Nat) (b : Bool) (w : World) (e : Ending) (w' : World) : Prop := e = .returned (.tuple #[numV x, numV y, .bool b]) ∧ Below w.heap.size w w'
set_option maxHeartbeats 1000000 in
theorem elements_any (l m : List UInt8) (wS : World) : Calls Try.prog 75 #[.string (S l), .string (S m)] wS (ElsPost (elN l) (elN m) (isEl l && isEl m) wS) := by
  have H := Mem.start wS
  have cL := Kept.mk fun w => element_any l w
  have cM := Kept.mk fun w => element_any m w
  obtain ⟨b2, hb2⟩ : ∃ b, isEl m = b := ⟨_, rfl⟩
  rw [hb2] at cM ⊢
  unfold ElPost at cL cM
  replace hb2 := Kept.mk hb2
  cases hb1 : isEl l
  · rw [hb1] at cL
    rw [Bool.false_and]
    replace hb1 := Kept.mk hb1
    go_enter Try.func75, Try.ntmps75
    go_wp2_with (first
      | (refine mem_box rfl _ rfl _ rfl (by assumption) ?_; intro g w H; try simp only [Act.put, List.setIfInBounds_toArray, List.set_cons_succ, List.set_cons_zero])
      | (refine mem_alloc rfl rfl (by assumption) ?_; intro g w H; try simp only [Act.put, List.setIfInBounds_toArray, List.set_cons_succ, List.set_cons_zero])
      | (refine mem_load rfl _ rfl _ _ rfl (by assumption) (by (first | exact .head _ | exact .tail _ (.head _) | exact .tail _ (.tail _ (.head _)) | exact .tail _ (.tail _ (.tail _ (.head _))) | exact .tail _ (.tail _ (.tail _ (.tail _ (.head _)))))) ?_; try simp only [Act.put, List.setIfInBounds_toArray, List.set_cons_succ, List.set_cons_zero])
      | (refine mem_store0 rfl _ _ rfl _ _ _ rfl rfl _ (by assumption) ?_; intro w H; try simp only [Act.put, List.setIfInBounds_toArray, List.set_cons_succ, List.set_cons_zero])
      | (refine mem_store1 rfl _ _ rfl _ _ _ rfl rfl _ _ (by assumption) ?_; intro w H; try simp only [Act.put, List.setIfInBounds_toArray, List.set_cons_succ, List.set_cons_zero])
      | (refine mem_store2 rfl _ _ rfl _ _ _ rfl rfl _ _ _ (by assumption) ?_; intro w H; try simp only [Act.put, List.setIfInBounds_toArray, List.set_cons_succ, List.set_cons_zero])
      | (refine mem_store3 rfl _ _ rfl _ _ _ rfl rfl _ _ _ _ (by assumption) ?_; intro w H; try simp only [Act.put, List.setIfInBounds_toArray, List.set_cons_succ, List.set_cons_zero])
      | (refine mem_build rfl rfl ?_; try simp only [Act.put, List.setIfInBounds_toArray, List.set_cons_succ, List.set_cons_zero])
      | (go_at_call_of 63 (Value.string (S l)); refine mem_call (by assumption) (cL.out _) ?_; intro w H)
      | (go_at_call_of 63 (Value.string (S m)); refine mem_call (by assumption) (cM.out _) ?_; intro w H))
    refine wp_region_any (by kernel_rfl) ?_
    have H := H.grow (Below.refl _ _).drew
    refine wpAny_take (i := 2) (v := .bool false) rfl (by kernel_rfl) (by kernel_rfl) (by kernel_rfl) (fun _ _ _ h => h) (Or.inl ⟨by rfl, fun w => by rfl⟩) ?_
    try simp only [Act.put, List.setIfInBounds_toArray, List.set_cons_succ, List.set_cons_zero]
    refine wpAny_take (i := 3) (v := .bool false) rfl (by kernel_rfl) (by kernel_rfl) (by kernel_rfl) (fun _ _ _ h => h) (Or.inl ⟨by rfl, fun w => by rfl⟩) ?_
    try simp only [Act.put, List.setIfInBounds_toArray, List.set_cons_succ, List.set_cons_zero]
    refine wpAny_take (i := 4) (v := undef) rfl (by kernel_rfl) (by kernel_rfl) (by kernel_rfl) (fun _ _ _ h => h) (Or.inr ⟨by rfl, rfl⟩) ?_
    try simp only [Act.put, List.setIfInBounds_toArray, List.set_cons_succ, List.set_cons_zero]
    refine wpAny_take (i := 5) (v := .bool false) rfl (by kernel_rfl) (by kernel_rfl) (by kernel_rfl) (fun _ _ _ h => h) (Or.inl ⟨by rfl, fun w => by rfl⟩) ?_
    try simp only [Act.put, List.setIfInBounds_toArray, List.set_cons_succ, List.set_cons_zero]
    refine wpAny_two 0 1 (by kernel_rfl) rfl rfl rfl rfl ?_ ?_ <;> simp only [List.getElem_toArray, List.getElem_cons_succ, List.getElem_cons_zero]
    · refine mem_load_wp _ rfl _ _ rfl (by assumption) (by (first | exact .head _ | exact .tail _ (.head _) | exact .tail _ (.tail _ (.head _)) | exact .tail _ (.tail _ (.tail _ (.head _))) | exact .tail _ (.tail _ (.tail _ (.tail _ (.head _)))))) ?_
      try simp only [Act.put, List.setIfInBounds_toArray, List.set_cons_succ, List.set_cons_zero]
      refine wpAny_two 1 6 (by kernel_rfl) rfl rfl rfl rfl ?_ ?_ <;> simp only [List.getElem_toArray, List.getElem_cons_succ, List.getElem_cons_zero]
      · refine mem_load_wp _ rfl _ _ rfl (by assumption) (by (first | exact .head _ | exact .tail _ (.head _) | exact .tail _ (.tail _ (.head _)) | exact .tail _ (.tail _ (.tail _ (.head _))) | exact .tail _ (.tail _ (.tail _ (.tail _ (.head _)))))) ?_
        try simp only [Act.put, List.setIfInBounds_toArray, List.set_cons_succ, List.set_cons_zero]
        refine wpAny_one 6 (by kernel_rfl) rfl rfl ?_
        simp only [List.getElem_toArray, List.getElem_cons_succ, List.getElem_cons_zero]
        refine mem_store3_wp _ _ rfl _ _ _ rfl rfl _ _ _ _ (by assumption) ?_
        intro w H
        try simp only [Act.put, List.setIfInBounds_toArray, List.set_cons_succ, List.set_cons_zero]
        refine wpAny_one 7 (by kernel_rfl) rfl rfl ?_
        simp only [List.getElem_toArray, List.getElem_cons_succ, List.getElem_cons_zero]
        refine mem_store2_wp _ _ rfl _ _ _ rfl rfl _ _ _ (by assumption) ?_
        intro w H
        try simp only [Act.put, List.setIfInBounds_toArray, List.set_cons_succ, List.set_cons_zero]
        refine wpAny_one 8 (by kernel_rfl) rfl rfl ?_
        simp only [List.getElem_toArray, List.getElem_cons_succ, List.getElem_cons_zero]
        refine assign_wp _ rfl ?_
        try simp only [Act.put, List.setIfInBounds_toArray, List.set_cons_succ, List.set_cons_zero]
        refine wpAny_done (by kernel_rfl) ?_ _
        (go_wp2; exact mem_ret3 Try.results75 _ rfl rfl rfl rfl (by assumption) (by (first | exact .head _ | exact .tail _ (.head _) | exact .tail _ (.tail _ (.head _)) | exact .tail _ (.tail _ (.tail _ (.head _))) | exact .tail _ (.tail _ (.tail _ (.tail _ (.head _)))))) (by (first | exact .head _ | exact .tail _ (.head _) | exact .tail _ (.tail _ (.head _)) | exact .tail _ (.tail _ (.tail _ (.head _))) | exact .tail _ (.tail _ (.tail _ (.tail _ (.head _)))))) ⟨rfl, H.below⟩)
      · refine mem_store3_wp _ _ rfl _ _ _ rfl rfl _ _ _ _ (by assumption) ?_
        intro w H
        try simp only [Act.put, List.setIfInBounds_toArray, List.set_cons_succ, List.set_cons_zero]
        refine wpAny_one 1 (by kernel_rfl) rfl rfl ?_
        simp only [List.getElem_toArray, List.getElem_cons_succ, List.getElem_cons_zero]
        refine mem_load_wp _ rfl _ _ rfl (by assumption) (by (first | exact .head _ | exact .tail _ (.head _) | exact .tail _ (.tail _ (.head _)) | exact .tail _ (.tail _ (.tail _ (.head _))) | exact .tail _ (.tail _ (.tail _ (.tail _ (.head _)))))) ?_
        try simp only [Act.put, List.setIfInBounds_toArray, List.set_cons_succ, List.set_cons_zero]
        refine wpAny_one 7 (by kernel_rfl) rfl rfl ?_
        simp only [List.getElem_toArray, List.getElem_cons_succ, List.getElem_cons_zero]
        refine mem_store2_wp _ _ rfl _ _ _ rfl rfl _ _ _ (by assumption) ?_
        intro w H
        try simp only [Act.put, List.setIfInBounds_toArray, List.set_cons_succ, List.set_cons_zero]
        refine wpAny_one 8 (by kernel_rfl) rfl rfl ?_
        simp only [List.getElem_toArray, List.getElem_cons_succ, List.getElem_cons_zero]
        refine assign_wp _ rfl ?_
        try simp only [Act.put, List.setIfInBounds_toArray, List.set_cons_succ, List.set_cons_zero]
        refine wpAny_done (by kernel_rfl) ?_ _
        (go_wp2; exact mem_ret3 Try.results75 _ rfl rfl rfl rfl (by assumption) (by (first | exact .head _ | exact .tail _ (.head _) | exact .tail _ (.tail _ (.head _)) | exact .tail _ (.tail _ (.tail _ (.head _))) | exact .tail _ (.tail _ (.tail _ (.tail _ (.head _)))))) (by (first | exact .head _ | exact .tail _ (.head _) | exact .tail _ (.tail _ (.head _)) | exact .tail _ (.tail _ (.tail _ (.head _))) | exact .tail _ (.tail _ (.tail _ (.tail _ (.head _)))))) ⟨rfl, H.below⟩)
    · refine mem_load_wp _ rfl _ _ rfl (by assumption) (by (first | exact .head _ | exact .tail _ (.head _) | exact .tail _ (.tail _ (.head _)) | exact .tail _ (.tail _ (.tail _ (.head _))) | exact .tail _ (.tail _ (.tail _ (.tail _ (.head _)))))) ?_
      try simp only [Act.put, List.setIfInBounds_toArray, List.set_cons_succ, List.set_cons_zero]
      refine wpAny_one 0 (by kernel_rfl) rfl rfl ?_
      simp only [List.getElem_toArray, List.getElem_cons_succ, List.getElem_cons_zero]
      refine mem_load_wp _ rfl _ _ rfl (by assumption) (by (first | exact .head _ | exact .tail _ (.head _) | exact .tail _ (.tail _ (.head _)) | exact .tail _ (.tail _ (.tail _ (.head _))) | exact .tail _ (.tail _ (.tail _ (.tail _ (.head _)))))) ?_
      try simp only [Act.put, List.setIfInBounds_toArray, List.set_cons_succ, List.set_cons_zero]
      refine wpAny_one 6 (by kernel_rfl) rfl rfl ?_
      simp only [List.getElem_toArray, List.getElem_cons_succ, List.getElem_cons_zero]
      refine mem_store3_wp _ _ rfl _ _ _ rfl rfl _ _ _ _ (by assumption) ?_
      intro w H
      try simp only [Act.put, List.setIfInBounds_toArray, List.set_cons_succ, List.set_cons_zero]
      refine wpAny_one 7 (by kernel_rfl) rfl rfl ?_
      simp only [List.getElem_toArray, List.getElem_cons_succ, List.getElem_cons_zero]
      refine mem_store2_wp _ _ rfl _ _ _ rfl rfl _ _ _ (by assumption) ?_
      intro w H
      try simp only [Act.put, List.setIfInBounds_toArray, List.set_cons_succ, List.set_cons_zero]
      refine wpAny_one 8 (by kernel_rfl) rfl rfl ?_
      simp only [List.getElem_toArray, List.getElem_cons_succ, List.getElem_cons_zero]
      refine assign_wp _ rfl ?_
      try simp only [Act.put, List.setIfInBounds_toArray, List.set_cons_succ, List.set_cons_zero]
      refine wpAny_done (by kernel_rfl) ?_ _
      (go_wp2; exact mem_ret3 Try.results75 _ rfl rfl rfl rfl (by assumption) (by (first | exact .head _ | exact .tail _ (.head _) | exact .tail _ (.tail _ (.head _)) | exact .tail _ (.tail _ (.tail _ (.head _))) | exact .tail _ (.tail _ (.tail _ (.tail _ (.head _)))))) (by (first | exact .head _ | exact .tail _ (.head _) | exact .tail _ (.tail _ (.head _)) | exact .tail _ (.tail _ (.tail _ (.head _))) | exact .tail _ (.tail _ (.tail _ (.tail _ (.head _)))))) ⟨rfl, H.below⟩)
  · rw [hb1] at cL
    rw [Bool.true_and]
    replace hb1 := Kept.mk hb1
    go_enter Try.func75, Try.ntmps75
    go_wp2_with (first
      | (refine mem_box rfl _ rfl _ rfl (by assumption) ?_; intro g w H; try simp only [Act.put, List.setIfInBounds_toArray, List.set_cons_succ, List.set_cons_zero])
      | (refine mem_alloc rfl rfl (by assumption) ?_; intro g w H; try simp only [Act.put, List.setIfInBounds_toArray, List.set_cons_succ, List.set_cons_zero])
      | (refine mem_load rfl _ rfl _ _ rfl (by assumption) (by (first | exact .head _ | exact .tail _ (.head _) | exact .tail _ (.tail _ (.head _)) | exact .tail _ (.tail _ (.tail _ (.head _))) | exact .tail _ (.tail _ (.tail _ (.tail _ (.head _)))))) ?_; try simp only [Act.put, List.setIfInBounds_toArray, List.set_cons_succ, List.set_cons_zero])
      | (refine mem_store0 rfl _ _ rfl _ _ _ rfl rfl _ (by assumption) ?_; intro w H; try simp only [Act.put, List.setIfInBounds_toArray, List.set_cons_succ, List.set_cons_zero])
      | (refine mem_store1 rfl _ _ rfl _ _ _ rfl rfl _ _ (by assumption) ?_; intro w H; try simp only [Act.put, List.setIfInBounds_toArray, List.set_cons_succ, List.set_cons_zero])
      | (refine mem_store2 rfl _ _ rfl _ _ _ rfl rfl _ _ _ (by assumption) ?_; intro w H; try simp only [Act.put, List.setIfInBounds_toArray, List.set_cons_succ, List.set_cons_zero])
      | (refine mem_store3 rfl _ _ rfl _ _ _ rfl rfl _ _ _ _ (by assumption) ?_; intro w H; try simp only [Act.put, List.setIfInBounds_toArray, List.set_cons_succ, List.set_cons_zero])
      | (refine mem_build rfl rfl ?_; try simp only [Act.put, List.setIfInBounds_toArray, List.set_cons_succ, List.set_cons_zero])
      | (go_at_call_of 63 (Value.string (S l)); refine mem_call (by assumption) (cL.out _) ?_; intro w H)
      | (go_at_call_of 63 (Value.string (S m)); refine mem_call (by assumption) (cM.out _) ?_; intro w H))
    refine wp_region_any (by kernel_rfl) ?_
    have H := H.grow (Below.refl _ _).drew
    refine wpAny_take (i := 2) (v := .bool true) rfl (by kernel_rfl) (by kernel_rfl) (by kernel_rfl) (fun _ _ _ h => h) (Or.inl ⟨by rfl, fun w => by rfl⟩) ?_
    try simp only [Act.put, List.setIfInBounds_toArray, List.set_cons_succ, List.set_cons_zero]
    refine wpAny_take (i := 3) (v := .bool true) rfl (by kernel_rfl) (by kernel_rfl) (by kernel_rfl) (fun _ _ _ h => h) (Or.inl ⟨by rfl, fun w => by rfl⟩) ?_
    try simp only [Act.put, List.setIfInBounds_toArray, List.set_cons_succ, List.set_cons_zero]
    refine wpAny_take (i := 4) (v := .bool b2) rfl (by kernel_rfl) (by kernel_rfl) (by kernel_rfl) (fun _ _ _ h => h) (Or.inl ⟨by rfl, fun w => by rfl⟩) ?_
    try simp only [Act.put, List.setIfInBounds_toArray, List.set_cons_succ, List.set_cons_zero]
    refine wpAny_take (i := 5) (v := .bool b2) rfl (by kernel_rfl) (by kernel_rfl) (by kernel_rfl) (fun _ _ _ h => h) (Or.inl ⟨by rfl, fun w => by rfl⟩) ?_
    try simp only [Act.put, List.setIfInBounds_toArray, List.set_cons_succ, List.set_cons_zero]
    refine wpAny_two 0 1 (by kernel_rfl) rfl rfl rfl rfl ?_ ?_ <;> simp only [List.getElem_toArray, List.getElem_cons_succ, List.getElem_cons_zero]
    · refine mem_load_wp _ rfl _ _ rfl (by assumption) (by (first | exact .head _ | exact .tail _ (.head _) | exact .tail _ (.tail _ (.head _)) | exact .tail _ (.tail _ (.tail _ (.head _))) | exact .tail _ (.tail _ (.tail _ (.tail _ (.head _)))))) ?_
      try simp only [Act.put, List.setIfInBounds_toArray, List.set_cons_succ, List.set_cons_zero]
      refine wpAny_two 1 6 (by kernel_rfl) rfl rfl rfl rfl ?_ ?_ <;> simp only [List.getElem_toArray, List.getElem_cons_succ, List.getElem_cons_zero]
      · refine mem_load_wp _ rfl _ _ rfl (by assumption) (by (first | exact .head _ | exact .tail _ (.head _) | exact .tail _ (.tail _ (.head _)) | exact .tail _ (.tail _ (.tail _ (.head _))) | exact .tail _ (.tail _ (.tail _ (.tail _ (.head _)))))) ?_
        try simp only [Act.put, List.setIfInBounds_toArray, List.set_cons_succ, List.set_cons_zero]
        refine wpAny_one 6 (by kernel_rfl) rfl rfl ?_
        simp only [List.getElem_toArray, List.getElem_cons_succ, List.getElem_cons_zero]
        refine mem_store3_wp _ _ rfl _ _ _ rfl rfl _ _ _ _ (by assumption) ?_
        intro w H
        try simp only [Act.put, List.setIfInBounds_toArray, List.set_cons_succ, List.set_cons_zero]
        refine wpAny_one 7 (by kernel_rfl) rfl rfl ?_
        simp only [List.getElem_toArray, List.getElem_cons_succ, List.getElem_cons_zero]
        refine mem_store2_wp _ _ rfl _ _ _ rfl rfl _ _ _ (by assumption) ?_
        intro w H
        try simp only [Act.put, List.setIfInBounds_toArray, List.set_cons_succ, List.set_cons_zero]
        refine wpAny_one 8 (by kernel_rfl) rfl rfl ?_
        simp only [List.getElem_toArray, List.getElem_cons_succ, List.getElem_cons_zero]
        refine assign_wp _ rfl ?_
        try simp only [Act.put, List.setIfInBounds_toArray, List.set_cons_succ, List.set_cons_zero]
        refine wpAny_done (by kernel_rfl) ?_ _
        (go_wp2; exact mem_ret3 Try.results75 _ rfl rfl rfl rfl (by assumption) (by (first | exact .head _ | exact .tail _ (.head _) | exact .tail _ (.tail _ (.head _)) | exact .tail _ (.tail _ (.tail _ (.head _))) | exact .tail _ (.tail _ (.tail _ (.tail _ (.head _)))))) (by (first | exact .head _ | exact .tail _ (.head _) | exact .tail _ (.tail _ (.head _)) | exact .tail _ (.tail _ (.tail _ (.head _))) | exact .tail _ (.tail _ (.tail _ (.tail _ (.head _)))))) ⟨rfl, H.below⟩)
      · refine mem_store3_wp _ _ rfl _ _ _ rfl rfl _ _ _ _ (by assumption) ?_
        intro w H
        try simp only [Act.put, List.setIfInBounds_toArray, List.set_cons_succ, List.set_cons_zero]
        refine wpAny_one 1 (by kernel_rfl) rfl rfl ?_
        simp only [List.getElem_toArray, List.getElem_cons_succ, List.getElem_cons_zero]
        refine mem_load_wp _ rfl _ _ rfl (by assumption) (by (first | exact .head _ | exact .tail _ (.head _) | exact .tail _ (.tail _ (.head _)) | exact .tail _ (.tail _ (.tail _ (.head _))) | exact .tail _ (.tail _ (.tail _ (.tail _ (.head _)))))) ?_
        try simp only [Act.put, List.setIfInBounds_toArray, List.set_cons_succ, List.set_cons_zero]
        refine wpAny_one 7 (by kernel_rfl) rfl rfl ?_
        simp only [List.getElem_toArray, List.getElem_cons_succ, List.getElem_cons_zero]
        refine mem_store2_wp _ _ rfl _ _ _ rfl rfl _ _ _ (by assumption) ?_
        intro w H
        try simp only [Act.put, List.setIfInBounds_toArray, List.set_cons_succ, List.set_cons_zero]
        refine wpAny_one 8 (by kernel_rfl) rfl rfl ?_
        simp only [List.getElem_toArray, List.getElem_cons_succ, List.getElem_cons_zero]
        refine assign_wp _ rfl ?_
        try simp only [Act.put, List.setIfInBounds_toArray, List.set_cons_succ, List.set_cons_zero]
        refine wpAny_done (by kernel_rfl) ?_ _
        (go_wp2; exact mem_ret3 Try.results75 _ rfl rfl rfl rfl (by assumption) (by (first | exact .head _ | exact .tail _ (.head _) | exact .tail _ (.tail _ (.head _)) | exact .tail _ (.tail _ (.tail _ (.head _))) | exact .tail _ (.tail _ (.tail _ (.tail _ (.head _)))))) (by (first | exact .head _ | exact .tail _ (.head _) | exact .tail _ (.tail _ (.head _)) | exact .tail _ (.tail _ (.tail _ (.head _))) | exact .tail _ (.tail _ (.tail _ (.tail _ (.head _)))))) ⟨rfl, H.below⟩)
    · refine mem_load_wp _ rfl _ _ rfl (by assumption) (by (first | exact .head _ | exact .tail _ (.head _) | exact .tail _ (.tail _ (.head _)) | exact .tail _ (.tail _ (.tail _ (.head _))) | exact .tail _ (.tail _ (.tail _ (.tail _ (.head _)))))) ?_
      try simp only [Act.put, List.setIfInBounds_toArray, List.set_cons_succ, List.set_cons_zero]
      refine wpAny_one 0 (by kernel_rfl) rfl rfl ?_
      simp only [List.getElem_toArray, List.getElem_cons_succ, List.getElem_cons_zero]
      refine mem_load_wp _ rfl _ _ rfl (by assumption) (by (first | exact .head _ | exact .tail _ (.head _) | exact .tail _ (.tail _ (.head _)) | exact .tail _ (.tail _ (.tail _ (.head _))) | exact .tail _ (.tail _ (.tail _ (.tail _ (.head _)))))) ?_
      try simp only [Act.put, List.setIfInBounds_toArray, List.set_cons_succ, List.set_cons_zero]
      refine wpAny_one 6 (by kernel_rfl) rfl rfl ?_
      simp only [List.getElem_toArray, List.getElem_cons_succ, List.getElem_cons_zero]
      refine mem_store3_wp _ _ rfl _ _ _ rfl rfl _ _ _ _ (by assumption) ?_
      intro w H
      try simp only [Act.put, List.setIfInBounds_toArray, List.set_cons_succ, List.set_cons_zero]
      refine wpAny_one 7 (by kernel_rfl) rfl rfl ?_
      simp only [List.getElem_toArray, List.getElem_cons_succ, List.getElem_cons_zero]
      refine mem_store2_wp _ _ rfl _ _ _ rfl rfl _ _ _ (by assumption) ?_
      intro w H
      try simp only [Act.put, List.setIfInBounds_toArray, List.set_cons_succ, List.set_cons_zero]
      refine wpAny_one 8 (by kernel_rfl) rfl rfl ?_
      simp only [List.getElem_toArray, List.getElem_cons_succ, List.getElem_cons_zero]
      refine assign_wp _ rfl ?_
      try simp only [Act.put, List.setIfInBounds_toArray, List.set_cons_succ, List.set_cons_zero]
      refine wpAny_done (by kernel_rfl) ?_ _
      (go_wp2; exact mem_ret3 Try.results75 _ rfl rfl rfl rfl (by assumption) (by (first | exact .head _ | exact .tail _ (.head _) | exact .tail _ (.tail _ (.head _)) | exact .tail _ (.tail _ (.tail _ (.head _))) | exact .tail _ (.tail _ (.tail _ (.tail _ (.head _)))))) (by (first | exact .head _ | exact .tail _ (.head _) | exact .tail _ (.tail _ (.head _)) | exact .tail _ (.tail _ (.tail _ (.head _))) | exact .tail _ (.tail _ (.tail _ (.tail _ (.head _)))))) ⟨rfl, H.below⟩)
end Go.Proofs.Ytockcnglennihaa
end
section
set_option linter.unusedSimpArgs false
set_option linter.unusedVariables false
namespace Go.Proofs.Ytockcnglennihaa
open Go.RowKit
def StrPost (l : List UInt8) (n : Int) (w : World) (e : Ending) (w' : World) : Prop := e = .returned (.tuple #[.string (S l), .int .i64 n]) ∧ Below w.heap.size w w'
theorem is_any (l : List UInt8) (wS : World) : Calls Try.prog 47 #[.string (S l)] wS fun e w' => e = .returned (.bool (isEl l)) ∧ Below wS.heap.size wS w' := by
  have H := Mem.start wS
  have cL := Kept.mk fun w => element_any l w
  obtain ⟨b, hb⟩ : ∃ b, isEl l = b := ⟨_, rfl⟩
  rw [hb] at cL ⊢
  clear hb
  go_enter Try.func47, Try.ntmps47
  go_wp2_with (first
    | (refine mem_box rfl _ rfl _ rfl (by assumption) ?_; intro g w H; try simp only [Act.put, List.setIfInBounds_toArray, List.set_cons_succ, List.set_cons_zero])
    | (refine mem_alloc rfl rfl (by assumption) ?_; intro g w H; try simp only [Act.put, List.setIfInBounds_toArray, List.set_cons_succ, List.set_cons_zero])
    | (refine mem_load rfl _ rfl _ _ rfl (by assumption) (by (first | exact .head _ | exact .tail _ (.head _) | exact .tail _ (.tail _ (.head _)) | exact .tail _ (.tail _ (.tail _ (.head _))) | exact .tail _ (.tail _ (.tail _ (.tail _ (.head _)))))) ?_; try simp only [Act.put, List.setIfInBounds_toArray, List.set_cons_succ, List.set_cons_zero])
    | (refine mem_store0 rfl _ _ rfl _ _ _ rfl rfl _ (by assumption) ?_; intro w H; try simp only [Act.put, List.setIfInBounds_toArray, List.set_cons_succ, List.set_cons_zero])
    | (refine mem_store1 rfl _ _ rfl _ _ _ rfl rfl _ _ (by assumption) ?_; intro w H; try simp only [Act.put, List.setIfInBounds_toArray, List.set_cons_succ, List.set_cons_zero])
    | (refine mem_store2 rfl _ _ rfl _ _ _ rfl rfl _ _ _ (by assumption) ?_; intro w H; try simp only [Act.put, List.setIfInBounds_toArray, List.set_cons_succ, List.set_cons_zero])
    | (refine mem_store3 rfl _ _ rfl _ _ _ rfl rfl _ _ _ _ (by assumption) ?_; intro w H; try simp only [Act.put, List.setIfInBounds_toArray, List.set_cons_succ, List.set_cons_zero])
    | (go_at_call 63; refine mem_call (by assumption) (cL.out _) ?_; intro w H))
  go_ret
  exact ⟨rfl, H.below⟩
set_option maxHeartbeats 1000000 in
theorem add_ok (l m : List UInt8) (h : isEl l = true) (h' : isEl m = true) (wS : World) : Calls Try.prog 66 #[.string (S l), .string (S m)] wS (StrPost (leB ((numB l + numB m) % pF)) 0 wS) := by
  have H := Mem.start wS
  have cE := Kept.mk fun w => elements_any l m w
  rw [h, h', Bool.and_true, elN_eq h, elN_eq h'] at cE
  have hx := isEl_lt h
  have hy := isEl_lt h'
  have hxb := Nat.lt_trans hx p_big
  have hyb := Nat.lt_trans hy p_big
  have hp2 : pF + pF < big := by decide +kernel
  have cS := Kept.mk fun w => sumN_any (numB l) (numB m) hxb hyb (by omega) w
  have cR := Kept.mk fun w => reduced_any (numB l + numB m) (by omega) w
  have cB := Kept.mk fun w => bytes_any ((numB l + numB m) % pF) w
  clear hp2
  clear hx hy hxb hyb h h'
  go_enter Try.func66, Try.ntmps66
  go_wp2_with (first
    | (refine mem_box rfl _ rfl _ rfl (by assumption) ?_; intro g w H; try simp only [Act.put, List.setIfInBounds_toArray, List.set_cons_succ, List.set_cons_zero])
    | (refine mem_alloc rfl rfl (by assumption) ?_; intro g w H; try simp only [Act.put, List.setIfInBounds_toArray, List.set_cons_succ, List.set_cons_zero])
    | (refine mem_load rfl _ rfl _ _ rfl (by assumption) (by (first | exact .head _ | exact .tail _ (.head _) | exact .tail _ (.tail _ (.head _)) | exact .tail _ (.tail _ (.tail _ (.head _))) | exact .tail _ (.tail _ (.tail _ (.tail _ (.head _)))))) ?_; try simp only [Act.put, List.setIfInBounds_toArray, List.set_cons_succ, List.set_cons_zero])
    | (refine mem_store0 rfl _ _ rfl _ _ _ rfl rfl _ (by assumption) ?_; intro w H; try simp only [Act.put, List.setIfInBounds_toArray, List.set_cons_succ, List.set_cons_zero])
    | (refine mem_store1 rfl _ _ rfl _ _ _ rfl rfl _ _ (by assumption) ?_; intro w H; try simp only [Act.put, List.setIfInBounds_toArray, List.set_cons_succ, List.set_cons_zero])
    | (refine mem_store2 rfl _ _ rfl _ _ _ rfl rfl _ _ _ (by assumption) ?_; intro w H; try simp only [Act.put, List.setIfInBounds_toArray, List.set_cons_succ, List.set_cons_zero])
    | (refine mem_store3 rfl _ _ rfl _ _ _ rfl rfl _ _ _ _ (by assumption) ?_; intro w H; try simp only [Act.put, List.setIfInBounds_toArray, List.set_cons_succ, List.set_cons_zero])
    | (go_at_call 75; refine mem_call (by assumption) (cE.out _) ?_; intro w H)
    | (go_at_call 79; refine mem_call (by assumption) (cS.out _) ?_; intro w H)
    | (go_at_call 77; refine mem_call (by assumption) (cR.out _) ?_; intro w H)
    | (go_at_call 78; refine mem_call (by assumption) (cB.out _) ?_; intro w H))
  go_ret2
  exact ⟨rfl, H.below⟩
set_option maxHeartbeats 1000000 in
theorem add_bad (l m : List UInt8) (h : (isEl l && isEl m) = false) (wS : World) : Calls Try.prog 66 #[.string (S l), .string (S m)] wS (StrPost [] 40 wS) := by
  have H := Mem.start wS
  have cE := Kept.mk fun w => elements_any l m w
  rw [h] at cE
  clear h
  go_enter Try.func66, Try.ntmps66
  go_wp2_with (first
    | (refine mem_box rfl _ rfl _ rfl (by assumption) ?_; intro g w H; try simp only [Act.put, List.setIfInBounds_toArray, List.set_cons_succ, List.set_cons_zero])
    | (refine mem_alloc rfl rfl (by assumption) ?_; intro g w H; try simp only [Act.put, List.setIfInBounds_toArray, List.set_cons_succ, List.set_cons_zero])
    | (refine mem_load rfl _ rfl _ _ rfl (by assumption) (by (first | exact .head _ | exact .tail _ (.head _) | exact .tail _ (.tail _ (.head _)) | exact .tail _ (.tail _ (.tail _ (.head _))) | exact .tail _ (.tail _ (.tail _ (.tail _ (.head _)))))) ?_; try simp only [Act.put, List.setIfInBounds_toArray, List.set_cons_succ, List.set_cons_zero])
    | (refine mem_store0 rfl _ _ rfl _ _ _ rfl rfl _ (by assumption) ?_; intro w H; try simp only [Act.put, List.setIfInBounds_toArray, List.set_cons_succ, List.set_cons_zero])
    | (refine mem_store1 rfl _ _ rfl _ _ _ rfl rfl _ _ (by assumption) ?_; intro w H; try simp only [Act.put, List.setIfInBounds_toArray, List.set_cons_succ, List.set_cons_zero])
    | (refine mem_store2 rfl _ _ rfl _ _ _ rfl rfl _ _ _ (by assumption) ?_; intro w H; try simp only [Act.put, List.setIfInBounds_toArray, List.set_cons_succ, List.set_cons_zero])
    | (refine mem_store3 rfl _ _ rfl _ _ _ rfl rfl _ _ _ _ (by assumption) ?_; intro w H; try simp only [Act.put, List.setIfInBounds_toArray, List.set_cons_succ, List.set_cons_zero])
    | (go_at_call 75; refine mem_call (by assumption) (cE.out _) ?_; intro w H))
  go_ret2
  exact ⟨rfl, H.below⟩
set_option maxHeartbeats 1000000 in
theorem sub_ok (l m : List UInt8) (h : isEl l = true) (h' : isEl m = true) (wS : World) : Calls Try.prog 67 #[.string (S l), .string (S m)] wS (StrPost (leB ((numB l + (pF - numB m)) % pF)) 0 wS) := by
  have H := Mem.start wS
  have cE := Kept.mk fun w => elements_any l m w
  rw [h, h', Bool.and_true, elN_eq h, elN_eq h'] at cE
  have hx := isEl_lt h
  have hy := isEl_lt h'
  have hxb := Nat.lt_trans hx p_big
  have hyb := Nat.lt_trans hy p_big
  have hp2 : pF + pF < big := by decide +kernel
  have cN := Kept.mk fun w => negated_any (numB m) (Nat.le_of_lt hy) w
  have cS := Kept.mk fun w => sumN_any (numB l) (pF - numB m) hxb (by omega) (by omega) w
  have cR := Kept.mk fun w => reduced_any (numB l + (pF - numB m)) (by omega) w
  have cB := Kept.mk fun w => bytes_any ((numB l + (pF - numB m)) % pF) w
  clear hp2
  clear hx hy hxb hyb h h'
  go_enter Try.func67, Try.ntmps67
  go_wp2_with (first
    | (refine mem_box rfl _ rfl _ rfl (by assumption) ?_; intro g w H; try simp only [Act.put, List.setIfInBounds_toArray, List.set_cons_succ, List.set_cons_zero])
    | (refine mem_alloc rfl rfl (by assumption) ?_; intro g w H; try simp only [Act.put, List.setIfInBounds_toArray, List.set_cons_succ, List.set_cons_zero])
    | (refine mem_load rfl _ rfl _ _ rfl (by assumption) (by (first | exact .head _ | exact .tail _ (.head _) | exact .tail _ (.tail _ (.head _)) | exact .tail _ (.tail _ (.tail _ (.head _))) | exact .tail _ (.tail _ (.tail _ (.tail _ (.head _)))))) ?_; try simp only [Act.put, List.setIfInBounds_toArray, List.set_cons_succ, List.set_cons_zero])
    | (refine mem_store0 rfl _ _ rfl _ _ _ rfl rfl _ (by assumption) ?_; intro w H; try simp only [Act.put, List.setIfInBounds_toArray, List.set_cons_succ, List.set_cons_zero])
    | (refine mem_store1 rfl _ _ rfl _ _ _ rfl rfl _ _ (by assumption) ?_; intro w H; try simp only [Act.put, List.setIfInBounds_toArray, List.set_cons_succ, List.set_cons_zero])
    | (refine mem_store2 rfl _ _ rfl _ _ _ rfl rfl _ _ _ (by assumption) ?_; intro w H; try simp only [Act.put, List.setIfInBounds_toArray, List.set_cons_succ, List.set_cons_zero])
    | (refine mem_store3 rfl _ _ rfl _ _ _ rfl rfl _ _ _ _ (by assumption) ?_; intro w H; try simp only [Act.put, List.setIfInBounds_toArray, List.set_cons_succ, List.set_cons_zero])
    | (go_at_call 75; refine mem_call (by assumption) (cE.out _) ?_; intro w H)
    | (go_at_call 80; refine mem_call (by assumption) (cN.out _) ?_; intro w H)
    | (go_at_call 79; refine mem_call (by assumption) (cS.out _) ?_; intro w H)
    | (go_at_call 77; refine mem_call (by assumption) (cR.out _) ?_; intro w H)
    | (go_at_call 78; refine mem_call (by assumption) (cB.out _) ?_; intro w H))
  refine wp_region_from (by kernel_rfl) (by kernel_rfl) ?_
  repeat (first
    | (go_big_quiet_want; (refine mem_quiet_load _ rfl _ _ rfl (by assumption) (by (first | exact .head _ | exact .tail _ (.head _) | exact .tail _ (.tail _ (.head _)) | exact .tail _ (.tail _ (.tail _ (.head _))) | exact .tail _ (.tail _ (.tail _ (.tail _ (.head _)))))) ?_); try simp only [Act.put, List.setIfInBounds_toArray, List.set_cons_succ, List.set_cons_zero]; go_big_quiet_on)
    | go_big_quiet_step (((first | (go_at_call 80; exact held_call _ (cN.out _)) | (go_at_call 79; exact held_call _ (cS.out _)) | (go_at_call 77; exact held_call _ (cR.out _)) | (go_at_call 78; exact held_call _ (cB.out _))))))
  refine wpQuiet_nil ?_
  intro w5 hw5
  have H := mem_from H hw5
  clear hw5
  go_wp2
  go_ret2
  exact ⟨rfl, H.below⟩
set_option maxHeartbeats 1000000 in
theorem sub_bad (l m : List UInt8) (h : (isEl l && isEl m) = false) (wS : World) : Calls Try.prog 67 #[.string (S l), .string (S m)] wS (StrPost [] 40 wS) := by
  have H := Mem.start wS
  have cE := Kept.mk fun w => elements_any l m w
  rw [h] at cE
  clear h
  go_enter Try.func67, Try.ntmps67
  go_wp2_with (first
    | (refine mem_box rfl _ rfl _ rfl (by assumption) ?_; intro g w H; try simp only [Act.put, List.setIfInBounds_toArray, List.set_cons_succ, List.set_cons_zero])
    | (refine mem_alloc rfl rfl (by assumption) ?_; intro g w H; try simp only [Act.put, List.setIfInBounds_toArray, List.set_cons_succ, List.set_cons_zero])
    | (refine mem_load rfl _ rfl _ _ rfl (by assumption) (by (first | exact .head _ | exact .tail _ (.head _) | exact .tail _ (.tail _ (.head _)) | exact .tail _ (.tail _ (.tail _ (.head _))) | exact .tail _ (.tail _ (.tail _ (.tail _ (.head _)))))) ?_; try simp only [Act.put, List.setIfInBounds_toArray, List.set_cons_succ, List.set_cons_zero])
    | (refine mem_store0 rfl _ _ rfl _ _ _ rfl rfl _ (by assumption) ?_; intro w H; try simp only [Act.put, List.setIfInBounds_toArray, List.set_cons_succ, List.set_cons_zero])
    | (refine mem_store1 rfl _ _ rfl _ _ _ rfl rfl _ _ (by assumption) ?_; intro w H; try simp only [Act.put, List.setIfInBounds_toArray, List.set_cons_succ, List.set_cons_zero])
    | (refine mem_store2 rfl _ _ rfl _ _ _ rfl rfl _ _ _ (by assumption) ?_; intro w H; try simp only [Act.put, List.setIfInBounds_toArray, List.set_cons_succ, List.set_cons_zero])
    | (refine mem_store3 rfl _ _ rfl _ _ _ rfl rfl _ _ _ _ (by assumption) ?_; intro w H; try simp only [Act.put, List.setIfInBounds_toArray, List.set_cons_succ, List.set_cons_zero])
    | (go_at_call 75; refine mem_call (by assumption) (cE.out _) ?_; intro w H))
  go_ret2
  exact ⟨rfl, H.below⟩
set_option maxHeartbeats 1000000 in
theorem mul_ok (l m : List UInt8) (h : isEl l = true) (h' : isEl m = true) (wS : World) : Calls Try.prog 65 #[.string (S l), .string (S m)] wS (StrPost (leB (prodN (numB l) (numB m) % pF)) 0 wS) := by
  have H := Mem.start wS
  have cE := Kept.mk fun w => elements_any l m w
  rw [h, h', Bool.and_true, elN_eq h, elN_eq h'] at cE
  have hx := isEl_lt h
  have hy := isEl_lt h'
  have hxb := Nat.lt_trans hx p_big
  have hyb := Nat.lt_trans hy p_big
  have cS := Kept.mk fun w => prodN_any (numB l) (numB m) w
  have cR := Kept.mk fun w => reduced_any (prodN (numB l) (numB m)) (prodN_lt _ _) w
  have cB := Kept.mk fun w => bytes_any (prodN (numB l) (numB m) % pF) w
  clear hx hy hxb hyb h h'
  go_enter Try.func65, Try.ntmps65
  go_wp2_with (first
    | (refine mem_box rfl _ rfl _ rfl (by assumption) ?_; intro g w H; try simp only [Act.put, List.setIfInBounds_toArray, List.set_cons_succ, List.set_cons_zero])
    | (refine mem_alloc rfl rfl (by assumption) ?_; intro g w H; try simp only [Act.put, List.setIfInBounds_toArray, List.set_cons_succ, List.set_cons_zero])
    | (refine mem_load rfl _ rfl _ _ rfl (by assumption) (by (first | exact .head _ | exact .tail _ (.head _) | exact .tail _ (.tail _ (.head _)) | exact .tail _ (.tail _ (.tail _ (.head _))) | exact .tail _ (.tail _ (.tail _ (.tail _ (.head _)))))) ?_; try simp only [Act.put, List.setIfInBounds_toArray, List.set_cons_succ, List.set_cons_zero])
    | (refine mem_store0 rfl _ _ rfl _ _ _ rfl rfl _ (by assumption) ?_; intro w H; try simp only [Act.put, List.setIfInBounds_toArray, List.set_cons_succ, List.set_cons_zero])
    | (refine mem_store1 rfl _ _ rfl _ _ _ rfl rfl _ _ (by assumption) ?_; intro w H; try simp only [Act.put, List.setIfInBounds_toArray, List.set_cons_succ, List.set_cons_zero])
    | (refine mem_store2 rfl _ _ rfl _ _ _ rfl rfl _ _ _ (by assumption) ?_; intro w H; try simp only [Act.put, List.setIfInBounds_toArray, List.set_cons_succ, List.set_cons_zero])
    | (refine mem_store3 rfl _ _ rfl _ _ _ rfl rfl _ _ _ _ (by assumption) ?_; intro w H; try simp only [Act.put, List.setIfInBounds_toArray, List.set_cons_succ, List.set_cons_zero])
    | (go_at_call 75; refine mem_call (by assumption) (cE.out _) ?_; intro w H)
    | (go_at_call 76; refine mem_call (by assumption) (cS.out _) ?_; intro w H)
    | (go_at_call 77; refine mem_call (by assumption) (cR.out _) ?_; intro w H)
    | (go_at_call 78; refine mem_call (by assumption) (cB.out _) ?_; intro w H))
  go_ret2
  exact ⟨rfl, H.below⟩
set_option maxHeartbeats 1000000 in
theorem mul_bad (l m : List UInt8) (h : (isEl l && isEl m) = false) (wS : World) : Calls Try.prog 65 #[.string (S l), .string (S m)] wS (StrPost [] 40 wS) := by
  have H := Mem.start wS
  have cE := Kept.mk fun w => elements_any l m w
  rw [h] at cE
  clear h
  go_enter Try.func65, Try.ntmps65
  go_wp2_with (first
    | (refine mem_box rfl _ rfl _ rfl (by assumption) ?_; intro g w H; try simp only [Act.put, List.setIfInBounds_toArray, List.set_cons_succ, List.set_cons_zero])
    | (refine mem_alloc rfl rfl (by assumption) ?_; intro g w H; try simp only [Act.put, List.setIfInBounds_toArray, List.set_cons_succ, List.set_cons_zero])
    | (refine mem_load rfl _ rfl _ _ rfl (by assumption) (by (first | exact .head _ | exact .tail _ (.head _) | exact .tail _ (.tail _ (.head _)) | exact .tail _ (.tail _ (.tail _ (.head _))) | exact .tail _ (.tail _ (.tail _ (.tail _ (.head _)))))) ?_; try simp only [Act.put, List.setIfInBounds_toArray, List.set_cons_succ, List.set_cons_zero])
    | (refine mem_store0 rfl _ _ rfl _ _ _ rfl rfl _ (by assumption) ?_; intro w H; try simp only [Act.put, List.setIfInBounds_toArray, List.set_cons_succ, List.set_cons_zero])
    | (refine mem_store1 rfl _ _ rfl _ _ _ rfl rfl _ _ (by assumption) ?_; intro w H; try simp only [Act.put, List.setIfInBounds_toArray, List.set_cons_succ, List.set_cons_zero])
    | (refine mem_store2 rfl _ _ rfl _ _ _ rfl rfl _ _ _ (by assumption) ?_; intro w H; try simp only [Act.put, List.setIfInBounds_toArray, List.set_cons_succ, List.set_cons_zero])
    | (refine mem_store3 rfl _ _ rfl _ _ _ rfl rfl _ _ _ _ (by assumption) ?_; intro w H; try simp only [Act.put, List.setIfInBounds_toArray, List.set_cons_succ, List.set_cons_zero])
    | (go_at_call 75; refine mem_call (by assumption) (cE.out _) ?_; intro w H))
  go_ret2
  exact ⟨rfl, H.below⟩
def invN (n : Nat) : Nat := prodN (sqN (onesN n 250) 5) (prodN (sqN (prodN (sqN n 2) n) 1) n)
theorem inv_ok (l : List UInt8) (h : isEl l = true) (wS : World) : Calls Try.prog 68 #[.string (S l)] wS (StrPost (leB (invN (numB l) % pF)) 0 wS) := by
  have H := Mem.start wS
  have cL := Kept.mk fun w => element_any l w
  rw [h, elN_eq h] at cL
  have cI := Kept.mk fun w => inverse_any (numB l) w
  rw [show prodN (sqN (onesN (numB l) 250) 5) (prodN (sqN (prodN (sqN (numB l) 2) (numB l)) 1) (numB l)) = invN (numB l) from rfl] at cI
  have cR := Kept.mk fun w => reduced_any (invN (numB l)) (prodN_lt _ _) w
  have cB := Kept.mk fun w => bytes_any (invN (numB l) % pF) w
  clear h
  go_enter Try.func68, Try.ntmps68
  go_wp2_with (first
    | (refine mem_box rfl _ rfl _ rfl (by assumption) ?_; intro g w H; try simp only [Act.put, List.setIfInBounds_toArray, List.set_cons_succ, List.set_cons_zero])
    | (refine mem_alloc rfl rfl (by assumption) ?_; intro g w H; try simp only [Act.put, List.setIfInBounds_toArray, List.set_cons_succ, List.set_cons_zero])
    | (refine mem_load rfl _ rfl _ _ rfl (by assumption) (by (first | exact .head _ | exact .tail _ (.head _) | exact .tail _ (.tail _ (.head _)) | exact .tail _ (.tail _ (.tail _ (.head _))) | exact .tail _ (.tail _ (.tail _ (.tail _ (.head _)))))) ?_; try simp only [Act.put, List.setIfInBounds_toArray, List.set_cons_succ, List.set_cons_zero])
    | (refine mem_store0 rfl _ _ rfl _ _ _ rfl rfl _ (by assumption) ?_; intro w H; try simp only [Act.put, List.setIfInBounds_toArray, List.set_cons_succ, List.set_cons_zero])
    | (refine mem_store1 rfl _ _ rfl _ _ _ rfl rfl _ _ (by assumption) ?_; intro w H; try simp only [Act.put, List.setIfInBounds_toArray, List.set_cons_succ, List.set_cons_zero])
    | (refine mem_store2 rfl _ _ rfl _ _ _ rfl rfl _ _ _ (by assumption) ?_; intro w H; try simp only [Act.put, List.setIfInBounds_toArray, List.set_cons_succ, List.set_cons_zero])
    | (refine mem_store3 rfl _ _ rfl _ _ _ rfl rfl _ _ _ _ (by assumption) ?_; intro w H; try simp only [Act.put, List.setIfInBounds_toArray, List.set_cons_succ, List.set_cons_zero])
    | (go_at_call 63; refine mem_call (by assumption) (cL.out _) ?_; intro w H)
    | (go_at_call 81; refine mem_call (by assumption) (cI.out _) ?_; intro w H)
    | (go_at_call 77; refine mem_call (by assumption) (cR.out _) ?_; intro w H)
    | (go_at_call 78; refine mem_call (by assumption) (cB.out _) ?_; intro w H))
  go_ret2
  exact ⟨rfl, H.below⟩
theorem inv_bad (l : List UInt8) (h : isEl l = false) (wS : World) : Calls Try.prog 68 #[.string (S l)] wS (StrPost [] 40 wS) := by
  have H := Mem.start wS
  have cL := Kept.mk fun w => element_any l w
  rw [h] at cL
  clear h
  go_enter Try.func68, Try.ntmps68
  go_wp2_with (first
    | (refine mem_box rfl _ rfl _ rfl (by assumption) ?_; intro g w H; try simp only [Act.put, List.setIfInBounds_toArray, List.set_cons_succ, List.set_cons_zero])
    | (refine mem_alloc rfl rfl (by assumption) ?_; intro g w H; try simp only [Act.put, List.setIfInBounds_toArray, List.set_cons_succ, List.set_cons_zero])
    | (refine mem_load rfl _ rfl _ _ rfl (by assumption) (by (first | exact .head _ | exact .tail _ (.head _) | exact .tail _ (.tail _ (.head _)) | exact .tail _ (.tail _ (.tail _ (.head _))) | exact .tail _ (.tail _ (.tail _ (.tail _ (.head _)))))) ?_; try simp only [Act.put, List.setIfInBounds_toArray, List.set_cons_succ, List.set_cons_zero])
    | (refine mem_store0 rfl _ _ rfl _ _ _ rfl rfl _ (by assumption) ?_; intro w H; try simp only [Act.put, List.setIfInBounds_toArray, List.set_cons_succ, List.set_cons_zero])
    | (refine mem_store1 rfl _ _ rfl _ _ _ rfl rfl _ _ (by assumption) ?_; intro w H; try simp only [Act.put, List.setIfInBounds_toArray, List.set_cons_succ, List.set_cons_zero])
    | (refine mem_store2 rfl _ _ rfl _ _ _ rfl rfl _ _ _ (by assumption) ?_; intro w H; try simp only [Act.put, List.setIfInBounds_toArray, List.set_cons_succ, List.set_cons_zero])
    | (refine mem_store3 rfl _ _ rfl _ _ _ rfl rfl _ _ _ _ (by assumption) ?_; intro w H; try simp only [Act.put, List.setIfInBounds_toArray, List.set_cons_succ, List.set_cons_zero])
    | (go_at_call 63; refine mem_call (by assumption) (cL.out _) ?_; intro w H))
  go_ret2
  exact ⟨rfl, H.below⟩
def RPost (l : List UInt8) (b : Bool) (n : Int) (w : World) (e : Ending) (w' : World) : Prop := e = .returned (.tuple #[.string (S l), .bool b, .int .i64 n]) ∧ Below w.heap.size w w'
theorem rootC_yes (l : List UInt8) (h : isEl l = true) (hq : sqN (r1N (numB l)) 1 % pF = numB l) (wS : World) : Calls Try.prog 74 #[.string (S l)] wS (RPost (leB (evenN (r1N (numB l) % pF))) true 0 wS) := by
  have H := Mem.start wS
  have cL := Kept.mk fun w => element_any l w
  rw [h, elN_eq h] at cL
  have cI := fun w => root_any (numB l) (isEl_lt h) w
  unfold RootPost at cI
  simp only [if_pos hq] at cI
  replace cI := Kept.mk cI
  have cB := Kept.mk fun w => bytes_any (evenN (r1N (numB l) % pF)) w
  clear h hq
  go_enter Try.func74, Try.ntmps74
  go_wp2_with (first
    | (refine mem_box rfl _ rfl _ rfl (by assumption) ?_; intro g w H; try simp only [Act.put, List.setIfInBounds_toArray, List.set_cons_succ, List.set_cons_zero])
    | (refine mem_alloc rfl rfl (by assumption) ?_; intro g w H; try simp only [Act.put, List.setIfInBounds_toArray, List.set_cons_succ, List.set_cons_zero])
    | (refine mem_load rfl _ rfl _ _ rfl (by assumption) (by (first | exact .head _ | exact .tail _ (.head _) | exact .tail _ (.tail _ (.head _)) | exact .tail _ (.tail _ (.tail _ (.head _))) | exact .tail _ (.tail _ (.tail _ (.tail _ (.head _)))))) ?_; try simp only [Act.put, List.setIfInBounds_toArray, List.set_cons_succ, List.set_cons_zero])
    | (refine mem_store0 rfl _ _ rfl _ _ _ rfl rfl _ (by assumption) ?_; intro w H; try simp only [Act.put, List.setIfInBounds_toArray, List.set_cons_succ, List.set_cons_zero])
    | (refine mem_store1 rfl _ _ rfl _ _ _ rfl rfl _ _ (by assumption) ?_; intro w H; try simp only [Act.put, List.setIfInBounds_toArray, List.set_cons_succ, List.set_cons_zero])
    | (refine mem_store2 rfl _ _ rfl _ _ _ rfl rfl _ _ _ (by assumption) ?_; intro w H; try simp only [Act.put, List.setIfInBounds_toArray, List.set_cons_succ, List.set_cons_zero])
    | (refine mem_store3 rfl _ _ rfl _ _ _ rfl rfl _ _ _ _ (by assumption) ?_; intro w H; try simp only [Act.put, List.setIfInBounds_toArray, List.set_cons_succ, List.set_cons_zero])
    | (go_at_call 63; refine mem_call (by assumption) (cL.out _) ?_; intro w H)
    | (go_at_call 83; refine mem_call (by assumption) (cI.out _) ?_; intro w H)
    | (go_at_call 78; refine mem_call (by assumption) (cB.out _) ?_; intro w H))
  go_ret3
  exact ⟨rfl, H.below⟩
theorem rootC_no (l : List UInt8) (h : isEl l = true) (hq : ¬ sqN (r1N (numB l)) 1 % pF = numB l) (wS : World) : Calls Try.prog 74 #[.string (S l)] wS (RPost [] false 0 wS) := by
  have H := Mem.start wS
  have cL := Kept.mk fun w => element_any l w
  rw [h, elN_eq h] at cL
  have cI := fun w => root_any (numB l) (isEl_lt h) w
  unfold RootPost at cI
  simp only [if_neg hq] at cI
  replace cI := Kept.mk cI
  clear h hq
  go_enter Try.func74, Try.ntmps74
  go_wp2_with (first
    | (refine mem_box rfl _ rfl _ rfl (by assumption) ?_; intro g w H; try simp only [Act.put, List.setIfInBounds_toArray, List.set_cons_succ, List.set_cons_zero])
    | (refine mem_alloc rfl rfl (by assumption) ?_; intro g w H; try simp only [Act.put, List.setIfInBounds_toArray, List.set_cons_succ, List.set_cons_zero])
    | (refine mem_load rfl _ rfl _ _ rfl (by assumption) (by (first | exact .head _ | exact .tail _ (.head _) | exact .tail _ (.tail _ (.head _)) | exact .tail _ (.tail _ (.tail _ (.head _))) | exact .tail _ (.tail _ (.tail _ (.tail _ (.head _)))))) ?_; try simp only [Act.put, List.setIfInBounds_toArray, List.set_cons_succ, List.set_cons_zero])
    | (refine mem_store0 rfl _ _ rfl _ _ _ rfl rfl _ (by assumption) ?_; intro w H; try simp only [Act.put, List.setIfInBounds_toArray, List.set_cons_succ, List.set_cons_zero])
    | (refine mem_store1 rfl _ _ rfl _ _ _ rfl rfl _ _ (by assumption) ?_; intro w H; try simp only [Act.put, List.setIfInBounds_toArray, List.set_cons_succ, List.set_cons_zero])
    | (refine mem_store2 rfl _ _ rfl _ _ _ rfl rfl _ _ _ (by assumption) ?_; intro w H; try simp only [Act.put, List.setIfInBounds_toArray, List.set_cons_succ, List.set_cons_zero])
    | (refine mem_store3 rfl _ _ rfl _ _ _ rfl rfl _ _ _ _ (by assumption) ?_; intro w H; try simp only [Act.put, List.setIfInBounds_toArray, List.set_cons_succ, List.set_cons_zero])
    | (go_at_call 63; refine mem_call (by assumption) (cL.out _) ?_; intro w H)
    | (go_at_call 83; refine mem_call (by assumption) (cI.out _) ?_; intro w H))
  go_ret3
  exact ⟨rfl, H.below⟩
theorem rootC_bad (l : List UInt8) (h : isEl l = false) (wS : World) : Calls Try.prog 74 #[.string (S l)] wS (RPost [] false 40 wS) := by
  have H := Mem.start wS
  have cL := Kept.mk fun w => element_any l w
  rw [h] at cL
  clear h
  go_enter Try.func74, Try.ntmps74
  go_wp2_with (first
    | (refine mem_box rfl _ rfl _ rfl (by assumption) ?_; intro g w H; try simp only [Act.put, List.setIfInBounds_toArray, List.set_cons_succ, List.set_cons_zero])
    | (refine mem_alloc rfl rfl (by assumption) ?_; intro g w H; try simp only [Act.put, List.setIfInBounds_toArray, List.set_cons_succ, List.set_cons_zero])
    | (refine mem_load rfl _ rfl _ _ rfl (by assumption) (by (first | exact .head _ | exact .tail _ (.head _) | exact .tail _ (.tail _ (.head _)) | exact .tail _ (.tail _ (.tail _ (.head _))) | exact .tail _ (.tail _ (.tail _ (.tail _ (.head _)))))) ?_; try simp only [Act.put, List.setIfInBounds_toArray, List.set_cons_succ, List.set_cons_zero])
    | (refine mem_store0 rfl _ _ rfl _ _ _ rfl rfl _ (by assumption) ?_; intro w H; try simp only [Act.put, List.setIfInBounds_toArray, List.set_cons_succ, List.set_cons_zero])
    | (refine mem_store1 rfl _ _ rfl _ _ _ rfl rfl _ _ (by assumption) ?_; intro w H; try simp only [Act.put, List.setIfInBounds_toArray, List.set_cons_succ, List.set_cons_zero])
    | (refine mem_store2 rfl _ _ rfl _ _ _ rfl rfl _ _ _ (by assumption) ?_; intro w H; try simp only [Act.put, List.setIfInBounds_toArray, List.set_cons_succ, List.set_cons_zero])
    | (refine mem_store3 rfl _ _ rfl _ _ _ rfl rfl _ _ _ _ (by assumption) ?_; intro w H; try simp only [Act.put, List.setIfInBounds_toArray, List.set_cons_succ, List.set_cons_zero])
    | (go_at_call 63; refine mem_call (by assumption) (cL.out _) ?_; intro w H))
  go_ret3
  exact ⟨rfl, H.below⟩
end Go.Proofs.Ytockcnglennihaa
end
section
set_option linter.unusedVariables false
namespace Go.Proofs.Ytockcnglennihaa
open Go.RowKit
theorem p_pos : 0 < pF := by decide +kernel
theorem sqN_big (n : Nat) (h : n < big) : ∀ m, sqN n m < big
  | 0 => h
  | m + 1 => prodN_lt _ _
def powF (x e : Nat) : Nat := x ^ e % pF
theorem powF_lt (x e : Nat) : powF x e < pF := Nat.mod_lt _ p_pos
theorem mulm (x y n e f : Nat) (hx : x % pF = n ^ e % pF) (hy : y % pF = n ^ f % pF) : x * y % pF = n ^ (e + f) % pF := by
  rw [Nat.mul_mod, hx, hy, ← Nat.mul_mod, ← Nat.pow_add]
theorem prod_pow (x y n e f g : Nat) (hxb : x < big) (hyb : y < big) (hx : x % pF = n ^ e % pF) (hy : y % pF = n ^ f % pF) (hg : e + f = g) : prodN x y % pF = n ^ g % pF := by
  rw [prodN_mod x y hxb hyb, mulm x y n e f hx hy, hg]
theorem sqN_pow (x n e : Nat) (hxb : x < big) (hx : x % pF = n ^ e % pF) : ∀ m, sqN x m % pF = n ^ (e * 2 ^ m) % pF
  | 0 => by rw [Nat.pow_zero, Nat.mul_one]; exact hx
  | m + 1 => prod_pow _ _ n _ _ _ (sqN_big x hxb m) (sqN_big x hxb m) (sqN_pow x n e hxb hx m) (sqN_pow x n e hxb hx m) (by rw [Nat.pow_succ, ← Nat.mul_assoc, Nat.mul_two])
theorem onesN_big (n : Nat) (h : n < big) (c : Nat) : onesN n c < big := by
  rw [onesN]
  split
  · exact h
  · cases c % 2 == 1
    · exact prodN_lt _ _
    · exact prodN_lt _ _
theorem one_lt_pow2 (k : Nat) : 1 ≤ 2 ^ k := Nat.pow_pos (by decide)
theorem onesN_pow (n : Nat) (h : n < big) : ∀ c, 1 ≤ c → onesN n c % pF = n ^ (2 ^ c - 1) % pF := by
  intro c
  induction c using Nat.strongRecOn with
  | _ c ih =>
    intro h1
    rw [onesN]
    by_cases hc : c ≤ 1
    · rw [dif_pos hc]
      obtain rfl : c = 1 := by omega
      rw [show 2 ^ 1 - 1 = 1 from rfl, Nat.pow_one]
    · rw [dif_neg hc]
      obtain ⟨k, hk⟩ : ∃ k, c / 2 = k := ⟨_, rfl⟩
      rw [hk]
      have ihk := ih k (by omega) (by omega)
      have hob := onesN_big n h k
      have hs := sqN_pow (onesN n k) n (2 ^ k - 1) hob ihk k
      have hp := prod_pow _ _ n _ _ ((2 ^ k - 1) * 2 ^ k + (2 ^ k - 1)) (sqN_big _ hob k) hob hs ihk rfl
      have e1 : (2 ^ k - 1) * 2 ^ k + (2 ^ k - 1) = 2 ^ (2 * k) - 1 := by
        have hq := one_lt_pow2 k
        rw [Nat.two_mul, Nat.pow_add, Nat.sub_mul, Nat.one_mul]
        have : 2 ^ k ≤ 2 ^ k * 2 ^ k := Nat.le_mul_of_pos_left _ hq
        omega
      rw [e1] at hp
      by_cases ho : c % 2 = 1
      · rw [show (c % 2 == 1) = true by simp [ho]]
        show prodN (sqN (prodN (sqN (onesN n k) k) (onesN n k)) 1) n % pF = _
        have hs2 := sqN_pow _ n _ (prodN_lt _ _) hp 1
        refine prod_pow _ _ n _ 1 _ (prodN_lt _ _) h hs2 (by rw [Nat.pow_one]) ?_
        have hq := one_lt_pow2 (2 * k)
        rw [show c = 2 * k + 1 by omega, Nat.pow_succ 2 (2 * k)]
        omega
      · rw [show (c % 2 == 1) = false by simp [ho]]
        show prodN (sqN (onesN n k) k) (onesN n k) % pF = _
        rw [hp, show 2 * k = c by omega]
theorem self_pow (n : Nat) : n % pF = n ^ 1 % pF := by rw [Nat.pow_one]
theorem invN_pow (n : Nat) (h : n < big) : invN n % pF = n ^ (pF - 2) % pF := by
  unfold invN
  have h2 := sqN_pow n n 1 h (self_pow n) 2
  have h5 := prod_pow _ _ n _ 1 5 (prodN_lt _ _) h h2 (self_pow n) (by decide)
  have h10 := sqN_pow _ n _ (prodN_lt _ _) h5 1
  have h11 := prod_pow _ _ n _ 1 11 (prodN_lt _ _) h h10 (self_pow n) (by decide)
  have h250 := onesN_pow n h 250 (by decide)
  have hs := sqN_pow _ n _ (onesN_big n h 250) h250 5
  exact prod_pow _ _ n _ 11 _ (prodN_lt _ _) (prodN_lt _ _) hs h11 (by decide +kernel)
/-- (p + 3) / 8. -/
def eF : Nat := 2 * (2 ^ 251 - 1)
theorem r0N_pow (n : Nat) (h : n < big) : r0N n % pF = powF n eF := by
  unfold r0N powF
  have h1 := sqN_pow _ n _ (onesN_big n h 251) (onesN_pow n h 251 (by decide)) 1
  rw [h1, show (2 ^ 251 - 1) * 2 ^ 1 = eF by decide +kernel]
/-- A root's candidate: the power, or that times a root of p - 1. -/
def cand (n : Nat) : Nat := if powF n eF * powF n eF % pF = n then powF n eF else powF n eF * iF % pF
theorem i_big : iF < big := by decide +kernel
theorem sq1_mod (x : Nat) (h : x < big) : sqN x 1 % pF = x % pF * (x % pF) % pF := by
  show prodN x x % pF = _
  rw [prodN_mod x x h h, Nat.mul_mod]
theorem r1N_mod (n : Nat) (h : n < pF) : r1N n % pF = cand n := by
  have hb := Nat.lt_trans h p_big
  have h0 := r0N_pow n hb
  unfold r1N cand
  rw [sq1_mod _ (show r0N n < big from prodN_lt _ _), h0]
  split
  · exact h0
  · rw [prodN_mod _ _ (show r0N n < big from prodN_lt _ _) i_big, Nat.mul_mod, h0, Nat.mod_eq_of_lt (show iF < pF by decide +kernel)]
theorem r1N_sq (n : Nat) (h : n < pF) : (sqN (r1N n) 1 % pF = n) = (cand n * cand n % pF = n) := by
  rw [sq1_mod _ (r1_big n), r1N_mod n h]
theorem cand_lt (n : Nat) : cand n < pF := by
  unfold cand
  split
  · exact Nat.mod_lt _ p_pos
  · exact Nat.mod_lt _ p_pos
theorem evenN_lt (r : Nat) (h : r < pF) : evenN r < pF := by
  unfold evenN
  split
  · have : r ≠ 0 := fun e => by subst e; simp at *
    omega
  · exact h
/-- The element of a number. -/
def E (x : Nat) : Value := .string (S (leB x))
theorem el_E {x : Nat} (h : x < pF) : isEl (leB x) = true := by
  unfold isEl
  rw [leB_len, numB_leB x (Nat.lt_trans h p_big)]
  simp [h]
theorem num_E {x : Nat} (h : x < pF) : numB (leB x) = x := numB_leB x (Nat.lt_trans h p_big)
theorem E_of {l : List UInt8} (h : isEl l = true) : l = leB (numB l) := (leB_numB l (isEl_len h) (numB_lt l (isEl_len h))).symm
def EP (x : Nat) (w : World) (e : Ending) (w' : World) : Prop := e = .returned (.tuple #[E x, .int .i64 0]) ∧ Below w.heap.size w w'
theorem addE (x y : Nat) (hx : x < pF) (hy : y < pF) (w : World) : Calls Try.prog 66 #[E x, E y] w (EP ((x + y) % pF) w) := by
  have h := add_ok (leB x) (leB y) (el_E hx) (el_E hy) w
  rw [num_E hx, num_E hy] at h
  exact h
theorem subE (x y : Nat) (hx : x < pF) (hy : y < pF) (w : World) : Calls Try.prog 67 #[E x, E y] w (EP ((x + (pF - y)) % pF) w) := by
  have h := sub_ok (leB x) (leB y) (el_E hx) (el_E hy) w
  rw [num_E hx, num_E hy] at h
  exact h
theorem mulE (x y : Nat) (hx : x < pF) (hy : y < pF) (w : World) : Calls Try.prog 65 #[E x, E y] w (EP (x * y % pF) w) := by
  have h := mul_ok (leB x) (leB y) (el_E hx) (el_E hy) w
  rw [num_E hx, num_E hy, prodN_mod x y (Nat.lt_trans hx p_big) (Nat.lt_trans hy p_big)] at h
  exact h
theorem powF_zero (e : Nat) (h : 0 < e) : powF 0 e = 0 := by unfold powF; rw [Nat.zero_pow h, Nat.zero_mod]
/-- The inverse. -/
def invF (x : Nat) : Nat := powF x (pF - 2)
theorem invF_lt (x : Nat) : invF x < pF := Nat.mod_lt _ p_pos
theorem p_ge : 5 < pF := by decide +kernel
theorem invF_mul (x : Nat) (h0 : x ≠ 0) (hx : x < pF) : invF x * x % pF = 1 := by
  have h := pr_p.little (a := x) (fun hd => absurd (Nat.le_of_dvd (Nat.pos_of_ne_zero h0) hd) (Nat.not_le.2 hx))
  have e : pF - 1 = pF - 2 + 1 := by have := p_ge; omega
  rw [e, Nat.pow_succ] at h
  unfold invF powF
  rw [Nat.mul_mod, Nat.mod_mod, ← Nat.mul_mod]
  exact h
theorem invF_zero : invF 0 = 0 := by
  exact powF_zero (pF - 2) (by have := p_ge; omega)
theorem invE (x : Nat) (hx : x < pF) (w : World) : Calls Try.prog 68 #[E x] w (EP (invF x) w) := by
  have h := inv_ok (leB x) (el_E hx) w
  rw [num_E hx, invN_pow x (Nat.lt_trans hx p_big)] at h
  exact h
def RP (x : Nat) (w : World) (e : Ending) (w' : World) : Prop := e = .returned (.tuple #[E x, .bool true, .int .i64 0]) ∧ Below w.heap.size w w'
def RN (w : World) (e : Ending) (w' : World) : Prop := e = .returned (.tuple #[.string (S []), .bool false, .int .i64 0]) ∧ Below w.heap.size w w'
theorem rootE (x : Nat) (hx : x < pF) (hq : cand x * cand x % pF = x) (w : World) : Calls Try.prog 74 #[E x] w (RP (evenN (cand x)) w) := by
  have h := rootC_yes (leB x) (el_E hx) (by rw [num_E hx, r1N_sq x hx]; exact hq) w
  rw [num_E hx, r1N_mod x hx] at h
  exact h
theorem rootE_no (x : Nat) (hx : x < pF) (hq : ¬ cand x * cand x % pF = x) (w : World) : Calls Try.prog 74 #[E x] w (RN w) :=
  rootC_no (leB x) (el_E hx) (by rw [num_E hx, r1N_sq x hx]; exact hq) w
theorem isE (x : Nat) (hx : x < pF) (w : World) : Calls Try.prog 47 #[E x] w fun e w' => e = .returned (.bool true) ∧ Below w.heap.size w w' := by
  have h := is_any (leB x) w
  rw [el_E hx] at h
  exact h
/-- By certificates. -/
def candR (n r : Nat) : Nat := if r * r % pF = n then r else r * iF % pF
theorem cand_pm (n : Nat) : cand n = candR n (pm pF 256 n eF) := by
  have e : pm pF 256 n eF = powF n eF := pm_eq pF 256 n eF (by decide +kernel)
  rw [e]
  rfl
theorem cand4 : cand 4 * cand 4 % pF = 4 ∧ evenN (cand 4) = 2 := by
  rw [cand_pm 4]
  decide +kernel
theorem cand2 : ¬ cand 2 * cand 2 % pF = 2 := by
  rw [cand_pm 2]
  decide +kernel
end Go.Proofs.Ytockcnglennihaa
end
