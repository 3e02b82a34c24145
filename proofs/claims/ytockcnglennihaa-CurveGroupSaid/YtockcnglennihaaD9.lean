/- The document's answer for package curve: its calls, over letters. -/
import Derived.Test.YtockcnglennihaaD8
set_option linter.unusedSimpArgs false
set_option linter.unusedVariables false
set_option maxRecDepth 100000
namespace Go.Proofs.Ytockcnglennihaa
open Go.RowKit
set_option maxHeartbeats 4000000 in
theorem is_core (s : ByteArray) (X1 Y1 Z1 : Nat) (b : Bool) (c1 : ∀ w, Calls Try.prog 32 #[.string s] w (RetV (.tuple #[.agg (ptC X1 Y1 Z1).toArray, .bool b]) w)) (wS : World) : Calls Try.prog 16 #[.string s] wS (RetV (.bool b) wS) := by
  have H := RMem.start wS
  replace c1 := Kept.mk c1
  go_enter Try.func16, Try.ntmps16
  go_wp2_with (first
    | (refine p_boxP rfl _ rfl _ _ _ rfl (by assumption) ?_; intro g w H; try simp only [Act.put, List.setIfInBounds_toArray, List.set_cons_succ, List.set_cons_zero])
    | (refine p_boxN rfl _ rfl _ rfl (by assumption) ?_; intro g w H; try simp only [Act.put, List.setIfInBounds_toArray, List.set_cons_succ, List.set_cons_zero])
    | (refine p_allocN rfl rfl (by assumption) ?_; intro g w H; try simp only [Act.put, List.setIfInBounds_toArray, List.set_cons_succ, List.set_cons_zero])
    | (refine p_allocP rfl rfl (by assumption) ?_; intro g w H; try simp only [Act.put, List.setIfInBounds_toArray, List.set_cons_succ, List.set_cons_zero])
    | (refine p_loadN rfl _ rfl _ _ rfl (by assumption) (by (repeat (first | exact .head _ | refine .tail _ ?_))) ?_; try simp only [Act.put, List.setIfInBounds_toArray, List.set_cons_succ, List.set_cons_zero])
    | (refine p_loadP rfl _ rfl _ _ _ _ rfl (by assumption) (by (repeat (first | exact .head _ | refine .tail _ ?_))) ?_; try simp only [Act.put, List.setIfInBounds_toArray, List.set_cons_succ, List.set_cons_zero])
    | (refine p_part0 rfl _ rfl _ _ _ _ rfl (by assumption) (by (repeat (first | exact .head _ | refine .tail _ ?_))) ?_; try simp only [Act.put, List.setIfInBounds_toArray, List.set_cons_succ, List.set_cons_zero])
    | (refine p_part1 rfl _ rfl _ _ _ _ rfl (by assumption) (by (repeat (first | exact .head _ | refine .tail _ ?_))) ?_; try simp only [Act.put, List.setIfInBounds_toArray, List.set_cons_succ, List.set_cons_zero])
    | (refine p_part2 rfl _ rfl _ _ _ _ rfl (by assumption) (by (repeat (first | exact .head _ | refine .tail _ ?_))) ?_; try simp only [Act.put, List.setIfInBounds_toArray, List.set_cons_succ, List.set_cons_zero])
    | (refine p_storeN0 rfl _ _ rfl _ _ _ rfl rfl _ (by assumption) ?_; intro w H; try simp only [Act.put, List.setIfInBounds_toArray, List.set_cons_succ, List.set_cons_zero])
    | (refine p_storeN1 rfl _ _ rfl _ _ _ rfl rfl _ _ (by assumption) ?_; intro w H; try simp only [Act.put, List.setIfInBounds_toArray, List.set_cons_succ, List.set_cons_zero])
    | (refine p_storeP0 rfl _ _ rfl _ _ _ _ _ _ _ rfl rfl _ (by assumption) ?_; intro w H; try simp only [Act.put, List.setIfInBounds_toArray, List.set_cons_succ, List.set_cons_zero])
    | (go_at_call 32; with_reducible refine r_call (by assumption) (c1.out _) ?_; intro w H))
  go_ret
  exact ⟨rfl, H.below⟩
set_option maxHeartbeats 4000000 in
theorem add_core (s t u : ByteArray) (X1 Y1 Z1 X2 Y2 Z2 U V W : Nat) (c1 : ∀ w, Calls Try.prog 32 #[.string s] w (RetV (.tuple #[.agg (ptC X1 Y1 Z1).toArray, .bool true]) w)) (c2 : ∀ w, Calls Try.prog 32 #[.string t] w (RetV (.tuple #[.agg (ptC X2 Y2 Z2).toArray, .bool true]) w)) (cD : ∀ w, Calls Try.prog 35 #[] w (RetV (.agg (nC dF).toArray) w)) (cP : ∀ w, Calls Try.prog 34 #[.agg (ptC X1 Y1 Z1).toArray, .agg (ptC X2 Y2 Z2).toArray, .agg (ptC dF 0 0).toArray] w (RetV (.agg (ptC U V W).toArray) w)) (cB : ∀ w, Calls Try.prog 33 #[.agg (ptC U V W).toArray] w (RetV (.string u) w)) (wS : World) : Calls Try.prog 11 #[.string s, .string t] wS (RetV (.tuple #[.string u, .int .i64 0]) wS) := by
  have H := RMem.start wS
  replace c1 := Kept.mk c1
  replace c2 := Kept.mk c2
  replace cD := Kept.mk cD
  replace cP := Kept.mk cP
  replace cB := Kept.mk cB
  go_enter Try.func11, Try.ntmps11
  go_wp2_with (first
    | (refine p_boxP rfl _ rfl _ _ _ rfl (by assumption) ?_; intro g w H; try simp only [Act.put, List.setIfInBounds_toArray, List.set_cons_succ, List.set_cons_zero])
    | (refine p_boxN rfl _ rfl _ rfl (by assumption) ?_; intro g w H; try simp only [Act.put, List.setIfInBounds_toArray, List.set_cons_succ, List.set_cons_zero])
    | (refine p_allocN rfl rfl (by assumption) ?_; intro g w H; try simp only [Act.put, List.setIfInBounds_toArray, List.set_cons_succ, List.set_cons_zero])
    | (refine p_allocP rfl rfl (by assumption) ?_; intro g w H; try simp only [Act.put, List.setIfInBounds_toArray, List.set_cons_succ, List.set_cons_zero])
    | (refine p_loadN rfl _ rfl _ _ rfl (by assumption) (by (repeat (first | exact .head _ | refine .tail _ ?_))) ?_; try simp only [Act.put, List.setIfInBounds_toArray, List.set_cons_succ, List.set_cons_zero])
    | (refine p_loadP rfl _ rfl _ _ _ _ rfl (by assumption) (by (repeat (first | exact .head _ | refine .tail _ ?_))) ?_; try simp only [Act.put, List.setIfInBounds_toArray, List.set_cons_succ, List.set_cons_zero])
    | (refine p_part0 rfl _ rfl _ _ _ _ rfl (by assumption) (by (repeat (first | exact .head _ | refine .tail _ ?_))) ?_; try simp only [Act.put, List.setIfInBounds_toArray, List.set_cons_succ, List.set_cons_zero])
    | (refine p_part1 rfl _ rfl _ _ _ _ rfl (by assumption) (by (repeat (first | exact .head _ | refine .tail _ ?_))) ?_; try simp only [Act.put, List.setIfInBounds_toArray, List.set_cons_succ, List.set_cons_zero])
    | (refine p_part2 rfl _ rfl _ _ _ _ rfl (by assumption) (by (repeat (first | exact .head _ | refine .tail _ ?_))) ?_; try simp only [Act.put, List.setIfInBounds_toArray, List.set_cons_succ, List.set_cons_zero])
    | (refine p_storeN0 rfl _ _ rfl _ _ _ rfl rfl _ (by assumption) ?_; intro w H; try simp only [Act.put, List.setIfInBounds_toArray, List.set_cons_succ, List.set_cons_zero])
    | (refine p_storeN1 rfl _ _ rfl _ _ _ rfl rfl _ _ (by assumption) ?_; intro w H; try simp only [Act.put, List.setIfInBounds_toArray, List.set_cons_succ, List.set_cons_zero])
    | (refine p_storeP0 rfl _ _ rfl _ _ _ _ _ _ _ rfl rfl _ (by assumption) ?_; intro w H; try simp only [Act.put, List.setIfInBounds_toArray, List.set_cons_succ, List.set_cons_zero])
    | (go_at_call 32; with_reducible refine r_call (by assumption) (c1.out _) ?_; intro w H)
    | (go_at_call 32; with_reducible refine r_call (by assumption) (c2.out _) ?_; intro w H))
  refine wp_region_from (by kernel_rfl) (by kernel_rfl) ?_
  repeat (first
    | (go_big_quiet_want; (first
      | (refine q_loadN _ rfl _ _ _ (From.refl _) rfl (by assumption) (by (repeat (first | exact .head _ | refine .tail _ ?_))) ?_)
      | (refine q_loadP _ rfl _ _ _ _ _ (From.refl _) rfl (by assumption) (by (repeat (first | exact .head _ | refine .tail _ ?_))) ?_)
      | (refine q_part0 _ rfl _ _ _ _ _ (From.refl _) rfl (by assumption) (by (repeat (first | exact .head _ | refine .tail _ ?_))) ?_)
      | (refine q_part1 _ rfl _ _ _ _ _ (From.refl _) rfl (by assumption) (by (repeat (first | exact .head _ | refine .tail _ ?_))) ?_)
      | (refine q_part2 _ rfl _ _ _ _ _ (From.refl _) rfl (by assumption) (by (repeat (first | exact .head _ | refine .tail _ ?_))) ?_)
      | (refine q_build3 _ rfl _ _ _ (by rw [Array.toList_map]; rfl) ?_)
      | (refine q_build1 _ rfl _ (by rw [Array.toList_map]; rfl) ?_)); try simp only [Act.put, List.setIfInBounds_toArray, List.set_cons_succ, List.set_cons_zero]; go_big_quiet_on)
    | go_big_quiet_step (((first | (go_at_call 35; with_reducible exact held_call _ (cD.out _)) | (go_at_call 34; with_reducible exact held_call _ (cP.out _)) | (go_at_call 33; with_reducible exact held_call _ (cB.out _))))))
  refine wpQuiet_nil ?_
  intro w5 hw5
  have H := H.from hw5
  clear hw5
  go_wp2
  go_ret2
  exact ⟨rfl, H.below⟩
set_option maxHeartbeats 4000000 in
theorem add_no1 (s t : ByteArray) (b : Bool) (X1 Y1 Z1 X2 Y2 Z2 : Nat) (c1 : ∀ w, Calls Try.prog 32 #[.string s] w (RetV (.tuple #[.agg (ptC X1 Y1 Z1).toArray, .bool false]) w)) (c2 : ∀ w, Calls Try.prog 32 #[.string t] w (RetV (.tuple #[.agg (ptC X2 Y2 Z2).toArray, .bool b]) w)) (wS : World) : Calls Try.prog 11 #[.string s, .string t] wS (RetV (.tuple #[.string ⟨#[]⟩, .int .i64 60]) wS) := by
  have H := RMem.start wS
  replace c1 := Kept.mk c1
  replace c2 := Kept.mk c2
  go_enter Try.func11, Try.ntmps11
  go_wp2_with (first
    | (refine p_boxP rfl _ rfl _ _ _ rfl (by assumption) ?_; intro g w H; try simp only [Act.put, List.setIfInBounds_toArray, List.set_cons_succ, List.set_cons_zero])
    | (refine p_boxN rfl _ rfl _ rfl (by assumption) ?_; intro g w H; try simp only [Act.put, List.setIfInBounds_toArray, List.set_cons_succ, List.set_cons_zero])
    | (refine p_allocN rfl rfl (by assumption) ?_; intro g w H; try simp only [Act.put, List.setIfInBounds_toArray, List.set_cons_succ, List.set_cons_zero])
    | (refine p_allocP rfl rfl (by assumption) ?_; intro g w H; try simp only [Act.put, List.setIfInBounds_toArray, List.set_cons_succ, List.set_cons_zero])
    | (refine p_loadN rfl _ rfl _ _ rfl (by assumption) (by (repeat (first | exact .head _ | refine .tail _ ?_))) ?_; try simp only [Act.put, List.setIfInBounds_toArray, List.set_cons_succ, List.set_cons_zero])
    | (refine p_loadP rfl _ rfl _ _ _ _ rfl (by assumption) (by (repeat (first | exact .head _ | refine .tail _ ?_))) ?_; try simp only [Act.put, List.setIfInBounds_toArray, List.set_cons_succ, List.set_cons_zero])
    | (refine p_part0 rfl _ rfl _ _ _ _ rfl (by assumption) (by (repeat (first | exact .head _ | refine .tail _ ?_))) ?_; try simp only [Act.put, List.setIfInBounds_toArray, List.set_cons_succ, List.set_cons_zero])
    | (refine p_part1 rfl _ rfl _ _ _ _ rfl (by assumption) (by (repeat (first | exact .head _ | refine .tail _ ?_))) ?_; try simp only [Act.put, List.setIfInBounds_toArray, List.set_cons_succ, List.set_cons_zero])
    | (refine p_part2 rfl _ rfl _ _ _ _ rfl (by assumption) (by (repeat (first | exact .head _ | refine .tail _ ?_))) ?_; try simp only [Act.put, List.setIfInBounds_toArray, List.set_cons_succ, List.set_cons_zero])
    | (refine p_storeN0 rfl _ _ rfl _ _ _ rfl rfl _ (by assumption) ?_; intro w H; try simp only [Act.put, List.setIfInBounds_toArray, List.set_cons_succ, List.set_cons_zero])
    | (refine p_storeN1 rfl _ _ rfl _ _ _ rfl rfl _ _ (by assumption) ?_; intro w H; try simp only [Act.put, List.setIfInBounds_toArray, List.set_cons_succ, List.set_cons_zero])
    | (refine p_storeP0 rfl _ _ rfl _ _ _ _ _ _ _ rfl rfl _ (by assumption) ?_; intro w H; try simp only [Act.put, List.setIfInBounds_toArray, List.set_cons_succ, List.set_cons_zero])
    | (go_at_call 32; with_reducible refine r_call (by assumption) (c1.out _) ?_; intro w H)
    | (go_at_call 32; with_reducible refine r_call (by assumption) (c2.out _) ?_; intro w H))
  go_ret2
  exact ⟨rfl, H.below⟩
set_option maxHeartbeats 4000000 in
theorem add_no2 (s t : ByteArray) (X1 Y1 Z1 X2 Y2 Z2 : Nat) (c1 : ∀ w, Calls Try.prog 32 #[.string s] w (RetV (.tuple #[.agg (ptC X1 Y1 Z1).toArray, .bool true]) w)) (c2 : ∀ w, Calls Try.prog 32 #[.string t] w (RetV (.tuple #[.agg (ptC X2 Y2 Z2).toArray, .bool false]) w)) (wS : World) : Calls Try.prog 11 #[.string s, .string t] wS (RetV (.tuple #[.string ⟨#[]⟩, .int .i64 60]) wS) := by
  have H := RMem.start wS
  replace c1 := Kept.mk c1
  replace c2 := Kept.mk c2
  go_enter Try.func11, Try.ntmps11
  go_wp2_with (first
    | (refine p_boxP rfl _ rfl _ _ _ rfl (by assumption) ?_; intro g w H; try simp only [Act.put, List.setIfInBounds_toArray, List.set_cons_succ, List.set_cons_zero])
    | (refine p_boxN rfl _ rfl _ rfl (by assumption) ?_; intro g w H; try simp only [Act.put, List.setIfInBounds_toArray, List.set_cons_succ, List.set_cons_zero])
    | (refine p_allocN rfl rfl (by assumption) ?_; intro g w H; try simp only [Act.put, List.setIfInBounds_toArray, List.set_cons_succ, List.set_cons_zero])
    | (refine p_allocP rfl rfl (by assumption) ?_; intro g w H; try simp only [Act.put, List.setIfInBounds_toArray, List.set_cons_succ, List.set_cons_zero])
    | (refine p_loadN rfl _ rfl _ _ rfl (by assumption) (by (repeat (first | exact .head _ | refine .tail _ ?_))) ?_; try simp only [Act.put, List.setIfInBounds_toArray, List.set_cons_succ, List.set_cons_zero])
    | (refine p_loadP rfl _ rfl _ _ _ _ rfl (by assumption) (by (repeat (first | exact .head _ | refine .tail _ ?_))) ?_; try simp only [Act.put, List.setIfInBounds_toArray, List.set_cons_succ, List.set_cons_zero])
    | (refine p_part0 rfl _ rfl _ _ _ _ rfl (by assumption) (by (repeat (first | exact .head _ | refine .tail _ ?_))) ?_; try simp only [Act.put, List.setIfInBounds_toArray, List.set_cons_succ, List.set_cons_zero])
    | (refine p_part1 rfl _ rfl _ _ _ _ rfl (by assumption) (by (repeat (first | exact .head _ | refine .tail _ ?_))) ?_; try simp only [Act.put, List.setIfInBounds_toArray, List.set_cons_succ, List.set_cons_zero])
    | (refine p_part2 rfl _ rfl _ _ _ _ rfl (by assumption) (by (repeat (first | exact .head _ | refine .tail _ ?_))) ?_; try simp only [Act.put, List.setIfInBounds_toArray, List.set_cons_succ, List.set_cons_zero])
    | (refine p_storeN0 rfl _ _ rfl _ _ _ rfl rfl _ (by assumption) ?_; intro w H; try simp only [Act.put, List.setIfInBounds_toArray, List.set_cons_succ, List.set_cons_zero])
    | (refine p_storeN1 rfl _ _ rfl _ _ _ rfl rfl _ _ (by assumption) ?_; intro w H; try simp only [Act.put, List.setIfInBounds_toArray, List.set_cons_succ, List.set_cons_zero])
    | (refine p_storeP0 rfl _ _ rfl _ _ _ _ _ _ _ rfl rfl _ (by assumption) ?_; intro w H; try simp only [Act.put, List.setIfInBounds_toArray, List.set_cons_succ, List.set_cons_zero])
    | (go_at_call 32; with_reducible refine r_call (by assumption) (c1.out _) ?_; intro w H)
    | (go_at_call 32; with_reducible refine r_call (by assumption) (c2.out _) ?_; intro w H))
  go_ret2
  exact ⟨rfl, H.below⟩
set_option maxHeartbeats 4000000 in
theorem neg_core (s u : ByteArray) (X1 Y1 Z1 X : Nat) (c1 : ∀ w, Calls Try.prog 32 #[.string s] w (RetV (.tuple #[.agg (ptC X1 Y1 Z1).toArray, .bool true]) w)) (s0 : ∀ w, Calls Try.prog 39 #[.int .i64 0] w (RetV (.agg (nC 0).toArray) w)) (m1 : ∀ w, Calls Try.prog 38 #[.agg (nC 0).toArray, .agg (nC X1).toArray] w (RetV (.agg (nC X).toArray) w)) (cA : ∀ w, Calls Try.prog 37 #[.agg (nC X).toArray, .agg (nC Y1).toArray] w (RetV (.agg (ptC X Y1 1).toArray) w)) (cB : ∀ w, Calls Try.prog 33 #[.agg (ptC X Y1 1).toArray] w (RetV (.string u) w)) (wS : World) : Calls Try.prog 13 #[.string s] wS (RetV (.tuple #[.string u, .int .i64 0]) wS) := by
  have H := RMem.start wS
  replace c1 := Kept.mk c1
  replace s0 := Kept.mk s0
  replace m1 := Kept.mk m1
  replace cA := Kept.mk cA
  replace cB := Kept.mk cB
  go_enter Try.func13, Try.ntmps13
  go_wp2_with (first
    | (refine p_boxP rfl _ rfl _ _ _ rfl (by assumption) ?_; intro g w H; try simp only [Act.put, List.setIfInBounds_toArray, List.set_cons_succ, List.set_cons_zero])
    | (refine p_boxN rfl _ rfl _ rfl (by assumption) ?_; intro g w H; try simp only [Act.put, List.setIfInBounds_toArray, List.set_cons_succ, List.set_cons_zero])
    | (refine p_allocN rfl rfl (by assumption) ?_; intro g w H; try simp only [Act.put, List.setIfInBounds_toArray, List.set_cons_succ, List.set_cons_zero])
    | (refine p_allocP rfl rfl (by assumption) ?_; intro g w H; try simp only [Act.put, List.setIfInBounds_toArray, List.set_cons_succ, List.set_cons_zero])
    | (refine p_loadN rfl _ rfl _ _ rfl (by assumption) (by (repeat (first | exact .head _ | refine .tail _ ?_))) ?_; try simp only [Act.put, List.setIfInBounds_toArray, List.set_cons_succ, List.set_cons_zero])
    | (refine p_loadP rfl _ rfl _ _ _ _ rfl (by assumption) (by (repeat (first | exact .head _ | refine .tail _ ?_))) ?_; try simp only [Act.put, List.setIfInBounds_toArray, List.set_cons_succ, List.set_cons_zero])
    | (refine p_part0 rfl _ rfl _ _ _ _ rfl (by assumption) (by (repeat (first | exact .head _ | refine .tail _ ?_))) ?_; try simp only [Act.put, List.setIfInBounds_toArray, List.set_cons_succ, List.set_cons_zero])
    | (refine p_part1 rfl _ rfl _ _ _ _ rfl (by assumption) (by (repeat (first | exact .head _ | refine .tail _ ?_))) ?_; try simp only [Act.put, List.setIfInBounds_toArray, List.set_cons_succ, List.set_cons_zero])
    | (refine p_part2 rfl _ rfl _ _ _ _ rfl (by assumption) (by (repeat (first | exact .head _ | refine .tail _ ?_))) ?_; try simp only [Act.put, List.setIfInBounds_toArray, List.set_cons_succ, List.set_cons_zero])
    | (refine p_storeN0 rfl _ _ rfl _ _ _ rfl rfl _ (by assumption) ?_; intro w H; try simp only [Act.put, List.setIfInBounds_toArray, List.set_cons_succ, List.set_cons_zero])
    | (refine p_storeN1 rfl _ _ rfl _ _ _ rfl rfl _ _ (by assumption) ?_; intro w H; try simp only [Act.put, List.setIfInBounds_toArray, List.set_cons_succ, List.set_cons_zero])
    | (refine p_storeP0 rfl _ _ rfl _ _ _ _ _ _ _ rfl rfl _ (by assumption) ?_; intro w H; try simp only [Act.put, List.setIfInBounds_toArray, List.set_cons_succ, List.set_cons_zero])
    | (go_at_call 32; with_reducible refine r_call (by assumption) (c1.out _) ?_; intro w H))
  refine wp_region_from (by kernel_rfl) (by kernel_rfl) ?_
  repeat (first
    | (go_big_quiet_want; (first
      | (refine q_loadN _ rfl _ _ _ (From.refl _) rfl (by assumption) (by (repeat (first | exact .head _ | refine .tail _ ?_))) ?_)
      | (refine q_loadP _ rfl _ _ _ _ _ (From.refl _) rfl (by assumption) (by (repeat (first | exact .head _ | refine .tail _ ?_))) ?_)
      | (refine q_part0 _ rfl _ _ _ _ _ (From.refl _) rfl (by assumption) (by (repeat (first | exact .head _ | refine .tail _ ?_))) ?_)
      | (refine q_part1 _ rfl _ _ _ _ _ (From.refl _) rfl (by assumption) (by (repeat (first | exact .head _ | refine .tail _ ?_))) ?_)
      | (refine q_part2 _ rfl _ _ _ _ _ (From.refl _) rfl (by assumption) (by (repeat (first | exact .head _ | refine .tail _ ?_))) ?_)
      | (refine q_build3 _ rfl _ _ _ (by rw [Array.toList_map]; rfl) ?_)
      | (refine q_build1 _ rfl _ (by rw [Array.toList_map]; rfl) ?_)); try simp only [Act.put, List.setIfInBounds_toArray, List.set_cons_succ, List.set_cons_zero]; go_big_quiet_on)
    | go_big_quiet_step (((first | (go_at_call 39; with_reducible exact held_call _ (s0.out _)) | (go_at_call 38; with_reducible exact held_call _ (m1.out _)) | (go_at_call 37; with_reducible exact held_call _ (cA.out _)) | (go_at_call 33; with_reducible exact held_call _ (cB.out _))))))
  refine wpQuiet_nil ?_
  intro w5 hw5
  have H := H.from hw5
  clear hw5
  go_wp2
  go_ret2
  exact ⟨rfl, H.below⟩
set_option maxHeartbeats 4000000 in
theorem neg_no (s : ByteArray) (X1 Y1 Z1 : Nat) (c1 : ∀ w, Calls Try.prog 32 #[.string s] w (RetV (.tuple #[.agg (ptC X1 Y1 Z1).toArray, .bool false]) w)) (wS : World) : Calls Try.prog 13 #[.string s] wS (RetV (.tuple #[.string ⟨#[]⟩, .int .i64 60]) wS) := by
  have H := RMem.start wS
  replace c1 := Kept.mk c1
  go_enter Try.func13, Try.ntmps13
  go_wp2_with (first
    | (refine p_boxP rfl _ rfl _ _ _ rfl (by assumption) ?_; intro g w H; try simp only [Act.put, List.setIfInBounds_toArray, List.set_cons_succ, List.set_cons_zero])
    | (refine p_boxN rfl _ rfl _ rfl (by assumption) ?_; intro g w H; try simp only [Act.put, List.setIfInBounds_toArray, List.set_cons_succ, List.set_cons_zero])
    | (refine p_allocN rfl rfl (by assumption) ?_; intro g w H; try simp only [Act.put, List.setIfInBounds_toArray, List.set_cons_succ, List.set_cons_zero])
    | (refine p_allocP rfl rfl (by assumption) ?_; intro g w H; try simp only [Act.put, List.setIfInBounds_toArray, List.set_cons_succ, List.set_cons_zero])
    | (refine p_loadN rfl _ rfl _ _ rfl (by assumption) (by (repeat (first | exact .head _ | refine .tail _ ?_))) ?_; try simp only [Act.put, List.setIfInBounds_toArray, List.set_cons_succ, List.set_cons_zero])
    | (refine p_loadP rfl _ rfl _ _ _ _ rfl (by assumption) (by (repeat (first | exact .head _ | refine .tail _ ?_))) ?_; try simp only [Act.put, List.setIfInBounds_toArray, List.set_cons_succ, List.set_cons_zero])
    | (refine p_part0 rfl _ rfl _ _ _ _ rfl (by assumption) (by (repeat (first | exact .head _ | refine .tail _ ?_))) ?_; try simp only [Act.put, List.setIfInBounds_toArray, List.set_cons_succ, List.set_cons_zero])
    | (refine p_part1 rfl _ rfl _ _ _ _ rfl (by assumption) (by (repeat (first | exact .head _ | refine .tail _ ?_))) ?_; try simp only [Act.put, List.setIfInBounds_toArray, List.set_cons_succ, List.set_cons_zero])
    | (refine p_part2 rfl _ rfl _ _ _ _ rfl (by assumption) (by (repeat (first | exact .head _ | refine .tail _ ?_))) ?_; try simp only [Act.put, List.setIfInBounds_toArray, List.set_cons_succ, List.set_cons_zero])
    | (refine p_storeN0 rfl _ _ rfl _ _ _ rfl rfl _ (by assumption) ?_; intro w H; try simp only [Act.put, List.setIfInBounds_toArray, List.set_cons_succ, List.set_cons_zero])
    | (refine p_storeN1 rfl _ _ rfl _ _ _ rfl rfl _ _ (by assumption) ?_; intro w H; try simp only [Act.put, List.setIfInBounds_toArray, List.set_cons_succ, List.set_cons_zero])
    | (refine p_storeP0 rfl _ _ rfl _ _ _ _ _ _ _ rfl rfl _ (by assumption) ?_; intro w H; try simp only [Act.put, List.setIfInBounds_toArray, List.set_cons_succ, List.set_cons_zero])
    | (go_at_call 32; with_reducible refine r_call (by assumption) (c1.out _) ?_; intro w H))
  go_ret2
  exact ⟨rfl, H.below⟩
set_option maxHeartbeats 4000000 in
theorem mul_core (k s u : ByteArray) (X1 Y1 Z1 U V W : Nat) (hk : k.size = 32) (c1 : ∀ w, Calls Try.prog 32 #[.string s] w (RetV (.tuple #[.agg (ptC X1 Y1 Z1).toArray, .bool true]) w)) (cM : ∀ w, Calls Try.prog 44 #[.string k, .agg (ptC X1 Y1 Z1).toArray] w (RetV (.agg (ptC U V W).toArray) w)) (cB : ∀ w, Calls Try.prog 33 #[.agg (ptC U V W).toArray] w (RetV (.string u) w)) (wS : World) : Calls Try.prog 22 #[.string k, .string s] wS (RetV (.tuple #[.string u, .int .i64 0]) wS) := by
  have H := RMem.start wS
  replace c1 := Kept.mk c1
  replace cM := Kept.mk cM
  replace cB := Kept.mk cB
  go_enter Try.func22, Try.ntmps22
  go_wp2_with (first
    | (refine p_boxP rfl _ rfl _ _ _ rfl (by assumption) ?_; intro g w H; try simp only [Act.put, List.setIfInBounds_toArray, List.set_cons_succ, List.set_cons_zero])
    | (refine p_boxN rfl _ rfl _ rfl (by assumption) ?_; intro g w H; try simp only [Act.put, List.setIfInBounds_toArray, List.set_cons_succ, List.set_cons_zero])
    | (refine p_allocN rfl rfl (by assumption) ?_; intro g w H; try simp only [Act.put, List.setIfInBounds_toArray, List.set_cons_succ, List.set_cons_zero])
    | (refine p_allocP rfl rfl (by assumption) ?_; intro g w H; try simp only [Act.put, List.setIfInBounds_toArray, List.set_cons_succ, List.set_cons_zero])
    | (refine p_loadN rfl _ rfl _ _ rfl (by assumption) (by (repeat (first | exact .head _ | refine .tail _ ?_))) ?_; try simp only [Act.put, List.setIfInBounds_toArray, List.set_cons_succ, List.set_cons_zero])
    | (refine p_loadP rfl _ rfl _ _ _ _ rfl (by assumption) (by (repeat (first | exact .head _ | refine .tail _ ?_))) ?_; try simp only [Act.put, List.setIfInBounds_toArray, List.set_cons_succ, List.set_cons_zero])
    | (refine p_part0 rfl _ rfl _ _ _ _ rfl (by assumption) (by (repeat (first | exact .head _ | refine .tail _ ?_))) ?_; try simp only [Act.put, List.setIfInBounds_toArray, List.set_cons_succ, List.set_cons_zero])
    | (refine p_part1 rfl _ rfl _ _ _ _ rfl (by assumption) (by (repeat (first | exact .head _ | refine .tail _ ?_))) ?_; try simp only [Act.put, List.setIfInBounds_toArray, List.set_cons_succ, List.set_cons_zero])
    | (refine p_part2 rfl _ rfl _ _ _ _ rfl (by assumption) (by (repeat (first | exact .head _ | refine .tail _ ?_))) ?_; try simp only [Act.put, List.setIfInBounds_toArray, List.set_cons_succ, List.set_cons_zero])
    | (refine p_storeN0 rfl _ _ rfl _ _ _ rfl rfl _ (by assumption) ?_; intro w H; try simp only [Act.put, List.setIfInBounds_toArray, List.set_cons_succ, List.set_cons_zero])
    | (refine p_storeN1 rfl _ _ rfl _ _ _ rfl rfl _ _ (by assumption) ?_; intro w H; try simp only [Act.put, List.setIfInBounds_toArray, List.set_cons_succ, List.set_cons_zero])
    | (refine p_storeP0 rfl _ _ rfl _ _ _ _ _ _ _ rfl rfl _ (by assumption) ?_; intro w H; try simp only [Act.put, List.setIfInBounds_toArray, List.set_cons_succ, List.set_cons_zero])
    | (go_at_call 32; with_reducible refine r_call (by assumption) (c1.out _) ?_; intro w H)
    | (go_at_call 44; with_reducible refine r_call (by assumption) (cM.out _) ?_; intro w H)
    | (go_at_call 33; with_reducible refine r_call (by assumption) (cB.out _) ?_; intro w H))
  go_ret2
  exact ⟨rfl, H.below⟩
set_option maxHeartbeats 4000000 in
theorem mul_no1 (k s : ByteArray) (X1 Y1 Z1 : Nat) (c1 : ∀ w, Calls Try.prog 32 #[.string s] w (RetV (.tuple #[.agg (ptC X1 Y1 Z1).toArray, .bool false]) w)) (wS : World) : Calls Try.prog 22 #[.string k, .string s] wS (RetV (.tuple #[.string ⟨#[]⟩, .int .i64 60]) wS) := by
  have H := RMem.start wS
  replace c1 := Kept.mk c1
  go_enter Try.func22, Try.ntmps22
  go_wp2_with (first
    | (refine p_boxP rfl _ rfl _ _ _ rfl (by assumption) ?_; intro g w H; try simp only [Act.put, List.setIfInBounds_toArray, List.set_cons_succ, List.set_cons_zero])
    | (refine p_boxN rfl _ rfl _ rfl (by assumption) ?_; intro g w H; try simp only [Act.put, List.setIfInBounds_toArray, List.set_cons_succ, List.set_cons_zero])
    | (refine p_allocN rfl rfl (by assumption) ?_; intro g w H; try simp only [Act.put, List.setIfInBounds_toArray, List.set_cons_succ, List.set_cons_zero])
    | (refine p_allocP rfl rfl (by assumption) ?_; intro g w H; try simp only [Act.put, List.setIfInBounds_toArray, List.set_cons_succ, List.set_cons_zero])
    | (refine p_loadN rfl _ rfl _ _ rfl (by assumption) (by (repeat (first | exact .head _ | refine .tail _ ?_))) ?_; try simp only [Act.put, List.setIfInBounds_toArray, List.set_cons_succ, List.set_cons_zero])
    | (refine p_loadP rfl _ rfl _ _ _ _ rfl (by assumption) (by (repeat (first | exact .head _ | refine .tail _ ?_))) ?_; try simp only [Act.put, List.setIfInBounds_toArray, List.set_cons_succ, List.set_cons_zero])
    | (refine p_part0 rfl _ rfl _ _ _ _ rfl (by assumption) (by (repeat (first | exact .head _ | refine .tail _ ?_))) ?_; try simp only [Act.put, List.setIfInBounds_toArray, List.set_cons_succ, List.set_cons_zero])
    | (refine p_part1 rfl _ rfl _ _ _ _ rfl (by assumption) (by (repeat (first | exact .head _ | refine .tail _ ?_))) ?_; try simp only [Act.put, List.setIfInBounds_toArray, List.set_cons_succ, List.set_cons_zero])
    | (refine p_part2 rfl _ rfl _ _ _ _ rfl (by assumption) (by (repeat (first | exact .head _ | refine .tail _ ?_))) ?_; try simp only [Act.put, List.setIfInBounds_toArray, List.set_cons_succ, List.set_cons_zero])
    | (refine p_storeN0 rfl _ _ rfl _ _ _ rfl rfl _ (by assumption) ?_; intro w H; try simp only [Act.put, List.setIfInBounds_toArray, List.set_cons_succ, List.set_cons_zero])
    | (refine p_storeN1 rfl _ _ rfl _ _ _ rfl rfl _ _ (by assumption) ?_; intro w H; try simp only [Act.put, List.setIfInBounds_toArray, List.set_cons_succ, List.set_cons_zero])
    | (refine p_storeP0 rfl _ _ rfl _ _ _ _ _ _ _ rfl rfl _ (by assumption) ?_; intro w H; try simp only [Act.put, List.setIfInBounds_toArray, List.set_cons_succ, List.set_cons_zero])
    | (go_at_call 32; with_reducible refine r_call (by assumption) (c1.out _) ?_; intro w H))
  go_ret2
  exact ⟨rfl, H.below⟩
set_option maxHeartbeats 4000000 in
theorem mul_no2 (k s : ByteArray) (X1 Y1 Z1 : Nat) (hk : ((k.size : Int) != 32) = true) (c1 : ∀ w, Calls Try.prog 32 #[.string s] w (RetV (.tuple #[.agg (ptC X1 Y1 Z1).toArray, .bool true]) w)) (wS : World) : Calls Try.prog 22 #[.string k, .string s] wS (RetV (.tuple #[.string ⟨#[]⟩, .int .i64 60]) wS) := by
  have H := RMem.start wS
  replace c1 := Kept.mk c1
  go_enter Try.func22, Try.ntmps22
  go_wp2_with (first
    | (refine p_boxP rfl _ rfl _ _ _ rfl (by assumption) ?_; intro g w H; try simp only [Act.put, List.setIfInBounds_toArray, List.set_cons_succ, List.set_cons_zero])
    | (refine p_boxN rfl _ rfl _ rfl (by assumption) ?_; intro g w H; try simp only [Act.put, List.setIfInBounds_toArray, List.set_cons_succ, List.set_cons_zero])
    | (refine p_allocN rfl rfl (by assumption) ?_; intro g w H; try simp only [Act.put, List.setIfInBounds_toArray, List.set_cons_succ, List.set_cons_zero])
    | (refine p_allocP rfl rfl (by assumption) ?_; intro g w H; try simp only [Act.put, List.setIfInBounds_toArray, List.set_cons_succ, List.set_cons_zero])
    | (refine p_loadN rfl _ rfl _ _ rfl (by assumption) (by (repeat (first | exact .head _ | refine .tail _ ?_))) ?_; try simp only [Act.put, List.setIfInBounds_toArray, List.set_cons_succ, List.set_cons_zero])
    | (refine p_loadP rfl _ rfl _ _ _ _ rfl (by assumption) (by (repeat (first | exact .head _ | refine .tail _ ?_))) ?_; try simp only [Act.put, List.setIfInBounds_toArray, List.set_cons_succ, List.set_cons_zero])
    | (refine p_part0 rfl _ rfl _ _ _ _ rfl (by assumption) (by (repeat (first | exact .head _ | refine .tail _ ?_))) ?_; try simp only [Act.put, List.setIfInBounds_toArray, List.set_cons_succ, List.set_cons_zero])
    | (refine p_part1 rfl _ rfl _ _ _ _ rfl (by assumption) (by (repeat (first | exact .head _ | refine .tail _ ?_))) ?_; try simp only [Act.put, List.setIfInBounds_toArray, List.set_cons_succ, List.set_cons_zero])
    | (refine p_part2 rfl _ rfl _ _ _ _ rfl (by assumption) (by (repeat (first | exact .head _ | refine .tail _ ?_))) ?_; try simp only [Act.put, List.setIfInBounds_toArray, List.set_cons_succ, List.set_cons_zero])
    | (refine p_storeN0 rfl _ _ rfl _ _ _ rfl rfl _ (by assumption) ?_; intro w H; try simp only [Act.put, List.setIfInBounds_toArray, List.set_cons_succ, List.set_cons_zero])
    | (refine p_storeN1 rfl _ _ rfl _ _ _ rfl rfl _ _ (by assumption) ?_; intro w H; try simp only [Act.put, List.setIfInBounds_toArray, List.set_cons_succ, List.set_cons_zero])
    | (refine p_storeP0 rfl _ _ rfl _ _ _ _ _ _ _ rfl rfl _ (by assumption) ?_; intro w H; try simp only [Act.put, List.setIfInBounds_toArray, List.set_cons_succ, List.set_cons_zero])
    | (go_at_call 32; with_reducible refine r_call (by assumption) (c1.out _) ?_; intro w H))
  go_ret2
  exact ⟨rfl, H.below⟩
set_option maxHeartbeats 4000000 in
theorem both_core (a s b u bs : ByteArray) (X1 Y1 Z1 X2 Y2 Z2 X4 Y4 Z4 X5 Y5 Z5 U V W : Nat) (ha : a.size = 32) (hb : b.size = 32) (c1 : ∀ w, Calls Try.prog 32 #[.string s] w (RetV (.tuple #[.agg (ptC X1 Y1 Z1).toArray, .bool true]) w)) (c0 : ∀ w, Calls Try.prog 18 #[] w (RetV (.string bs) w)) (c2 : ∀ w, Calls Try.prog 32 #[.string bs] w (RetV (.tuple #[.agg (ptC X2 Y2 Z2).toArray, .bool true]) w)) (m1 : ∀ w, Calls Try.prog 44 #[.string a, .agg (ptC X1 Y1 Z1).toArray] w (RetV (.agg (ptC X4 Y4 Z4).toArray) w)) (m2 : ∀ w, Calls Try.prog 44 #[.string b, .agg (ptC X2 Y2 Z2).toArray] w (RetV (.agg (ptC X5 Y5 Z5).toArray) w)) (cD : ∀ w, Calls Try.prog 35 #[] w (RetV (.agg (nC dF).toArray) w)) (cP : ∀ w, Calls Try.prog 34 #[.agg (ptC X4 Y4 Z4).toArray, .agg (ptC X5 Y5 Z5).toArray, .agg (ptC dF 0 0).toArray] w (RetV (.agg (ptC U V W).toArray) w)) (cB : ∀ w, Calls Try.prog 33 #[.agg (ptC U V W).toArray] w (RetV (.string u) w)) (wS : World) : Calls Try.prog 24 #[.string a, .string s, .string b] wS (RetV (.tuple #[.string u, .int .i64 0]) wS) := by
  have H := RMem.start wS
  replace c1 := Kept.mk c1
  replace c0 := Kept.mk c0
  replace c2 := Kept.mk c2
  replace m1 := Kept.mk m1
  replace m2 := Kept.mk m2
  replace cD := Kept.mk cD
  replace cP := Kept.mk cP
  replace cB := Kept.mk cB
  go_enter Try.func24, Try.ntmps24
  go_wp2_with (first
    | (refine p_boxP rfl _ rfl _ _ _ rfl (by assumption) ?_; intro g w H; try simp only [Act.put, List.setIfInBounds_toArray, List.set_cons_succ, List.set_cons_zero])
    | (refine p_boxN rfl _ rfl _ rfl (by assumption) ?_; intro g w H; try simp only [Act.put, List.setIfInBounds_toArray, List.set_cons_succ, List.set_cons_zero])
    | (refine p_allocN rfl rfl (by assumption) ?_; intro g w H; try simp only [Act.put, List.setIfInBounds_toArray, List.set_cons_succ, List.set_cons_zero])
    | (refine p_allocP rfl rfl (by assumption) ?_; intro g w H; try simp only [Act.put, List.setIfInBounds_toArray, List.set_cons_succ, List.set_cons_zero])
    | (refine p_loadN rfl _ rfl _ _ rfl (by assumption) (by (repeat (first | exact .head _ | refine .tail _ ?_))) ?_; try simp only [Act.put, List.setIfInBounds_toArray, List.set_cons_succ, List.set_cons_zero])
    | (refine p_loadP rfl _ rfl _ _ _ _ rfl (by assumption) (by (repeat (first | exact .head _ | refine .tail _ ?_))) ?_; try simp only [Act.put, List.setIfInBounds_toArray, List.set_cons_succ, List.set_cons_zero])
    | (refine p_part0 rfl _ rfl _ _ _ _ rfl (by assumption) (by (repeat (first | exact .head _ | refine .tail _ ?_))) ?_; try simp only [Act.put, List.setIfInBounds_toArray, List.set_cons_succ, List.set_cons_zero])
    | (refine p_part1 rfl _ rfl _ _ _ _ rfl (by assumption) (by (repeat (first | exact .head _ | refine .tail _ ?_))) ?_; try simp only [Act.put, List.setIfInBounds_toArray, List.set_cons_succ, List.set_cons_zero])
    | (refine p_part2 rfl _ rfl _ _ _ _ rfl (by assumption) (by (repeat (first | exact .head _ | refine .tail _ ?_))) ?_; try simp only [Act.put, List.setIfInBounds_toArray, List.set_cons_succ, List.set_cons_zero])
    | (refine p_storeN0 rfl _ _ rfl _ _ _ rfl rfl _ (by assumption) ?_; intro w H; try simp only [Act.put, List.setIfInBounds_toArray, List.set_cons_succ, List.set_cons_zero])
    | (refine p_storeN1 rfl _ _ rfl _ _ _ rfl rfl _ _ (by assumption) ?_; intro w H; try simp only [Act.put, List.setIfInBounds_toArray, List.set_cons_succ, List.set_cons_zero])
    | (refine p_storeP0 rfl _ _ rfl _ _ _ _ _ _ _ rfl rfl _ (by assumption) ?_; intro w H; try simp only [Act.put, List.setIfInBounds_toArray, List.set_cons_succ, List.set_cons_zero])
    | (go_at_call 32; with_reducible refine r_call (by assumption) (c1.out _) ?_; intro w H)
    | (go_at_call 32; with_reducible refine r_call (by assumption) (c2.out _) ?_; intro w H)
    | (go_at_call 18; with_reducible refine r_call (by assumption) (c0.out _) ?_; intro w H))
  refine wp_region_from (by kernel_rfl) (by kernel_rfl) ?_
  repeat (first
    | (go_big_quiet_want; (first
      | (refine q_loadN _ rfl _ _ _ (From.refl _) rfl (by assumption) (by (repeat (first | exact .head _ | refine .tail _ ?_))) ?_)
      | (refine q_loadP _ rfl _ _ _ _ _ (From.refl _) rfl (by assumption) (by (repeat (first | exact .head _ | refine .tail _ ?_))) ?_)
      | (refine q_part0 _ rfl _ _ _ _ _ (From.refl _) rfl (by assumption) (by (repeat (first | exact .head _ | refine .tail _ ?_))) ?_)
      | (refine q_part1 _ rfl _ _ _ _ _ (From.refl _) rfl (by assumption) (by (repeat (first | exact .head _ | refine .tail _ ?_))) ?_)
      | (refine q_part2 _ rfl _ _ _ _ _ (From.refl _) rfl (by assumption) (by (repeat (first | exact .head _ | refine .tail _ ?_))) ?_)
      | (refine q_build3 _ rfl _ _ _ (by rw [Array.toList_map]; rfl) ?_)
      | (refine q_build1 _ rfl _ (by rw [Array.toList_map]; rfl) ?_)); try simp only [Act.put, List.setIfInBounds_toArray, List.set_cons_succ, List.set_cons_zero]; go_big_quiet_on)
    | go_big_quiet_step (((first | (go_at_call 44; with_reducible exact held_call _ (m1.out _)) | (go_at_call 44; with_reducible exact held_call _ (m2.out _)) | (go_at_call 35; with_reducible exact held_call _ (cD.out _)) | (go_at_call 34; with_reducible exact held_call _ (cP.out _)) | (go_at_call 33; with_reducible exact held_call _ (cB.out _))))))
  refine wpQuiet_nil ?_
  intro w5 hw5
  have H := H.from hw5
  clear hw5
  go_wp2
  go_ret2
  exact ⟨rfl, H.below⟩
set_option maxHeartbeats 4000000 in
theorem both_no1 (a s b : ByteArray) (X1 Y1 Z1 : Nat) (c1 : ∀ w, Calls Try.prog 32 #[.string s] w (RetV (.tuple #[.agg (ptC X1 Y1 Z1).toArray, .bool false]) w)) (wS : World) : Calls Try.prog 24 #[.string a, .string s, .string b] wS (RetV (.tuple #[.string ⟨#[]⟩, .int .i64 60]) wS) := by
  have H := RMem.start wS
  replace c1 := Kept.mk c1
  go_enter Try.func24, Try.ntmps24
  go_wp2_with (first
    | (refine p_boxP rfl _ rfl _ _ _ rfl (by assumption) ?_; intro g w H; try simp only [Act.put, List.setIfInBounds_toArray, List.set_cons_succ, List.set_cons_zero])
    | (refine p_boxN rfl _ rfl _ rfl (by assumption) ?_; intro g w H; try simp only [Act.put, List.setIfInBounds_toArray, List.set_cons_succ, List.set_cons_zero])
    | (refine p_allocN rfl rfl (by assumption) ?_; intro g w H; try simp only [Act.put, List.setIfInBounds_toArray, List.set_cons_succ, List.set_cons_zero])
    | (refine p_allocP rfl rfl (by assumption) ?_; intro g w H; try simp only [Act.put, List.setIfInBounds_toArray, List.set_cons_succ, List.set_cons_zero])
    | (refine p_loadN rfl _ rfl _ _ rfl (by assumption) (by (repeat (first | exact .head _ | refine .tail _ ?_))) ?_; try simp only [Act.put, List.setIfInBounds_toArray, List.set_cons_succ, List.set_cons_zero])
    | (refine p_loadP rfl _ rfl _ _ _ _ rfl (by assumption) (by (repeat (first | exact .head _ | refine .tail _ ?_))) ?_; try simp only [Act.put, List.setIfInBounds_toArray, List.set_cons_succ, List.set_cons_zero])
    | (refine p_part0 rfl _ rfl _ _ _ _ rfl (by assumption) (by (repeat (first | exact .head _ | refine .tail _ ?_))) ?_; try simp only [Act.put, List.setIfInBounds_toArray, List.set_cons_succ, List.set_cons_zero])
    | (refine p_part1 rfl _ rfl _ _ _ _ rfl (by assumption) (by (repeat (first | exact .head _ | refine .tail _ ?_))) ?_; try simp only [Act.put, List.setIfInBounds_toArray, List.set_cons_succ, List.set_cons_zero])
    | (refine p_part2 rfl _ rfl _ _ _ _ rfl (by assumption) (by (repeat (first | exact .head _ | refine .tail _ ?_))) ?_; try simp only [Act.put, List.setIfInBounds_toArray, List.set_cons_succ, List.set_cons_zero])
    | (refine p_storeN0 rfl _ _ rfl _ _ _ rfl rfl _ (by assumption) ?_; intro w H; try simp only [Act.put, List.setIfInBounds_toArray, List.set_cons_succ, List.set_cons_zero])
    | (refine p_storeN1 rfl _ _ rfl _ _ _ rfl rfl _ _ (by assumption) ?_; intro w H; try simp only [Act.put, List.setIfInBounds_toArray, List.set_cons_succ, List.set_cons_zero])
    | (refine p_storeP0 rfl _ _ rfl _ _ _ _ _ _ _ rfl rfl _ (by assumption) ?_; intro w H; try simp only [Act.put, List.setIfInBounds_toArray, List.set_cons_succ, List.set_cons_zero])
    | (go_at_call 32; with_reducible refine r_call (by assumption) (c1.out _) ?_; intro w H))
  go_ret2
  exact ⟨rfl, H.below⟩
set_option maxHeartbeats 4000000 in
theorem both_no2 (a s b : ByteArray) (X1 Y1 Z1 : Nat) (ha : ((a.size : Int) != 32) = true) (c1 : ∀ w, Calls Try.prog 32 #[.string s] w (RetV (.tuple #[.agg (ptC X1 Y1 Z1).toArray, .bool true]) w)) (wS : World) : Calls Try.prog 24 #[.string a, .string s, .string b] wS (RetV (.tuple #[.string ⟨#[]⟩, .int .i64 60]) wS) := by
  have H := RMem.start wS
  replace c1 := Kept.mk c1
  go_enter Try.func24, Try.ntmps24
  go_wp2_with (first
    | (refine p_boxP rfl _ rfl _ _ _ rfl (by assumption) ?_; intro g w H; try simp only [Act.put, List.setIfInBounds_toArray, List.set_cons_succ, List.set_cons_zero])
    | (refine p_boxN rfl _ rfl _ rfl (by assumption) ?_; intro g w H; try simp only [Act.put, List.setIfInBounds_toArray, List.set_cons_succ, List.set_cons_zero])
    | (refine p_allocN rfl rfl (by assumption) ?_; intro g w H; try simp only [Act.put, List.setIfInBounds_toArray, List.set_cons_succ, List.set_cons_zero])
    | (refine p_allocP rfl rfl (by assumption) ?_; intro g w H; try simp only [Act.put, List.setIfInBounds_toArray, List.set_cons_succ, List.set_cons_zero])
    | (refine p_loadN rfl _ rfl _ _ rfl (by assumption) (by (repeat (first | exact .head _ | refine .tail _ ?_))) ?_; try simp only [Act.put, List.setIfInBounds_toArray, List.set_cons_succ, List.set_cons_zero])
    | (refine p_loadP rfl _ rfl _ _ _ _ rfl (by assumption) (by (repeat (first | exact .head _ | refine .tail _ ?_))) ?_; try simp only [Act.put, List.setIfInBounds_toArray, List.set_cons_succ, List.set_cons_zero])
    | (refine p_part0 rfl _ rfl _ _ _ _ rfl (by assumption) (by (repeat (first | exact .head _ | refine .tail _ ?_))) ?_; try simp only [Act.put, List.setIfInBounds_toArray, List.set_cons_succ, List.set_cons_zero])
    | (refine p_part1 rfl _ rfl _ _ _ _ rfl (by assumption) (by (repeat (first | exact .head _ | refine .tail _ ?_))) ?_; try simp only [Act.put, List.setIfInBounds_toArray, List.set_cons_succ, List.set_cons_zero])
    | (refine p_part2 rfl _ rfl _ _ _ _ rfl (by assumption) (by (repeat (first | exact .head _ | refine .tail _ ?_))) ?_; try simp only [Act.put, List.setIfInBounds_toArray, List.set_cons_succ, List.set_cons_zero])
    | (refine p_storeN0 rfl _ _ rfl _ _ _ rfl rfl _ (by assumption) ?_; intro w H; try simp only [Act.put, List.setIfInBounds_toArray, List.set_cons_succ, List.set_cons_zero])
    | (refine p_storeN1 rfl _ _ rfl _ _ _ rfl rfl _ _ (by assumption) ?_; intro w H; try simp only [Act.put, List.setIfInBounds_toArray, List.set_cons_succ, List.set_cons_zero])
    | (refine p_storeP0 rfl _ _ rfl _ _ _ _ _ _ _ rfl rfl _ (by assumption) ?_; intro w H; try simp only [Act.put, List.setIfInBounds_toArray, List.set_cons_succ, List.set_cons_zero])
    | (go_at_call 32; with_reducible refine r_call (by assumption) (c1.out _) ?_; intro w H))
  go_ret2
  exact ⟨rfl, H.below⟩
set_option maxHeartbeats 4000000 in
theorem both_no3 (a s b : ByteArray) (X1 Y1 Z1 : Nat) (ha : a.size = 32) (hb : ((b.size : Int) != 32) = true) (c1 : ∀ w, Calls Try.prog 32 #[.string s] w (RetV (.tuple #[.agg (ptC X1 Y1 Z1).toArray, .bool true]) w)) (wS : World) : Calls Try.prog 24 #[.string a, .string s, .string b] wS (RetV (.tuple #[.string ⟨#[]⟩, .int .i64 60]) wS) := by
  have H := RMem.start wS
  replace c1 := Kept.mk c1
  go_enter Try.func24, Try.ntmps24
  go_wp2_with (first
    | (refine p_boxP rfl _ rfl _ _ _ rfl (by assumption) ?_; intro g w H; try simp only [Act.put, List.setIfInBounds_toArray, List.set_cons_succ, List.set_cons_zero])
    | (refine p_boxN rfl _ rfl _ rfl (by assumption) ?_; intro g w H; try simp only [Act.put, List.setIfInBounds_toArray, List.set_cons_succ, List.set_cons_zero])
    | (refine p_allocN rfl rfl (by assumption) ?_; intro g w H; try simp only [Act.put, List.setIfInBounds_toArray, List.set_cons_succ, List.set_cons_zero])
    | (refine p_allocP rfl rfl (by assumption) ?_; intro g w H; try simp only [Act.put, List.setIfInBounds_toArray, List.set_cons_succ, List.set_cons_zero])
    | (refine p_loadN rfl _ rfl _ _ rfl (by assumption) (by (repeat (first | exact .head _ | refine .tail _ ?_))) ?_; try simp only [Act.put, List.setIfInBounds_toArray, List.set_cons_succ, List.set_cons_zero])
    | (refine p_loadP rfl _ rfl _ _ _ _ rfl (by assumption) (by (repeat (first | exact .head _ | refine .tail _ ?_))) ?_; try simp only [Act.put, List.setIfInBounds_toArray, List.set_cons_succ, List.set_cons_zero])
    | (refine p_part0 rfl _ rfl _ _ _ _ rfl (by assumption) (by (repeat (first | exact .head _ | refine .tail _ ?_))) ?_; try simp only [Act.put, List.setIfInBounds_toArray, List.set_cons_succ, List.set_cons_zero])
    | (refine p_part1 rfl _ rfl _ _ _ _ rfl (by assumption) (by (repeat (first | exact .head _ | refine .tail _ ?_))) ?_; try simp only [Act.put, List.setIfInBounds_toArray, List.set_cons_succ, List.set_cons_zero])
    | (refine p_part2 rfl _ rfl _ _ _ _ rfl (by assumption) (by (repeat (first | exact .head _ | refine .tail _ ?_))) ?_; try simp only [Act.put, List.setIfInBounds_toArray, List.set_cons_succ, List.set_cons_zero])
    | (refine p_storeN0 rfl _ _ rfl _ _ _ rfl rfl _ (by assumption) ?_; intro w H; try simp only [Act.put, List.setIfInBounds_toArray, List.set_cons_succ, List.set_cons_zero])
    | (refine p_storeN1 rfl _ _ rfl _ _ _ rfl rfl _ _ (by assumption) ?_; intro w H; try simp only [Act.put, List.setIfInBounds_toArray, List.set_cons_succ, List.set_cons_zero])
    | (refine p_storeP0 rfl _ _ rfl _ _ _ _ _ _ _ rfl rfl _ (by assumption) ?_; intro w H; try simp only [Act.put, List.setIfInBounds_toArray, List.set_cons_succ, List.set_cons_zero])
    | (go_at_call 32; with_reducible refine r_call (by assumption) (c1.out _) ?_; intro w H))
  go_ret2
  exact ⟨rfl, H.below⟩
end Go.Proofs.Ytockcnglennihaa
