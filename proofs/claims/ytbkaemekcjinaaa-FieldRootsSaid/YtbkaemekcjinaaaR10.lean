/- Walks of the document's answer for package field: its calls Add, Sub, Mul. -/
import Derived.Test.YtbkaemekcjinaaaR9
set_option linter.unusedSimpArgs false
set_option linter.unusedVariables false
namespace Go.Proofs.Ytbkaemekcjinaaa
open Go.RowKit
theorem two_any (l m : List UInt8) (b : Bool) (n : Int) (hb : (isEl l && isEl m) = b) (hn : n = if b = true then 0 else 40) (wS : World) : Calls Try.prog 39 #[.string (S l), .string (S m)] wS fun e w' => e = .returned (.int .i64 n) ∧ Below wS.heap.size wS w' := by
  have H := AMem.start wS
  have c1 := fun w => Is_any l w
  have c2 := fun w => Is_any m w
  subst hn
  cases h1 : isEl l
  · rw [h1, Bool.false_and] at hb
    subst hb
    rw [h1] at c1
    rw [if_neg (by decide)]
    replace c1 := Kept.mk c1
    clear c2 h1
    generalize S l = sl at c1 ⊢
    go_enter Try.func39, Try.ntmps39
    go_wp2_with (first
      | (refine a_box rfl _ rfl _ rfl (by assumption) (by first | assumption | exact limbs_len _ _ _ | exact z16_len) ?_; intro g w H; try simp only [Act.put, List.setIfInBounds_toArray, List.set_cons_succ, List.set_cons_zero])
      | (refine a_alloc rfl rfl (by assumption) ?_; intro g w H; try simp only [Act.put, List.setIfInBounds_toArray, List.set_cons_succ, List.set_cons_zero])
      | (refine a_build rfl rfl ?_; try simp only [Act.put, List.setIfInBounds_toArray, List.set_cons_succ, List.set_cons_zero])
      | (refine a_load rfl _ rfl _ _ rfl (by assumption) (by (first | exact .head _ | exact .tail _ (.head _) | exact .tail _ (.tail _ (.head _)) | exact .tail _ (.tail _ (.tail _ (.head _))) | exact .tail _ (.tail _ (.tail _ (.tail _ (.head _)))))) ?_; try simp only [Act.put, List.setIfInBounds_toArray, List.set_cons_succ, List.set_cons_zero])
      | (refine a_store0 rfl _ _ rfl _ _ _ rfl rfl _ (by assumption) (by first | assumption | exact limbs_len _ _ _ | exact z16_len) ?_; intro w H; try simp only [Act.put, List.setIfInBounds_toArray, List.set_cons_succ, List.set_cons_zero])
      | (refine a_store1 rfl _ _ rfl _ _ _ rfl rfl _ _ (by assumption) (by first | assumption | exact limbs_len _ _ _ | exact z16_len) ?_; intro w H; try simp only [Act.put, List.setIfInBounds_toArray, List.set_cons_succ, List.set_cons_zero])
      | (refine a_store2 rfl _ _ rfl _ _ _ rfl rfl _ _ _ (by assumption) (by first | assumption | exact limbs_len _ _ _ | exact z16_len) ?_; intro w H; try simp only [Act.put, List.setIfInBounds_toArray, List.set_cons_succ, List.set_cons_zero])
      | (go_at_call 14; refine a_call (by assumption) (c1.out _) ?_; intro w H))
    go_ret
    exact ⟨rfl, H.below⟩
  cases h2 : isEl m
  · rw [h1, h2, Bool.and_false] at hb
    subst hb
    rw [h1] at c1
    rw [h2] at c2
    rw [if_neg (by decide)]
    clear h1 h2
    generalize S l = sl at c1 ⊢
    generalize S m = sm at c2 ⊢
    replace c1 := Kept.mk c1
    replace c2 := Kept.mk c2
    go_enter Try.func39, Try.ntmps39
    go_wp2_with (first
      | (refine a_box rfl _ rfl _ rfl (by assumption) (by first | assumption | exact limbs_len _ _ _ | exact z16_len) ?_; intro g w H; try simp only [Act.put, List.setIfInBounds_toArray, List.set_cons_succ, List.set_cons_zero])
      | (refine a_alloc rfl rfl (by assumption) ?_; intro g w H; try simp only [Act.put, List.setIfInBounds_toArray, List.set_cons_succ, List.set_cons_zero])
      | (refine a_build rfl rfl ?_; try simp only [Act.put, List.setIfInBounds_toArray, List.set_cons_succ, List.set_cons_zero])
      | (refine a_load rfl _ rfl _ _ rfl (by assumption) (by (first | exact .head _ | exact .tail _ (.head _) | exact .tail _ (.tail _ (.head _)) | exact .tail _ (.tail _ (.tail _ (.head _))) | exact .tail _ (.tail _ (.tail _ (.tail _ (.head _)))))) ?_; try simp only [Act.put, List.setIfInBounds_toArray, List.set_cons_succ, List.set_cons_zero])
      | (refine a_store0 rfl _ _ rfl _ _ _ rfl rfl _ (by assumption) (by first | assumption | exact limbs_len _ _ _ | exact z16_len) ?_; intro w H; try simp only [Act.put, List.setIfInBounds_toArray, List.set_cons_succ, List.set_cons_zero])
      | (refine a_store1 rfl _ _ rfl _ _ _ rfl rfl _ _ (by assumption) (by first | assumption | exact limbs_len _ _ _ | exact z16_len) ?_; intro w H; try simp only [Act.put, List.setIfInBounds_toArray, List.set_cons_succ, List.set_cons_zero])
      | (refine a_store2 rfl _ _ rfl _ _ _ rfl rfl _ _ _ (by assumption) (by first | assumption | exact limbs_len _ _ _ | exact z16_len) ?_; intro w H; try simp only [Act.put, List.setIfInBounds_toArray, List.set_cons_succ, List.set_cons_zero])
      | (go_at_call 14; with_reducible refine a_call (by assumption) (c1.out _) ?_; intro w H)
      | (go_at_call 14; with_reducible refine a_call (by assumption) (c2.out _) ?_; intro w H))
    go_ret
    exact ⟨rfl, H.below⟩
  · rw [h1, h2, Bool.and_true] at hb
    subst hb
    rw [h1] at c1
    rw [h2] at c2
    rw [if_pos rfl]
    clear h1 h2
    generalize S l = sl at c1 ⊢
    generalize S m = sm at c2 ⊢
    replace c1 := Kept.mk c1
    replace c2 := Kept.mk c2
    go_enter Try.func39, Try.ntmps39
    go_wp2_with (first
      | (refine a_box rfl _ rfl _ rfl (by assumption) (by first | assumption | exact limbs_len _ _ _ | exact z16_len) ?_; intro g w H; try simp only [Act.put, List.setIfInBounds_toArray, List.set_cons_succ, List.set_cons_zero])
      | (refine a_alloc rfl rfl (by assumption) ?_; intro g w H; try simp only [Act.put, List.setIfInBounds_toArray, List.set_cons_succ, List.set_cons_zero])
      | (refine a_build rfl rfl ?_; try simp only [Act.put, List.setIfInBounds_toArray, List.set_cons_succ, List.set_cons_zero])
      | (refine a_load rfl _ rfl _ _ rfl (by assumption) (by (first | exact .head _ | exact .tail _ (.head _) | exact .tail _ (.tail _ (.head _)) | exact .tail _ (.tail _ (.tail _ (.head _))) | exact .tail _ (.tail _ (.tail _ (.tail _ (.head _)))))) ?_; try simp only [Act.put, List.setIfInBounds_toArray, List.set_cons_succ, List.set_cons_zero])
      | (refine a_store0 rfl _ _ rfl _ _ _ rfl rfl _ (by assumption) (by first | assumption | exact limbs_len _ _ _ | exact z16_len) ?_; intro w H; try simp only [Act.put, List.setIfInBounds_toArray, List.set_cons_succ, List.set_cons_zero])
      | (refine a_store1 rfl _ _ rfl _ _ _ rfl rfl _ _ (by assumption) (by first | assumption | exact limbs_len _ _ _ | exact z16_len) ?_; intro w H; try simp only [Act.put, List.setIfInBounds_toArray, List.set_cons_succ, List.set_cons_zero])
      | (refine a_store2 rfl _ _ rfl _ _ _ rfl rfl _ _ _ (by assumption) (by first | assumption | exact limbs_len _ _ _ | exact z16_len) ?_; intro w H; try simp only [Act.put, List.setIfInBounds_toArray, List.set_cons_succ, List.set_cons_zero])
      | (go_at_call 14; with_reducible refine a_call (by assumption) (c1.out _) ?_; intro w H)
      | (go_at_call 14; with_reducible refine a_call (by assumption) (c2.out _) ?_; intro w H))
    go_ret
    exact ⟨rfl, H.below⟩
theorem Num_el (l : List UInt8) (h : isEl l = true) (w : World) : Calls Try.prog 30 #[.string (S l)] w (AP (Md (numB l)) w) := by
  have c := Num_any l (isEl_len h) w
  rw [Nat.mod_eq_of_lt (isEl_lt h)] at c
  exact c
theorem AddR_ok (l m : List UInt8) (h : isEl l = true) (h' : isEl m = true) (wS : World) : Calls Try.prog 16 #[.string (S l), .string (S m)] wS (StrPost (leB ((numB l + numB m) % pF)) 0 wS) := by
  have H := AMem.start wS
  have c0 := fun w => two_any l m true 0 (by rw [h, h']; rfl) rfl w
  have c1 := fun w => Num_el l h w
  have c2 := fun w => Num_el m h' w
  have hx := isEl_lt h
  have hy := isEl_lt h'
  have c3 := fun w => Plus_any (numB l) (numB m) (Nat.lt_trans hx p_big) (Nat.lt_trans hy p_big) w
  have c4 := fun w => Bytes_any ((numB l + numB m) % pF) (Nat.lt_trans (Nat.mod_lt _ p_pos) p_big) w
  unfold AP at c1 c2 c3
  unfold BytesPost at c4
  unfold StrPost
  generalize S (leB ((numB l + numB m) % pF)) = sr at c4 ⊢
  generalize (numB l + numB m) % pF = r at c3 c4
  generalize S l = sl at c0 c1 ⊢
  generalize S m = sm at c0 c2 ⊢
  generalize Md (numB l) = dl at c1 c3
  generalize Md (numB m) = dm at c2 c3
  generalize Md r = dr at c3 c4
  clear h h' hx hy
  replace c0 := Kept.mk c0
  replace c1 := Kept.mk c1
  replace c2 := Kept.mk c2
  replace c3 := Kept.mk c3
  replace c4 := Kept.mk c4
  go_enter Try.func16, Try.ntmps16
  go_wp2_with (first
    | (refine a_box rfl _ rfl _ rfl (by assumption) (by first | assumption | exact limbs_len _ _ _ | exact z16_len) ?_; intro g w H; try simp only [Act.put, List.setIfInBounds_toArray, List.set_cons_succ, List.set_cons_zero])
    | (refine a_alloc rfl rfl (by assumption) ?_; intro g w H; try simp only [Act.put, List.setIfInBounds_toArray, List.set_cons_succ, List.set_cons_zero])
    | (refine a_build rfl rfl ?_; try simp only [Act.put, List.setIfInBounds_toArray, List.set_cons_succ, List.set_cons_zero])
    | (refine a_load rfl _ rfl _ _ rfl (by assumption) (by (first | exact .head _ | exact .tail _ (.head _) | exact .tail _ (.tail _ (.head _)) | exact .tail _ (.tail _ (.tail _ (.head _))) | exact .tail _ (.tail _ (.tail _ (.tail _ (.head _)))))) ?_; try simp only [Act.put, List.setIfInBounds_toArray, List.set_cons_succ, List.set_cons_zero])
    | (refine a_store0 rfl _ _ rfl _ _ _ rfl rfl _ (by assumption) (by first | assumption | exact limbs_len _ _ _ | exact z16_len) ?_; intro w H; try simp only [Act.put, List.setIfInBounds_toArray, List.set_cons_succ, List.set_cons_zero])
    | (refine a_store1 rfl _ _ rfl _ _ _ rfl rfl _ _ (by assumption) (by first | assumption | exact limbs_len _ _ _ | exact z16_len) ?_; intro w H; try simp only [Act.put, List.setIfInBounds_toArray, List.set_cons_succ, List.set_cons_zero])
    | (refine a_store2 rfl _ _ rfl _ _ _ rfl rfl _ _ _ (by assumption) (by first | assumption | exact limbs_len _ _ _ | exact z16_len) ?_; intro w H; try simp only [Act.put, List.setIfInBounds_toArray, List.set_cons_succ, List.set_cons_zero])
    | (go_at_call 39; refine a_call (by assumption) (c0.out _) ?_; intro w H)
    | (go_at_call 30; with_reducible refine a_call (by assumption) (c1.out _) ?_; intro w H)
    | (go_at_call 30; with_reducible refine a_call (by assumption) (c2.out _) ?_; intro w H)
    | (go_at_call 40; refine a_call (by assumption) (c3.out _) ?_; intro w H)
    | (go_at_call 29; refine a_call (by assumption) (c4.out _) ?_; intro w H))
  go_ret2
  exact ⟨rfl, H.below⟩
theorem AddR_bad (l m : List UInt8) (h : (isEl l && isEl m) = false) (wS : World) : Calls Try.prog 16 #[.string (S l), .string (S m)] wS (StrPost [] 40 wS) := by
  have H := AMem.start wS
  have c0 := Kept.mk fun w => two_any l m false 40 h rfl w
  clear h
  go_enter Try.func16, Try.ntmps16
  go_wp2_with (first
    | (refine a_box rfl _ rfl _ rfl (by assumption) (by first | assumption | exact limbs_len _ _ _ | exact z16_len) ?_; intro g w H; try simp only [Act.put, List.setIfInBounds_toArray, List.set_cons_succ, List.set_cons_zero])
    | (refine a_alloc rfl rfl (by assumption) ?_; intro g w H; try simp only [Act.put, List.setIfInBounds_toArray, List.set_cons_succ, List.set_cons_zero])
    | (refine a_build rfl rfl ?_; try simp only [Act.put, List.setIfInBounds_toArray, List.set_cons_succ, List.set_cons_zero])
    | (refine a_load rfl _ rfl _ _ rfl (by assumption) (by (first | exact .head _ | exact .tail _ (.head _) | exact .tail _ (.tail _ (.head _)) | exact .tail _ (.tail _ (.tail _ (.head _))) | exact .tail _ (.tail _ (.tail _ (.tail _ (.head _)))))) ?_; try simp only [Act.put, List.setIfInBounds_toArray, List.set_cons_succ, List.set_cons_zero])
    | (refine a_store0 rfl _ _ rfl _ _ _ rfl rfl _ (by assumption) (by first | assumption | exact limbs_len _ _ _ | exact z16_len) ?_; intro w H; try simp only [Act.put, List.setIfInBounds_toArray, List.set_cons_succ, List.set_cons_zero])
    | (refine a_store1 rfl _ _ rfl _ _ _ rfl rfl _ _ (by assumption) (by first | assumption | exact limbs_len _ _ _ | exact z16_len) ?_; intro w H; try simp only [Act.put, List.setIfInBounds_toArray, List.set_cons_succ, List.set_cons_zero])
    | (refine a_store2 rfl _ _ rfl _ _ _ rfl rfl _ _ _ (by assumption) (by first | assumption | exact limbs_len _ _ _ | exact z16_len) ?_; intro w H; try simp only [Act.put, List.setIfInBounds_toArray, List.set_cons_succ, List.set_cons_zero])
    | (go_at_call 39; refine a_call (by assumption) (c0.out _) ?_; intro w H))
  go_ret2
  exact ⟨rfl, H.below⟩
theorem SubR_ok (l m : List UInt8) (h : isEl l = true) (h' : isEl m = true) (wS : World) : Calls Try.prog 18 #[.string (S l), .string (S m)] wS (StrPost (leB ((numB l + (pF - numB m)) % pF)) 0 wS) := by
  have H := AMem.start wS
  have c0 := fun w => two_any l m true 0 (by rw [h, h']; rfl) rfl w
  have c1 := fun w => Num_el l h w
  have c2 := fun w => Num_el m h' w
  have hx := isEl_lt h
  have hy := isEl_lt h'
  have c3 := fun w => Minus_any (numB l) (numB m) (Nat.lt_trans hx p_big) (Nat.le_of_lt hy) w
  have c4 := fun w => Bytes_any ((numB l + (pF - numB m)) % pF) (Nat.lt_trans (Nat.mod_lt _ p_pos) p_big) w
  unfold AP at c1 c2 c3
  unfold BytesPost at c4
  unfold StrPost
  generalize S (leB ((numB l + (pF - numB m)) % pF)) = sr at c4 ⊢
  generalize (numB l + (pF - numB m)) % pF = r at c3 c4
  generalize S l = sl at c0 c1 ⊢
  generalize S m = sm at c0 c2 ⊢
  generalize Md (numB l) = dl at c1 c3
  generalize Md (numB m) = dm at c2 c3
  generalize Md r = dr at c3 c4
  clear h h' hx hy
  replace c0 := Kept.mk c0
  replace c1 := Kept.mk c1
  replace c2 := Kept.mk c2
  replace c3 := Kept.mk c3
  replace c4 := Kept.mk c4
  go_enter Try.func18, Try.ntmps18
  go_wp2_with (first
    | (refine a_box rfl _ rfl _ rfl (by assumption) (by first | assumption | exact limbs_len _ _ _ | exact z16_len) ?_; intro g w H; try simp only [Act.put, List.setIfInBounds_toArray, List.set_cons_succ, List.set_cons_zero])
    | (refine a_alloc rfl rfl (by assumption) ?_; intro g w H; try simp only [Act.put, List.setIfInBounds_toArray, List.set_cons_succ, List.set_cons_zero])
    | (refine a_build rfl rfl ?_; try simp only [Act.put, List.setIfInBounds_toArray, List.set_cons_succ, List.set_cons_zero])
    | (refine a_load rfl _ rfl _ _ rfl (by assumption) (by (first | exact .head _ | exact .tail _ (.head _) | exact .tail _ (.tail _ (.head _)) | exact .tail _ (.tail _ (.tail _ (.head _))) | exact .tail _ (.tail _ (.tail _ (.tail _ (.head _)))))) ?_; try simp only [Act.put, List.setIfInBounds_toArray, List.set_cons_succ, List.set_cons_zero])
    | (refine a_store0 rfl _ _ rfl _ _ _ rfl rfl _ (by assumption) (by first | assumption | exact limbs_len _ _ _ | exact z16_len) ?_; intro w H; try simp only [Act.put, List.setIfInBounds_toArray, List.set_cons_succ, List.set_cons_zero])
    | (refine a_store1 rfl _ _ rfl _ _ _ rfl rfl _ _ (by assumption) (by first | assumption | exact limbs_len _ _ _ | exact z16_len) ?_; intro w H; try simp only [Act.put, List.setIfInBounds_toArray, List.set_cons_succ, List.set_cons_zero])
    | (refine a_store2 rfl _ _ rfl _ _ _ rfl rfl _ _ _ (by assumption) (by first | assumption | exact limbs_len _ _ _ | exact z16_len) ?_; intro w H; try simp only [Act.put, List.setIfInBounds_toArray, List.set_cons_succ, List.set_cons_zero])
    | (go_at_call 39; refine a_call (by assumption) (c0.out _) ?_; intro w H)
    | (go_at_call 30; with_reducible refine a_call (by assumption) (c1.out _) ?_; intro w H)
    | (go_at_call 30; with_reducible refine a_call (by assumption) (c2.out _) ?_; intro w H)
    | (go_at_call 31; refine a_call (by assumption) (c3.out _) ?_; intro w H)
    | (go_at_call 29; refine a_call (by assumption) (c4.out _) ?_; intro w H))
  go_ret2
  exact ⟨rfl, H.below⟩
theorem SubR_bad (l m : List UInt8) (h : (isEl l && isEl m) = false) (wS : World) : Calls Try.prog 18 #[.string (S l), .string (S m)] wS (StrPost [] 40 wS) := by
  have H := AMem.start wS
  have c0 := Kept.mk fun w => two_any l m false 40 h rfl w
  clear h
  go_enter Try.func18, Try.ntmps18
  go_wp2_with (first
    | (refine a_box rfl _ rfl _ rfl (by assumption) (by first | assumption | exact limbs_len _ _ _ | exact z16_len) ?_; intro g w H; try simp only [Act.put, List.setIfInBounds_toArray, List.set_cons_succ, List.set_cons_zero])
    | (refine a_alloc rfl rfl (by assumption) ?_; intro g w H; try simp only [Act.put, List.setIfInBounds_toArray, List.set_cons_succ, List.set_cons_zero])
    | (refine a_build rfl rfl ?_; try simp only [Act.put, List.setIfInBounds_toArray, List.set_cons_succ, List.set_cons_zero])
    | (refine a_load rfl _ rfl _ _ rfl (by assumption) (by (first | exact .head _ | exact .tail _ (.head _) | exact .tail _ (.tail _ (.head _)) | exact .tail _ (.tail _ (.tail _ (.head _))) | exact .tail _ (.tail _ (.tail _ (.tail _ (.head _)))))) ?_; try simp only [Act.put, List.setIfInBounds_toArray, List.set_cons_succ, List.set_cons_zero])
    | (refine a_store0 rfl _ _ rfl _ _ _ rfl rfl _ (by assumption) (by first | assumption | exact limbs_len _ _ _ | exact z16_len) ?_; intro w H; try simp only [Act.put, List.setIfInBounds_toArray, List.set_cons_succ, List.set_cons_zero])
    | (refine a_store1 rfl _ _ rfl _ _ _ rfl rfl _ _ (by assumption) (by first | assumption | exact limbs_len _ _ _ | exact z16_len) ?_; intro w H; try simp only [Act.put, List.setIfInBounds_toArray, List.set_cons_succ, List.set_cons_zero])
    | (refine a_store2 rfl _ _ rfl _ _ _ rfl rfl _ _ _ (by assumption) (by first | assumption | exact limbs_len _ _ _ | exact z16_len) ?_; intro w H; try simp only [Act.put, List.setIfInBounds_toArray, List.set_cons_succ, List.set_cons_zero])
    | (go_at_call 39; refine a_call (by assumption) (c0.out _) ?_; intro w H))
  go_ret2
  exact ⟨rfl, H.below⟩
theorem MulR_ok (l m : List UInt8) (h : isEl l = true) (h' : isEl m = true) (wS : World) : Calls Try.prog 20 #[.string (S l), .string (S m)] wS (StrPost (leB (numB l * numB m % pF)) 0 wS) := by
  have H := AMem.start wS
  have c0 := fun w => two_any l m true 0 (by rw [h, h']; rfl) rfl w
  have c1 := fun w => Num_el l h w
  have c2 := fun w => Num_el m h' w
  have hx := isEl_lt h
  have hy := isEl_lt h'
  have c3 := fun w => Times_any (numB l) (numB m) (Nat.lt_trans hx p_big) (Nat.lt_trans hy p_big) w
  have c4 := fun w => Bytes_any (numB l * numB m % pF) (Nat.lt_trans (Nat.mod_lt _ p_pos) p_big) w
  unfold AP at c1 c2 c3
  unfold BytesPost at c4
  unfold StrPost
  generalize S (leB (numB l * numB m % pF)) = sr at c4 ⊢
  generalize numB l * numB m % pF = r at c3 c4
  generalize S l = sl at c0 c1 ⊢
  generalize S m = sm at c0 c2 ⊢
  generalize Md (numB l) = dl at c1 c3
  generalize Md (numB m) = dm at c2 c3
  generalize Md r = dr at c3 c4
  clear h h' hx hy
  replace c0 := Kept.mk c0
  replace c1 := Kept.mk c1
  replace c2 := Kept.mk c2
  replace c3 := Kept.mk c3
  replace c4 := Kept.mk c4
  go_enter Try.func20, Try.ntmps20
  go_wp2_with (first
    | (refine a_box rfl _ rfl _ rfl (by assumption) (by first | assumption | exact limbs_len _ _ _ | exact z16_len) ?_; intro g w H; try simp only [Act.put, List.setIfInBounds_toArray, List.set_cons_succ, List.set_cons_zero])
    | (refine a_alloc rfl rfl (by assumption) ?_; intro g w H; try simp only [Act.put, List.setIfInBounds_toArray, List.set_cons_succ, List.set_cons_zero])
    | (refine a_build rfl rfl ?_; try simp only [Act.put, List.setIfInBounds_toArray, List.set_cons_succ, List.set_cons_zero])
    | (refine a_load rfl _ rfl _ _ rfl (by assumption) (by (first | exact .head _ | exact .tail _ (.head _) | exact .tail _ (.tail _ (.head _)) | exact .tail _ (.tail _ (.tail _ (.head _))) | exact .tail _ (.tail _ (.tail _ (.tail _ (.head _)))))) ?_; try simp only [Act.put, List.setIfInBounds_toArray, List.set_cons_succ, List.set_cons_zero])
    | (refine a_store0 rfl _ _ rfl _ _ _ rfl rfl _ (by assumption) (by first | assumption | exact limbs_len _ _ _ | exact z16_len) ?_; intro w H; try simp only [Act.put, List.setIfInBounds_toArray, List.set_cons_succ, List.set_cons_zero])
    | (refine a_store1 rfl _ _ rfl _ _ _ rfl rfl _ _ (by assumption) (by first | assumption | exact limbs_len _ _ _ | exact z16_len) ?_; intro w H; try simp only [Act.put, List.setIfInBounds_toArray, List.set_cons_succ, List.set_cons_zero])
    | (refine a_store2 rfl _ _ rfl _ _ _ rfl rfl _ _ _ (by assumption) (by first | assumption | exact limbs_len _ _ _ | exact z16_len) ?_; intro w H; try simp only [Act.put, List.setIfInBounds_toArray, List.set_cons_succ, List.set_cons_zero])
    | (go_at_call 39; refine a_call (by assumption) (c0.out _) ?_; intro w H)
    | (go_at_call 30; with_reducible refine a_call (by assumption) (c1.out _) ?_; intro w H)
    | (go_at_call 30; with_reducible refine a_call (by assumption) (c2.out _) ?_; intro w H)
    | (go_at_call 43; refine a_call (by assumption) (c3.out _) ?_; intro w H)
    | (go_at_call 29; refine a_call (by assumption) (c4.out _) ?_; intro w H))
  go_ret2
  exact ⟨rfl, H.below⟩
theorem MulR_bad (l m : List UInt8) (h : (isEl l && isEl m) = false) (wS : World) : Calls Try.prog 20 #[.string (S l), .string (S m)] wS (StrPost [] 40 wS) := by
  have H := AMem.start wS
  have c0 := Kept.mk fun w => two_any l m false 40 h rfl w
  clear h
  go_enter Try.func20, Try.ntmps20
  go_wp2_with (first
    | (refine a_box rfl _ rfl _ rfl (by assumption) (by first | assumption | exact limbs_len _ _ _ | exact z16_len) ?_; intro g w H; try simp only [Act.put, List.setIfInBounds_toArray, List.set_cons_succ, List.set_cons_zero])
    | (refine a_alloc rfl rfl (by assumption) ?_; intro g w H; try simp only [Act.put, List.setIfInBounds_toArray, List.set_cons_succ, List.set_cons_zero])
    | (refine a_build rfl rfl ?_; try simp only [Act.put, List.setIfInBounds_toArray, List.set_cons_succ, List.set_cons_zero])
    | (refine a_load rfl _ rfl _ _ rfl (by assumption) (by (first | exact .head _ | exact .tail _ (.head _) | exact .tail _ (.tail _ (.head _)) | exact .tail _ (.tail _ (.tail _ (.head _))) | exact .tail _ (.tail _ (.tail _ (.tail _ (.head _)))))) ?_; try simp only [Act.put, List.setIfInBounds_toArray, List.set_cons_succ, List.set_cons_zero])
    | (refine a_store0 rfl _ _ rfl _ _ _ rfl rfl _ (by assumption) (by first | assumption | exact limbs_len _ _ _ | exact z16_len) ?_; intro w H; try simp only [Act.put, List.setIfInBounds_toArray, List.set_cons_succ, List.set_cons_zero])
    | (refine a_store1 rfl _ _ rfl _ _ _ rfl rfl _ _ (by assumption) (by first | assumption | exact limbs_len _ _ _ | exact z16_len) ?_; intro w H; try simp only [Act.put, List.setIfInBounds_toArray, List.set_cons_succ, List.set_cons_zero])
    | (refine a_store2 rfl _ _ rfl _ _ _ rfl rfl _ _ _ (by assumption) (by first | assumption | exact limbs_len _ _ _ | exact z16_len) ?_; intro w H; try simp only [Act.put, List.setIfInBounds_toArray, List.set_cons_succ, List.set_cons_zero])
    | (go_at_call 39; refine a_call (by assumption) (c0.out _) ?_; intro w H))
  go_ret2
  exact ⟨rfl, H.below⟩
end Go.Proofs.Ytbkaemekcjinaaa
