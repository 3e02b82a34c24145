/- The document's answer for package field: its calls Inv, Root. -/
import Derived.Test.YtbkaemekcjinaaaR13
set_option linter.unusedSimpArgs false
set_option linter.unusedVariables false
namespace Go.Proofs.Ytbkaemekcjinaaa
open Go.RowKit
theorem pm_pow (n e : Nat) (h : e < 2 ^ 256) : pm pF 256 n e = powF n e := pm_eq pF 256 n e h
def e4 : Nat := (pF - 1) / 2 ^ 2
def e8 : Nat := (pF - 5) / 2 ^ 3
theorem e8_one : e8 + 1 = eF := by decide +kernel
theorem one_pm : pm pF 256 2 e4 = iF := by decide +kernel
theorem one_val : powF 2 e4 = iF := by
  rw [← pm_pow 2 e4 (by decide +kernel)]
  exact one_pm
def rN (x : Nat) : Nat → Nat
  | 0 => powF x eF
  | k + 1 => rN x k * iF % pF
theorem rN_lt (x : Nat) : ∀ k, rN x k < pF
  | 0 => powF_lt _ _
  | k + 1 => Nat.mod_lt _ p_pos
theorem r0_val (x : Nat) : x * powF x e8 % pF = rN x 0 := by
  rw [Nat.mul_comm, powF_one, e8_one, rN]
theorem cand_r (x : Nat) : cand x = if rN x 0 * rN x 0 % pF = x then rN x 0 else rN x 1 := by
  have h0 : powF x eF = rN x 0 := by rw [rN]
  have h1 : ∀ k, rN x (k + 1) = rN x k * iF % pF := fun k => by rw [rN]
  unfold cand
  rw [h0, h1 0]
theorem S_list {l m : List UInt8} (h : (S l).toList = (S m).toList) : l = m := by
  have e := S_beq l m
  rw [h] at e
  exact of_decide_eq_true (e.symm.trans (beq_self_eq_true _))
def bF (l : List Nat) : ByteArray := S (leB (valB 65536 l))
theorem bF_Md (u : Nat) (h : u < big) : bF (Md u) = S (leB u) := by rw [bF, Md_val u h]
theorem bF_eq (u x : Nat) (hu : u < pF) (hx : x < pF) : (bF (Md u)).toList = (bF (Md x)).toList ↔ u = x := by
  rw [bF_Md u (Nat.lt_trans hu p_bigR), bF_Md x (Nat.lt_trans hx p_bigR)]
  exact ⟨fun h => leB_inj (Nat.lt_trans hu p_big) (Nat.lt_trans hx p_big) (S_list h), fun h => h ▸ rfl⟩
theorem Md_low (r : Nat) : (Md r).getD 0 0 % 2 = r % 2 := by
  rw [Md, limbs_getD 65536 16 r 0 (by omega), Nat.pow_zero, Nat.div_one]
  omega
def rootL (x : Nat) : List Nat := if cand x * cand x % pF = x then Md (evenN (cand x)) else z16
def rootB (x : Nat) : Bool := decide (cand x * cand x % pF = x)
theorem small_big (n : Nat) (h : n < 1000) : n < big := Nat.lt_trans (small_lt n h) p_bigR
theorem Roots_any (x : Nat) (hx : x < pF) (wS : World) : Calls Try.prog 47 #[arrV (Md x)] wS (RootsPost (rootL x) (rootB x) wS) := by
  have hxb := Nat.lt_trans hx p_bigR
  have hb : ∀ {n}, n < pF → n < big := fun h => Nat.lt_trans h p_bigR
  have h8 : e8 < big := hb (by decide +kernel)
  have h4 : e4 < big := hb (by decide +kernel)
  have hk1 : ∀ k, k < 2 → (∀ j, j < k → (bF (Md (rN x j * rN x j % pF))).toList ≠ (bF (Md x)).toList) → (bF (Md (rN x k * rN x k % pF))).toList = (bF (Md x)).toList → cand x = rN x k ∧ cand x * cand x % pF = x := by
    intro k hk hj hq
    have hq' := (bF_eq _ x (Nat.mod_lt _ p_pos) hx).1 hq
    have hc : cand x = rN x k := by
      rcases (show k = 0 ∨ k = 1 by omega) with rfl | rfl
      · rw [cand_r, if_pos hq']
      · rw [cand_r, if_neg fun e => hj 0 (by omega) ((bF_eq _ x (Nat.mod_lt _ p_pos) hx).2 e)]
    exact ⟨hc, by rw [hc]; exact hq'⟩
  refine roots_core (Md x) (Md pF) (Md (pF - 5)) (Md e8) (Md (powF x e8)) (Md (pF - 1)) (Md e4) (Md iF) (fun k => Md (rN x k)) (fun k => Md (rN x k * rN x k % pF)) (fun k => Md (pF - rN x k)) (fun z => Md z.toNat) bF (rootL x) (rootB x)
    (Md_len _) (Md_len _) (Md_len _) (Md_len _) (Md_len _) (Md_len _) (Md_len _) (Md_len _) (fun _ => Md_len _) (fun _ => Md_len _)
    (fun w => P_any w) ?_ (fun w => less_any pF 5 p_bigR (Nat.le_of_lt (small_lt 5 (by omega))) w) (fun w => less_any pF 1 p_bigR (Nat.le_of_lt (small_lt 1 (by omega))) w)
    (fun w => half_any (pF - 5) 3 (Nat.lt_of_le_of_lt (Nat.sub_le _ _) p_bigR) (by omega) w) (fun w => half_any (pF - 1) 2 (Nat.lt_of_le_of_lt (Nat.sub_le _ _) p_bigR) (by omega) w) (fun w => Power_any x e8 hxb h8 w) ?_ ?_ ?_ ?_ ?_ ?_ ?_ ?_ wS
  · rintro z w (rfl | rfl | rfl)
    · exact Small_any 1 (by omega) w
    · exact Small_any 2 (by omega) w
    · exact Small_any 5 (by omega) w
  · intro w
    have c := Power_any 2 e4 (small_big 2 (by omega)) h4 w
    rw [one_val] at c
    exact c
  · intro w
    have c := Times_any x (powF x e8) hxb (hb (powF_lt _ _)) w
    rw [r0_val] at c
    exact c
  · intro k w
    have c := Times_any (rN x k) iF (hb (rN_lt x k)) (hb (by decide +kernel)) w
    rw [show rN x k * iF % pF = rN x (k + 1) from rfl] at c
    exact c
  · exact fun k w => Times_any (rN x k) (rN x k) (hb (rN_lt x k)) (hb (rN_lt x k)) w
  · rintro l w (rfl | ⟨k, rfl⟩)
    · rw [bF_Md x hxb]; exact Bytes_any x hxb w
    · have hu := hb (Nat.mod_lt (rN x k * rN x k) p_pos)
      show Calls _ _ #[arrV (Md (rN x k * rN x k % pF))] w fun e w' => e = .returned (.string (bF (Md (rN x k * rN x k % pF)))) ∧ Below w.heap.size w w'
      rw [bF_Md _ hu]; exact Bytes_any _ hu w
  · exact fun k w => less_any pF (rN x k) p_bigR (Nat.le_of_lt (rN_lt x k)) w
  · intro k hk hj hq
    obtain ⟨hc, hs⟩ := hk1 k hk hj hq
    refine ⟨?_, by rw [rootB, decide_eq_true hs]⟩
    rw [rootL, if_pos hs, hc, evenN]
    show (if (Md (rN x k)).getD 0 0 % 2 = 1 then Md (pF - rN x k) else Md (rN x k)) = _
    rw [Md_low]
    split <;> rfl
  · intro hj
    have hn : ∀ j, j < 2 → ¬ rN x j * rN x j % pF = x := fun j h e => hj j h ((bF_eq _ x (Nat.mod_lt _ p_pos) hx).2 e)
    have hs : ¬ cand x * cand x % pF = x := by
      rw [cand_r, if_neg (hn 0 (by omega))]
      exact hn 1 (by omega)
    exact ⟨by rw [rootL, if_neg hs], by rw [rootB, decide_eq_false hs]⟩
theorem InvR_ok (l : List UInt8) (h : isEl l = true) (wS : World) : Calls Try.prog 22 #[.string (S l)] wS (StrPost (leB (invF (numB l))) 0 wS) := by
  have H := AMem.start wS
  have c0 := fun w => Is_any l w
  rw [h] at c0
  have c1 := fun w => Num_el l h w
  have hx := isEl_lt h
  have c3 := fun w => Inverse_any (numB l) (Nat.lt_trans hx p_bigR) w
  have c4 := fun w => Bytes_any (invF (numB l)) (Nat.lt_trans (invF_lt _) p_bigR) w
  unfold AP at c1 c3
  unfold BytesPost at c4
  unfold StrPost
  generalize S (leB (invF (numB l))) = sr at c4 ⊢
  generalize invF (numB l) = r at c3 c4
  generalize S l = sl at c0 c1 ⊢
  generalize Md (numB l) = dl at c1 c3
  generalize Md r = dr at c3 c4
  clear h hx
  replace c0 := Kept.mk c0
  replace c1 := Kept.mk c1
  replace c3 := Kept.mk c3
  replace c4 := Kept.mk c4
  go_enter Try.func22, Try.ntmps22
  go_wp2_with (first
    | (refine a_box rfl _ rfl _ rfl (by assumption) (by first | with_reducible assumption | exact z16_len) ?_; intro g w H; try simp only [Act.put, List.setIfInBounds_toArray, List.set_cons_succ, List.set_cons_zero])
    | (refine a_alloc rfl rfl (by assumption) ?_; intro g w H; try simp only [Act.put, List.setIfInBounds_toArray, List.set_cons_succ, List.set_cons_zero])
    | (refine a_build rfl rfl ?_; try simp only [Act.put, List.setIfInBounds_toArray, List.set_cons_succ, List.set_cons_zero])
    | (refine a_load rfl _ rfl _ _ rfl (by assumption) (by (first | exact .head _ | exact .tail _ (.head _) | exact .tail _ (.tail _ (.head _)) | exact .tail _ (.tail _ (.tail _ (.head _))) | exact .tail _ (.tail _ (.tail _ (.tail _ (.head _)))) | exact .tail _ (.tail _ (.tail _ (.tail _ (.tail _ (.head _))))))) ?_; try simp only [Act.put, List.setIfInBounds_toArray, List.set_cons_succ, List.set_cons_zero])
    | (refine a_store0 rfl _ _ rfl _ _ _ rfl rfl _ (by assumption) (by first | with_reducible assumption | exact z16_len) ?_; intro w H; try simp only [Act.put, List.setIfInBounds_toArray, List.set_cons_succ, List.set_cons_zero])
    | (refine a_store1 rfl _ _ rfl _ _ _ rfl rfl _ _ (by assumption) (by first | with_reducible assumption | exact z16_len) ?_; intro w H; try simp only [Act.put, List.setIfInBounds_toArray, List.set_cons_succ, List.set_cons_zero])
    | (refine a_store4 rfl _ _ rfl _ _ _ rfl rfl _ _ _ _ _ (by assumption) (by first | with_reducible assumption | exact z16_len) ?_; intro w H; try simp only [Act.put, List.setIfInBounds_toArray, List.set_cons_succ, List.set_cons_zero])
    | (go_at_call 14; with_reducible refine a_call (by assumption) (c0.out _) ?_; intro w H)
    | (go_at_call 30; with_reducible refine a_call (by assumption) (c1.out _) ?_; intro w H)
    | (go_at_call 45; with_reducible refine a_call (by assumption) (c3.out _) ?_; intro w H)
    | (go_at_call 29; with_reducible refine a_call (by assumption) (c4.out _) ?_; intro w H))
  go_ret2
  exact ⟨rfl, H.below⟩
theorem InvR_bad (l : List UInt8) (h : isEl l = false) (wS : World) : Calls Try.prog 22 #[.string (S l)] wS (StrPost [] 40 wS) := by
  have H := AMem.start wS
  have c0 := fun w => Is_any l w
  rw [h] at c0
  replace c0 := Kept.mk c0
  clear h
  go_enter Try.func22, Try.ntmps22
  go_wp2_with (first
    | (refine a_box rfl _ rfl _ rfl (by assumption) (by first | with_reducible assumption | exact z16_len) ?_; intro g w H; try simp only [Act.put, List.setIfInBounds_toArray, List.set_cons_succ, List.set_cons_zero])
    | (refine a_alloc rfl rfl (by assumption) ?_; intro g w H; try simp only [Act.put, List.setIfInBounds_toArray, List.set_cons_succ, List.set_cons_zero])
    | (refine a_build rfl rfl ?_; try simp only [Act.put, List.setIfInBounds_toArray, List.set_cons_succ, List.set_cons_zero])
    | (refine a_load rfl _ rfl _ _ rfl (by assumption) (by (first | exact .head _ | exact .tail _ (.head _) | exact .tail _ (.tail _ (.head _)) | exact .tail _ (.tail _ (.tail _ (.head _))) | exact .tail _ (.tail _ (.tail _ (.tail _ (.head _)))) | exact .tail _ (.tail _ (.tail _ (.tail _ (.tail _ (.head _))))))) ?_; try simp only [Act.put, List.setIfInBounds_toArray, List.set_cons_succ, List.set_cons_zero])
    | (refine a_store0 rfl _ _ rfl _ _ _ rfl rfl _ (by assumption) (by first | with_reducible assumption | exact z16_len) ?_; intro w H; try simp only [Act.put, List.setIfInBounds_toArray, List.set_cons_succ, List.set_cons_zero])
    | (refine a_store1 rfl _ _ rfl _ _ _ rfl rfl _ _ (by assumption) (by first | with_reducible assumption | exact z16_len) ?_; intro w H; try simp only [Act.put, List.setIfInBounds_toArray, List.set_cons_succ, List.set_cons_zero])
    | (refine a_store4 rfl _ _ rfl _ _ _ rfl rfl _ _ _ _ _ (by assumption) (by first | with_reducible assumption | exact z16_len) ?_; intro w H; try simp only [Act.put, List.setIfInBounds_toArray, List.set_cons_succ, List.set_cons_zero])
    | (go_at_call 14; with_reducible refine a_call (by assumption) (c0.out _) ?_; intro w H))
  go_ret2
  exact ⟨rfl, H.below⟩
theorem RootR_yes (l : List UInt8) (h : isEl l = true) (hq : cand (numB l) * cand (numB l) % pF = numB l) (wS : World) : Calls Try.prog 24 #[.string (S l)] wS (RPost (leB (evenN (cand (numB l)))) true 0 wS) := by
  have H := AMem.start wS
  have c0 := fun w => Is_any l w
  rw [h] at c0
  have c1 := fun w => Num_el l h w
  have hx := isEl_lt h
  have c3 := fun w => Roots_any (numB l) hx w
  rw [rootL, if_pos hq, rootB, decide_eq_true hq] at c3
  have c4 := fun w => Bytes_any (evenN (cand (numB l))) (Nat.lt_trans (evenN_lt _ (cand_lt _)) p_bigR) w
  unfold AP at c1
  unfold RootsPost at c3
  unfold BytesPost at c4
  unfold RPost
  generalize S (leB (evenN (cand (numB l)))) = sr at c4 ⊢
  generalize evenN (cand (numB l)) = r at c3 c4
  generalize S l = sl at c0 c1 ⊢
  generalize Md (numB l) = dl at c1 c3
  have hr := Md_len r
  generalize Md r = dr at c3 c4 hr
  clear h hx hq
  unfold arrV at *
  replace c0 := Kept.mk c0
  replace c1 := Kept.mk c1
  replace c3 := Kept.mk c3
  replace c4 := Kept.mk c4
  go_enter Try.func24, Try.ntmps24
  go_wp2_with (first
    | (refine a_box rfl _ rfl _ rfl (by assumption) (by first | with_reducible assumption | exact z16_len) ?_; intro g w H; try simp only [Act.put, List.setIfInBounds_toArray, List.set_cons_succ, List.set_cons_zero])
    | (refine a_alloc rfl rfl (by assumption) ?_; intro g w H; try simp only [Act.put, List.setIfInBounds_toArray, List.set_cons_succ, List.set_cons_zero])
    | (refine a_build rfl rfl ?_; try simp only [Act.put, List.setIfInBounds_toArray, List.set_cons_succ, List.set_cons_zero])
    | (refine a_load rfl _ rfl _ _ rfl (by assumption) (by (first | exact .head _ | exact .tail _ (.head _) | exact .tail _ (.tail _ (.head _)) | exact .tail _ (.tail _ (.tail _ (.head _))) | exact .tail _ (.tail _ (.tail _ (.tail _ (.head _)))) | exact .tail _ (.tail _ (.tail _ (.tail _ (.tail _ (.head _))))))) ?_; try simp only [Act.put, List.setIfInBounds_toArray, List.set_cons_succ, List.set_cons_zero])
    | (refine a_store0 rfl _ _ rfl _ _ _ rfl rfl _ (by assumption) (by first | with_reducible assumption | exact z16_len) ?_; intro w H; try simp only [Act.put, List.setIfInBounds_toArray, List.set_cons_succ, List.set_cons_zero])
    | (refine a_store1 rfl _ _ rfl _ _ _ rfl rfl _ _ (by assumption) (by first | with_reducible assumption | exact z16_len) ?_; intro w H; try simp only [Act.put, List.setIfInBounds_toArray, List.set_cons_succ, List.set_cons_zero])
    | (refine a_store4 rfl _ _ rfl _ _ _ rfl rfl _ _ _ _ _ (by assumption) (by first | with_reducible assumption | exact z16_len) ?_; intro w H; try simp only [Act.put, List.setIfInBounds_toArray, List.set_cons_succ, List.set_cons_zero])
    | (go_at_call 14; with_reducible refine a_call (by assumption) (c0.out _) ?_; intro w H)
    | (go_at_call 30; with_reducible refine a_call (by assumption) (c1.out _) ?_; intro w H)
    | (go_at_call 47; with_reducible refine a_call (by assumption) (c3.out _) ?_; intro w H)
    | (go_at_call 29; with_reducible refine a_call (by assumption) (c4.out _) ?_; intro w H))
  go_ret3
  exact ⟨rfl, H.below⟩
theorem RootR_no (l : List UInt8) (h : isEl l = true) (hq : ¬ cand (numB l) * cand (numB l) % pF = numB l) (wS : World) : Calls Try.prog 24 #[.string (S l)] wS (RPost [] false 0 wS) := by
  have H := AMem.start wS
  have c0 := fun w => Is_any l w
  rw [h] at c0
  have c1 := fun w => Num_el l h w
  have hx := isEl_lt h
  have c3 := fun w => Roots_any (numB l) hx w
  rw [rootL, if_neg hq, rootB, decide_eq_false hq] at c3
  unfold AP at c1
  unfold RootsPost at c3
  unfold RPost
  generalize S l = sl at c0 c1 ⊢
  generalize Md (numB l) = dl at c1 c3
  clear h hx hq
  unfold arrV at *
  replace c0 := Kept.mk c0
  replace c1 := Kept.mk c1
  replace c3 := Kept.mk c3
  go_enter Try.func24, Try.ntmps24
  go_wp2_with (first
    | (refine a_box rfl _ rfl _ rfl (by assumption) (by first | with_reducible assumption | exact z16_len) ?_; intro g w H; try simp only [Act.put, List.setIfInBounds_toArray, List.set_cons_succ, List.set_cons_zero])
    | (refine a_alloc rfl rfl (by assumption) ?_; intro g w H; try simp only [Act.put, List.setIfInBounds_toArray, List.set_cons_succ, List.set_cons_zero])
    | (refine a_build rfl rfl ?_; try simp only [Act.put, List.setIfInBounds_toArray, List.set_cons_succ, List.set_cons_zero])
    | (refine a_load rfl _ rfl _ _ rfl (by assumption) (by (first | exact .head _ | exact .tail _ (.head _) | exact .tail _ (.tail _ (.head _)) | exact .tail _ (.tail _ (.tail _ (.head _))) | exact .tail _ (.tail _ (.tail _ (.tail _ (.head _)))) | exact .tail _ (.tail _ (.tail _ (.tail _ (.tail _ (.head _))))))) ?_; try simp only [Act.put, List.setIfInBounds_toArray, List.set_cons_succ, List.set_cons_zero])
    | (refine a_store0 rfl _ _ rfl _ _ _ rfl rfl _ (by assumption) (by first | with_reducible assumption | exact z16_len) ?_; intro w H; try simp only [Act.put, List.setIfInBounds_toArray, List.set_cons_succ, List.set_cons_zero])
    | (refine a_store1 rfl _ _ rfl _ _ _ rfl rfl _ _ (by assumption) (by first | with_reducible assumption | exact z16_len) ?_; intro w H; try simp only [Act.put, List.setIfInBounds_toArray, List.set_cons_succ, List.set_cons_zero])
    | (refine a_store4 rfl _ _ rfl _ _ _ rfl rfl _ _ _ _ _ (by assumption) (by first | with_reducible assumption | exact z16_len) ?_; intro w H; try simp only [Act.put, List.setIfInBounds_toArray, List.set_cons_succ, List.set_cons_zero])
    | (go_at_call 14; with_reducible refine a_call (by assumption) (c0.out _) ?_; intro w H)
    | (go_at_call 30; with_reducible refine a_call (by assumption) (c1.out _) ?_; intro w H)
    | (go_at_call 47; with_reducible refine a_call (by assumption) (c3.out _) ?_; intro w H))
  go_ret3
  exact ⟨rfl, H.below⟩
theorem RootR_bad (l : List UInt8) (h : isEl l = false) (wS : World) : Calls Try.prog 24 #[.string (S l)] wS (RPost [] false 40 wS) := by
  have H := AMem.start wS
  have c0 := fun w => Is_any l w
  rw [h] at c0
  replace c0 := Kept.mk c0
  clear h
  go_enter Try.func24, Try.ntmps24
  go_wp2_with (first
    | (refine a_box rfl _ rfl _ rfl (by assumption) (by first | with_reducible assumption | exact z16_len) ?_; intro g w H; try simp only [Act.put, List.setIfInBounds_toArray, List.set_cons_succ, List.set_cons_zero])
    | (refine a_alloc rfl rfl (by assumption) ?_; intro g w H; try simp only [Act.put, List.setIfInBounds_toArray, List.set_cons_succ, List.set_cons_zero])
    | (refine a_build rfl rfl ?_; try simp only [Act.put, List.setIfInBounds_toArray, List.set_cons_succ, List.set_cons_zero])
    | (refine a_load rfl _ rfl _ _ rfl (by assumption) (by (first | exact .head _ | exact .tail _ (.head _) | exact .tail _ (.tail _ (.head _)) | exact .tail _ (.tail _ (.tail _ (.head _))) | exact .tail _ (.tail _ (.tail _ (.tail _ (.head _)))) | exact .tail _ (.tail _ (.tail _ (.tail _ (.tail _ (.head _))))))) ?_; try simp only [Act.put, List.setIfInBounds_toArray, List.set_cons_succ, List.set_cons_zero])
    | (refine a_store0 rfl _ _ rfl _ _ _ rfl rfl _ (by assumption) (by first | with_reducible assumption | exact z16_len) ?_; intro w H; try simp only [Act.put, List.setIfInBounds_toArray, List.set_cons_succ, List.set_cons_zero])
    | (refine a_store1 rfl _ _ rfl _ _ _ rfl rfl _ _ (by assumption) (by first | with_reducible assumption | exact z16_len) ?_; intro w H; try simp only [Act.put, List.setIfInBounds_toArray, List.set_cons_succ, List.set_cons_zero])
    | (refine a_store4 rfl _ _ rfl _ _ _ rfl rfl _ _ _ _ _ (by assumption) (by first | with_reducible assumption | exact z16_len) ?_; intro w H; try simp only [Act.put, List.setIfInBounds_toArray, List.set_cons_succ, List.set_cons_zero])
    | (go_at_call 14; with_reducible refine a_call (by assumption) (c0.out _) ?_; intro w H))
  go_ret3
  exact ⟨rfl, H.below⟩
end Go.Proofs.Ytbkaemekcjinaaa
