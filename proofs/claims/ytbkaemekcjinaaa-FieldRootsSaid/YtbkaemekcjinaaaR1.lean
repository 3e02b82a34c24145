/- Walks of the document's answer for package field: p, small numbers, which is below. -/
import Derived.Test.YtbkaemekcjinaaaRM
set_option linter.unusedSimpArgs false
set_option linter.unusedVariables false
namespace Go.Proofs.Ytbkaemekcjinaaa
open Go.RowKit
/-- The digits of a number. -/
def Md (x : Nat) : List Nat := limbs 65536 16 x
theorem Md_len (x : Nat) : (Md x).length = 16 := limbs_len _ _ _
theorem Md_lt (x : Nat) : ∀ y ∈ Md x, y < 65536 := limbs_lt (by decide) _ _
theorem big16 : (65536 : Nat) ^ 16 = big := by decide +kernel
theorem Md_val (x : Nat) (h : x < big) : valB 65536 (Md x) = x := by
  unfold Md
  rw [val_limbs, big16, Nat.mod_eq_of_lt h]
theorem Md_of (l : List Nat) (n : Nat) (hk : l.length = 16) (h : ∀ x ∈ l, x < 65536) (hv : valB 65536 l = n) : l = Md n := limbs_eq (by decide) l 16 n hk h hv
theorem Md_p : Md pF = [65517, 65535, 65535, 65535, 65535, 65535, 65535, 65535, 65535, 65535, 65535, 65535, 65535, 65535, 65535, 32767] := by decide +kernel
theorem set_at (l : List Nat) (i x : Nat) (h : i < l.length) : (l.set i x) = l.take i ++ x :: l.drop (i + 1) := by
  rw [List.set_eq_take_append_cons_drop, if_pos h]
def fillP (i : Nat) : List Nat := List.replicate i 65535 ++ List.replicate (16 - i) 0
theorem fillP_set (i : Nat) (h : i < 16) : (fillP i).set i 65535 = fillP (i + 1) := by
  unfold fillP
  rw [show 16 - i = (16 - (i + 1)) + 1 by omega, List.replicate_succ]
  have : (List.replicate i 65535 ++ 0 :: List.replicate (16 - (i + 1)) 0).set i 65535 = List.replicate i 65535 ++ 65535 :: List.replicate (16 - (i + 1)) 0 := by
    have e := set_mid (List.replicate i 65535) (List.replicate (16 - (i + 1)) 0) 0 65535
    rw [List.length_replicate] at e
    rw [e]; simp
  rw [this, List.replicate_succ']
  simp
set_option maxHeartbeats 1000000 in
theorem P_any (wS : World) : Calls Try.prog 33 #[] wS (AP (Md pF) wS) := by
  have H := AMem.start wS
  go_enter Try.func33, Try.ntmps33
  go_wp2_with (first
    | (refine a_box rfl _ rfl _ rfl (by assumption) (by first | assumption | exact limbs_len _ _ _ | exact z16_len) ?_; intro g w H; try simp only [Act.put, List.setIfInBounds_toArray, List.set_cons_succ, List.set_cons_zero])
    | (refine a_alloc rfl rfl (by assumption) ?_; intro g w H; try simp only [Act.put, List.setIfInBounds_toArray, List.set_cons_succ, List.set_cons_zero])
    | (refine a_build rfl rfl ?_; try simp only [Act.put, List.setIfInBounds_toArray, List.set_cons_succ, List.set_cons_zero])
    | (refine a_load rfl _ rfl _ _ rfl (by assumption) (by (first | exact .head _ | exact .tail _ (.head _) | exact .tail _ (.tail _ (.head _)) | exact .tail _ (.tail _ (.tail _ (.head _))) | exact .tail _ (.tail _ (.tail _ (.tail _ (.head _)))))) ?_; try simp only [Act.put, List.setIfInBounds_toArray, List.set_cons_succ, List.set_cons_zero])
    | (refine a_store0 rfl _ _ rfl _ _ _ rfl rfl _ (by assumption) (by first | assumption | exact limbs_len _ _ _ | exact z16_len) ?_; intro w H; try simp only [Act.put, List.setIfInBounds_toArray, List.set_cons_succ, List.set_cons_zero])
    | (refine a_store1 rfl _ _ rfl _ _ _ rfl rfl _ _ (by assumption) (by first | assumption | exact limbs_len _ _ _ | exact z16_len) ?_; intro w H; try simp only [Act.put, List.setIfInBounds_toArray, List.set_cons_succ, List.set_cons_zero])
    | (refine a_store2 rfl _ _ rfl _ _ _ rfl rfl _ _ _ (by assumption) (by first | assumption | exact limbs_len _ _ _ | exact z16_len) ?_; intro w H; try simp only [Act.put, List.setIfInBounds_toArray, List.set_cons_succ, List.set_cons_zero]))
  rename_i gr _ _ _ _ K _
  go_loopw [2] (fun v2 wr => ∃ (i : Nat), i ≤ 16 ∧ v2 = .int .i64 (i : Int) ∧ AMem wS wr [(g, fillP i), (gr, z16)]) (fun v2 _ => 16 - (RowKit.intOf v2).toNat)
  case atStart => exact ⟨0, by omega, rfl, H⟩
  case round =>
    clear H
    obtain ⟨i, hi, rfl, H⟩ := hrel
    by_cases hlt : i < 16
    · have hlti : (i : Int) < 16 := by omega
      have c1 := H.cell (.head _) i hlt
      have f1 := H.frozen (.head _) i
      have Hn := H.cell0 i 65535 65535 rfl
      rw [fillP_set i hlt] at Hn
      clear hi
      go_wp2
      go_roundw
      case rel => exact ⟨i + 1, hlt, val_eq (by omega), Hn⟩
      case measure => simp [RowKit.intOf]; omega
    · obtain rfl : i = 16 := by omega
      have c1 := H.cell (.head _) 0 (by omega)
      have f1 := H.frozen (.head _) 0
      have c2 := H.cell (.head _) 15 (by omega)
      have f2 := H.frozen (.head _) 15
      have Hm := (H.cell0 0 65517 65517 rfl).cell0 15 32767 32767 rfl
      have hl : (((fillP 16).set 0 65517).set 15 32767).length = 16 := by simp [fillP]
      have he : ((fillP 16).set 0 65517).set 15 32767 = Md pF := by rw [Md_p]; rfl
      replace he := Kept.mk he
      go_wp2_with (first
        | (refine a_box rfl _ rfl _ rfl (by assumption) (by first | assumption | exact limbs_len _ _ _ | exact z16_len) ?_; intro g w H; try simp only [Act.put, List.setIfInBounds_toArray, List.set_cons_succ, List.set_cons_zero])
        | (refine a_alloc rfl rfl (by assumption) ?_; intro g w H; try simp only [Act.put, List.setIfInBounds_toArray, List.set_cons_succ, List.set_cons_zero])
        | (refine a_build rfl rfl ?_; try simp only [Act.put, List.setIfInBounds_toArray, List.set_cons_succ, List.set_cons_zero])
        | (refine a_load rfl _ rfl _ _ rfl (by assumption) (by (first | exact .head _ | exact .tail _ (.head _) | exact .tail _ (.tail _ (.head _)) | exact .tail _ (.tail _ (.tail _ (.head _))) | exact .tail _ (.tail _ (.tail _ (.tail _ (.head _)))))) ?_; try simp only [Act.put, List.setIfInBounds_toArray, List.set_cons_succ, List.set_cons_zero])
        | (refine a_store0 rfl _ _ rfl _ _ _ rfl rfl _ (by assumption) (by first | assumption | exact limbs_len _ _ _ | exact z16_len) ?_; intro w H; try simp only [Act.put, List.setIfInBounds_toArray, List.set_cons_succ, List.set_cons_zero])
        | (refine a_store1 rfl _ _ rfl _ _ _ rfl rfl _ _ (by assumption) (by first | assumption | exact limbs_len _ _ _ | exact z16_len) ?_; intro w H; try simp only [Act.put, List.setIfInBounds_toArray, List.set_cons_succ, List.set_cons_zero])
        | (refine a_store2 rfl _ _ rfl _ _ _ rfl rfl _ _ _ (by assumption) (by first | assumption | exact limbs_len _ _ _ | exact z16_len) ?_; intro w H; try simp only [Act.put, List.setIfInBounds_toArray, List.set_cons_succ, List.set_cons_zero]))
      exact a_ret Try.results33 _ rfl rfl (by assumption) (by (first | exact .head _ | exact .tail _ (.head _) | exact .tail _ (.tail _ (.head _)) | exact .tail _ (.tail _ (.tail _ (.head _))) | exact .tail _ (.tail _ (.tail _ (.tail _ (.head _)))))) (he.out)
end Go.Proofs.Ytbkaemekcjinaaa
