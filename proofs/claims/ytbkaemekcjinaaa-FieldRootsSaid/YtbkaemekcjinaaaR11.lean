/- Walks of the document's answer for package field: powers. -/
import Derived.Test.YtbkaemekcjinaaaR7
import Derived.Test.YtbkaemekcjinaaaR10
set_option linter.unusedSimpArgs false
set_option linter.unusedVariables false
namespace Go.Proofs.Ytbkaemekcjinaaa
open Go.RowKit
theorem limbs_getD (B : Nat) : ∀ (k x j : Nat), j < k → (limbs B k x).getD j 0 = x / B ^ j % B
  | 0, _, _, h => by omega
  | k + 1, x, 0, _ => by rw [limbs, List.getD_cons_zero, Nat.pow_zero, Nat.div_one]
  | k + 1, x, j + 1, h => by
    rw [limbs, List.getD_cons_succ, limbs_getD B k (x / B) j (by omega), Nat.div_div_eq_div_mul, Nat.pow_succ, Nat.mul_comm]
theorem bit_of (e k j r : Nat) (hk : k = 16 * j + r) (hr : r < 16) : e / 65536 ^ j % 65536 / 2 ^ r % 2 = e / 2 ^ k % 2 := by
  have h1 : e / 2 ^ k = e / 65536 ^ j / 2 ^ r := by
    rw [Nat.div_div_eq_div_mul, hk, Nat.pow_add, Nat.pow_mul]
  rw [h1]
  generalize e / 65536 ^ j = y
  have h3 : y % 65536 / 2 ^ r = y / 2 ^ r % 2 ^ (16 - r) := by
    have e2 : (65536 : Nat) = 2 ^ r * 2 ^ (16 - r) := by rw [← Nat.pow_add, show r + (16 - r) = 16 by omega]
    rw [e2, Nat.mod_mul_right_div_self]
  rw [h3, show 2 ^ (16 - r) = 2 * 2 ^ (15 - r) by rw [Nat.mul_comm, ← Nat.pow_succ]; congr 1; omega, Nat.mod_mul_right_mod]
theorem half_step (e k : Nat) : e / 2 ^ k = 2 * (e / 2 ^ (k + 1)) + e / 2 ^ k % 2 := by
  rw [Nat.pow_succ, ← Nat.div_div_eq_div_mul]
  omega
theorem powF_sq (x m : Nat) : powF x m * powF x m % pF = powF x (2 * m) := by
  unfold powF
  rw [← Nat.mul_mod, ← Nat.pow_add, Nat.two_mul]
theorem powF_one (x m : Nat) : powF x m * x % pF = powF x (m + 1) := by
  unfold powF
  rw [Nat.mod_mul_mod, Nat.pow_succ]
theorem and_one (s : Nat) (h : s < 4294967296) : bits .and .i64 (s : Int) 1 = ((s % 2 : Nat) : Int) := by
  have h1 : (BitVec.ofInt 64 (s : Int)).toNat = s := by
    rw [BitVec.ofInt_natCast, BitVec.toNat_ofNat]; exact Nat.mod_eq_of_lt (by omega)
  show IntKind.i64.wrap ((BitVec.ofInt 64 (s : Int) &&& BitVec.ofInt 64 1).toNat : Int) = _
  rw [BitVec.toNat_and, h1]
  have h2 : (BitVec.ofInt 64 1).toNat = 1 := rfl
  rw [h2, Nat.and_one_is_mod]
  simp [IntKind.wrap, IntKind.signed, IntKind.bits]
  omega
set_option maxHeartbeats 4000000 in
theorem Power_any (x e : Nat) (hx : x < big) (he : e < big) (wS : World) : Calls Try.prog 56 #[arrV (Md x), arrV (Md e)] wS (AP (Md (powF x e)) wS) := by
  have H := AMem.start wS
  have hel := Md_len e
  have hxl := Md_len x
  have h1l := Md_len 1
  have cS := fun w => Small_any 1 (by omega) w
  rw [show ((1 : Nat) : Int) = 1 from rfl] at cS
  replace cS := Kept.mk cS
  have h256 : powF x (e / 2 ^ 256) = 1 := by
    rw [Nat.div_eq_of_lt (show e < 2 ^ 256 from he)]
    show x ^ 0 % pF = 1
    rw [Nat.pow_zero]
    exact Nat.mod_eq_of_lt (small_lt 1 (by omega))
  replace h256 := Kept.mk h256
  unfold arrV
  go_enter Try.func56, Try.ntmps56
  go_wp2_with (first
    | (refine a_box rfl _ rfl _ rfl (by assumption) (by first | assumption | exact limbs_len _ _ _ | exact z16_len) ?_; intro g w H; try simp only [Act.put, List.setIfInBounds_toArray, List.set_cons_succ, List.set_cons_zero])
    | (refine a_alloc rfl rfl (by assumption) ?_; intro g w H; try simp only [Act.put, List.setIfInBounds_toArray, List.set_cons_succ, List.set_cons_zero])
    | (refine a_build rfl rfl ?_; try simp only [Act.put, List.setIfInBounds_toArray, List.set_cons_succ, List.set_cons_zero])
    | (refine a_load rfl _ rfl _ _ rfl (by assumption) (by (first | exact .head _ | exact .tail _ (.head _) | exact .tail _ (.tail _ (.head _)) | exact .tail _ (.tail _ (.tail _ (.head _))) | exact .tail _ (.tail _ (.tail _ (.tail _ (.head _)))))) ?_; try simp only [Act.put, List.setIfInBounds_toArray, List.set_cons_succ, List.set_cons_zero])
    | (refine a_store0 rfl _ _ rfl _ _ _ rfl rfl _ (by assumption) (by first | assumption | exact limbs_len _ _ _ | exact z16_len) ?_; intro w H; try simp only [Act.put, List.setIfInBounds_toArray, List.set_cons_succ, List.set_cons_zero])
    | (refine a_store1 rfl _ _ rfl _ _ _ rfl rfl _ _ (by assumption) (by first | assumption | exact limbs_len _ _ _ | exact z16_len) ?_; intro w H; try simp only [Act.put, List.setIfInBounds_toArray, List.set_cons_succ, List.set_cons_zero])
    | (refine a_store2 rfl _ _ rfl _ _ _ rfl rfl _ _ _ (by assumption) (by first | assumption | exact limbs_len _ _ _ | exact z16_len) ?_; intro w H; try simp only [Act.put, List.setIfInBounds_toArray, List.set_cons_succ, List.set_cons_zero])
    | (go_at_call 32; refine a_call (by assumption) (cS.out _) ?_; intro w H))
  rename_i ga _ _ gn _ _ gr _ _ _ _ _ _ K _
  rename Nat => go
  go_loopw [6] (fun v6 wr => ∃ (k y : Nat), k ≤ 256 ∧ y < big ∧ v6 = .int .i64 ((k : Int) - 1) ∧ AMem wS wr [(go, Md y), (gr, z16), (gn, Md e), (ga, Md x)] ∧ Kept (y = powF x (e / 2 ^ k))) (fun v6 _ => (RowKit.intOf v6 + 1).toNat)
  case atStart => exact ⟨256, 1, by omega, by decide +kernel, rfl, H, ⟨h256.out.symm⟩⟩
  case round =>
    clear H
    obtain ⟨k, y, hk, hyb, rfl, H, HY⟩ := hrel
    cases k with
    | zero =>
      rw [show ((0 : Nat) : Int) - 1 = -1 from rfl]
      have hfin : y = powF x e := by have h := HY.out; rw [Nat.pow_zero, Nat.div_one] at h; exact h
      rw [hfin] at H
      clear HY hfin hyb
      have hfl := Md_len (powF x e)
      go_wp2_with (first
        | (refine a_box rfl _ rfl _ rfl (by assumption) (by first | assumption | exact limbs_len _ _ _ | exact z16_len) ?_; intro g w H; try simp only [Act.put, List.setIfInBounds_toArray, List.set_cons_succ, List.set_cons_zero])
        | (refine a_alloc rfl rfl (by assumption) ?_; intro g w H; try simp only [Act.put, List.setIfInBounds_toArray, List.set_cons_succ, List.set_cons_zero])
        | (refine a_build rfl rfl ?_; try simp only [Act.put, List.setIfInBounds_toArray, List.set_cons_succ, List.set_cons_zero])
        | (refine a_load rfl _ rfl _ _ rfl (by assumption) (by (first | exact .head _ | exact .tail _ (.head _) | exact .tail _ (.tail _ (.head _)) | exact .tail _ (.tail _ (.tail _ (.head _))) | exact .tail _ (.tail _ (.tail _ (.tail _ (.head _)))))) ?_; try simp only [Act.put, List.setIfInBounds_toArray, List.set_cons_succ, List.set_cons_zero])
        | (refine a_store0 rfl _ _ rfl _ _ _ rfl rfl _ (by assumption) (by first | assumption | exact limbs_len _ _ _ | exact z16_len) ?_; intro w H; try simp only [Act.put, List.setIfInBounds_toArray, List.set_cons_succ, List.set_cons_zero])
        | (refine a_store1 rfl _ _ rfl _ _ _ rfl rfl _ _ (by assumption) (by first | assumption | exact limbs_len _ _ _ | exact z16_len) ?_; intro w H; try simp only [Act.put, List.setIfInBounds_toArray, List.set_cons_succ, List.set_cons_zero])
        | (refine a_store2 rfl _ _ rfl _ _ _ rfl rfl _ _ _ (by assumption) (by first | assumption | exact limbs_len _ _ _ | exact z16_len) ?_; intro w H; try simp only [Act.put, List.setIfInBounds_toArray, List.set_cons_succ, List.set_cons_zero]))
      exact a_ret Try.results56 _ rfl rfl (by assumption) (by (first | exact .head _ | exact .tail _ (.head _) | exact .tail _ (.tail _ (.head _)) | exact .tail _ (.tail _ (.tail _ (.head _))) | exact .tail _ (.tail _ (.tail _ (.tail _ (.head _)))))) (rfl)
    | succ k =>
      rw [show ((k + 1 : Nat) : Int) - 1 = (k : Int) by omega]
      obtain ⟨j, hj⟩ : ∃ j, k / 16 = j := ⟨_, rfl⟩
      obtain ⟨r, hr⟩ : ∃ r, k % 16 = r := ⟨_, rfl⟩
      have hj16 : j < 16 := by omega
      have hr16 : r < 16 := by omega
      have hkjr : k = 16 * j + r := by omega
      obtain ⟨v, hv⟩ : ∃ v, (Md e).getD j 0 = v := ⟨_, rfl⟩
      have hv2 : v = e / 65536 ^ j % 65536 := by rw [← hv]; exact limbs_getD 65536 16 e j hj16
      obtain ⟨s, hs⟩ : ∃ s, v / 2 ^ r = s := ⟨_, rfl⟩
      obtain ⟨bt, hbt⟩ : ∃ b, s % 2 = b := ⟨_, rfl⟩
      have hbit : bt = e / 2 ^ k % 2 := by rw [← hbt, ← hs, hv2]; exact bit_of e k j r hkjr hr16
      have hq : (k : Int) / 16 = (j : Int) := by omega
      have hm : (k : Int) % 16 = (r : Int) := by omega
      have hvl : v < 65536 := by rw [hv2]; exact Nat.mod_lt _ (by decide)
      have hsl : s ≤ v := by rw [← hs]; exact Nat.div_le_self _ _
      have cT := fun w => Times_any y y hyb hyb w
      obtain ⟨z, hz⟩ : ∃ z, y * y % pF = z := ⟨_, rfl⟩
      rw [hz] at cT
      have hzb : z < big := hz ▸ Nat.lt_trans (Nat.mod_lt _ p_pos) p_bigR
      have hzl := Md_len z
      have hY2 : z = powF x (2 * (e / 2 ^ (k + 1))) := by rw [← hz, HY.out, powF_sq]
      have q4 : (v : Int) / 2 ^ r = (s : Int) := by rw [← hs]; simp
      have q4b : (v : Int) / 2 ^ min r 64 = (s : Int) := by rw [Nat.min_eq_left (by omega)]; exact q4
      have hrb : (r : Int) < 64 := by omega
      have hr0 : (0 : Int) ≤ (r : Int) := by omega
      have hand : bits .and .i64 (s : Int) 1 = (bt : Int) := by rw [← hbt]; exact and_one s (by omega)
      have hbs : (s : Int) % 2 = (bt : Int) := by omega
      have hst := half_step e k
      replace hj := Kept.mk hj
      replace hr := Kept.mk hr
      replace hkjr := Kept.mk hkjr
      replace hv := Kept.mk hv
      replace hv2 := Kept.mk hv2
      replace hs := Kept.mk hs
      replace hbt := Kept.mk hbt
      replace hz := Kept.mk hz
      replace hY2 := Kept.mk hY2
      replace hst := Kept.mk hst
      unfold arrV at cT
      replace cT := Kept.mk cT
      have hjJ : (j : Int) < 16 := by omega
      have hkK : (0 : Int) ≤ (k : Int) := by omega
      by_cases hb1 : bt = 1
      · have hfin : z * x % pF = powF x (e / 2 ^ k) := by rw [hY2.out, powF_one, hst.out, ← hbit, hb1]
        have cX := fun w => Times_any z x hzb hx w
        rw [hfin] at cX
        unfold arrV at cX
        replace cX := Kept.mk cX
        have hfl := Md_len (powF x (e / 2 ^ k))
        have hfb : powF x (e / 2 ^ k) < big := Nat.lt_trans (powF_lt _ _) p_bigR
        subst hb1
        replace hbit := Kept.mk hbit
        replace hfin := Kept.mk hfin
        go_wp2_with (first
          | (refine a_box rfl _ rfl _ rfl (by assumption) (by first | assumption | exact limbs_len _ _ _ | exact z16_len) ?_; intro g w H; try simp only [Act.put, List.setIfInBounds_toArray, List.set_cons_succ, List.set_cons_zero])
          | (refine a_alloc rfl rfl (by assumption) ?_; intro g w H; try simp only [Act.put, List.setIfInBounds_toArray, List.set_cons_succ, List.set_cons_zero])
          | (refine a_build rfl rfl ?_; try simp only [Act.put, List.setIfInBounds_toArray, List.set_cons_succ, List.set_cons_zero])
          | (refine a_load rfl _ rfl _ _ rfl (by assumption) (by (first | exact .head _ | exact .tail _ (.head _) | exact .tail _ (.tail _ (.head _)) | exact .tail _ (.tail _ (.tail _ (.head _))) | exact .tail _ (.tail _ (.tail _ (.tail _ (.head _)))))) ?_; try simp only [Act.put, List.setIfInBounds_toArray, List.set_cons_succ, List.set_cons_zero])
          | (refine a_store0 rfl _ _ rfl _ _ _ rfl rfl _ (by assumption) (by first | assumption | exact limbs_len _ _ _ | exact z16_len) ?_; intro w H; have c3 := H.cell (.tail _ (.tail _ (.head _))) j hj16; rw [hv.out] at c3; try simp only [Act.put, List.setIfInBounds_toArray, List.set_cons_succ, List.set_cons_zero])
          | (refine a_store1 rfl _ _ rfl _ _ _ rfl rfl _ _ (by assumption) (by first | assumption | exact limbs_len _ _ _ | exact z16_len) ?_; intro w H; try simp only [Act.put, List.setIfInBounds_toArray, List.set_cons_succ, List.set_cons_zero])
          | (refine a_store2 rfl _ _ rfl _ _ _ rfl rfl _ _ _ (by assumption) (by first | assumption | exact limbs_len _ _ _ | exact z16_len) ?_; intro w H; try simp only [Act.put, List.setIfInBounds_toArray, List.set_cons_succ, List.set_cons_zero])
          | (go_at_call 43; with_reducible refine a_call (by assumption) (cT.out _) ?_; intro w H)
          | (go_at_call 43; with_reducible refine a_call (by assumption) (cX.out _) ?_; intro w H))
        go_roundw
        case rel => exact ⟨k, _, by omega, hfb, rfl, H, ⟨rfl⟩⟩
        case measure => first | (simp [RowKit.intOf]; done) | (simp [RowKit.intOf]; omega)
      · have hb0 : bt = 0 := by omega
        have hfin : z = powF x (e / 2 ^ k) := by rw [hY2.out, hst.out, ← hbit, hb0]; rfl
        have cX := cT
        subst hb0
        replace hbit := Kept.mk hbit
        replace hfin := Kept.mk hfin
        go_wp2_with (first
          | (refine a_box rfl _ rfl _ rfl (by assumption) (by first | assumption | exact limbs_len _ _ _ | exact z16_len) ?_; intro g w H; try simp only [Act.put, List.setIfInBounds_toArray, List.set_cons_succ, List.set_cons_zero])
          | (refine a_alloc rfl rfl (by assumption) ?_; intro g w H; try simp only [Act.put, List.setIfInBounds_toArray, List.set_cons_succ, List.set_cons_zero])
          | (refine a_build rfl rfl ?_; try simp only [Act.put, List.setIfInBounds_toArray, List.set_cons_succ, List.set_cons_zero])
          | (refine a_load rfl _ rfl _ _ rfl (by assumption) (by (first | exact .head _ | exact .tail _ (.head _) | exact .tail _ (.tail _ (.head _)) | exact .tail _ (.tail _ (.tail _ (.head _))) | exact .tail _ (.tail _ (.tail _ (.tail _ (.head _)))))) ?_; try simp only [Act.put, List.setIfInBounds_toArray, List.set_cons_succ, List.set_cons_zero])
          | (refine a_store0 rfl _ _ rfl _ _ _ rfl rfl _ (by assumption) (by first | assumption | exact limbs_len _ _ _ | exact z16_len) ?_; intro w H; have c3 := H.cell (.tail _ (.tail _ (.head _))) j hj16; rw [hv.out] at c3; try simp only [Act.put, List.setIfInBounds_toArray, List.set_cons_succ, List.set_cons_zero])
          | (refine a_store1 rfl _ _ rfl _ _ _ rfl rfl _ _ (by assumption) (by first | assumption | exact limbs_len _ _ _ | exact z16_len) ?_; intro w H; try simp only [Act.put, List.setIfInBounds_toArray, List.set_cons_succ, List.set_cons_zero])
          | (refine a_store2 rfl _ _ rfl _ _ _ rfl rfl _ _ _ (by assumption) (by first | assumption | exact limbs_len _ _ _ | exact z16_len) ?_; intro w H; try simp only [Act.put, List.setIfInBounds_toArray, List.set_cons_succ, List.set_cons_zero])
          | (go_at_call 43; with_reducible refine a_call (by assumption) (cT.out _) ?_; intro w H)
          | (go_at_call 43; with_reducible refine a_call (by assumption) (cT.out _) ?_; intro w H))
        go_roundw
        case rel => exact ⟨k, z, by omega, hzb, rfl, H, hfin⟩
        case measure => first | (simp [RowKit.intOf]; done) | (simp [RowKit.intOf]; omega)
end Go.Proofs.Ytbkaemekcjinaaa
