/- Walks of the document's answer for package field: powers.
Walks of the document's answer for package field: inverses; halves.
Walks of the document's answer for package field: Roots.
The document's answer for package field: its calls Inv, Root. -/
import Derived.Test.YtockcnglennihaaZS
section
set_option linter.unusedSimpArgs false
set_option linter.unusedVariables false
namespace Go.Proofs.Ytockcnglennihaa
open Go.RowKit
theorem limbs_getD (B : Nat) : ∀ (k x j : Nat), j < k → (limbs B k x).getD j 0 = x / B ^ j % B
  | 0, _, _, h => by omega
  | k + 1, x, 0, _ => by rw [limbs, List.getD_cons_zero, Nat.pow_zero, Nat.div_one]
  | k + 1, x, j + 1, h => by
    rw [limbs, List.getD_cons_succ, limbs_getD B k (x / B) j (by omega), Nat.div_div_eq_div_mul, Nat.pow_succ, Nat.mul_comm]
theorem bit_of (e k j r : Nat) (hk : k = 16 * j + r) (hr : r < 16) : e / 65536 ^ j % 65536 / 2 ^ r % 2 = e / 2 ^ k % 2 := by
  have h1 : e / 2 ^ k = e / 65536 ^ j / 2 ^ r := by
    rw [Nat.div_div_eq_div_mul, hk, Nat.pow_add, Nat.pow_mul]
  rw [h1]
  generalize e / 65536 ^ j = y
  have h3 : y % 65536 / 2 ^ r = y / 2 ^ r % 2 ^ (16 - r) := by
    have e2 : (65536 : Nat) = 2 ^ r * 2 ^ (16 - r) := by rw [← Nat.pow_add, show r + (16 - r) = 16 by omega]
    rw [e2, Nat.mod_mul_right_div_self]
  rw [h3, show 2 ^ (16 - r) = 2 * 2 ^ (15 - r) by rw [Nat.mul_comm, ← Nat.pow_succ]; congr 1; omega, Nat.mod_mul_right_mod]
theorem half_step (e k : Nat) : e / 2 ^ k = 2 * (e / 2 ^ (k + 1)) + e / 2 ^ k % 2 := by
  rw [Nat.pow_succ, ← Nat.div_div_eq_div_mul]
  omega
theorem powF_sq (x m : Nat) : powF x m * powF x m % pF = powF x (2 * m) := by
  unfold powF
  rw [← Nat.mul_mod, ← Nat.pow_add, Nat.two_mul]
theorem powF_one (x m : Nat) : powF x m * x % pF = powF x (m + 1) := by
  unfold powF
  rw [Nat.mod_mul_mod, Nat.pow_succ]
theorem and_one (s : Nat) (h : s < 4294967296) : bits .and .i64 (s : Int) 1 = ((s % 2 : Nat) : Int) := by
  have h1 : (BitVec.ofInt 64 (s : Int)).toNat = s := by
    rw [BitVec.ofInt_natCast, BitVec.toNat_ofNat]; exact Nat.mod_eq_of_lt (by omega)
  show IntKind.i64.wrap ((BitVec.ofInt 64 (s : Int) &&& BitVec.ofInt 64 1).toNat : Int) = _
  rw [BitVec.toNat_and, h1]
  have h2 : (BitVec.ofInt 64 1).toNat = 1 := rfl
  rw [h2, Nat.and_one_is_mod]
  simp [IntKind.wrap, IntKind.signed, IntKind.bits]
  omega
set_option maxHeartbeats 4000000 in
theorem Power_any (x e : Nat) (hx : x < big) (he : e < big) (wS : World) : Calls Try.prog 62 #[arrV (Md x), arrV (Md e)] wS (AP (Md (powF x e)) wS) := by
  have H := AMem.start wS
  have hel := Md_len e
  have hxl := Md_len x
  have h1l := Md_len 1
  have cS := fun w => Small_any 1 (by omega) w
  rw [show ((1 : Nat) : Int) = 1 from rfl] at cS
  replace cS := Kept.mk cS
  have h256 : powF x (e / 2 ^ 256) = 1 := by
    rw [Nat.div_eq_of_lt (show e < 2 ^ 256 from he)]
    show x ^ 0 % pF = 1
    rw [Nat.pow_zero]
    exact Nat.mod_eq_of_lt (small_lt 1 (by omega))
  replace h256 := Kept.mk h256
  unfold arrV
  go_enter Try.func62, Try.ntmps62
  go_wp2_with (first
    | (refine a_box rfl _ rfl _ rfl (by assumption) (by first | assumption | exact limbs_len _ _ _ | exact z16_len) ?_; intro g w H; try simp only [Act.put, List.setIfInBounds_toArray, List.set_cons_succ, List.set_cons_zero])
    | (refine a_alloc rfl rfl (by assumption) ?_; intro g w H; try simp only [Act.put, List.setIfInBounds_toArray, List.set_cons_succ, List.set_cons_zero])
    | (refine a_build rfl rfl ?_; try simp only [Act.put, List.setIfInBounds_toArray, List.set_cons_succ, List.set_cons_zero])
    | (refine a_load rfl _ rfl _ _ rfl (by assumption) (by (first | exact .head _ | exact .tail _ (.head _) | exact .tail _ (.tail _ (.head _)) | exact .tail _ (.tail _ (.tail _ (.head _))) | exact .tail _ (.tail _ (.tail _ (.tail _ (.head _)))))) ?_; try simp only [Act.put, List.setIfInBounds_toArray, List.set_cons_succ, List.set_cons_zero])
    | (refine a_store0 rfl _ _ rfl _ _ _ rfl rfl _ (by assumption) (by first | assumption | exact limbs_len _ _ _ | exact z16_len) ?_; intro w H; try simp only [Act.put, List.setIfInBounds_toArray, List.set_cons_succ, List.set_cons_zero])
    | (refine a_store1 rfl _ _ rfl _ _ _ rfl rfl _ _ (by assumption) (by first | assumption | exact limbs_len _ _ _ | exact z16_len) ?_; intro w H; try simp only [Act.put, List.setIfInBounds_toArray, List.set_cons_succ, List.set_cons_zero])
    | (refine a_store2 rfl _ _ rfl _ _ _ rfl rfl _ _ _ (by assumption) (by first | assumption | exact limbs_len _ _ _ | exact z16_len) ?_; intro w H; try simp only [Act.put, List.setIfInBounds_toArray, List.set_cons_succ, List.set_cons_zero])
    | (go_at_call 39; refine a_call (by assumption) (cS.out _) ?_; intro w H))
  rename_i ga _ _ gn _ _ gr _ _ _ _ _ _ K _
  rename Nat => go
  go_loopw [6] (fun v6 wr => ∃ (k y : Nat), k ≤ 256 ∧ y < big ∧ v6 = .int .i64 ((k : Int) - 1) ∧ AMem wS wr [(go, Md y), (gr, z16), (gn, Md e), (ga, Md x)] ∧ Kept (y = powF x (e / 2 ^ k))) (fun v6 _ => (RowKit.intOf v6 + 1).toNat)
  case atStart => exact ⟨256, 1, by omega, by decide +kernel, rfl, H, ⟨h256.out.symm⟩⟩
  case round =>
    clear H
    obtain ⟨k, y, hk, hyb, rfl, H, HY⟩ := hrel
    cases k with
    | zero =>
      rw [show ((0 : Nat) : Int) - 1 = -1 from rfl]
      have hfin : y = powF x e := by have h := HY.out; rw [Nat.pow_zero, Nat.div_one] at h; exact h
      rw [hfin] at H
      clear HY hfin hyb
      have hfl := Md_len (powF x e)
      go_wp2_with (first
        | (refine a_box rfl _ rfl _ rfl (by assumption) (by first | assumption | exact limbs_len _ _ _ | exact z16_len) ?_; intro g w H; try simp only [Act.put, List.setIfInBounds_toArray, List.set_cons_succ, List.set_cons_zero])
        | (refine a_alloc rfl rfl (by assumption) ?_; intro g w H; try simp only [Act.put, List.setIfInBounds_toArray, List.set_cons_succ, List.set_cons_zero])
        | (refine a_build rfl rfl ?_; try simp only [Act.put, List.setIfInBounds_toArray, List.set_cons_succ, List.set_cons_zero])
        | (refine a_load rfl _ rfl _ _ rfl (by assumption) (by (first | exact .head _ | exact .tail _ (.head _) | exact .tail _ (.tail _ (.head _)) | exact .tail _ (.tail _ (.tail _ (.head _))) | exact .tail _ (.tail _ (.tail _ (.tail _ (.head _)))))) ?_; try simp only [Act.put, List.setIfInBounds_toArray, List.set_cons_succ, List.set_cons_zero])
        | (refine a_store0 rfl _ _ rfl _ _ _ rfl rfl _ (by assumption) (by first | assumption | exact limbs_len _ _ _ | exact z16_len) ?_; intro w H; try simp only [Act.put, List.setIfInBounds_toArray, List.set_cons_succ, List.set_cons_zero])
        | (refine a_store1 rfl _ _ rfl _ _ _ rfl rfl _ _ (by assumption) (by first | assumption | exact limbs_len _ _ _ | exact z16_len) ?_; intro w H; try simp only [Act.put, List.setIfInBounds_toArray, List.set_cons_succ, List.set_cons_zero])
        | (refine a_store2 rfl _ _ rfl _ _ _ rfl rfl _ _ _ (by assumption) (by first | assumption | exact limbs_len _ _ _ | exact z16_len) ?_; intro w H; try simp only [Act.put, List.setIfInBounds_toArray, List.set_cons_succ, List.set_cons_zero]))
      exact a_ret Try.results62 _ rfl rfl (by assumption) (by (first | exact .head _ | exact .tail _ (.head _) | exact .tail _ (.tail _ (.head _)) | exact .tail _ (.tail _ (.tail _ (.head _))) | exact .tail _ (.tail _ (.tail _ (.tail _ (.head _)))))) (rfl)
    | succ k =>
      rw [show ((k + 1 : Nat) : Int) - 1 = (k : Int) by omega]
      obtain ⟨j, hj⟩ : ∃ j, k / 16 = j := ⟨_, rfl⟩
      obtain ⟨r, hr⟩ : ∃ r, k % 16 = r := ⟨_, rfl⟩
      have hj16 : j < 16 := by omega
      have hr16 : r < 16 := by omega
      have hkjr : k = 16 * j + r := by omega
      obtain ⟨v, hv⟩ : ∃ v, (Md e).getD j 0 = v := ⟨_, rfl⟩
      have hv2 : v = e / 65536 ^ j % 65536 := by rw [← hv]; exact limbs_getD 65536 16 e j hj16
      obtain ⟨s, hs⟩ : ∃ s, v / 2 ^ r = s := ⟨_, rfl⟩
      obtain ⟨bt, hbt⟩ : ∃ b, s % 2 = b := ⟨_, rfl⟩
      have hbit : bt = e / 2 ^ k % 2 := by rw [← hbt, ← hs, hv2]; exact bit_of e k j r hkjr hr16
      have hq : (k : Int) / 16 = (j : Int) := by omega
      have hm : (k : Int) % 16 = (r : Int) := by omega
      have hvl : v < 65536 := by rw [hv2]; exact Nat.mod_lt _ (by decide)
      have hsl : s ≤ v := by rw [← hs]; exact Nat.div_le_self _ _
      have cT := fun w => Times_any y y hyb hyb w
      obtain ⟨z, hz⟩ : ∃ z, y * y % pF = z := ⟨_, rfl⟩
      rw [hz] at cT
      have hzb : z < big := hz ▸ Nat.lt_trans (Nat.mod_lt _ p_pos) p_bigR
      have hzl := Md_len z
      have hY2 : z = powF x (2 * (e / 2 ^ (k + 1))) := by rw [← hz, HY.out, powF_sq]
      have q4 : (v : Int) / 2 ^ r = (s : Int) := by rw [← hs]; simp
      have q4b : (v : Int) / 2 ^ min r 64 = (s : Int) := by rw [Nat.min_eq_left (by omega)]; exact q4
      have hrb : (r : Int) < 64 := by omega
      have hr0 : (0 : Int) ≤ (r : Int) := by omega
      have hand : bits .and .i64 (s : Int) 1 = (bt : Int) := by rw [← hbt]; exact and_one s (by omega)
      have hbs : (s : Int) % 2 = (bt : Int) := by omega
      have hst := half_step e k
      replace hj := Kept.mk hj
      replace hr := Kept.mk hr
      replace hkjr := Kept.mk hkjr
      replace hv := Kept.mk hv
      replace hv2 := Kept.mk hv2
      replace hs := Kept.mk hs
      replace hbt := Kept.mk hbt
      replace hz := Kept.mk hz
      replace hY2 := Kept.mk hY2
      replace hst := Kept.mk hst
      unfold arrV at cT
      replace cT := Kept.mk cT
      have hjJ : (j : Int) < 16 := by omega
      have hkK : (0 : Int) ≤ (k : Int) := by omega
      by_cases hb1 : bt = 1
      · have hfin : z * x % pF = powF x (e / 2 ^ k) := by rw [hY2.out, powF_one, hst.out, ← hbit, hb1]
        have cX := fun w => Times_any z x hzb hx w
        rw [hfin] at cX
        unfold arrV at cX
        replace cX := Kept.mk cX
        have hfl := Md_len (powF x (e / 2 ^ k))
        have hfb : powF x (e / 2 ^ k) < big := Nat.lt_trans (powF_lt _ _) p_bigR
        subst hb1
        replace hbit := Kept.mk hbit
        replace hfin := Kept.mk hfin
        go_wp2_with (first
          | (refine a_box rfl _ rfl _ rfl (by assumption) (by first | assumption | exact limbs_len _ _ _ | exact z16_len) ?_; intro g w H; try simp only [Act.put, List.setIfInBounds_toArray, List.set_cons_succ, List.set_cons_zero])
          | (refine a_alloc rfl rfl (by assumption) ?_; intro g w H; try simp only [Act.put, List.setIfInBounds_toArray, List.set_cons_succ, List.set_cons_zero])
          | (refine a_build rfl rfl ?_; try simp only [Act.put, List.setIfInBounds_toArray, List.set_cons_succ, List.set_cons_zero])
          | (refine a_load rfl _ rfl _ _ rfl (by assumption) (by (first | exact .head _ | exact .tail _ (.head _) | exact .tail _ (.tail _ (.head _)) | exact .tail _ (.tail _ (.tail _ (.head _))) | exact .tail _ (.tail _ (.tail _ (.tail _ (.head _)))))) ?_; try simp only [Act.put, List.setIfInBounds_toArray, List.set_cons_succ, List.set_cons_zero])
          | (refine a_store0 rfl _ _ rfl _ _ _ rfl rfl _ (by assumption) (by first | assumption | exact limbs_len _ _ _ | exact z16_len) ?_; intro w H; have c3 := H.cell (.tail _ (.tail _ (.head _))) j hj16; rw [hv.out] at c3; try simp only [Act.put, List.setIfInBounds_toArray, List.set_cons_succ, List.set_cons_zero])
          | (refine a_store1 rfl _ _ rfl _ _ _ rfl rfl _ _ (by assumption) (by first | assumption | exact limbs_len _ _ _ | exact z16_len) ?_; intro w H; try simp only [Act.put, List.setIfInBounds_toArray, List.set_cons_succ, List.set_cons_zero])
          | (refine a_store2 rfl _ _ rfl _ _ _ rfl rfl _ _ _ (by assumption) (by first | assumption | exact limbs_len _ _ _ | exact z16_len) ?_; intro w H; try simp only [Act.put, List.setIfInBounds_toArray, List.set_cons_succ, List.set_cons_zero])
          | (go_at_call 41; with_reducible refine a_call (by assumption) (cT.out _) ?_; intro w H)
          | (go_at_call 41; with_reducible refine a_call (by assumption) (cX.out _) ?_; intro w H))
        go_roundw
        case rel => exact ⟨k, _, by omega, hfb, rfl, H, ⟨rfl⟩⟩
        case measure => first | (simp [RowKit.intOf]; done) | (simp [RowKit.intOf]; omega)
      · have hb0 : bt = 0 := by omega
        have hfin : z = powF x (e / 2 ^ k) := by rw [hY2.out, hst.out, ← hbit, hb0]; rfl
        have cX := cT
        subst hb0
        replace hbit := Kept.mk hbit
        replace hfin := Kept.mk hfin
        go_wp2_with (first
          | (refine a_box rfl _ rfl _ rfl (by assumption) (by first | assumption | exact limbs_len _ _ _ | exact z16_len) ?_; intro g w H; try simp only [Act.put, List.setIfInBounds_toArray, List.set_cons_succ, List.set_cons_zero])
          | (refine a_alloc rfl rfl (by assumption) ?_; intro g w H; try simp only [Act.put, List.setIfInBounds_toArray, List.set_cons_succ, List.set_cons_zero])
          | (refine a_build rfl rfl ?_; try simp only [Act.put, List.setIfInBounds_toArray, List.set_cons_succ, List.set_cons_zero])
          | (refine a_load rfl _ rfl _ _ rfl (by assumption) (by (first | exact .head _ | exact .tail _ (.head _) | exact .tail _ (.tail _ (.head _)) | exact .tail _ (.tail _ (.tail _ (.head _))) | exact .tail _ (.tail _ (.tail _ (.tail _ (.head _)))))) ?_; try simp only [Act.put, List.setIfInBounds_toArray, List.set_cons_succ, List.set_cons_zero])
          | (refine a_store0 rfl _ _ rfl _ _ _ rfl rfl _ (by assumption) (by first | assumption | exact limbs_len _ _ _ | exact z16_len) ?_; intro w H; have c3 := H.cell (.tail _ (.tail _ (.head _))) j hj16; rw [hv.out] at c3; try simp only [Act.put, List.setIfInBounds_toArray, List.set_cons_succ, List.set_cons_zero])
          | (refine a_store1 rfl _ _ rfl _ _ _ rfl rfl _ _ (by assumption) (by first | assumption | exact limbs_len _ _ _ | exact z16_len) ?_; intro w H; try simp only [Act.put, List.setIfInBounds_toArray, List.set_cons_succ, List.set_cons_zero])
          | (refine a_store2 rfl _ _ rfl _ _ _ rfl rfl _ _ _ (by assumption) (by first | assumption | exact limbs_len _ _ _ | exact z16_len) ?_; intro w H; try simp only [Act.put, List.setIfInBounds_toArray, List.set_cons_succ, List.set_cons_zero])
          | (go_at_call 41; with_reducible refine a_call (by assumption) (cT.out _) ?_; intro w H)
          | (go_at_call 41; with_reducible refine a_call (by assumption) (cT.out _) ?_; intro w H))
        go_roundw
        case rel => exact ⟨k, z, by omega, hzb, rfl, H, hfin⟩
        case measure => first | (simp [RowKit.intOf]; done) | (simp [RowKit.intOf]; omega)
end Go.Proofs.Ytockcnglennihaa
end
section
set_option linter.unusedSimpArgs false
set_option linter.unusedVariables false
namespace Go.Proofs.Ytockcnglennihaa
open Go.RowKit
theorem Inverse_any (x : Nat) (hx : x < big) (wS : World) : Calls Try.prog 42 #[arrV (Md x)] wS (AP (Md (invF x)) wS) := by
  have H := AMem.start wS
  have cS := fun w => Small_any 2 (by omega) w
  rw [show ((2 : Nat) : Int) = 2 from rfl] at cS
  have cL := fun w => less_any pF 2 p_bigR (Nat.le_of_lt (small_lt 2 (by omega))) w
  obtain ⟨e, he⟩ : ∃ e, pF - 2 = e := ⟨_, rfl⟩
  have heb : e < big := he ▸ Nat.lt_of_le_of_lt (Nat.sub_le _ _) p_bigR
  have hinv : powF x e = invF x := by rw [invF, he]
  have cP := fun w => Power_any x e hx heb w
  rw [hinv] at cP
  rw [he] at cL
  clear he heb hinv
  generalize invF x = r at cP ⊢
  have cQ := fun w => P_any w
  unfold AP at cS cL cP cQ
  have h1 := Md_len x
  have h2 := Md_len r
  generalize Md x = dx at h1 cP ⊢
  generalize Md r = dr at h2 cP ⊢
  generalize Md 2 = d2 at cS cL
  generalize Md pF = dp at cL cQ
  generalize Md e = de at cL cP
  replace cS := Kept.mk cS
  replace cL := Kept.mk cL
  replace cP := Kept.mk cP
  replace cQ := Kept.mk cQ
  clear hx
  unfold arrV
  go_enter Try.func42, Try.ntmps42
  go_wp2_with (first
    | (refine a_box rfl _ rfl _ rfl (by assumption) (by first | assumption | exact limbs_len _ _ _ | exact z16_len) ?_; intro g w H; try simp only [Act.put, List.setIfInBounds_toArray, List.set_cons_succ, List.set_cons_zero])
    | (refine a_alloc rfl rfl (by assumption) ?_; intro g w H; try simp only [Act.put, List.setIfInBounds_toArray, List.set_cons_succ, List.set_cons_zero])
    | (refine a_build rfl rfl ?_; try simp only [Act.put, List.setIfInBounds_toArray, List.set_cons_succ, List.set_cons_zero])
    | (refine a_load rfl _ rfl _ _ rfl (by assumption) (by (first | exact .head _ | exact .tail _ (.head _) | exact .tail _ (.tail _ (.head _)) | exact .tail _ (.tail _ (.tail _ (.head _))) | exact .tail _ (.tail _ (.tail _ (.tail _ (.head _)))))) ?_; try simp only [Act.put, List.setIfInBounds_toArray, List.set_cons_succ, List.set_cons_zero])
    | (refine a_store0 rfl _ _ rfl _ _ _ rfl rfl _ (by assumption) (by first | assumption | exact limbs_len _ _ _ | exact z16_len) ?_; intro w H; try simp only [Act.put, List.setIfInBounds_toArray, List.set_cons_succ, List.set_cons_zero])
    | (refine a_store1 rfl _ _ rfl _ _ _ rfl rfl _ _ (by assumption) (by first | assumption | exact limbs_len _ _ _ | exact z16_len) ?_; intro w H; try simp only [Act.put, List.setIfInBounds_toArray, List.set_cons_succ, List.set_cons_zero])
    | (refine a_store2 rfl _ _ rfl _ _ _ rfl rfl _ _ _ (by assumption) (by first | assumption | exact limbs_len _ _ _ | exact z16_len) ?_; intro w H; try simp only [Act.put, List.setIfInBounds_toArray, List.set_cons_succ, List.set_cons_zero]))
  refine wp_region_from_tail 5 (by kernel_rfl) (by kernel_rfl) ?_
  simp only [List.take_succ_cons, List.take_zero, List.drop_succ_cons, List.drop_zero]
  repeat (first
    | (go_big_quiet_want; (refine a_quiet_load _ rfl _ _ rfl (by assumption) (by (first | exact .head _ | exact .tail _ (.head _) | exact .tail _ (.tail _ (.head _)) | exact .tail _ (.tail _ (.tail _ (.head _))) | exact .tail _ (.tail _ (.tail _ (.tail _ (.head _)))))) ?_); try simp only [Act.put, List.setIfInBounds_toArray, List.set_cons_succ, List.set_cons_zero]; go_big_quiet_on)
    | go_big_quiet_step (((first | (go_at_call 60; exact held_call _ (cQ.out _)) | (go_at_call 39; exact held_call _ (cS.out _)) | (go_at_call 59; exact held_call _ (cL.out _)) | (go_at_call 62; exact held_call _ (cP.out _))))))
  refine wpQuiet_nil ?_
  intro w5 hw5
  have H := H.from hw5
  clear hw5
  go_wp2_with (first
    | (refine a_box rfl _ rfl _ rfl (by assumption) (by first | assumption | exact limbs_len _ _ _ | exact z16_len) ?_; intro g w H; try simp only [Act.put, List.setIfInBounds_toArray, List.set_cons_succ, List.set_cons_zero])
    | (refine a_alloc rfl rfl (by assumption) ?_; intro g w H; try simp only [Act.put, List.setIfInBounds_toArray, List.set_cons_succ, List.set_cons_zero])
    | (refine a_build rfl rfl ?_; try simp only [Act.put, List.setIfInBounds_toArray, List.set_cons_succ, List.set_cons_zero])
    | (refine a_load rfl _ rfl _ _ rfl (by assumption) (by (first | exact .head _ | exact .tail _ (.head _) | exact .tail _ (.tail _ (.head _)) | exact .tail _ (.tail _ (.tail _ (.head _))) | exact .tail _ (.tail _ (.tail _ (.tail _ (.head _)))))) ?_; try simp only [Act.put, List.setIfInBounds_toArray, List.set_cons_succ, List.set_cons_zero])
    | (refine a_store0 rfl _ _ rfl _ _ _ rfl rfl _ (by assumption) (by first | assumption | exact limbs_len _ _ _ | exact z16_len) ?_; intro w H; try simp only [Act.put, List.setIfInBounds_toArray, List.set_cons_succ, List.set_cons_zero])
    | (refine a_store1 rfl _ _ rfl _ _ _ rfl rfl _ _ (by assumption) (by first | assumption | exact limbs_len _ _ _ | exact z16_len) ?_; intro w H; try simp only [Act.put, List.setIfInBounds_toArray, List.set_cons_succ, List.set_cons_zero])
    | (refine a_store2 rfl _ _ rfl _ _ _ rfl rfl _ _ _ (by assumption) (by first | assumption | exact limbs_len _ _ _ | exact z16_len) ?_; intro w H; try simp only [Act.put, List.setIfInBounds_toArray, List.set_cons_succ, List.set_cons_zero]))
  exact a_ret Try.results42 _ rfl rfl (by assumption) (by (first | exact .head _ | exact .tail _ (.head _) | exact .tail _ (.tail _ (.head _)) | exact .tail _ (.tail _ (.tail _ (.head _))) | exact .tail _ (.tail _ (.tail _ (.tail _ (.head _)))))) (rfl)
def halfL : List Nat → List Nat
  | x :: y :: r => (x / 2 + y % 2 * 32768) :: halfL (y :: r)
  | [x] => [x / 2]
  | [] => []
theorem halfL_len : ∀ l, (halfL l).length = l.length
  | x :: y :: r => by simp [halfL, halfL_len (y :: r)]
  | [_] => rfl
  | [] => rfl
theorem halfL_lt : ∀ l, (∀ x ∈ l, x < 65536) → ∀ z ∈ halfL l, z < 65536
  | x :: y :: r, h, z, hz => by
    rw [halfL, List.mem_cons] at hz
    have := h x (by simp)
    rcases hz with rfl | hz
    · omega
    · exact halfL_lt (y :: r) (fun q hq => h q (by simp at hq ⊢; right; exact hq)) z hz
  | [x], h, z, hz => by
    have := h x (by simp)
    simp [halfL] at hz
    omega
  | [], _, z, hz => by simp [halfL] at hz
theorem halfL_val : ∀ l, valB 65536 (halfL l) = valB 65536 l / 2
  | x :: y :: r => by
    have ih := halfL_val (y :: r)
    have hp : valB 65536 (y :: r) % 2 = y % 2 := by rw [valB]; omega
    show x / 2 + y % 2 * 32768 + 65536 * valB 65536 (halfL (y :: r)) = (x + 65536 * valB 65536 (y :: r)) / 2
    rw [ih]
    generalize valB 65536 (y :: r) = V at hp ⊢
    omega
  | [x] => by simp [halfL, valB]
  | [] => rfl
theorem half_Md (e : Nat) (h : e < big) : halfL (Md e) = Md (e / 2) := Md_of _ _ (by rw [halfL_len, Md_len]) (halfL_lt _ (Md_lt e)) (by rw [halfL_val, Md_val e h])
set_option maxHeartbeats 4000000 in
theorem half_any (e m : Nat) (he : e < big) (hm : m < 100) (wS : World) : Calls Try.prog 71 #[arrV (Md e), .int .i64 (m : Int)] wS (AP (Md (e / 2 ^ m)) wS) := by
  have H := AMem.start wS
  have hel := Md_len e
  unfold arrV
  go_enter Try.func71, Try.ntmps71
  go_wp2_with (first
    | (refine a_box rfl _ rfl _ rfl (by assumption) (by first | assumption | exact limbs_len _ _ _ | exact z16_len) ?_; intro g w H; try simp only [Act.put, List.setIfInBounds_toArray, List.set_cons_succ, List.set_cons_zero])
    | (refine a_alloc rfl rfl (by assumption) ?_; intro g w H; try simp only [Act.put, List.setIfInBounds_toArray, List.set_cons_succ, List.set_cons_zero])
    | (refine a_build rfl rfl ?_; try simp only [Act.put, List.setIfInBounds_toArray, List.set_cons_succ, List.set_cons_zero])
    | (refine a_load rfl _ rfl _ _ rfl (by assumption) (by (first | exact .head _ | exact .tail _ (.head _) | exact .tail _ (.tail _ (.head _)) | exact .tail _ (.tail _ (.tail _ (.head _))) | exact .tail _ (.tail _ (.tail _ (.tail _ (.head _)))))) ?_; try simp only [Act.put, List.setIfInBounds_toArray, List.set_cons_succ, List.set_cons_zero])
    | (refine a_store0 rfl _ _ rfl _ _ _ rfl rfl _ (by assumption) (by first | assumption | exact limbs_len _ _ _ | exact z16_len) ?_; intro w H; try simp only [Act.put, List.setIfInBounds_toArray, List.set_cons_succ, List.set_cons_zero])
    | (refine a_store1 rfl _ _ rfl _ _ _ rfl rfl _ _ (by assumption) (by first | assumption | exact limbs_len _ _ _ | exact z16_len) ?_; intro w H; try simp only [Act.put, List.setIfInBounds_toArray, List.set_cons_succ, List.set_cons_zero])
    | (refine a_store2 rfl _ _ rfl _ _ _ rfl rfl _ _ _ (by assumption) (by first | assumption | exact limbs_len _ _ _ | exact z16_len) ?_; intro w H; try simp only [Act.put, List.setIfInBounds_toArray, List.set_cons_succ, List.set_cons_zero]))
  rename_i ga _ _ gr _ _ _ _ K _
  rename Nat => gx
  go_loopw [6] (fun v6 wr => ∃ (i : Nat), i ≤ m ∧ v6 = .int .i64 (i : Int) ∧ AMem wS wr [(gx, Md (e / 2 ^ i)), (gr, z16), (ga, Md (e / 2 ^ i))]) (fun v6 _ => m - (RowKit.intOf v6).toNat)
  case atStart => exact ⟨0, by omega, rfl, by rw [Nat.pow_zero, Nat.div_one]; exact H⟩
  case round =>
    clear H
    obtain ⟨i, hi, rfl, H⟩ := hrel
    by_cases hlt : i < m
    · have hlti : (i : Int) < (m : Int) := by omega
      obtain ⟨a, ha⟩ : ∃ a, Md (e / 2 ^ i) = a := ⟨_, rfl⟩
      have hnx : halfL a = Md (e / 2 ^ (i + 1)) := by
        rw [← ha, half_Md _ (Nat.lt_of_le_of_lt (Nat.div_le_self _ _) he), Nat.div_div_eq_div_mul, ← Nat.pow_succ]
      have hal : a.length = 16 := by rw [← ha, Md_len]
      have haW : ∀ x ∈ a, x < 65536 := ha ▸ Md_lt _
      rw [ha] at H
      have hll := Kept.mk hal
      replace ha := Kept.mk ha
      replace hnx := Kept.mk hnx
      replace haW := Kept.mk haW
      clear hal
      go_wp2
      obtain ⟨wo, rfl⟩ : ∃ wo : World, wo = wr := ⟨_, rfl⟩
      go_loopw [7] (fun v7 wr => ∃ (k : Nat) (d : List Nat), k ≤ 16 ∧ v7 = .int .i64 (k : Int) ∧ Kept (d.length = k) ∧ AMem wS wr [(gx, d ++ a.drop k), (gr, z16), (ga, a)] ∧ Kept (d ++ halfL (a.drop k) = halfL a)) (fun v7 _ => 16 - (RowKit.intOf v7).toNat)
      case atStart => exact ⟨0, [], by omega, rfl, ⟨rfl⟩, H, ⟨rfl⟩⟩
      case round =>
        clear H
        obtain ⟨k, d, hk, rfl, HD, H, HE⟩ := hrel
        by_cases hkt : k < 16
        · obtain ⟨p, hp⟩ : ∃ p, a.getD k 0 = p := ⟨_, rfl⟩
          have hda := drop_getD a k (by rw [hll.out]; omega)
          rw [hp] at hda
          have hpl : p < 65536 := hp ▸ getD_ltN haW.out k (by rw [hll.out]; omega)
          have c1 := H.cell (.head _) k hkt
          rw [step_get HD.out hda] at c1
          have f1 := H.frozen (.head _) k
          have hltk : (k : Int) < 16 := by omega
          have H1 := H.cell0 k (p / 2) ((p : Int) / 2) (by omega)
          by_cases h15 : k < 15
          · obtain ⟨q, hq⟩ : ∃ q, a.getD (k + 1) 0 = q := ⟨_, rfl⟩
            have hdb := drop_getD a (k + 1) (by rw [hll.out]; omega)
            rw [hq] at hdb
            have hql : q < 65536 := hq ▸ getD_ltN haW.out (k + 1) (by rw [hll.out]; omega)
            have h15I : (k : Int) < 15 := by omega
            have hgx : ((d ++ a.drop k).set k (p / 2)).getD k 0 = p / 2 := by
              rw [step_set HD.out hda, ← HD.out]; simp
            have c2 := H1.hcell (.head _) k (p / 2) hkt hgx
            have c3 := H1.hcell (.tail _ (.tail _ (.head _))) (k + 1) q (by omega) hq
            have kk : IntKind.i64.wrap ((k : Int) + 1) = (k : Int) + 1 := by simp [IntKind.wrap, IntKind.signed, IntKind.bits]; omega
            have kk2 : ((k : Int) + 1).toNat = k + 1 := by omega
            have km : IntKind.i64.wrap ((q : Int) % 2 * 32768) = (q : Int) % 2 * 32768 := by simp [IntKind.wrap, IntKind.signed, IntKind.bits]; omega
            rw [show ((p / 2 : Nat) : Int) = (p : Int) / 2 by omega] at c2
            have hE : d ++ [p / 2 + q % 2 * 32768] ++ halfL (a.drop (k + 1)) = halfL a := by
              have h := HE.out
              rw [hda, hdb, halfL, ← hdb] at h
              rw [List.append_assoc]; exact h
            replace hE := Kept.mk hE
            replace hp := Kept.mk hp
            replace hq := Kept.mk hq
            replace hda := Kept.mk hda
            replace hdb := Kept.mk hdb
            replace hgx := Kept.mk hgx
            have H := H1
            go_wp2
            refine wp_region_from_tail 11 (by kernel_rfl) (by kernel_rfl) ?_
            simp only [List.take_succ_cons, List.take_zero, List.drop_succ_cons, List.drop_zero]
            repeat (first
              | (go_big_quiet_want; (refine a_quiet_load _ rfl _ _ rfl (by assumption) (by (first | exact .head _ | exact .tail _ (.head _) | exact .tail _ (.tail _ (.head _)) | exact .tail _ (.tail _ (.tail _ (.head _))) | exact .tail _ (.tail _ (.tail _ (.tail _ (.head _)))))) ?_); try simp only [Act.put, List.setIfInBounds_toArray, List.set_cons_succ, List.set_cons_zero]; go_big_quiet_on)
              | go_big_quiet_step ((fail)))
            refine wpQuiet_nil ?_
            intro w5 hw5
            have H := H.from hw5
            clear hw5
            clear c2 c3
            have c4 := H.cell (.head _) k hkt
            rw [hgx.out] at c4
            have f4 := H.frozen (.head _) k
            have Hn := H.cell0 k (p / 2 + q % 2 * 32768) ((p : Int) / 2 + (q : Int) % 2 * 32768) (by omega)
            rw [List.set_set, step_set HD.out hda.out] at Hn
            go_wp2
            go_roundw
            case rel => exact ⟨k + 1, d ++ [p / 2 + q % 2 * 32768], by omega, val_eq (by omega), ⟨by rw [List.length_append, HD.out]; rfl⟩, Hn, hE⟩
            case measure => first | (simp [RowKit.intOf]; done) | (simp [RowKit.intOf]; omega)
          · obtain rfl : k = 15 := by omega
            have hE : d ++ [p / 2] ++ halfL (a.drop 16) = halfL a := by
              have h := HE.out
              rw [hda, List.drop_eq_nil_of_le (show a.length ≤ 15 + 1 by rw [hll.out]; omega), halfL] at h
              rw [List.drop_eq_nil_of_le (by rw [hll.out]; omega), halfL, List.append_nil]
              exact h
            rw [step_set HD.out hda] at H1
            replace hE := Kept.mk hE
            replace hp := Kept.mk hp
            replace hda := Kept.mk hda
            go_wp2
            go_roundw
            case rel => exact ⟨16, d ++ [p / 2], by omega, val_eq (by omega), ⟨by rw [List.length_append, HD.out]; rfl⟩, H1, hE⟩
            case measure => first | (simp [RowKit.intOf]; done) | (simp [RowKit.intOf]; omega)
        · obtain rfl : k = 16 := by omega
          have hfin : d ++ a.drop 16 = Md (e / 2 ^ (i + 1)) := by
            have h := HE.out
            rw [List.drop_eq_nil_of_le (show a.length ≤ 16 by rw [hll.out]; omega)] at h ⊢
            rw [halfL] at h
            rw [h, hnx.out]
          rw [hfin] at H
          have hfl := Md_len (e / 2 ^ (i + 1))
          clear hfin HE
          go_wp2_with (first
            | (refine a_box rfl _ rfl _ rfl (by assumption) (by first | assumption | exact limbs_len _ _ _ | exact z16_len) ?_; intro g w H; try simp only [Act.put, List.setIfInBounds_toArray, List.set_cons_succ, List.set_cons_zero])
            | (refine a_alloc rfl rfl (by assumption) ?_; intro g w H; try simp only [Act.put, List.setIfInBounds_toArray, List.set_cons_succ, List.set_cons_zero])
            | (refine a_build rfl rfl ?_; try simp only [Act.put, List.setIfInBounds_toArray, List.set_cons_succ, List.set_cons_zero])
            | (refine a_load rfl _ rfl _ _ rfl (by assumption) (by (first | exact .head _ | exact .tail _ (.head _) | exact .tail _ (.tail _ (.head _)) | exact .tail _ (.tail _ (.tail _ (.head _))) | exact .tail _ (.tail _ (.tail _ (.tail _ (.head _)))))) ?_; try simp only [Act.put, List.setIfInBounds_toArray, List.set_cons_succ, List.set_cons_zero])
            | (refine a_store0 rfl _ _ rfl _ _ _ rfl rfl _ (by assumption) (by first | assumption | exact limbs_len _ _ _ | exact z16_len) ?_; intro w H; try simp only [Act.put, List.setIfInBounds_toArray, List.set_cons_succ, List.set_cons_zero])
            | (refine a_store1 rfl _ _ rfl _ _ _ rfl rfl _ _ (by assumption) (by first | assumption | exact limbs_len _ _ _ | exact z16_len) ?_; intro w H; try simp only [Act.put, List.setIfInBounds_toArray, List.set_cons_succ, List.set_cons_zero])
            | (refine a_store2 rfl _ _ rfl _ _ _ rfl rfl _ _ _ (by assumption) (by first | assumption | exact limbs_len _ _ _ | exact z16_len) ?_; intro w H; try simp only [Act.put, List.setIfInBounds_toArray, List.set_cons_succ, List.set_cons_zero]))
          go_roundw
          case rel => exact ⟨i + 1, by omega, val_eq (by omega), H⟩
          case measure => first | (simp [RowKit.intOf]; done) | (simp [RowKit.intOf]; omega)
    · obtain rfl : i = m := by omega
      have hfl := Md_len (e / 2 ^ i)
      clear hi
      go_wp2_with (first
        | (refine a_box rfl _ rfl _ rfl (by assumption) (by first | assumption | exact limbs_len _ _ _ | exact z16_len) ?_; intro g w H; try simp only [Act.put, List.setIfInBounds_toArray, List.set_cons_succ, List.set_cons_zero])
        | (refine a_alloc rfl rfl (by assumption) ?_; intro g w H; try simp only [Act.put, List.setIfInBounds_toArray, List.set_cons_succ, List.set_cons_zero])
        | (refine a_build rfl rfl ?_; try simp only [Act.put, List.setIfInBounds_toArray, List.set_cons_succ, List.set_cons_zero])
        | (refine a_load rfl _ rfl _ _ rfl (by assumption) (by (first | exact .head _ | exact .tail _ (.head _) | exact .tail _ (.tail _ (.head _)) | exact .tail _ (.tail _ (.tail _ (.head _))) | exact .tail _ (.tail _ (.tail _ (.tail _ (.head _)))))) ?_; try simp only [Act.put, List.setIfInBounds_toArray, List.set_cons_succ, List.set_cons_zero])
        | (refine a_store0 rfl _ _ rfl _ _ _ rfl rfl _ (by assumption) (by first | assumption | exact limbs_len _ _ _ | exact z16_len) ?_; intro w H; try simp only [Act.put, List.setIfInBounds_toArray, List.set_cons_succ, List.set_cons_zero])
        | (refine a_store1 rfl _ _ rfl _ _ _ rfl rfl _ _ (by assumption) (by first | assumption | exact limbs_len _ _ _ | exact z16_len) ?_; intro w H; try simp only [Act.put, List.setIfInBounds_toArray, List.set_cons_succ, List.set_cons_zero])
        | (refine a_store2 rfl _ _ rfl _ _ _ rfl rfl _ _ _ (by assumption) (by first | assumption | exact limbs_len _ _ _ | exact z16_len) ?_; intro w H; try simp only [Act.put, List.setIfInBounds_toArray, List.set_cons_succ, List.set_cons_zero]))
      exact a_ret Try.results71 _ rfl rfl (by assumption) (by (first | exact .head _ | exact .tail _ (.head _) | exact .tail _ (.tail _ (.head _)) | exact .tail _ (.tail _ (.tail _ (.head _))) | exact .tail _ (.tail _ (.tail _ (.tail _ (.head _)))))) (rfl)
end Go.Proofs.Ytockcnglennihaa
end
section
set_option linter.unusedSimpArgs false
set_option linter.unusedVariables false
namespace Go.Proofs.Ytockcnglennihaa
open Go.RowKit
section
variable {ops : Array Oper} {rest : List Oper} {o : Oper} {a : Act} {w0 w w' : World} {Q : Exit → Act → World → Prop} {L : List (Nat × List Nat)} {g : Nat}
theorem AMem.extra (H : AMem w0 w L) (h : From w.drew w') (hF : Fresh w 46 (arrA z16) g w') : AMem w0 w' ((g, z16) :: L) := by
  have H2 := H.grow h.of_drew
  refine ⟨H2.below, fun g' y h => ?_, fun g' y h => ?_, fun g' y h => ?_, ?_⟩
  · rcases List.mem_cons.1 h with h | h
    · injection h with h1 h2; subst h1; subst h2; exact ⟨hF.1⟩
    · exact H2.holds g' y h
  · rcases List.mem_cons.1 h with h | h
    · injection h with h1 h2; subst h2; exact z16_len
    · exact H.len g' y h
  · rcases List.mem_cons.1 h with h | h
    · injection h with h1 h2; subst h1; exact Nat.le_trans H.below.size hF.2
    · exact H.ours g' y h
  · rw [List.map_cons, List.nodup_cons]
    refine ⟨fun h => ?_, H.apart⟩
    obtain ⟨⟨g', y⟩, hm, he⟩ := List.mem_map.1 h
    have h3 := (H.holds g' y hm).lt
    have h4 := hF.2
    simp only at he
    omega
theorem a_quiet_load_u {K : Act → Prop} (x : Operand) (ho : o.op = .load 46 x) (g : Nat) (y : List Nat) (hx : a.eval x = .pointer (some ⟨g, 0, none⟩)) (H : AMem w0 w L) (hm : (g, y) ∈ L)
    (h : K (a.put o.dst (.agg (arrA y)))) : o.quiet Try.prog a (fun w' => ∃ u : Held (From w), w' = u.w) K :=
  quiet_load_row 46 x ho g hx 46 (arrA y) _ (fun _ ⟨u, e⟩ => ⟨(0, 0), e ▸ ((H.grow u.h.below).holds g y hm).blk⟩) Try.underlying46 rfl (arrA_info y (H.len g y hm)) h
theorem a_store4 (hg : o.guard = none) (x v : Operand) (ho : o.op = .store 46 x v) (g : Nat) (old y : List Nat) (hx : a.eval x = .pointer (some ⟨g, 0, none⟩)) (hv : a.eval v = .agg (arrA y)) (p q r s : Nat × List Nat) (B : List (Nat × List Nat)) (H : AMem w0 w (p :: q :: r :: s :: (g, old) :: B)) (hy : y.length = 16)
    (h : ∀ w', AMem w0 w' (p :: q :: r :: s :: (g, y) :: B) → wpList Try.prog ops Q rest (a.put o.dst undef) w') : wpList Try.prog ops Q (o :: rest) a w := a_store hg x v ho g old y hx hv [p, q, r, s] B H hy h
theorem a_ret2 {R : Ending → World → Prop} {fn : Func} {p q : Tmp} {x y : List Nat} {v v' : Value} {g : Nat} (hr : fn.results = #[.cell p 46, .tmp q]) (a : Act) (hp : a.tmps.getD p undef = .pointer (some ⟨g, 0, none⟩)) (hq : a.tmps.getD q undef = v) (hd : a.defers = []) (H : AMem w0 w L) (hm : (g, x) ∈ L) (hx : x = y) (hv : v = v')
    (h : R (.returned (.tuple #[.agg (arrA y), v'])) w) : bodyPost Try.prog fn R .ret a w := by
  subst hx
  subst hv
  have hp' : a.tmps[p]?.getD undef = .pointer (some ⟨g, 0, none⟩) := by simpa using hp
  have hq' : a.tmps[q]?.getD undef = v := by simpa using hq
  have hl := run_loadVar_row (P := Try.prog) w g 46 46 (arrA x) (0, 0) _ (H.holds g x hm).blk Try.underlying46 rfl (arrA_info x (H.len g x hm))
  refine bodyPost_ret (v := .tuple #[.agg (arrA x), v]) ?_ hd h
  simp [results, hr, hp', hq', asAddr, hl]
end
def RootsPost (l : List Nat) (b : Bool) (w : World) (e : Ending) (w' : World) : Prop := e = .returned (.tuple #[arrV l, .bool b]) ∧ Below w.heap.size w w'
set_option maxHeartbeats 8000000 in
theorem roots_core (a p l5 h3 pw l1 h2 one : List Nat) (rr uu ev : Nat → List Nat) (sm : Int → List Nat) (bs : List Nat → ByteArray) (fl : List Nat) (fb : Bool)
    (na : a.length = 16) (np : p.length = 16) (nl5 : l5.length = 16) (nh3 : h3.length = 16) (npw : pw.length = 16) (nl1 : l1.length = 16) (nh2 : h2.length = 16) (none : one.length = 16) (nr : ∀ k, (rr k).length = 16) (nv : ∀ k, (ev k).length = 16)
    (cP : ∀ w, Calls Try.prog 60 #[] w fun e w' => e = .returned (arrV p) ∧ Below w.heap.size w w')
    (cS : ∀ (z : Int) w, (z = 1 ∨ z = 2 ∨ z = 5) → Calls Try.prog 39 #[.int .i64 z] w fun e w' => e = .returned (arrV (sm z)) ∧ Below w.heap.size w w')
    (cL5 : ∀ w, Calls Try.prog 59 #[arrV p, arrV (sm 5)] w fun e w' => e = .returned (arrV l5) ∧ Below w.heap.size w w')
    (cL1 : ∀ w, Calls Try.prog 59 #[arrV p, arrV (sm 1)] w fun e w' => e = .returned (arrV l1) ∧ Below w.heap.size w w')
    (cH3 : ∀ w, Calls Try.prog 71 #[arrV l5, .int .i64 3] w fun e w' => e = .returned (arrV h3) ∧ Below w.heap.size w w')
    (cH2 : ∀ w, Calls Try.prog 71 #[arrV l1, .int .i64 2] w fun e w' => e = .returned (arrV h2) ∧ Below w.heap.size w w')
    (cW : ∀ w, Calls Try.prog 62 #[arrV a, arrV h3] w fun e w' => e = .returned (arrV pw) ∧ Below w.heap.size w w')
    (cO : ∀ w, Calls Try.prog 62 #[arrV (sm 2), arrV h2] w fun e w' => e = .returned (arrV one) ∧ Below w.heap.size w w')
    (cR : ∀ w, Calls Try.prog 41 #[arrV a, arrV pw] w fun e w' => e = .returned (arrV (rr 0)) ∧ Below w.heap.size w w')
    (cN : ∀ k w, Calls Try.prog 41 #[arrV (rr k), arrV one] w fun e w' => e = .returned (arrV (rr (k + 1))) ∧ Below w.heap.size w w')
    (cQ : ∀ k w, Calls Try.prog 41 #[arrV (rr k), arrV (rr k)] w fun e w' => e = .returned (arrV (uu k)) ∧ Below w.heap.size w w')
    (cB : ∀ l w, (l = a ∨ ∃ k, l = uu k) → Calls Try.prog 40 #[arrV l] w fun e w' => e = .returned (.string (bs l)) ∧ Below w.heap.size w w')
    (cV : ∀ k w, Calls Try.prog 59 #[arrV p, arrV (rr k)] w fun e w' => e = .returned (arrV (ev k)) ∧ Below w.heap.size w w')
    (K1 : ∀ k, k < 2 → (∀ j, j < k → (bs (uu j)).toList ≠ (bs a).toList) → (bs (uu k)).toList = (bs a).toList → (if (rr k).getD 0 0 % 2 = 1 then ev k else rr k) = fl ∧ true = fb)
    (K2 : (∀ j, j < 2 → (bs (uu j)).toList ≠ (bs a).toList) → z16 = fl ∧ false = fb) (wS : World) : Calls Try.prog 56 #[arrV a] wS (RootsPost fl fb wS) := by
  have H := AMem.start wS
  replace cP := Kept.mk cP
  replace cS := Kept.mk cS
  replace cL5 := Kept.mk cL5
  replace cL1 := Kept.mk cL1
  replace cH3 := Kept.mk cH3
  replace cH2 := Kept.mk cH2
  replace cW := Kept.mk cW
  replace cO := Kept.mk cO
  replace cR := Kept.mk cR
  replace cN := Kept.mk cN
  replace cQ := Kept.mk cQ
  replace cB := Kept.mk cB
  replace cV := Kept.mk cV
  replace K1 := Kept.mk K1
  replace K2 := Kept.mk K2

  have nr0 := nr 0
  replace nr := Kept.mk nr
  replace nv := Kept.mk nv
  obtain ⟨r0, hr0⟩ : ∃ r, rr 0 = r := ⟨_, rfl⟩
  rw [hr0] at cR nr0
  replace hr0 := Kept.mk hr0
  unfold arrV at *
  go_enter Try.func56, Try.ntmps56
  go_wp2_with (first
    | (refine a_box rfl _ rfl _ rfl (by assumption) (by first | with_reducible assumption | exact z16_len) ?_; intro g w H; try simp only [Act.put, List.setIfInBounds_toArray, List.set_cons_succ, List.set_cons_zero])
    | (refine a_alloc rfl rfl (by assumption) ?_; intro g w H; try simp only [Act.put, List.setIfInBounds_toArray, List.set_cons_succ, List.set_cons_zero])
    | (refine a_build rfl rfl ?_; try simp only [Act.put, List.setIfInBounds_toArray, List.set_cons_succ, List.set_cons_zero])
    | (refine a_load rfl _ rfl _ _ rfl (by assumption) (by (first | exact .head _ | exact .tail _ (.head _) | exact .tail _ (.tail _ (.head _)) | exact .tail _ (.tail _ (.tail _ (.head _))) | exact .tail _ (.tail _ (.tail _ (.tail _ (.head _)))) | exact .tail _ (.tail _ (.tail _ (.tail _ (.tail _ (.head _))))))) ?_; try simp only [Act.put, List.setIfInBounds_toArray, List.set_cons_succ, List.set_cons_zero])
    | (refine a_store0 rfl _ _ rfl _ _ _ rfl rfl _ (by assumption) (by first | with_reducible assumption | exact z16_len) ?_; intro w H; try simp only [Act.put, List.setIfInBounds_toArray, List.set_cons_succ, List.set_cons_zero])
    | (refine a_store1 rfl _ _ rfl _ _ _ rfl rfl _ _ (by assumption) (by first | with_reducible assumption | exact z16_len) ?_; intro w H; try simp only [Act.put, List.setIfInBounds_toArray, List.set_cons_succ, List.set_cons_zero])
    | (refine a_store4 rfl _ _ rfl _ _ _ rfl rfl _ _ _ _ _ (by assumption) (by first | with_reducible assumption | exact z16_len) ?_; intro w H; try simp only [Act.put, List.setIfInBounds_toArray, List.set_cons_succ, List.set_cons_zero])
    | (go_at_call 60; with_reducible refine a_call (by assumption) (cP.out _) ?_; intro w H))
  refine wp_region_from_alloc 5 4 _ 46 (arrA z16) rfl rfl rfl zero_arr (by kernel_rfl) (by kernel_rfl) ?_
  apply Exists.intro
  refine And.intro ?_ (And.intro ?_ ?_)
  · intro u hu x
    have H := H.from hu
    simp only [List.take_succ_cons, List.take_zero, List.eraseIdx_cons_succ, List.eraseIdx_cons_zero, Act.put, List.setIfInBounds_toArray, List.set_cons_succ, List.set_cons_zero]
    repeat (first
      | (go_big_quiet_want; (refine a_quiet_load_u _ rfl _ _ rfl (by assumption) (by (first | exact .head _ | exact .tail _ (.head _) | exact .tail _ (.tail _ (.head _)) | exact .tail _ (.tail _ (.tail _ (.head _))) | exact .tail _ (.tail _ (.tail _ (.tail _ (.head _)))) | exact .tail _ (.tail _ (.tail _ (.tail _ (.tail _ (.head _))))))) ?_); try simp only [Act.put, List.setIfInBounds_toArray, List.set_cons_succ, List.set_cons_zero]; go_big_quiet_on)
      | go_big_quiet_step (((first | (go_at_call 39; exact held_call _ (cS.out _ _ (by decide))) | (go_at_call 59; exact held_call _ (cL5.out _)) | (go_at_call 71; exact held_call _ (cH3.out _))))))
    exact wpQuiet_nil rfl
  · exact fun _ => rfl
  intro x w5 hw5 hF
  have H := H.extra hw5 hF
  simp only [List.drop_succ_cons, List.drop_zero]
  go_wp2_with (first
    | (refine a_box rfl _ rfl _ rfl (by assumption) (by first | with_reducible assumption | exact z16_len) ?_; intro g w H; try simp only [Act.put, List.setIfInBounds_toArray, List.set_cons_succ, List.set_cons_zero])
    | (refine a_alloc rfl rfl (by assumption) ?_; intro g w H; try simp only [Act.put, List.setIfInBounds_toArray, List.set_cons_succ, List.set_cons_zero])
    | (refine a_build rfl rfl ?_; try simp only [Act.put, List.setIfInBounds_toArray, List.set_cons_succ, List.set_cons_zero])
    | (refine a_load rfl _ rfl _ _ rfl (by assumption) (by (first | exact .head _ | exact .tail _ (.head _) | exact .tail _ (.tail _ (.head _)) | exact .tail _ (.tail _ (.tail _ (.head _))) | exact .tail _ (.tail _ (.tail _ (.tail _ (.head _)))) | exact .tail _ (.tail _ (.tail _ (.tail _ (.tail _ (.head _))))))) ?_; try simp only [Act.put, List.setIfInBounds_toArray, List.set_cons_succ, List.set_cons_zero])
    | (refine a_store0 rfl _ _ rfl _ _ _ rfl rfl _ (by assumption) (by first | with_reducible assumption | exact z16_len) ?_; intro w H; try simp only [Act.put, List.setIfInBounds_toArray, List.set_cons_succ, List.set_cons_zero])
    | (refine a_store1 rfl _ _ rfl _ _ _ rfl rfl _ _ (by assumption) (by first | with_reducible assumption | exact z16_len) ?_; intro w H; try simp only [Act.put, List.setIfInBounds_toArray, List.set_cons_succ, List.set_cons_zero])
    | (refine a_store4 rfl _ _ rfl _ _ _ rfl rfl _ _ _ _ _ (by assumption) (by first | with_reducible assumption | exact z16_len) ?_; intro w H; try simp only [Act.put, List.setIfInBounds_toArray, List.set_cons_succ, List.set_cons_zero]))
  refine wp_region_from_alloc 6 5 _ 46 (arrA z16) rfl rfl rfl zero_arr (by kernel_rfl) (by kernel_rfl) ?_
  apply Exists.intro
  refine And.intro ?_ (And.intro ?_ ?_)
  · intro u hu x
    have H := H.from hu
    simp only [List.take_succ_cons, List.take_zero, List.eraseIdx_cons_succ, List.eraseIdx_cons_zero, Act.put, List.setIfInBounds_toArray, List.set_cons_succ, List.set_cons_zero]
    repeat (first
      | (go_big_quiet_want; (refine a_quiet_load_u _ rfl _ _ rfl (by assumption) (by (first | exact .head _ | exact .tail _ (.head _) | exact .tail _ (.tail _ (.head _)) | exact .tail _ (.tail _ (.tail _ (.head _))) | exact .tail _ (.tail _ (.tail _ (.tail _ (.head _)))) | exact .tail _ (.tail _ (.tail _ (.tail _ (.tail _ (.head _))))))) ?_); try simp only [Act.put, List.setIfInBounds_toArray, List.set_cons_succ, List.set_cons_zero]; go_big_quiet_on)
      | go_big_quiet_step (((first | (go_at_call 62; exact held_call _ (cW.out _)) | (go_at_call 41; exact held_call _ (cR.out _))))))
    exact wpQuiet_nil rfl
  · exact fun _ => rfl
  intro x w5 hw5 hF
  have H := H.extra hw5 hF
  simp only [List.drop_succ_cons, List.drop_zero]
  go_wp2_with (first
    | (refine a_box rfl _ rfl _ rfl (by assumption) (by first | with_reducible assumption | exact z16_len) ?_; intro g w H; try simp only [Act.put, List.setIfInBounds_toArray, List.set_cons_succ, List.set_cons_zero])
    | (refine a_alloc rfl rfl (by assumption) ?_; intro g w H; try simp only [Act.put, List.setIfInBounds_toArray, List.set_cons_succ, List.set_cons_zero])
    | (refine a_build rfl rfl ?_; try simp only [Act.put, List.setIfInBounds_toArray, List.set_cons_succ, List.set_cons_zero])
    | (refine a_load rfl _ rfl _ _ rfl (by assumption) (by (first | exact .head _ | exact .tail _ (.head _) | exact .tail _ (.tail _ (.head _)) | exact .tail _ (.tail _ (.tail _ (.head _))) | exact .tail _ (.tail _ (.tail _ (.tail _ (.head _)))) | exact .tail _ (.tail _ (.tail _ (.tail _ (.tail _ (.head _))))))) ?_; try simp only [Act.put, List.setIfInBounds_toArray, List.set_cons_succ, List.set_cons_zero])
    | (refine a_store0 rfl _ _ rfl _ _ _ rfl rfl _ (by assumption) (by first | with_reducible assumption | exact z16_len) ?_; intro w H; try simp only [Act.put, List.setIfInBounds_toArray, List.set_cons_succ, List.set_cons_zero])
    | (refine a_store1 rfl _ _ rfl _ _ _ rfl rfl _ _ (by assumption) (by first | with_reducible assumption | exact z16_len) ?_; intro w H; try simp only [Act.put, List.setIfInBounds_toArray, List.set_cons_succ, List.set_cons_zero])
    | (refine a_store4 rfl _ _ rfl _ _ _ rfl rfl _ _ _ _ _ (by assumption) (by first | with_reducible assumption | exact z16_len) ?_; intro w H; try simp only [Act.put, List.setIfInBounds_toArray, List.set_cons_succ, List.set_cons_zero]))
  refine wp_region_from_alloc 7 6 _ 46 (arrA z16) rfl rfl rfl zero_arr (by kernel_rfl) (by kernel_rfl) ?_
  apply Exists.intro
  refine And.intro ?_ (And.intro ?_ ?_)
  · intro u hu x
    have H := H.from hu
    simp only [List.take_succ_cons, List.take_zero, List.eraseIdx_cons_succ, List.eraseIdx_cons_zero, Act.put, List.setIfInBounds_toArray, List.set_cons_succ, List.set_cons_zero]
    repeat (first
      | (go_big_quiet_want; (refine a_quiet_load_u _ rfl _ _ rfl (by assumption) (by (first | exact .head _ | exact .tail _ (.head _) | exact .tail _ (.tail _ (.head _)) | exact .tail _ (.tail _ (.tail _ (.head _))) | exact .tail _ (.tail _ (.tail _ (.tail _ (.head _)))) | exact .tail _ (.tail _ (.tail _ (.tail _ (.tail _ (.head _))))))) ?_); try simp only [Act.put, List.setIfInBounds_toArray, List.set_cons_succ, List.set_cons_zero]; go_big_quiet_on)
      | go_big_quiet_step (((first | (go_at_call 39; exact held_call _ (cS.out _ _ (by decide))) | (go_at_call 59; exact held_call _ (cL1.out _)) | (go_at_call 71; exact held_call _ (cH2.out _)) | (go_at_call 62; exact held_call _ (cO.out _))))))
    exact wpQuiet_nil rfl
  · exact fun _ => rfl
  intro x w5 hw5 hF
  have H := H.extra hw5 hF
  simp only [List.drop_succ_cons, List.drop_zero]
  go_wp2_with (first
    | (refine a_box rfl _ rfl _ rfl (by assumption) (by first | with_reducible assumption | exact z16_len) ?_; intro g w H; try simp only [Act.put, List.setIfInBounds_toArray, List.set_cons_succ, List.set_cons_zero])
    | (refine a_alloc rfl rfl (by assumption) ?_; intro g w H; try simp only [Act.put, List.setIfInBounds_toArray, List.set_cons_succ, List.set_cons_zero])
    | (refine a_build rfl rfl ?_; try simp only [Act.put, List.setIfInBounds_toArray, List.set_cons_succ, List.set_cons_zero])
    | (refine a_load rfl _ rfl _ _ rfl (by assumption) (by (first | exact .head _ | exact .tail _ (.head _) | exact .tail _ (.tail _ (.head _)) | exact .tail _ (.tail _ (.tail _ (.head _))) | exact .tail _ (.tail _ (.tail _ (.tail _ (.head _)))) | exact .tail _ (.tail _ (.tail _ (.tail _ (.tail _ (.head _))))))) ?_; try simp only [Act.put, List.setIfInBounds_toArray, List.set_cons_succ, List.set_cons_zero])
    | (refine a_store0 rfl _ _ rfl _ _ _ rfl rfl _ (by assumption) (by first | with_reducible assumption | exact z16_len) ?_; intro w H; try simp only [Act.put, List.setIfInBounds_toArray, List.set_cons_succ, List.set_cons_zero])
    | (refine a_store1 rfl _ _ rfl _ _ _ rfl rfl _ _ (by assumption) (by first | with_reducible assumption | exact z16_len) ?_; intro w H; try simp only [Act.put, List.setIfInBounds_toArray, List.set_cons_succ, List.set_cons_zero])
    | (refine a_store4 rfl _ _ rfl _ _ _ rfl rfl _ _ _ _ _ (by assumption) (by first | with_reducible assumption | exact z16_len) ?_; intro w H; try simp only [Act.put, List.setIfInBounds_toArray, List.set_cons_succ, List.set_cons_zero]))
  rename_i g1 _ _ g2 _ _ _ _ _ _ _ _ ge _ _ _ _ _ _ gr _ _ _ _ _ _ _ K _
  rw [← hr0.out] at H
  go_loopw [8] (fun v8 wr => ∃ k : Nat, k ≤ 2 ∧ v8 = .int .i64 (k : Int) ∧ AMem wS wr [(x, one), (gr, rr k), (ge, h3), (g, p), (g2, z16), (g1, a)] ∧ Kept (∀ j, j < k → (bs (uu j)).toList ≠ (bs a).toList)) (fun v8 _ => 2 - (RowKit.intOf v8).toNat)
  case atStart => exact ⟨0, by omega, rfl, H, ⟨fun j h => absurd h (Nat.not_lt_zero j)⟩⟩
  case round =>
    clear H
    obtain ⟨k, hk, rfl, H, HN⟩ := hrel
    by_cases hk2 : k < 2
    · have hk2I : (k : Int) < 2 := by omega
      have k1 := K1.out k hk2 HN.out
      have cq := fun w => cQ.out k w
      have cb : ∀ l w, (l = a ∨ l = uu k) → Calls Try.prog 40 #[.agg (arrA l)] w fun e w' => e = .returned (.string (bs l)) ∧ Below w.heap.size w w' := fun l w h => cB.out l w (h.imp id fun h => ⟨k, h⟩)
      have cn := fun w => cN.out k w
      have cv := fun w => cV.out k w
      have nk := nr.out k
      have nk1 := nr.out (k + 1)
      have nvk := nv.out k
      have hN2 : ∀ h : (bs (uu k)).toList ≠ (bs a).toList, ∀ j, j < k + 1 → (bs (uu j)).toList ≠ (bs a).toList := fun h j hj => by
        by_cases e : j = k
        · subst e; exact h
        · exact HN.out j (by omega)
      obtain ⟨r', hr'⟩ : ∃ r, rr (k + 1) = r := ⟨_, rfl⟩
      rw [hr'] at cn nk1
      replace hr' := Kept.mk hr'
      generalize rr k = r at H k1 cq cn cv nk
      generalize uu k = u at cq cb k1 hN2
      generalize ev k = d at cv k1 nvk
      replace cq := Kept.mk cq
      replace cb := Kept.mk cb
      replace cn := Kept.mk cn
      replace cv := Kept.mk cv
      by_cases hq : (bs u).toList = (bs a).toList
      · obtain ⟨kf, kb⟩ := k1 hq
        clear k1
        have hqb : ((bs u).toList == (bs a).toList) = true := by simp [hq]
        obtain ⟨l, hl⟩ : ∃ l, r.getD 0 0 = l := ⟨_, rfl⟩
        rw [hl] at kf
        by_cases ho : l % 2 = 1
        · rw [if_pos ho] at kf
          have hoI : (l : Int) % 2 = 1 := by omega
          replace kf := Kept.mk kf
          replace kb := Kept.mk kb
          replace hq := Kept.mk hq
          replace hN2 := Kept.mk hN2
          replace ho := Kept.mk ho
          clear hN2
          go_wp2_with (first
            | (refine a_box rfl _ rfl _ rfl (by assumption) (by first | with_reducible assumption | exact z16_len) ?_; intro g w H; try simp only [Act.put, List.setIfInBounds_toArray, List.set_cons_succ, List.set_cons_zero])
            | (refine a_alloc rfl rfl (by assumption) ?_; intro g w H; try simp only [Act.put, List.setIfInBounds_toArray, List.set_cons_succ, List.set_cons_zero])
            | (refine a_build rfl rfl ?_; try simp only [Act.put, List.setIfInBounds_toArray, List.set_cons_succ, List.set_cons_zero])
            | (refine a_load rfl _ rfl _ _ rfl (by assumption) (by (first | exact .head _ | exact .tail _ (.head _) | exact .tail _ (.tail _ (.head _)) | exact .tail _ (.tail _ (.tail _ (.head _))) | exact .tail _ (.tail _ (.tail _ (.tail _ (.head _)))) | exact .tail _ (.tail _ (.tail _ (.tail _ (.tail _ (.head _))))))) ?_; try simp only [Act.put, List.setIfInBounds_toArray, List.set_cons_succ, List.set_cons_zero])
            | (refine a_store0 rfl _ _ rfl _ _ _ rfl rfl _ (by assumption) (by first | with_reducible assumption | exact z16_len) ?_; intro w H; try simp only [Act.put, List.setIfInBounds_toArray, List.set_cons_succ, List.set_cons_zero])
            | (refine a_store1 rfl _ _ rfl _ _ _ rfl rfl _ _ (by assumption) (by first | with_reducible assumption | exact z16_len) ?_; intro w H; try simp only [Act.put, List.setIfInBounds_toArray, List.set_cons_succ, List.set_cons_zero])
            | (refine a_store4 rfl _ _ rfl _ _ _ rfl rfl _ _ _ _ _ (by assumption) (by first | with_reducible assumption | exact z16_len) ?_; intro w H; try simp only [Act.put, List.setIfInBounds_toArray, List.set_cons_succ, List.set_cons_zero]))
          refine wp_region_from (by kernel_rfl) (by kernel_rfl) ?_
          repeat (first
            | (go_big_quiet_want; (refine a_quiet_load _ rfl _ _ rfl (by assumption) (by (first | exact .head _ | exact .tail _ (.head _) | exact .tail _ (.tail _ (.head _)) | exact .tail _ (.tail _ (.tail _ (.head _))) | exact .tail _ (.tail _ (.tail _ (.tail _ (.head _)))) | exact .tail _ (.tail _ (.tail _ (.tail _ (.tail _ (.head _))))))) ?_); try simp only [Act.put, List.setIfInBounds_toArray, List.set_cons_succ, List.set_cons_zero]; go_big_quiet_on)
            | go_big_quiet_step (((first | (go_at_call 41; exact held_call _ (cq.out _)) | (go_at_call 40; exact held_call _ (cb.out _ _ (by first | exact .inl rfl | exact .inr rfl)))))))
          refine wpQuiet_nil ?_
          intro w5 hw5
          have H := H.from hw5
          clear hw5
          have c1 := H.cell (.tail _ (.head _)) 0 (by omega)
          rw [hl] at c1
          go_wp2_with (first
            | (refine a_box rfl _ rfl _ rfl (by assumption) (by first | with_reducible assumption | exact z16_len) ?_; intro g w H; try simp only [Act.put, List.setIfInBounds_toArray, List.set_cons_succ, List.set_cons_zero])
            | (refine a_alloc rfl rfl (by assumption) ?_; intro g w H; try simp only [Act.put, List.setIfInBounds_toArray, List.set_cons_succ, List.set_cons_zero])
            | (refine a_build rfl rfl ?_; try simp only [Act.put, List.setIfInBounds_toArray, List.set_cons_succ, List.set_cons_zero])
            | (refine a_load rfl _ rfl _ _ rfl (by assumption) (by (first | exact .head _ | exact .tail _ (.head _) | exact .tail _ (.tail _ (.head _)) | exact .tail _ (.tail _ (.tail _ (.head _))) | exact .tail _ (.tail _ (.tail _ (.tail _ (.head _)))) | exact .tail _ (.tail _ (.tail _ (.tail _ (.tail _ (.head _))))))) ?_; try simp only [Act.put, List.setIfInBounds_toArray, List.set_cons_succ, List.set_cons_zero])
            | (refine a_store0 rfl _ _ rfl _ _ _ rfl rfl _ (by assumption) (by first | with_reducible assumption | exact z16_len) ?_; intro w H; try simp only [Act.put, List.setIfInBounds_toArray, List.set_cons_succ, List.set_cons_zero])
            | (refine a_store1 rfl _ _ rfl _ _ _ rfl rfl _ _ (by assumption) (by first | with_reducible assumption | exact z16_len) ?_; intro w H; try simp only [Act.put, List.setIfInBounds_toArray, List.set_cons_succ, List.set_cons_zero])
            | (refine a_store4 rfl _ _ rfl _ _ _ rfl rfl _ _ _ _ _ (by assumption) (by first | with_reducible assumption | exact z16_len) ?_; intro w H; try simp only [Act.put, List.setIfInBounds_toArray, List.set_cons_succ, List.set_cons_zero])
            | (go_at_call 59; with_reducible refine a_call (by assumption) (cv.out _) ?_; intro w H))
          exact a_ret2 Try.results56 _ rfl rfl rfl (by assumption) (by (first | exact .head _ | exact .tail _ (.head _) | exact .tail _ (.tail _ (.head _)) | exact .tail _ (.tail _ (.tail _ (.head _))) | exact .tail _ (.tail _ (.tail _ (.tail _ (.head _)))) | exact .tail _ (.tail _ (.tail _ (.tail _ (.tail _ (.head _))))))) kf.out (congrArg Value.bool kb.out) ⟨rfl, H.below⟩
        · rw [if_neg ho] at kf
          have hoI : (l : Int) % 2 = 0 := by omega
          replace kf := Kept.mk kf
          replace kb := Kept.mk kb
          replace hq := Kept.mk hq
          replace hN2 := Kept.mk hN2
          replace ho := Kept.mk ho
          clear hN2
          go_wp2_with (first
            | (refine a_box rfl _ rfl _ rfl (by assumption) (by first | with_reducible assumption | exact z16_len) ?_; intro g w H; try simp only [Act.put, List.setIfInBounds_toArray, List.set_cons_succ, List.set_cons_zero])
            | (refine a_alloc rfl rfl (by assumption) ?_; intro g w H; try simp only [Act.put, List.setIfInBounds_toArray, List.set_cons_succ, List.set_cons_zero])
            | (refine a_build rfl rfl ?_; try simp only [Act.put, List.setIfInBounds_toArray, List.set_cons_succ, List.set_cons_zero])
            | (refine a_load rfl _ rfl _ _ rfl (by assumption) (by (first | exact .head _ | exact .tail _ (.head _) | exact .tail _ (.tail _ (.head _)) | exact .tail _ (.tail _ (.tail _ (.head _))) | exact .tail _ (.tail _ (.tail _ (.tail _ (.head _)))) | exact .tail _ (.tail _ (.tail _ (.tail _ (.tail _ (.head _))))))) ?_; try simp only [Act.put, List.setIfInBounds_toArray, List.set_cons_succ, List.set_cons_zero])
            | (refine a_store0 rfl _ _ rfl _ _ _ rfl rfl _ (by assumption) (by first | with_reducible assumption | exact z16_len) ?_; intro w H; try simp only [Act.put, List.setIfInBounds_toArray, List.set_cons_succ, List.set_cons_zero])
            | (refine a_store1 rfl _ _ rfl _ _ _ rfl rfl _ _ (by assumption) (by first | with_reducible assumption | exact z16_len) ?_; intro w H; try simp only [Act.put, List.setIfInBounds_toArray, List.set_cons_succ, List.set_cons_zero])
            | (refine a_store4 rfl _ _ rfl _ _ _ rfl rfl _ _ _ _ _ (by assumption) (by first | with_reducible assumption | exact z16_len) ?_; intro w H; try simp only [Act.put, List.setIfInBounds_toArray, List.set_cons_succ, List.set_cons_zero]))
          refine wp_region_from (by kernel_rfl) (by kernel_rfl) ?_
          repeat (first
            | (go_big_quiet_want; (refine a_quiet_load _ rfl _ _ rfl (by assumption) (by (first | exact .head _ | exact .tail _ (.head _) | exact .tail _ (.tail _ (.head _)) | exact .tail _ (.tail _ (.tail _ (.head _))) | exact .tail _ (.tail _ (.tail _ (.tail _ (.head _)))) | exact .tail _ (.tail _ (.tail _ (.tail _ (.tail _ (.head _))))))) ?_); try simp only [Act.put, List.setIfInBounds_toArray, List.set_cons_succ, List.set_cons_zero]; go_big_quiet_on)
            | go_big_quiet_step (((first | (go_at_call 41; exact held_call _ (cq.out _)) | (go_at_call 40; exact held_call _ (cb.out _ _ (by first | exact .inl rfl | exact .inr rfl)))))))
          refine wpQuiet_nil ?_
          intro w5 hw5
          have H := H.from hw5
          clear hw5
          have c1 := H.cell (.tail _ (.head _)) 0 (by omega)
          rw [hl] at c1
          go_wp2_with (first
            | (refine a_box rfl _ rfl _ rfl (by assumption) (by first | with_reducible assumption | exact z16_len) ?_; intro g w H; try simp only [Act.put, List.setIfInBounds_toArray, List.set_cons_succ, List.set_cons_zero])
            | (refine a_alloc rfl rfl (by assumption) ?_; intro g w H; try simp only [Act.put, List.setIfInBounds_toArray, List.set_cons_succ, List.set_cons_zero])
            | (refine a_build rfl rfl ?_; try simp only [Act.put, List.setIfInBounds_toArray, List.set_cons_succ, List.set_cons_zero])
            | (refine a_load rfl _ rfl _ _ rfl (by assumption) (by (first | exact .head _ | exact .tail _ (.head _) | exact .tail _ (.tail _ (.head _)) | exact .tail _ (.tail _ (.tail _ (.head _))) | exact .tail _ (.tail _ (.tail _ (.tail _ (.head _)))) | exact .tail _ (.tail _ (.tail _ (.tail _ (.tail _ (.head _))))))) ?_; try simp only [Act.put, List.setIfInBounds_toArray, List.set_cons_succ, List.set_cons_zero])
            | (refine a_store0 rfl _ _ rfl _ _ _ rfl rfl _ (by assumption) (by first | with_reducible assumption | exact z16_len) ?_; intro w H; try simp only [Act.put, List.setIfInBounds_toArray, List.set_cons_succ, List.set_cons_zero])
            | (refine a_store1 rfl _ _ rfl _ _ _ rfl rfl _ _ (by assumption) (by first | with_reducible assumption | exact z16_len) ?_; intro w H; try simp only [Act.put, List.setIfInBounds_toArray, List.set_cons_succ, List.set_cons_zero])
            | (refine a_store4 rfl _ _ rfl _ _ _ rfl rfl _ _ _ _ _ (by assumption) (by first | with_reducible assumption | exact z16_len) ?_; intro w H; try simp only [Act.put, List.setIfInBounds_toArray, List.set_cons_succ, List.set_cons_zero]))
          exact a_ret2 Try.results56 _ rfl rfl rfl (by assumption) (by (first | exact .head _ | exact .tail _ (.head _) | exact .tail _ (.tail _ (.head _)) | exact .tail _ (.tail _ (.tail _ (.head _))) | exact .tail _ (.tail _ (.tail _ (.tail _ (.head _)))) | exact .tail _ (.tail _ (.tail _ (.tail _ (.tail _ (.head _))))))) kf.out (congrArg Value.bool kb.out) ⟨rfl, H.below⟩
      · have hqb : ((bs u).toList == (bs a).toList) = false := by simp [hq]
        have hN3 := Kept.mk (hN2 hq)
        replace hq := Kept.mk hq
        clear k1 hN2
        go_wp2_with (first
          | (refine a_box rfl _ rfl _ rfl (by assumption) (by first | with_reducible assumption | exact z16_len) ?_; intro g w H; try simp only [Act.put, List.setIfInBounds_toArray, List.set_cons_succ, List.set_cons_zero])
          | (refine a_alloc rfl rfl (by assumption) ?_; intro g w H; try simp only [Act.put, List.setIfInBounds_toArray, List.set_cons_succ, List.set_cons_zero])
          | (refine a_build rfl rfl ?_; try simp only [Act.put, List.setIfInBounds_toArray, List.set_cons_succ, List.set_cons_zero])
          | (refine a_load rfl _ rfl _ _ rfl (by assumption) (by (first | exact .head _ | exact .tail _ (.head _) | exact .tail _ (.tail _ (.head _)) | exact .tail _ (.tail _ (.tail _ (.head _))) | exact .tail _ (.tail _ (.tail _ (.tail _ (.head _)))) | exact .tail _ (.tail _ (.tail _ (.tail _ (.tail _ (.head _))))))) ?_; try simp only [Act.put, List.setIfInBounds_toArray, List.set_cons_succ, List.set_cons_zero])
          | (refine a_store0 rfl _ _ rfl _ _ _ rfl rfl _ (by assumption) (by first | with_reducible assumption | exact z16_len) ?_; intro w H; try simp only [Act.put, List.setIfInBounds_toArray, List.set_cons_succ, List.set_cons_zero])
          | (refine a_store1 rfl _ _ rfl _ _ _ rfl rfl _ _ (by assumption) (by first | with_reducible assumption | exact z16_len) ?_; intro w H; try simp only [Act.put, List.setIfInBounds_toArray, List.set_cons_succ, List.set_cons_zero])
          | (refine a_store4 rfl _ _ rfl _ _ _ rfl rfl _ _ _ _ _ (by assumption) (by first | with_reducible assumption | exact z16_len) ?_; intro w H; try simp only [Act.put, List.setIfInBounds_toArray, List.set_cons_succ, List.set_cons_zero]))
        refine wp_region_from (by kernel_rfl) (by kernel_rfl) ?_
        repeat (first
          | (go_big_quiet_want; (refine a_quiet_load _ rfl _ _ rfl (by assumption) (by (first | exact .head _ | exact .tail _ (.head _) | exact .tail _ (.tail _ (.head _)) | exact .tail _ (.tail _ (.tail _ (.head _))) | exact .tail _ (.tail _ (.tail _ (.tail _ (.head _)))) | exact .tail _ (.tail _ (.tail _ (.tail _ (.tail _ (.head _))))))) ?_); try simp only [Act.put, List.setIfInBounds_toArray, List.set_cons_succ, List.set_cons_zero]; go_big_quiet_on)
          | go_big_quiet_step (((first | (go_at_call 41; exact held_call _ (cq.out _)) | (go_at_call 40; exact held_call _ (cb.out _ _ (by first | exact .inl rfl | exact .inr rfl)))))))
        refine wpQuiet_nil ?_
        intro w5 hw5
        have H := H.from hw5
        clear hw5
        go_wp2_with (first
          | (refine a_box rfl _ rfl _ rfl (by assumption) (by first | with_reducible assumption | exact z16_len) ?_; intro g w H; try simp only [Act.put, List.setIfInBounds_toArray, List.set_cons_succ, List.set_cons_zero])
          | (refine a_alloc rfl rfl (by assumption) ?_; intro g w H; try simp only [Act.put, List.setIfInBounds_toArray, List.set_cons_succ, List.set_cons_zero])
          | (refine a_build rfl rfl ?_; try simp only [Act.put, List.setIfInBounds_toArray, List.set_cons_succ, List.set_cons_zero])
          | (refine a_load rfl _ rfl _ _ rfl (by assumption) (by (first | exact .head _ | exact .tail _ (.head _) | exact .tail _ (.tail _ (.head _)) | exact .tail _ (.tail _ (.tail _ (.head _))) | exact .tail _ (.tail _ (.tail _ (.tail _ (.head _)))) | exact .tail _ (.tail _ (.tail _ (.tail _ (.tail _ (.head _))))))) ?_; try simp only [Act.put, List.setIfInBounds_toArray, List.set_cons_succ, List.set_cons_zero])
          | (refine a_store0 rfl _ _ rfl _ _ _ rfl rfl _ (by assumption) (by first | with_reducible assumption | exact z16_len) ?_; intro w H; try simp only [Act.put, List.setIfInBounds_toArray, List.set_cons_succ, List.set_cons_zero])
          | (refine a_store1 rfl _ _ rfl _ _ _ rfl rfl _ _ (by assumption) (by first | with_reducible assumption | exact z16_len) ?_; intro w H; try simp only [Act.put, List.setIfInBounds_toArray, List.set_cons_succ, List.set_cons_zero])
          | (refine a_store4 rfl _ _ rfl _ _ _ rfl rfl _ _ _ _ _ (by assumption) (by first | with_reducible assumption | exact z16_len) ?_; intro w H; try simp only [Act.put, List.setIfInBounds_toArray, List.set_cons_succ, List.set_cons_zero])
          | (go_at_call 41; with_reducible refine a_call (by assumption) (cn.out _) ?_; intro w H))
        go_roundw
        case rel => exact ⟨k + 1, by omega, val_eq (by omega), by rw [hr'.out]; exact H, hN3⟩
        case measure => first | (simp [RowKit.intOf]; done) | (simp [RowKit.intOf]; omega)
    · obtain rfl : k = 2 := by omega
      obtain ⟨kf, kb⟩ := K2.out HN.out
      replace kf := Kept.mk kf
      replace kb := Kept.mk kb
      have nk := nr.out 2
      generalize rr 2 = r at H nk
      go_wp2_with (first
        | (refine a_box rfl _ rfl _ rfl (by assumption) (by first | with_reducible assumption | exact z16_len) ?_; intro g w H; try simp only [Act.put, List.setIfInBounds_toArray, List.set_cons_succ, List.set_cons_zero])
        | (refine a_alloc rfl rfl (by assumption) ?_; intro g w H; try simp only [Act.put, List.setIfInBounds_toArray, List.set_cons_succ, List.set_cons_zero])
        | (refine a_build rfl rfl ?_; try simp only [Act.put, List.setIfInBounds_toArray, List.set_cons_succ, List.set_cons_zero])
        | (refine a_load rfl _ rfl _ _ rfl (by assumption) (by (first | exact .head _ | exact .tail _ (.head _) | exact .tail _ (.tail _ (.head _)) | exact .tail _ (.tail _ (.tail _ (.head _))) | exact .tail _ (.tail _ (.tail _ (.tail _ (.head _)))) | exact .tail _ (.tail _ (.tail _ (.tail _ (.tail _ (.head _))))))) ?_; try simp only [Act.put, List.setIfInBounds_toArray, List.set_cons_succ, List.set_cons_zero])
        | (refine a_store0 rfl _ _ rfl _ _ _ rfl rfl _ (by assumption) (by first | with_reducible assumption | exact z16_len) ?_; intro w H; try simp only [Act.put, List.setIfInBounds_toArray, List.set_cons_succ, List.set_cons_zero])
        | (refine a_store1 rfl _ _ rfl _ _ _ rfl rfl _ _ (by assumption) (by first | with_reducible assumption | exact z16_len) ?_; intro w H; try simp only [Act.put, List.setIfInBounds_toArray, List.set_cons_succ, List.set_cons_zero])
        | (refine a_store4 rfl _ _ rfl _ _ _ rfl rfl _ _ _ _ _ (by assumption) (by first | with_reducible assumption | exact z16_len) ?_; intro w H; try simp only [Act.put, List.setIfInBounds_toArray, List.set_cons_succ, List.set_cons_zero]))
      exact a_ret2 Try.results56 _ rfl rfl rfl (by assumption) (by (first | exact .head _ | exact .tail _ (.head _) | exact .tail _ (.tail _ (.head _)) | exact .tail _ (.tail _ (.tail _ (.head _))) | exact .tail _ (.tail _ (.tail _ (.tail _ (.head _)))) | exact .tail _ (.tail _ (.tail _ (.tail _ (.tail _ (.head _))))))) kf.out (congrArg Value.bool kb.out) ⟨rfl, H.below⟩
end Go.Proofs.Ytockcnglennihaa
end
section
set_option linter.unusedSimpArgs false
set_option linter.unusedVariables false
namespace Go.Proofs.Ytockcnglennihaa
open Go.RowKit
theorem pm_pow (n e : Nat) (h : e < 2 ^ 256) : pm pF 256 n e = powF n e := pm_eq pF 256 n e h
def e4 : Nat := (pF - 1) / 2 ^ 2
def e8 : Nat := (pF - 5) / 2 ^ 3
theorem e8_one : e8 + 1 = eF := by decide +kernel
theorem one_pm : pm pF 256 2 e4 = iF := by decide +kernel
theorem one_val : powF 2 e4 = iF := by
  rw [← pm_pow 2 e4 (by decide +kernel)]
  exact one_pm
def rN (x : Nat) : Nat → Nat
  | 0 => powF x eF
  | k + 1 => rN x k * iF % pF
theorem rN_lt (x : Nat) : ∀ k, rN x k < pF
  | 0 => powF_lt _ _
  | k + 1 => Nat.mod_lt _ p_pos
theorem r0_val (x : Nat) : x * powF x e8 % pF = rN x 0 := by
  rw [Nat.mul_comm, powF_one, e8_one, rN]
theorem cand_r (x : Nat) : cand x = if rN x 0 * rN x 0 % pF = x then rN x 0 else rN x 1 := by
  have h0 : powF x eF = rN x 0 := by rw [rN]
  have h1 : ∀ k, rN x (k + 1) = rN x k * iF % pF := fun k => by rw [rN]
  unfold cand
  rw [h0, h1 0]
theorem S_list {l m : List UInt8} (h : (S l).toList = (S m).toList) : l = m := by
  have e := S_beq l m
  rw [h] at e
  exact of_decide_eq_true (e.symm.trans (beq_self_eq_true _))
def bF (l : List Nat) : ByteArray := S (leB (valB 65536 l))
theorem bF_Md (u : Nat) (h : u < big) : bF (Md u) = S (leB u) := by rw [bF, Md_val u h]
theorem bF_eq (u x : Nat) (hu : u < pF) (hx : x < pF) : (bF (Md u)).toList = (bF (Md x)).toList ↔ u = x := by
  rw [bF_Md u (Nat.lt_trans hu p_bigR), bF_Md x (Nat.lt_trans hx p_bigR)]
  exact ⟨fun h => leB_inj (Nat.lt_trans hu p_big) (Nat.lt_trans hx p_big) (S_list h), fun h => h ▸ rfl⟩
theorem Md_low (r : Nat) : (Md r).getD 0 0 % 2 = r % 2 := by
  rw [Md, limbs_getD 65536 16 r 0 (by omega), Nat.pow_zero, Nat.div_one]
  omega
def rootL (x : Nat) : List Nat := if cand x * cand x % pF = x then Md (evenN (cand x)) else z16
def rootB (x : Nat) : Bool := decide (cand x * cand x % pF = x)
theorem small_big (n : Nat) (h : n < 1000) : n < big := Nat.lt_trans (small_lt n h) p_bigR
theorem Roots_any (x : Nat) (hx : x < pF) (wS : World) : Calls Try.prog 56 #[arrV (Md x)] wS (RootsPost (rootL x) (rootB x) wS) := by
  have hxb := Nat.lt_trans hx p_bigR
  have hb : ∀ {n}, n < pF → n < big := fun h => Nat.lt_trans h p_bigR
  have h8 : e8 < big := hb (by decide +kernel)
  have h4 : e4 < big := hb (by decide +kernel)
  have hk1 : ∀ k, k < 2 → (∀ j, j < k → (bF (Md (rN x j * rN x j % pF))).toList ≠ (bF (Md x)).toList) → (bF (Md (rN x k * rN x k % pF))).toList = (bF (Md x)).toList → cand x = rN x k ∧ cand x * cand x % pF = x := by
    intro k hk hj hq
    have hq' := (bF_eq _ x (Nat.mod_lt _ p_pos) hx).1 hq
    have hc : cand x = rN x k := by
      rcases (show k = 0 ∨ k = 1 by omega) with rfl | rfl
      · rw [cand_r, if_pos hq']
      · rw [cand_r, if_neg fun e => hj 0 (by omega) ((bF_eq _ x (Nat.mod_lt _ p_pos) hx).2 e)]
    exact ⟨hc, by rw [hc]; exact hq'⟩
  refine roots_core (Md x) (Md pF) (Md (pF - 5)) (Md e8) (Md (powF x e8)) (Md (pF - 1)) (Md e4) (Md iF) (fun k => Md (rN x k)) (fun k => Md (rN x k * rN x k % pF)) (fun k => Md (pF - rN x k)) (fun z => Md z.toNat) bF (rootL x) (rootB x)
    (Md_len _) (Md_len _) (Md_len _) (Md_len _) (Md_len _) (Md_len _) (Md_len _) (Md_len _) (fun _ => Md_len _) (fun _ => Md_len _)
    (fun w => P_any w) ?_ (fun w => less_any pF 5 p_bigR (Nat.le_of_lt (small_lt 5 (by omega))) w) (fun w => less_any pF 1 p_bigR (Nat.le_of_lt (small_lt 1 (by omega))) w)
    (fun w => half_any (pF - 5) 3 (Nat.lt_of_le_of_lt (Nat.sub_le _ _) p_bigR) (by omega) w) (fun w => half_any (pF - 1) 2 (Nat.lt_of_le_of_lt (Nat.sub_le _ _) p_bigR) (by omega) w) (fun w => Power_any x e8 hxb h8 w) ?_ ?_ ?_ ?_ ?_ ?_ ?_ ?_ wS
  · rintro z w (rfl | rfl | rfl)
    · exact Small_any 1 (by omega) w
    · exact Small_any 2 (by omega) w
    · exact Small_any 5 (by omega) w
  · intro w
    have c := Power_any 2 e4 (small_big 2 (by omega)) h4 w
    rw [one_val] at c
    exact c
  · intro w
    have c := Times_any x (powF x e8) hxb (hb (powF_lt _ _)) w
    rw [r0_val] at c
    exact c
  · intro k w
    have c := Times_any (rN x k) iF (hb (rN_lt x k)) (hb (by decide +kernel)) w
    rw [show rN x k * iF % pF = rN x (k + 1) from rfl] at c
    exact c
  · exact fun k w => Times_any (rN x k) (rN x k) (hb (rN_lt x k)) (hb (rN_lt x k)) w
  · rintro l w (rfl | ⟨k, rfl⟩)
    · rw [bF_Md x hxb]; exact Bytes_any x hxb w
    · have hu := hb (Nat.mod_lt (rN x k * rN x k) p_pos)
      show Calls _ _ #[arrV (Md (rN x k * rN x k % pF))] w fun e w' => e = .returned (.string (bF (Md (rN x k * rN x k % pF)))) ∧ Below w.heap.size w w'
      rw [bF_Md _ hu]; exact Bytes_any _ hu w
  · exact fun k w => less_any pF (rN x k) p_bigR (Nat.le_of_lt (rN_lt x k)) w
  · intro k hk hj hq
    obtain ⟨hc, hs⟩ := hk1 k hk hj hq
    refine ⟨?_, by rw [rootB, decide_eq_true hs]⟩
    rw [rootL, if_pos hs, hc, evenN]
    show (if (Md (rN x k)).getD 0 0 % 2 = 1 then Md (pF - rN x k) else Md (rN x k)) = _
    rw [Md_low]
    split <;> rfl
  · intro hj
    have hn : ∀ j, j < 2 → ¬ rN x j * rN x j % pF = x := fun j h e => hj j h ((bF_eq _ x (Nat.mod_lt _ p_pos) hx).2 e)
    have hs : ¬ cand x * cand x % pF = x := by
      rw [cand_r, if_neg (hn 0 (by omega))]
      exact hn 1 (by omega)
    exact ⟨by rw [rootL, if_neg hs], by rw [rootB, decide_eq_false hs]⟩
end Go.Proofs.Ytockcnglennihaa
end
