/- Walks of the document's answer for package field: digits that are too great, modulo p. -/
import Derived.Test.YtbkaemekcjinaaaR3
import Derived.Deep.LoopGhost
set_option linter.unusedSimpArgs false
set_option linter.unusedVariables false
namespace Go.Proofs.Ytbkaemekcjinaaa
open Go.RowKit
def dA : List Nat → Nat → List Nat
  | x :: xs, c => (x + c) % 65536 :: dA xs ((x + c) / 65536)
  | [], _ => []
def dK : List Nat → Nat → Nat
  | x :: xs, c => dK xs ((x + c) / 65536)
  | [], c => c
theorem dA_len : ∀ (l : List Nat) (c : Nat), (dA l c).length = l.length
  | [], _ => rfl
  | x :: xs, c => by rw [dA, List.length_cons, List.length_cons, dA_len xs]
theorem dA_lt : ∀ (l : List Nat) (c : Nat), ∀ x ∈ dA l c, x < 65536
  | [], _, x, h => by simp [dA] at h
  | y :: ys, c, x, h => by
    rw [dA, List.mem_cons] at h
    rcases h with rfl | h
    · exact Nat.mod_lt _ (by decide)
    · exact dA_lt ys _ x h
theorem d_val : ∀ (xs : List Nat) (c : Nat), valB 65536 (dA xs c) + 65536 ^ xs.length * dK xs c = valB 65536 xs + c
  | [], c => by simp [dA, dK, valB]
  | x :: xs, c => by
    have ih := d_val xs ((x + c) / 65536)
    rw [dA, dK, List.length_cons]
    simp only [valB]
    rw [Nat.pow_succ, Nat.mul_comm (65536 ^ xs.length) 65536, Nat.mul_assoc]
    generalize 65536 ^ xs.length * dK xs ((x + c) / 65536) = p at ih ⊢
    omega
theorem dK_lt : ∀ (l : List Nat) (c : Nat), (∀ x ∈ l, x < 281474976710656) → c < 8589934592 → dK l c < 8589934592
  | [], c, _, h => h
  | x :: xs, c, hx, h => by
    have := hx x (by simp)
    rw [dK]
    exact dK_lt xs _ (fun y hy => hx y (by simp [hy])) (by omega)
theorem set0_val (l : List Nat) (h : 0 < l.length) (v : Nat) : valB 65536 (l.set 0 (l.getD 0 0 + v)) = valB 65536 l + v := by
  cases l with
  | nil => simp at h
  | cons x r => simp [valB]; omega
theorem set0_lt (l : List Nat) (B v : Nat) (hl : ∀ x ∈ l, x < 65536) (hB : 65536 ≤ B) (hv : v < B) : ∀ x ∈ l.set 0 v, x < B := by
  intro x hx
  rcases List.mem_or_eq_of_mem_set hx with h | rfl
  · exact Nat.lt_of_lt_of_le (hl x h) hB
  · exact hv
theorem p_bigR : pF < big := by decide +kernel
def flag (c : Nat) : Nat := if c = 0 then 0 else 1
set_option maxHeartbeats 2000000 in
theorem mod_any (l : List Nat) (hl : l.length = 16) (hlW : ∀ x ∈ l, x < 281474976710656) (wS : World) : Calls Try.prog 51 #[arrV l] wS (AP (Md (valB 65536 l % pF)) wS) := by
  have H := AMem.start wS
  have hll := Kept.mk hl
  replace hlW := Kept.mk hlW
  obtain ⟨V, hV⟩ : ∃ V, valB 65536 l = V := ⟨_, rfl⟩
  rw [hV]
  replace hV := Kept.mk hV
  unfold arrV
  go_enter Try.func51, Try.ntmps51
  go_wp2_with (first
    | (refine a_box rfl _ rfl _ rfl (by assumption) (by first | assumption | exact limbs_len _ _ _ | exact z16_len) ?_; intro g w H; try simp only [Act.put, List.setIfInBounds_toArray, List.set_cons_succ, List.set_cons_zero])
    | (refine a_alloc rfl rfl (by assumption) ?_; intro g w H; try simp only [Act.put, List.setIfInBounds_toArray, List.set_cons_succ, List.set_cons_zero])
    | (refine a_build rfl rfl ?_; try simp only [Act.put, List.setIfInBounds_toArray, List.set_cons_succ, List.set_cons_zero])
    | (refine a_load rfl _ rfl _ _ rfl (by assumption) (by (first | exact .head _ | exact .tail _ (.head _) | exact .tail _ (.tail _ (.head _)) | exact .tail _ (.tail _ (.tail _ (.head _))) | exact .tail _ (.tail _ (.tail _ (.tail _ (.head _)))))) ?_; try simp only [Act.put, List.setIfInBounds_toArray, List.set_cons_succ, List.set_cons_zero])
    | (refine a_store0 rfl _ _ rfl _ _ _ rfl rfl _ (by assumption) (by first | assumption | exact limbs_len _ _ _ | exact z16_len) ?_; intro w H; try simp only [Act.put, List.setIfInBounds_toArray, List.set_cons_succ, List.set_cons_zero])
    | (refine a_store1 rfl _ _ rfl _ _ _ rfl rfl _ _ (by assumption) (by first | assumption | exact limbs_len _ _ _ | exact z16_len) ?_; intro w H; try simp only [Act.put, List.setIfInBounds_toArray, List.set_cons_succ, List.set_cons_zero])
    | (refine a_store2 rfl _ _ rfl _ _ _ rfl rfl _ _ _ (by assumption) (by first | assumption | exact limbs_len _ _ _ | exact z16_len) ?_; intro w H; try simp only [Act.put, List.setIfInBounds_toArray, List.set_cons_succ, List.set_cons_zero]))
  clear hl
  rename_i gy _ _ K _
  rename Nat => gr
  go_loopg [3] (2 * V + 1) (fun k v3 wr => ∃ (o : Nat) (y : List Nat), o < 8589934592 ∧ v3 = .int .i64 (o : Int) ∧ Kept (∀ x ∈ y, x < 281474976710656) ∧ AMem wS wr [(gr, z16), (gy, y)] ∧ Kept (valB 65536 y % pF = V % pF) ∧ Kept (o = 0 → ∀ x ∈ y, x < 65536) ∧ Kept (2 * valB 65536 y + flag o = k))
  case atStart => exact ⟨1, l, by omega, rfl, hlW, H, ⟨by rw [hV.out]⟩, ⟨fun h => absurd h (by decide)⟩, ⟨by rw [hV.out]; rfl⟩⟩
  case round =>
    clear H hlW
    obtain ⟨o, y, ho, rfl, HW, H, HV, HZ, HK⟩ := hrel
    have hyl := Kept.mk (H.len gy y (.tail _ (.head _)))
    by_cases ho0 : o = 0
    · subst ho0
      rw [show ((0 : Nat) : Int) = 0 from rfl]
      have hz := HZ.out rfl
      obtain ⟨v, hv⟩ : ∃ v, valB 65536 y = v := ⟨_, rfl⟩
      have hyM : y = Md v := Md_of y v hyl.out hz hv
      have hvb : v < big := by
        have h := valB_lt (B := 65536) (by decide) y hz
        rw [hyl.out, big16, hv] at h
        exact h
      have hvV := HV.out
      rw [hv] at hvV
      have hv3 : v < (2 + 1) * pF := by
        have := big_p
        have h2 : 38 < pF := by decide +kernel
        omega
      subst hyM
      replace hvV := Kept.mk hvV
      clear hz hv HV HZ HK HW hyl
      have hPl := Md_len pF
      go_wp2_with (first
        | (refine a_box rfl _ rfl _ rfl (by assumption) (by first | assumption | exact limbs_len _ _ _ | exact z16_len) ?_; intro g w H; try simp only [Act.put, List.setIfInBounds_toArray, List.set_cons_succ, List.set_cons_zero])
        | (refine a_alloc rfl rfl (by assumption) ?_; intro g w H; try simp only [Act.put, List.setIfInBounds_toArray, List.set_cons_succ, List.set_cons_zero])
        | (refine a_build rfl rfl ?_; try simp only [Act.put, List.setIfInBounds_toArray, List.set_cons_succ, List.set_cons_zero])
        | (refine a_load rfl _ rfl _ _ rfl (by assumption) (by (first | exact .head _ | exact .tail _ (.head _) | exact .tail _ (.tail _ (.head _)) | exact .tail _ (.tail _ (.tail _ (.head _))) | exact .tail _ (.tail _ (.tail _ (.tail _ (.head _)))))) ?_; try simp only [Act.put, List.setIfInBounds_toArray, List.set_cons_succ, List.set_cons_zero])
        | (refine a_store0 rfl _ _ rfl _ _ _ rfl rfl _ (by assumption) (by first | assumption | exact limbs_len _ _ _ | exact z16_len) ?_; intro w H; try simp only [Act.put, List.setIfInBounds_toArray, List.set_cons_succ, List.set_cons_zero])
        | (refine a_store1 rfl _ _ rfl _ _ _ rfl rfl _ _ (by assumption) (by first | assumption | exact limbs_len _ _ _ | exact z16_len) ?_; intro w H; try simp only [Act.put, List.setIfInBounds_toArray, List.set_cons_succ, List.set_cons_zero])
        | (refine a_store2 rfl _ _ rfl _ _ _ rfl rfl _ _ _ (by assumption) (by first | assumption | exact limbs_len _ _ _ | exact z16_len) ?_; intro w H; try simp only [Act.put, List.setIfInBounds_toArray, List.set_cons_succ, List.set_cons_zero])
        | (go_at_call 33; refine a_call (by assumption) (P_any _) ?_; intro w H))
      clear hPl
      rename Nat => gp
      go_loopg [] 2 (fun k wr => ∃ y, y < big ∧ y < (k + 1) * pF ∧ Kept (y % pF = V % pF) ∧ AMem wS wr [(gp, Md pF), (gr, z16), (gy, Md y)])
      case atStart => exact ⟨v, hvb, hv3, hvV, H⟩
      case round =>
        clear H hvb hv3 hvV
        obtain ⟨y, hyb, hyk, HY, H⟩ := hrel
        by_cases hr : y < pF
        · have hres := HY.out
          rw [Nat.mod_eq_of_lt hr] at hres
          replace hres := Kept.mk hres
          have cB := fun w => Below_any y pF hyb p_bigR w
          rw [decide_eq_true hr] at cB
          replace cB := Kept.mk cB
          have hyl := Md_len y
          clear hyb hyk hr
          go_wp2_with (first
            | (refine a_box rfl _ rfl _ rfl (by assumption) (by first | assumption | exact limbs_len _ _ _ | exact z16_len) ?_; intro g w H; try simp only [Act.put, List.setIfInBounds_toArray, List.set_cons_succ, List.set_cons_zero])
            | (refine a_alloc rfl rfl (by assumption) ?_; intro g w H; try simp only [Act.put, List.setIfInBounds_toArray, List.set_cons_succ, List.set_cons_zero])
            | (refine a_build rfl rfl ?_; try simp only [Act.put, List.setIfInBounds_toArray, List.set_cons_succ, List.set_cons_zero])
            | (refine a_load rfl _ rfl _ _ rfl (by assumption) (by (first | exact .head _ | exact .tail _ (.head _) | exact .tail _ (.tail _ (.head _)) | exact .tail _ (.tail _ (.tail _ (.head _))) | exact .tail _ (.tail _ (.tail _ (.tail _ (.head _)))))) ?_; try simp only [Act.put, List.setIfInBounds_toArray, List.set_cons_succ, List.set_cons_zero])
            | (refine a_store0 rfl _ _ rfl _ _ _ rfl rfl _ (by assumption) (by first | assumption | exact limbs_len _ _ _ | exact z16_len) ?_; intro w H; try simp only [Act.put, List.setIfInBounds_toArray, List.set_cons_succ, List.set_cons_zero])
            | (refine a_store1 rfl _ _ rfl _ _ _ rfl rfl _ _ (by assumption) (by first | assumption | exact limbs_len _ _ _ | exact z16_len) ?_; intro w H; try simp only [Act.put, List.setIfInBounds_toArray, List.set_cons_succ, List.set_cons_zero])
            | (refine a_store2 rfl _ _ rfl _ _ _ rfl rfl _ _ _ (by assumption) (by first | assumption | exact limbs_len _ _ _ | exact z16_len) ?_; intro w H; try simp only [Act.put, List.setIfInBounds_toArray, List.set_cons_succ, List.set_cons_zero])
            | (go_at_call 35; refine a_call (by assumption) (cB.out _) ?_; intro w H))
          rw [← hres.out]
          exact a_ret Try.results51 _ rfl rfl (by assumption) (by (first | exact .head _ | exact .tail _ (.head _) | exact .tail _ (.tail _ (.head _)) | exact .tail _ (.tail _ (.tail _ (.head _))) | exact .tail _ (.tail _ (.tail _ (.tail _ (.head _)))))) (rfl)
        · obtain ⟨k, rfl⟩ : ∃ k, gk = k + 1 := by
            cases gk with
            | zero => rw [Nat.zero_add, Nat.one_mul] at hyk; exact absurd hyk hr
            | succ k => exact ⟨k, rfl⟩
          have cB := fun w => Below_any y pF hyb p_bigR w
          rw [decide_eq_false hr] at cB
          replace cB := Kept.mk cB
          have cL := Kept.mk fun w => less_any y pF hyb (Nat.not_lt.1 hr) w
          have n1 : y - pF < big := by omega
          have n2 : y - pF < (k + 1) * pF := by rw [Nat.add_mul (k + 1), Nat.one_mul] at hyk; omega
          have n3 : (y - pF) % pF = V % pF := by
            have h := HY.out
            rw [← Nat.sub_add_cancel (Nat.not_lt.1 hr), Nat.add_mod_right] at h
            exact h
          replace n3 := Kept.mk n3
          have hyl := Md_len (y - pF)
          clear hyb hyk hr HY
          go_wp2_with (first
            | (refine a_box rfl _ rfl _ rfl (by assumption) (by first | assumption | exact limbs_len _ _ _ | exact z16_len) ?_; intro g w H; try simp only [Act.put, List.setIfInBounds_toArray, List.set_cons_succ, List.set_cons_zero])
            | (refine a_alloc rfl rfl (by assumption) ?_; intro g w H; try simp only [Act.put, List.setIfInBounds_toArray, List.set_cons_succ, List.set_cons_zero])
            | (refine a_build rfl rfl ?_; try simp only [Act.put, List.setIfInBounds_toArray, List.set_cons_succ, List.set_cons_zero])
            | (refine a_load rfl _ rfl _ _ rfl (by assumption) (by (first | exact .head _ | exact .tail _ (.head _) | exact .tail _ (.tail _ (.head _)) | exact .tail _ (.tail _ (.tail _ (.head _))) | exact .tail _ (.tail _ (.tail _ (.tail _ (.head _)))))) ?_; try simp only [Act.put, List.setIfInBounds_toArray, List.set_cons_succ, List.set_cons_zero])
            | (refine a_store0 rfl _ _ rfl _ _ _ rfl rfl _ (by assumption) (by first | assumption | exact limbs_len _ _ _ | exact z16_len) ?_; intro w H; try simp only [Act.put, List.setIfInBounds_toArray, List.set_cons_succ, List.set_cons_zero])
            | (refine a_store1 rfl _ _ rfl _ _ _ rfl rfl _ _ (by assumption) (by first | assumption | exact limbs_len _ _ _ | exact z16_len) ?_; intro w H; try simp only [Act.put, List.setIfInBounds_toArray, List.set_cons_succ, List.set_cons_zero])
            | (refine a_store2 rfl _ _ rfl _ _ _ rfl rfl _ _ _ (by assumption) (by first | assumption | exact limbs_len _ _ _ | exact z16_len) ?_; intro w H; try simp only [Act.put, List.setIfInBounds_toArray, List.set_cons_succ, List.set_cons_zero])
            | (go_at_call 35; refine a_call (by assumption) (cB.out _) ?_; intro w H)
            | (go_at_call 52; refine a_call (by assumption) (cL.out _) ?_; intro w H))
          go_roundg k
          case rel => exact ⟨y - pF, n1, n2, n3, H⟩
          case measure => omega
    · have hgt : (0 : Int) < (o : Int) := by omega
      have hyW := HW.out
      go_wp2
      clear hgt
      obtain ⟨wo, rfl⟩ : ∃ wo : World, wo = wr := ⟨_, rfl⟩
      go_loopw [3, 4] (fun v3 v4 wr => ∃ (i c : Nat) (d : List Nat), i ≤ 16 ∧ c < 8589934592 ∧ v3 = .int .i64 (c : Int) ∧ v4 = .int .i64 (i : Int) ∧ Kept (d.length = i) ∧ AMem wS wr [(gr, z16), (gy, d ++ y.drop i)] ∧ Kept (d ++ dA (y.drop i) c = dA y 0) ∧ Kept (dK (y.drop i) c = dK y 0)) (fun _ v4 _ => 16 - (RowKit.intOf v4).toNat)
      case atStart => exact ⟨0, 0, [], by omega, by omega, rfl, rfl, ⟨rfl⟩, H, ⟨rfl⟩, ⟨rfl⟩⟩
      case round =>
        clear H hyW
        obtain ⟨i, c, d, hi, hc, rfl, rfl, HD, H, HE, HC⟩ := hrel
        by_cases hlt : i < 16
        · obtain ⟨p, hp⟩ : ∃ p, y.getD i 0 = p := ⟨_, rfl⟩
          have hda := drop_getD y i (by rw [hyl.out]; omega)
          rw [hp] at hda
          have hpl : p < 281474976710656 := hp ▸ getD_ltN HW.out i (by rw [hyl.out]; omega)
          have c1 := H.cell (.tail _ (.head _)) i hlt
          rw [step_get HD.out hda] at c1
          have f1 := H.frozen (.tail _ (.head _)) i
          have hlti : (i : Int) < 16 := by omega
          have Hn := (H.cell1 i (p + c) ((p : Int) + (c : Int)) (by omega)).cell1 i ((p + c) % 65536) (((p : Int) + (c : Int)) % 65536) (by omega)
          rw [List.set_set, step_set HD.out hda] at Hn
          have hE : d ++ [(p + c) % 65536] ++ dA (y.drop (i + 1)) ((p + c) / 65536) = dA y 0 := by
            have h := HE.out
            rw [hda, dA] at h
            rw [List.append_assoc]; exact h
          have hC : dK (y.drop (i + 1)) ((p + c) / 65536) = dK y 0 := by
            have h := HC.out
            rw [hda, dK] at h
            exact h
          replace hE := Kept.mk hE
          replace hC := Kept.mk hC
          replace hp := Kept.mk hp
          replace hda := Kept.mk hda
          go_wp2
          go_roundw
          case rel => exact ⟨i + 1, (p + c) / 65536, d ++ [(p + c) % 65536], by omega, by omega, val_eq (by omega), val_eq (by omega), ⟨by rw [List.length_append, HD.out]; rfl⟩, Hn, hE, hC⟩
          case measure => simp [RowKit.intOf]; omega
        · obtain rfl : i = 16 := by omega
          have hn : y.drop 16 = [] := List.drop_eq_nil_of_le (by rw [hyl.out]; omega)
          have hE := HE.out
          have hC := HC.out
          rw [hn, dA, List.append_nil] at hE
          rw [hn, dK] at hC
          rw [hn, List.append_nil] at H
          have hdW : ∀ x ∈ d, x < 65536 := hE ▸ dA_lt y 0
          have hdl : d.length = 16 := HD.out
          obtain ⟨q, hq⟩ : ∃ q, d.getD 0 0 = q := ⟨_, rfl⟩
          have hql : q < 65536 := hq ▸ getD_ltN hdW 0 (by omega)
          have c1 := H.cell (.tail _ (.head _)) 0 (by omega)
          rw [hq] at c1
          have f1 := H.frozen (.tail _ (.head _)) 0
          have k1 : IntKind.i64.wrap (38 * (c : Int)) = 38 * (c : Int) := by simp [IntKind.wrap, IntKind.signed, IntKind.bits]; omega
          have Hn := H.cell1 0 (q + 38 * c) ((q : Int) + 38 * (c : Int)) (by omega)
          have hval := d_val y 0
          rw [hE.symm, hC.symm, hyl.out, big16] at hval
          have hs0 := set0_val d (by omega) (38 * c)
          rw [hq] at hs0
          have hlt2 := set0_lt d 281474976710656 (q + 38 * c) hdW (by omega) (by omega)
          have hmod : valB 65536 (d.set 0 (q + 38 * c)) % pF = V % pF := by
            rw [hs0, ← HV.out, show valB 65536 y = valB 65536 d + big * c by omega, big_mod]
          have hz : c = 0 → ∀ x ∈ d.set 0 (q + 38 * c), x < 65536 := fun h => by
            rw [h]; exact set0_lt d 65536 (q + 38 * 0) hdW (by omega) (by omega)
          have hmeas : 2 * valB 65536 (d.set 0 (q + 38 * c)) + flag c < gk := by
            rw [hs0, ← HK.out, show valB 65536 y = valB 65536 d + big * c by omega]
            have hb : 38 < big := by decide +kernel
            have hfo : flag o = 1 := if_neg ho0
            rw [hfo]
            by_cases h : c = 0
            · subst h; simp [flag]
            · have hfc : flag c = 1 := if_neg h
              rw [hfc]
              have : 39 * c ≤ big * c := Nat.mul_le_mul_right c hb
              omega
          replace hmod := Kept.mk hmod
          replace hz := Kept.mk hz
          replace hmeas := Kept.mk hmeas
          replace hlt2 := Kept.mk hlt2
          replace hE := Kept.mk hE
          replace hC := Kept.mk hC
          replace hq := Kept.mk hq
          clear hs0 hval hdl hdW hn
          go_wp2
          go_roundg (2 * valB 65536 (d.set 0 (q + 38 * c)) + flag c)
          case rel => exact ⟨c, d.set 0 (q + 38 * c), hc, rfl, hlt2, Hn, hmod, hz, ⟨rfl⟩⟩
          case measure => exact hmeas.out
end Go.Proofs.Ytbkaemekcjinaaa
