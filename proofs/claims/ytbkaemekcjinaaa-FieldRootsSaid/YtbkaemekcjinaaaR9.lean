/- Walks of the document's answer for package field: products. -/
import Derived.Test.YtbkaemekcjinaaaR8
set_option linter.unusedSimpArgs false
set_option linter.unusedVariables false
namespace Go.Proofs.Ytbkaemekcjinaaa
open Go.RowKit
theorem valB_set (B : Nat) : ∀ (l : List Nat) (j v : Nat), j < l.length → valB B (l.set j (l.getD j 0 + v)) = valB B l + v * B ^ j
  | [], j, v, h => by simp at h
  | x :: r, 0, v, _ => by simp [valB]; omega
  | x :: r, j + 1, v, h => by
    have ih := valB_set B r j v (by simpa using h)
    simp only [List.set_cons_succ, List.getD_cons_succ, valB]
    rw [ih, Nat.mul_add, Nat.pow_succ, ← Nat.add_assoc]
    congr 1
    rw [Nat.mul_left_comm, Nat.mul_comm B (B ^ j)]
theorem take_val (B : Nat) (l : List Nat) : ∀ k, k < l.length → valB B (l.take (k + 1)) = valB B (l.take k) + l.getD k 0 * B ^ k := by
  intro k
  induction k generalizing l with
  | zero =>
    intro h
    cases l with
    | nil => simp at h
    | cons x r => simp [valB]
  | succ k ih =>
    intro h
    cases l with
    | nil => simp at h
    | cons x r =>
      rw [List.take_succ_cons, List.take_succ_cons, valB, valB, ih r (by simpa using h), List.getD_cons_succ, Nat.mul_add, Nat.pow_succ, ← Nat.add_assoc]
      congr 1
      rw [Nat.mul_left_comm, Nat.mul_comm B (B ^ k)]
theorem set_bound (l : List Nat) (j v M : Nat) (h : ∀ x ∈ l, x ≤ M) (hv : v ≤ M) : ∀ x ∈ l.set j v, x ≤ M := by
  intro x hx
  rcases List.mem_or_eq_of_mem_set hx with h2 | rfl
  · exact h x h2
  · exact hv
/-- Where a part of a product goes, and how much it counts there. -/
theorem part_mod (j : Nat) (d y : Nat) (h : 16 ≤ j) : (y + 38 * d * 65536 ^ (j - 16)) % pF = (y + d * 65536 ^ j) % pF := by
  have e : d * 65536 ^ j = big * (d * 65536 ^ (j - 16)) := by
    rw [← big16, show j = 16 + (j - 16) by omega, Nat.pow_add, Nat.add_sub_cancel_left]
    rw [Nat.mul_left_comm]
  rw [e, big_mod, Nat.mul_assoc]
theorem getD_le {l : List Nat} {M : Nat} (h : ∀ x ∈ l, x ≤ M) (i : Nat) (hi : i < l.length) : l.getD i 0 ≤ M := by
  refine h _ ?_
  rw [List.getD_eq_getElem?_getD, List.getElem?_eq_getElem hi]
  simp
/-- The product so far: of the first i digits with all of b, and of digit i with the first k of b. -/
def soFar (a b : List Nat) (i k : Nat) : Nat := valB 65536 (a.take i) * valB 65536 b + a.getD i 0 * 65536 ^ i * valB 65536 (b.take k)
theorem soFar_step (a b : List Nat) (i k : Nat) (hk : k < b.length) : soFar a b i (k + 1) = soFar a b i k + a.getD i 0 * b.getD k 0 * 65536 ^ (i + k) := by
  unfold soFar
  rw [take_val _ _ _ hk, Nat.mul_add, ← Nat.add_assoc]
  congr 1
  rw [Nat.pow_add]
  generalize 65536 ^ i = p
  generalize 65536 ^ k = q
  generalize a.getD i 0 = x
  generalize b.getD k 0 = y
  rw [Nat.mul_assoc, Nat.mul_assoc, Nat.mul_left_comm p y q]
theorem soFar_next (a b : List Nat) (i : Nat) (hi : i < a.length) : soFar a b i b.length = valB 65536 (a.take (i + 1)) * valB 65536 b := by
  unfold soFar
  rw [take_val _ _ _ hi, List.take_length, Nat.add_mul]
theorem soFar_zero (a b : List Nat) (i : Nat) : soFar a b i 0 = valB 65536 (a.take i) * valB 65536 b := by
  unfold soFar; rw [List.take_zero]; rfl
set_option maxHeartbeats 4000000 in
theorem Times_any (x y : Nat) (hx : x < big) (hy : y < big) (wS : World) : Calls Try.prog 43 #[arrV (Md x), arrV (Md y)] wS (AP (Md (x * y % pF)) wS) := by
  have H := AMem.start wS
  obtain ⟨a, ha⟩ : ∃ a, Md x = a := ⟨_, rfl⟩
  obtain ⟨b, hb⟩ : ∃ b, Md y = b := ⟨_, rfl⟩
  have hal : a.length = 16 := by rw [← ha, Md_len]
  have hbl : b.length = 16 := by rw [← hb, Md_len]
  have haW : ∀ x ∈ a, x < 65536 := ha ▸ Md_lt x
  have hbW : ∀ x ∈ b, x < 65536 := hb ▸ Md_lt y
  have hav : valB 65536 a = x := by rw [← ha]; exact Md_val x hx
  have hbv : valB 65536 b = y := by rw [← hb]; exact Md_val y hy
  rw [ha, hb]
  have hml := Md_len (x * y % pF)
  replace haW := Kept.mk haW
  replace hbW := Kept.mk hbW
  replace ha := Kept.mk ha
  replace hb := Kept.mk hb
  replace hav := Kept.mk hav
  replace hbv := Kept.mk hbv
  have hll := Kept.mk (And.intro hal hbl)
  clear hx hy
  unfold arrV
  go_enter Try.func43, Try.ntmps43
  go_wp2_with (first
    | (refine a_box rfl _ rfl _ rfl (by assumption) (by first | assumption | exact limbs_len _ _ _ | exact z16_len) ?_; intro g w H; try simp only [Act.put, List.setIfInBounds_toArray, List.set_cons_succ, List.set_cons_zero])
    | (refine a_alloc rfl rfl (by assumption) ?_; intro g w H; try simp only [Act.put, List.setIfInBounds_toArray, List.set_cons_succ, List.set_cons_zero])
    | (refine a_build rfl rfl ?_; try simp only [Act.put, List.setIfInBounds_toArray, List.set_cons_succ, List.set_cons_zero])
    | (refine a_load rfl _ rfl _ _ rfl (by assumption) (by (first | exact .head _ | exact .tail _ (.head _) | exact .tail _ (.tail _ (.head _)) | exact .tail _ (.tail _ (.tail _ (.head _))) | exact .tail _ (.tail _ (.tail _ (.tail _ (.head _)))))) ?_; try simp only [Act.put, List.setIfInBounds_toArray, List.set_cons_succ, List.set_cons_zero])
    | (refine a_store0 rfl _ _ rfl _ _ _ rfl rfl _ (by assumption) (by first | assumption | exact limbs_len _ _ _ | exact z16_len) ?_; intro w H; try simp only [Act.put, List.setIfInBounds_toArray, List.set_cons_succ, List.set_cons_zero])
    | (refine a_store1 rfl _ _ rfl _ _ _ rfl rfl _ _ (by assumption) (by first | assumption | exact limbs_len _ _ _ | exact z16_len) ?_; intro w H; try simp only [Act.put, List.setIfInBounds_toArray, List.set_cons_succ, List.set_cons_zero])
    | (refine a_store2 rfl _ _ rfl _ _ _ rfl rfl _ _ _ (by assumption) (by first | assumption | exact limbs_len _ _ _ | exact z16_len) ?_; intro w H; try simp only [Act.put, List.setIfInBounds_toArray, List.set_cons_succ, List.set_cons_zero]))
  clear hal hbl
  rename_i ga _ _ gb _ _ gr _ _ _ _ K _
  rename Nat => gy
  go_loopw [6] (fun v6 wr => ∃ (i : Nat) (y : List Nat), i ≤ 16 ∧ v6 = .int .i64 (i : Int) ∧ AMem wS wr [(gy, y), (gr, z16), (gb, b), (ga, a)] ∧ Kept (∀ x ∈ y, x ≤ 163203776550 * (16 * i)) ∧ Kept (valB 65536 y % pF = soFar a b i 0 % pF)) (fun v6 _ => 16 - (RowKit.intOf v6).toNat)
  case atStart => exact ⟨0, z16, by omega, rfl, H, ⟨fun x hx => by unfold z16 at hx; rw [List.eq_of_mem_replicate hx]; omega⟩, ⟨by rw [soFar_zero, List.take_zero]; show valB 65536 z16 % pF = (0 * _) % pF; rw [Nat.zero_mul]; rfl⟩⟩
  case round =>
    clear H
    obtain ⟨i, y0, hi, rfl, H, HB, HV⟩ := hrel
    by_cases hlt : i < 16
    · obtain ⟨p, hp⟩ : ∃ p, a.getD i 0 = p := ⟨_, rfl⟩
      have hpl : p < 65536 := hp ▸ getD_ltN haW.out i (by rw [hll.out.1]; omega)
      have hlti : (i : Int) < 16 := by omega
      replace hp := Kept.mk hp
      go_wp2
      obtain ⟨wo, rfl⟩ : ∃ wo : World, wo = wr := ⟨_, rfl⟩
      go_loopw [7] (fun v7 wr => ∃ (k : Nat) (y : List Nat), k ≤ 16 ∧ v7 = .int .i64 (k : Int) ∧ AMem wS wr [(gy, y), (gr, z16), (gb, b), (ga, a)] ∧ Kept (∀ x ∈ y, x ≤ 163203776550 * (16 * i + k)) ∧ Kept (valB 65536 y % pF = soFar a b i k % pF)) (fun v7 _ => 16 - (RowKit.intOf v7).toNat)
      case atStart => exact ⟨0, y0, by omega, rfl, H, HB, HV⟩
      case round =>
        clear H HB HV
        obtain ⟨k, y, hk, rfl, H, HB, HV⟩ := hrel
        have hyl := Kept.mk (H.len gy y (.head _))
        by_cases hkt : k < 16
        · obtain ⟨q, hq⟩ : ∃ q, b.getD k 0 = q := ⟨_, rfl⟩
          have hql : q < 65536 := hq ▸ getD_ltN hbW.out k (by rw [hll.out.2]; omega)
          have hltk : (k : Int) < 16 := by omega
          obtain ⟨pq, hpq⟩ : ∃ z, p * q = z := ⟨_, rfl⟩
          have hpql : pq ≤ 4294836225 := by
            rw [← hpq]
            exact Nat.mul_le_mul (show p ≤ 65535 by omega) (show q ≤ 65535 by omega)
          have hstep := soFar_step a b i k (by rw [hll.out.2]; omega)
          rw [hp.out, hq, hpq] at hstep
          have c1 := H.hcell (.tail _ (.tail _ (.tail _ (.head _)))) i p hlt hp.out
          have c2 := H.hcell (.tail _ (.tail _ (.head _))) k q hkt hq
          have kij : IntKind.i64.wrap ((i : Int) + (k : Int)) = (i : Int) + (k : Int) := by simp [IntKind.wrap, IntKind.signed, IntKind.bits]; omega
          have kij2 : ((i : Int) + (k : Int)).toNat = i + k := by omega
          replace hq := Kept.mk hq
          replace hstep := Kept.mk hstep
          by_cases hj : i + k < 16
          · obtain ⟨v, hv⟩ : ∃ v, y.getD (i + k) 0 = v := ⟨_, rfl⟩
            have hvl : v ≤ 163203776550 * (16 * i + k) := hv ▸ getD_le HB.out (i + k) (by rw [hyl.out]; omega)
            have c3 := H.hcell (.head _) (i + k) v hj hv
            have hjI : (i : Int) + (k : Int) < 16 := by omega
            have kp : IntKind.i64.wrap ((p : Int) * (q : Int)) = (pq : Int) := by
              rw [← Int.natCast_mul, hpq]
              simp [IntKind.wrap, IntKind.signed, IntKind.bits]; omega
            have hbnd := set_bound y (i + k) (v + pq) (163203776550 * (16 * i + (k + 1))) (fun x hx => Nat.le_trans (HB.out x hx) (by omega)) (by omega)
            have hval := valB_set 65536 y (i + k) pq (by rw [hyl.out]; omega)
            rw [hv] at hval
            have hmod : valB 65536 (y.set (i + k) (v + pq)) % pF = soFar a b i (k + 1) % pF := by
              rw [hval, hstep.out, Nat.add_mod, HV.out, ← Nat.add_mod]
            replace hv := Kept.mk hv
            replace hpq := Kept.mk hpq
            replace hval := Kept.mk hval
            replace hmod := Kept.mk hmod
            replace hbnd := Kept.mk hbnd
            go_wp2
            refine wp_region_from_tail 14 (by kernel_rfl) (by kernel_rfl) ?_
            simp only [List.take_succ_cons, List.take_zero, List.drop_succ_cons, List.drop_zero]
            repeat (first
              | (go_big_quiet_want; (refine a_quiet_load _ rfl _ _ rfl (by assumption) (by (first | exact .head _ | exact .tail _ (.head _) | exact .tail _ (.tail _ (.head _)) | exact .tail _ (.tail _ (.tail _ (.head _))) | exact .tail _ (.tail _ (.tail _ (.tail _ (.head _)))))) ?_); try simp only [Act.put, List.setIfInBounds_toArray, List.set_cons_succ, List.set_cons_zero]; go_big_quiet_on)
              | go_big_quiet_step ((fail)))
            refine wpQuiet_nil ?_
            intro w5 hw5
            have H := H.from hw5
            clear hw5
            clear c1 c2 c3
            have e3 := H.cell (.head _) (i + k) hj
            rw [hv.out] at e3
            have f3 := H.frozen (.head _) (i + k)
            have Hn := H.cell0 (i + k) (v + pq) ((v : Int) + (pq : Int)) (by omega)
            go_wp2
            go_roundw
            case rel => exact ⟨k + 1, y.set (i + k) (v + pq), by omega, val_eq (by omega), Hn, hbnd, hmod⟩
            case measure => simp [RowKit.intOf]; omega
          · obtain ⟨j, hjj⟩ : ∃ j, i + k = 16 + j := ⟨i + k - 16, by omega⟩
            have hj16 : j < 16 := by omega
            obtain ⟨v, hv⟩ : ∃ v, y.getD j 0 = v := ⟨_, rfl⟩
            have hvl : v ≤ 163203776550 * (16 * i + k) := hv ▸ getD_le HB.out j (by rw [hyl.out]; omega)
            have c3 := H.hcell (.head _) j v hj16 hv
            have hjI : ¬ ((i : Int) + (k : Int) < 16) := by omega
            have kjj : IntKind.i64.wrap ((i : Int) + (k : Int) - 16) = (j : Int) := by
              rw [show (i : Int) + (k : Int) - 16 = (j : Int) by omega]
              simp [IntKind.wrap, IntKind.signed, IntKind.bits]; omega
            have kp0 : IntKind.i64.wrap (38 * (p : Int)) = 38 * (p : Int) := by simp [IntKind.wrap, IntKind.signed, IntKind.bits]; omega
            have kp : IntKind.i64.wrap (38 * (p : Int) * (q : Int)) = ((38 * pq : Nat) : Int) := by
              have e : 38 * (p : Int) * (q : Int) = ((38 * pq : Nat) : Int) := by rw [← hpq, Int.natCast_mul, Int.natCast_mul, Int.mul_assoc]; rfl
              rw [e]
              simp [IntKind.wrap, IntKind.signed, IntKind.bits]; omega
            obtain ⟨pq38, h38⟩ : ∃ z, 38 * pq = z := ⟨_, rfl⟩
            rw [h38] at kp
            have h38l : pq38 ≤ 163203776550 := by omega
            have hbnd := set_bound y j (v + pq38) (163203776550 * (16 * i + (k + 1))) (fun x hx => Nat.le_trans (HB.out x hx) (by omega)) (by omega)
            have hval := valB_set 65536 y j pq38 (by rw [hyl.out]; omega)
            rw [hv] at hval
            have hmod : valB 65536 (y.set j (v + pq38)) % pF = soFar a b i (k + 1) % pF := by
              have hpm := part_mod (i + k) pq (valB 65536 y) (by omega)
              rw [show i + k - 16 = j by omega, h38] at hpm
              rw [hval, hpm, hstep.out, Nat.add_mod, HV.out, ← Nat.add_mod]
            replace hv := Kept.mk hv
            replace hpq := Kept.mk hpq
            replace h38 := Kept.mk h38
            replace hval := Kept.mk hval
            replace hmod := Kept.mk hmod
            replace hbnd := Kept.mk hbnd
            replace hjj := Kept.mk hjj
            go_wp2
            refine wp_region_from_tail 16 (by kernel_rfl) (by kernel_rfl) ?_
            simp only [List.take_succ_cons, List.take_zero, List.drop_succ_cons, List.drop_zero]
            repeat (first
              | (go_big_quiet_want; (refine a_quiet_load _ rfl _ _ rfl (by assumption) (by (first | exact .head _ | exact .tail _ (.head _) | exact .tail _ (.tail _ (.head _)) | exact .tail _ (.tail _ (.tail _ (.head _))) | exact .tail _ (.tail _ (.tail _ (.tail _ (.head _)))))) ?_); try simp only [Act.put, List.setIfInBounds_toArray, List.set_cons_succ, List.set_cons_zero]; go_big_quiet_on)
              | go_big_quiet_step ((fail)))
            refine wpQuiet_nil ?_
            intro w5 hw5
            have H := H.from hw5
            clear hw5
            clear c1 c2 c3
            have e3 := H.cell (.head _) j hj16
            rw [hv.out] at e3
            have f3 := H.frozen (.head _) j
            have Hn := H.cell0 j (v + pq38) ((v : Int) + (pq38 : Int)) (by omega)
            go_wp2
            go_roundw
            case rel => exact ⟨k + 1, y.set j (v + pq38), by omega, val_eq (by omega), Hn, hbnd, hmod⟩
            case measure => simp [RowKit.intOf]; omega
        · obtain rfl : k = 16 := by omega
          have hnx := soFar_next a b i (by rw [hll.out.1]; omega)
          rw [hll.out.2] at hnx
          have hV2 : valB 65536 y % pF = soFar a b (i + 1) 0 % pF := by rw [HV.out, hnx, soFar_zero]
          have hB2 : ∀ x ∈ y, x ≤ 163203776550 * (16 * (i + 1)) := fun x hx => Nat.le_trans (HB.out x hx) (by omega)
          replace hnx := Kept.mk hnx
          replace hV2 := Kept.mk hV2
          replace hB2 := Kept.mk hB2
          go_wp2
          go_roundw
          case rel => exact ⟨i + 1, y, by omega, val_eq (by omega), H, hB2, hV2⟩
          case measure => simp [RowKit.intOf]; omega
    · obtain rfl : i = 16 := by omega
      have hyl := H.len gy y0 (.head _)
      have cM := fun w => mod_any y0 hyl (fun x hx => Nat.lt_of_le_of_lt (HB.out x hx) (by omega)) w
      have e : valB 65536 y0 % pF = x * y % pF := by
        rw [HV.out, soFar_zero, List.take_of_length_le (by rw [hll.out.1]; omega), hav.out, hbv.out]
      rw [e] at cM
      replace cM := Kept.mk cM
      clear e HB HV
      go_wp2_with (first
        | (refine a_box rfl _ rfl _ rfl (by assumption) (by first | assumption | exact limbs_len _ _ _ | exact z16_len) ?_; intro g w H; try simp only [Act.put, List.setIfInBounds_toArray, List.set_cons_succ, List.set_cons_zero])
        | (refine a_alloc rfl rfl (by assumption) ?_; intro g w H; try simp only [Act.put, List.setIfInBounds_toArray, List.set_cons_succ, List.set_cons_zero])
        | (refine a_build rfl rfl ?_; try simp only [Act.put, List.setIfInBounds_toArray, List.set_cons_succ, List.set_cons_zero])
        | (refine a_load rfl _ rfl _ _ rfl (by assumption) (by (first | exact .head _ | exact .tail _ (.head _) | exact .tail _ (.tail _ (.head _)) | exact .tail _ (.tail _ (.tail _ (.head _))) | exact .tail _ (.tail _ (.tail _ (.tail _ (.head _)))))) ?_; try simp only [Act.put, List.setIfInBounds_toArray, List.set_cons_succ, List.set_cons_zero])
        | (refine a_store0 rfl _ _ rfl _ _ _ rfl rfl _ (by assumption) (by first | assumption | exact limbs_len _ _ _ | exact z16_len) ?_; intro w H; try simp only [Act.put, List.setIfInBounds_toArray, List.set_cons_succ, List.set_cons_zero])
        | (refine a_store1 rfl _ _ rfl _ _ _ rfl rfl _ _ (by assumption) (by first | assumption | exact limbs_len _ _ _ | exact z16_len) ?_; intro w H; try simp only [Act.put, List.setIfInBounds_toArray, List.set_cons_succ, List.set_cons_zero])
        | (refine a_store2 rfl _ _ rfl _ _ _ rfl rfl _ _ _ (by assumption) (by first | assumption | exact limbs_len _ _ _ | exact z16_len) ?_; intro w H; try simp only [Act.put, List.setIfInBounds_toArray, List.set_cons_succ, List.set_cons_zero])
        | (go_at_call 51; refine a_call (by assumption) (cM.out _) ?_; intro w H))
      exact a_ret Try.results43 _ rfl rfl (by assumption) (by (first | exact .head _ | exact .tail _ (.head _) | exact .tail _ (.tail _ (.head _)) | exact .tail _ (.tail _ (.tail _ (.head _))) | exact .tail _ (.tail _ (.tail _ (.tail _ (.head _)))))) (rfl)
end Go.Proofs.Ytbkaemekcjinaaa
