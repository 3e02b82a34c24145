/- Walks of the document's answer for package field: sums and differences modulo p. -/
import Derived.Test.YtbkaemekcjinaaaR4
set_option linter.unusedSimpArgs false
set_option linter.unusedVariables false
namespace Go.Proofs.Ytbkaemekcjinaaa
open Go.RowKit
def zipA : List Nat → List Nat → List Nat
  | x :: xs, y :: ys => (x + y) :: zipA xs ys
  | _, _ => []
theorem zipA_nil (ys : List Nat) : zipA [] ys = [] := by cases ys <;> rfl
theorem zipA_len : ∀ (xs ys : List Nat), xs.length = ys.length → (zipA xs ys).length = xs.length
  | [], _, _ => by rw [zipA_nil]
  | x :: xs, [], h => by simp at h
  | x :: xs, y :: ys, h => by rw [zipA, List.length_cons, List.length_cons, zipA_len xs ys (by simpa using h)]
theorem zipA_val (B : Nat) : ∀ (xs ys : List Nat), xs.length = ys.length → valB B (zipA xs ys) = valB B xs + valB B ys
  | [], [], _ => rfl
  | [], y :: ys, h => by simp at h
  | x :: xs, [], h => by simp at h
  | x :: xs, y :: ys, h => by
    rw [zipA, valB, zipA_val B xs ys (by simpa using h), valB, valB, Nat.mul_add]
    omega
theorem zipA_lt : ∀ (xs ys : List Nat), (∀ x ∈ xs, x < 65536) → (∀ x ∈ ys, x < 65536) → ∀ z ∈ zipA xs ys, z < 281474976710656
  | [], _, _, _, z, h => by rw [zipA_nil] at h; simp at h
  | x :: xs, [], _, _, z, h => by simp [zipA] at h
  | x :: xs, y :: ys, hx, hy, z, h => by
    rw [zipA, List.mem_cons] at h
    have h1 := hx x (by simp)
    have h2 := hy y (by simp)
    rcases h with rfl | h
    · omega
    · exact zipA_lt xs ys (fun q hq => hx q (by simp [hq])) (fun q hq => hy q (by simp [hq])) z h
set_option maxHeartbeats 1000000 in
theorem Plus_any (x y : Nat) (hx : x < big) (hy : y < big) (wS : World) : Calls Try.prog 40 #[arrV (Md x), arrV (Md y)] wS (AP (Md ((x + y) % pF)) wS) := by
  have H := AMem.start wS
  obtain ⟨a, ha⟩ : ∃ a, Md x = a := ⟨_, rfl⟩
  obtain ⟨b, hb⟩ : ∃ b, Md y = b := ⟨_, rfl⟩
  have hal : a.length = 16 := by rw [← ha, Md_len]
  have hbl : b.length = 16 := by rw [← hb, Md_len]
  have haW : ∀ x ∈ a, x < 65536 := ha ▸ Md_lt x
  have hbW : ∀ x ∈ b, x < 65536 := hb ▸ Md_lt y
  have hzl : (zipA a b).length = 16 := by rw [zipA_len a b (by rw [hal, hbl]), hal]
  have cM := fun w => mod_any (zipA a b) hzl (zipA_lt a b haW hbW) w
  rw [zipA_val 65536 a b (by rw [hal, hbl]), ← ha, ← hb, Md_val x hx, Md_val y hy, ha, hb] at cM
  rw [ha, hb]
  obtain ⟨R, hR⟩ : ∃ R, zipA a b = R := ⟨_, rfl⟩
  rw [hR] at cM hzl
  replace cM := Kept.mk cM
  replace hR := Kept.mk hR
  replace haW := Kept.mk haW
  replace hbW := Kept.mk hbW
  replace ha := Kept.mk ha
  replace hb := Kept.mk hb
  have hll := Kept.mk (And.intro hal hbl)
  have hml := Md_len ((x + y) % pF)
  clear hx hy
  unfold arrV
  go_enter Try.func40, Try.ntmps40
  go_wp2_with (first
    | (refine a_box rfl _ rfl _ rfl (by assumption) (by first | assumption | exact limbs_len _ _ _ | exact z16_len) ?_; intro g w H; try simp only [Act.put, List.setIfInBounds_toArray, List.set_cons_succ, List.set_cons_zero])
    | (refine a_alloc rfl rfl (by assumption) ?_; intro g w H; try simp only [Act.put, List.setIfInBounds_toArray, List.set_cons_succ, List.set_cons_zero])
    | (refine a_build rfl rfl ?_; try simp only [Act.put, List.setIfInBounds_toArray, List.set_cons_succ, List.set_cons_zero])
    | (refine a_load rfl _ rfl _ _ rfl (by assumption) (by (first | exact .head _ | exact .tail _ (.head _) | exact .tail _ (.tail _ (.head _)) | exact .tail _ (.tail _ (.tail _ (.head _))) | exact .tail _ (.tail _ (.tail _ (.tail _ (.head _)))))) ?_; try simp only [Act.put, List.setIfInBounds_toArray, List.set_cons_succ, List.set_cons_zero])
    | (refine a_store0 rfl _ _ rfl _ _ _ rfl rfl _ (by assumption) (by first | assumption | exact limbs_len _ _ _ | exact z16_len) ?_; intro w H; try simp only [Act.put, List.setIfInBounds_toArray, List.set_cons_succ, List.set_cons_zero])
    | (refine a_store1 rfl _ _ rfl _ _ _ rfl rfl _ _ (by assumption) (by first | assumption | exact limbs_len _ _ _ | exact z16_len) ?_; intro w H; try simp only [Act.put, List.setIfInBounds_toArray, List.set_cons_succ, List.set_cons_zero])
    | (refine a_store2 rfl _ _ rfl _ _ _ rfl rfl _ _ _ (by assumption) (by first | assumption | exact limbs_len _ _ _ | exact z16_len) ?_; intro w H; try simp only [Act.put, List.setIfInBounds_toArray, List.set_cons_succ, List.set_cons_zero]))
  clear hal hbl
  rename_i ga _ _ gb _ _ K _
  rename Nat => gr
  go_loopw [5] (fun v5 wr => ∃ (i : Nat) (d : List Nat), i ≤ 16 ∧ v5 = .int .i64 (i : Int) ∧ Kept (d.length = i) ∧ AMem wS wr [(gr, z16), (gb, b), (ga, d ++ a.drop i)] ∧ Kept (d ++ zipA (a.drop i) (b.drop i) = R)) (fun v5 _ => 16 - (RowKit.intOf v5).toNat)
  case atStart => exact ⟨0, [], by omega, rfl, ⟨rfl⟩, H, hR⟩
  case round =>
    clear H
    obtain ⟨i, d, hi, rfl, HD, H, HE⟩ := hrel
    by_cases hlt : i < 16
    · obtain ⟨p, hp⟩ : ∃ p, a.getD i 0 = p := ⟨_, rfl⟩
      obtain ⟨q, hq⟩ : ∃ q, b.getD i 0 = q := ⟨_, rfl⟩
      have hda := drop_getD a i (by rw [hll.out.1]; omega)
      have hdb := drop_getD b i (by rw [hll.out.2]; omega)
      rw [hp] at hda
      rw [hq] at hdb
      have hpl : p < 65536 := hp ▸ getD_ltN haW.out i (by rw [hll.out.1]; omega)
      have hql : q < 65536 := hq ▸ getD_ltN hbW.out i (by rw [hll.out.2]; omega)
      have c1 := H.hcell (.tail _ (.tail _ (.head _))) i p hlt (step_get HD.out hda)
      have c2 := H.hcell (.tail _ (.head _)) i q hlt hq
      have hlti : (i : Int) < 16 := by omega
      have hE : d ++ [p + q] ++ zipA (a.drop (i + 1)) (b.drop (i + 1)) = R := by
        have h := HE.out
        rw [hda, hdb, zipA] at h
        rw [List.append_assoc]; exact h
      replace hE := Kept.mk hE
      replace hp := Kept.mk hp
      replace hq := Kept.mk hq
      replace hda := Kept.mk hda
      replace hdb := Kept.mk hdb
      go_wp2
      refine wp_region_from_tail 8 (by kernel_rfl) (by kernel_rfl) ?_
      simp only [List.take_succ_cons, List.take_zero, List.drop_succ_cons, List.drop_zero]
      repeat (first
        | (go_big_quiet_want; (refine a_quiet_load _ rfl _ _ rfl (by assumption) (by (first | exact .head _ | exact .tail _ (.head _) | exact .tail _ (.tail _ (.head _)) | exact .tail _ (.tail _ (.tail _ (.head _))) | exact .tail _ (.tail _ (.tail _ (.tail _ (.head _)))))) ?_); try simp only [Act.put, List.setIfInBounds_toArray, List.set_cons_succ, List.set_cons_zero]; go_big_quiet_on)
        | go_big_quiet_step ((fail)))
      refine wpQuiet_nil ?_
      intro w5 hw5
      have H := H.from hw5
      clear hw5
      clear c1 c2
      have c3 := H.cell (.tail _ (.tail _ (.head _))) i hlt
      have f3 := H.frozen (.tail _ (.tail _ (.head _))) i
      rw [step_get HD.out hda.out] at c3
      have Hn := H.cell2 i (p + q) ((p : Int) + (q : Int)) (by omega)
      rw [step_set HD.out hda.out] at Hn
      go_wp2
      go_roundw
      case rel => exact ⟨i + 1, d ++ [p + q], by omega, val_eq (by omega), ⟨by rw [List.length_append, HD.out]; rfl⟩, Hn, hE⟩
      case measure => simp [RowKit.intOf]; omega
    · obtain rfl : i = 16 := by omega
      have hfin : d ++ a.drop 16 = R := by
        have h := HE.out
        rw [List.drop_eq_nil_of_le (show a.length ≤ 16 by rw [hll.out.1]; omega), zipA_nil] at h
        rw [List.drop_eq_nil_of_le (show a.length ≤ 16 by rw [hll.out.1]; omega)]
        exact h
      rw [hfin] at H
      clear hfin HE
      go_wp2_with (first
        | (refine a_box rfl _ rfl _ rfl (by assumption) (by first | assumption | exact limbs_len _ _ _ | exact z16_len) ?_; intro g w H; try simp only [Act.put, List.setIfInBounds_toArray, List.set_cons_succ, List.set_cons_zero])
        | (refine a_alloc rfl rfl (by assumption) ?_; intro g w H; try simp only [Act.put, List.setIfInBounds_toArray, List.set_cons_succ, List.set_cons_zero])
        | (refine a_build rfl rfl ?_; try simp only [Act.put, List.setIfInBounds_toArray, List.set_cons_succ, List.set_cons_zero])
        | (refine a_load rfl _ rfl _ _ rfl (by assumption) (by (first | exact .head _ | exact .tail _ (.head _) | exact .tail _ (.tail _ (.head _)) | exact .tail _ (.tail _ (.tail _ (.head _))) | exact .tail _ (.tail _ (.tail _ (.tail _ (.head _)))))) ?_; try simp only [Act.put, List.setIfInBounds_toArray, List.set_cons_succ, List.set_cons_zero])
        | (refine a_store0 rfl _ _ rfl _ _ _ rfl rfl _ (by assumption) (by first | assumption | exact limbs_len _ _ _ | exact z16_len) ?_; intro w H; try simp only [Act.put, List.setIfInBounds_toArray, List.set_cons_succ, List.set_cons_zero])
        | (refine a_store1 rfl _ _ rfl _ _ _ rfl rfl _ _ (by assumption) (by first | assumption | exact limbs_len _ _ _ | exact z16_len) ?_; intro w H; try simp only [Act.put, List.setIfInBounds_toArray, List.set_cons_succ, List.set_cons_zero])
        | (refine a_store2 rfl _ _ rfl _ _ _ rfl rfl _ _ _ (by assumption) (by first | assumption | exact limbs_len _ _ _ | exact z16_len) ?_; intro w H; try simp only [Act.put, List.setIfInBounds_toArray, List.set_cons_succ, List.set_cons_zero])
        | (go_at_call 51; refine a_call (by assumption) (cM.out _) ?_; intro w H))
      exact a_ret Try.results40 _ rfl rfl (by assumption) (by (first | exact .head _ | exact .tail _ (.head _) | exact .tail _ (.tail _ (.head _)) | exact .tail _ (.tail _ (.tail _ (.head _))) | exact .tail _ (.tail _ (.tail _ (.tail _ (.head _)))))) (rfl)
set_option maxHeartbeats 1000000 in
theorem Minus_any (x y : Nat) (hx : x < big) (hy : y ≤ pF) (wS : World) : Calls Try.prog 31 #[arrV (Md x), arrV (Md y)] wS (AP (Md ((x + (pF - y)) % pF)) wS) := by
  have H := AMem.start wS
  have cL := Kept.mk fun w => less_any pF y p_bigR hy w
  have cP := Kept.mk fun w => Plus_any x (pF - y) hx (by have := p_bigR; omega) w
  have h1 := Md_len x
  have h2 := Md_len y
  have h3 := Md_len ((x + (pF - y)) % pF)
  clear hx hy
  unfold arrV
  go_enter Try.func31, Try.ntmps31
  go_wp2_with (first
    | (refine a_box rfl _ rfl _ rfl (by assumption) (by first | assumption | exact limbs_len _ _ _ | exact z16_len) ?_; intro g w H; try simp only [Act.put, List.setIfInBounds_toArray, List.set_cons_succ, List.set_cons_zero])
    | (refine a_alloc rfl rfl (by assumption) ?_; intro g w H; try simp only [Act.put, List.setIfInBounds_toArray, List.set_cons_succ, List.set_cons_zero])
    | (refine a_build rfl rfl ?_; try simp only [Act.put, List.setIfInBounds_toArray, List.set_cons_succ, List.set_cons_zero])
    | (refine a_load rfl _ rfl _ _ rfl (by assumption) (by (first | exact .head _ | exact .tail _ (.head _) | exact .tail _ (.tail _ (.head _)) | exact .tail _ (.tail _ (.tail _ (.head _))) | exact .tail _ (.tail _ (.tail _ (.tail _ (.head _)))))) ?_; try simp only [Act.put, List.setIfInBounds_toArray, List.set_cons_succ, List.set_cons_zero])
    | (refine a_store0 rfl _ _ rfl _ _ _ rfl rfl _ (by assumption) (by first | assumption | exact limbs_len _ _ _ | exact z16_len) ?_; intro w H; try simp only [Act.put, List.setIfInBounds_toArray, List.set_cons_succ, List.set_cons_zero])
    | (refine a_store1 rfl _ _ rfl _ _ _ rfl rfl _ _ (by assumption) (by first | assumption | exact limbs_len _ _ _ | exact z16_len) ?_; intro w H; try simp only [Act.put, List.setIfInBounds_toArray, List.set_cons_succ, List.set_cons_zero])
    | (refine a_store2 rfl _ _ rfl _ _ _ rfl rfl _ _ _ (by assumption) (by first | assumption | exact limbs_len _ _ _ | exact z16_len) ?_; intro w H; try simp only [Act.put, List.setIfInBounds_toArray, List.set_cons_succ, List.set_cons_zero]))
  refine wp_region_from_tail 5 (by kernel_rfl) (by kernel_rfl) ?_
  simp only [List.take_succ_cons, List.take_zero, List.drop_succ_cons, List.drop_zero]
  repeat (first
    | (go_big_quiet_want; (refine a_quiet_load _ rfl _ _ rfl (by assumption) (by (first | exact .head _ | exact .tail _ (.head _) | exact .tail _ (.tail _ (.head _)) | exact .tail _ (.tail _ (.tail _ (.head _))) | exact .tail _ (.tail _ (.tail _ (.tail _ (.head _)))))) ?_); try simp only [Act.put, List.setIfInBounds_toArray, List.set_cons_succ, List.set_cons_zero]; go_big_quiet_on)
    | go_big_quiet_step (((first | (go_at_call 33; exact held_call _ (P_any _)) | (go_at_call 52; exact held_call _ (cL.out _)) | (go_at_call 40; exact held_call _ (cP.out _))))))
  refine wpQuiet_nil ?_
  intro w5 hw5
  have H := H.from hw5
  clear hw5
  go_wp2_with (first
    | (refine a_box rfl _ rfl _ rfl (by assumption) (by first | assumption | exact limbs_len _ _ _ | exact z16_len) ?_; intro g w H; try simp only [Act.put, List.setIfInBounds_toArray, List.set_cons_succ, List.set_cons_zero])
    | (refine a_alloc rfl rfl (by assumption) ?_; intro g w H; try simp only [Act.put, List.setIfInBounds_toArray, List.set_cons_succ, List.set_cons_zero])
    | (refine a_build rfl rfl ?_; try simp only [Act.put, List.setIfInBounds_toArray, List.set_cons_succ, List.set_cons_zero])
    | (refine a_load rfl _ rfl _ _ rfl (by assumption) (by (first | exact .head _ | exact .tail _ (.head _) | exact .tail _ (.tail _ (.head _)) | exact .tail _ (.tail _ (.tail _ (.head _))) | exact .tail _ (.tail _ (.tail _ (.tail _ (.head _)))))) ?_; try simp only [Act.put, List.setIfInBounds_toArray, List.set_cons_succ, List.set_cons_zero])
    | (refine a_store0 rfl _ _ rfl _ _ _ rfl rfl _ (by assumption) (by first | assumption | exact limbs_len _ _ _ | exact z16_len) ?_; intro w H; try simp only [Act.put, List.setIfInBounds_toArray, List.set_cons_succ, List.set_cons_zero])
    | (refine a_store1 rfl _ _ rfl _ _ _ rfl rfl _ _ (by assumption) (by first | assumption | exact limbs_len _ _ _ | exact z16_len) ?_; intro w H; try simp only [Act.put, List.setIfInBounds_toArray, List.set_cons_succ, List.set_cons_zero])
    | (refine a_store2 rfl _ _ rfl _ _ _ rfl rfl _ _ _ (by assumption) (by first | assumption | exact limbs_len _ _ _ | exact z16_len) ?_; intro w H; try simp only [Act.put, List.setIfInBounds_toArray, List.set_cons_succ, List.set_cons_zero]))
  exact a_ret Try.results31 _ rfl rfl (by assumption) (by (first | exact .head _ | exact .tail _ (.head _) | exact .tail _ (.tail _ (.head _)) | exact .tail _ (.tail _ (.tail _ (.head _))) | exact .tail _ (.tail _ (.tail _ (.tail _ (.head _)))))) (rfl)
end Go.Proofs.Ytbkaemekcjinaaa
