/- Walks of the document's answer for package field: differences. -/
import Derived.Test.YtbkaemekcjinaaaR2
set_option linter.unusedSimpArgs false
set_option linter.unusedVariables false
namespace Go.Proofs.Ytbkaemekcjinaaa
open Go.RowKit
def lessL : List Nat → List Nat → Nat → List Nat
  | x :: xs, y :: ys, c => (if x < y + c then x + 65536 - y - c else x - y - c) :: lessL xs ys (if x < y + c then 1 else 0)
  | _, _, _ => []
theorem lessL_nil (ys : List Nat) (c : Nat) : lessL [] ys c = [] := by cases ys <;> rfl
theorem lessL_len : ∀ (xs ys : List Nat) (c : Nat), xs.length = ys.length → (lessL xs ys c).length = xs.length
  | [], _, _, _ => by rw [lessL_nil]
  | x :: xs, [], _, h => by simp at h
  | x :: xs, y :: ys, c, h => by rw [lessL, List.length_cons, List.length_cons, lessL_len xs ys _ (by simpa using h)]
theorem lessL_lt : ∀ (xs ys : List Nat) (c : Nat), (∀ x ∈ xs, x < 65536) → ∀ z ∈ lessL xs ys c, z < 65536
  | [], _, _, _, z, h => by rw [lessL_nil] at h; simp at h
  | x :: xs, [], _, _, z, h => by simp [lessL] at h
  | x :: xs, y :: ys, c, hx, z, h => by
    rw [lessL, List.mem_cons] at h
    have := hx x (by simp)
    rcases h with rfl | h
    · split <;> omega
    · exact lessL_lt xs ys _ (fun q hq => hx q (by simp [hq])) z h
theorem lessL_val : ∀ (xs ys : List Nat) (c : Nat), xs.length = ys.length → (∀ x ∈ xs, x < 65536) → (∀ x ∈ ys, x < 65536) → c ≤ 1 → valB 65536 ys + c ≤ valB 65536 xs →
    valB 65536 (lessL xs ys c) + valB 65536 ys + c = valB 65536 xs
  | [], [], c, _, _, _, _, hle => by simp [valB, lessL] at hle ⊢; omega
  | [], y :: ys, _, h, _, _, _, _ => by simp at h
  | x :: xs, [], _, h, _, _, _, _ => by simp at h
  | x :: xs, y :: ys, c, h, hx, hy, hc, hle => by
    have h1 := hx x (by simp)
    have h2 := hy y (by simp)
    simp only [valB] at hle
    by_cases hb : x < y + c
    · have ih := lessL_val xs ys 1 (by simpa using h) (fun z hz => hx z (by simp [hz])) (fun z hz => hy z (by simp [hz])) (by omega) (by omega)
      rw [lessL, if_pos hb, if_pos hb]
      simp only [valB]
      omega
    · have ih := lessL_val xs ys 0 (by simpa using h) (fun z hz => hx z (by simp [hz])) (fun z hz => hy z (by simp [hz])) (by omega) (by omega)
      rw [lessL, if_neg hb, if_neg hb]
      simp only [valB]
      omega
theorem step_set {d l r : List Nat} {i x : Nat} (hd : d.length = i) (hl : l = x :: r) (v : Nat) : (d ++ l).set i v = (d ++ [v]) ++ r := by
  rw [hl, ← hd, set_mid]
theorem step_get {d l r : List Nat} {i x : Nat} (hd : d.length = i) (hl : l = x :: r) : (d ++ l).getD i 0 = x := by
  rw [hl, ← hd]; simp
set_option maxHeartbeats 1000000 in
theorem lessL_any (a b : List Nat) (hal : a.length = 16) (hbl : b.length = 16) (haW : ∀ x ∈ a, x < 65536) (hbW : ∀ x ∈ b, x < 65536) (wS : World) : Calls Try.prog 52 #[arrV a, arrV b] wS (AP (lessL a b 0) wS) := by
  have H := AMem.start wS
  have hll := Kept.mk (And.intro hal hbl)
  have hres : (lessL a b 0).length = 16 := by rw [lessL_len a b 0 (by rw [hal, hbl]), hal]
  obtain ⟨R, hR⟩ : ∃ R, lessL a b 0 = R := ⟨_, rfl⟩
  rw [hR] at hres ⊢
  replace hR := Kept.mk hR
  replace haW := Kept.mk haW
  replace hbW := Kept.mk hbW
  unfold arrV
  go_enter Try.func52, Try.ntmps52
  go_wp2_with (first
    | (refine a_box rfl _ rfl _ rfl (by assumption) (by first | assumption | exact limbs_len _ _ _ | exact z16_len) ?_; intro g w H; try simp only [Act.put, List.setIfInBounds_toArray, List.set_cons_succ, List.set_cons_zero])
    | (refine a_alloc rfl rfl (by assumption) ?_; intro g w H; try simp only [Act.put, List.setIfInBounds_toArray, List.set_cons_succ, List.set_cons_zero])
    | (refine a_build rfl rfl ?_; try simp only [Act.put, List.setIfInBounds_toArray, List.set_cons_succ, List.set_cons_zero])
    | (refine a_load rfl _ rfl _ _ rfl (by assumption) (by (first | exact .head _ | exact .tail _ (.head _) | exact .tail _ (.tail _ (.head _)) | exact .tail _ (.tail _ (.tail _ (.head _))) | exact .tail _ (.tail _ (.tail _ (.tail _ (.head _)))))) ?_; try simp only [Act.put, List.setIfInBounds_toArray, List.set_cons_succ, List.set_cons_zero])
    | (refine a_store0 rfl _ _ rfl _ _ _ rfl rfl _ (by assumption) (by first | assumption | exact limbs_len _ _ _ | exact z16_len) ?_; intro w H; try simp only [Act.put, List.setIfInBounds_toArray, List.set_cons_succ, List.set_cons_zero])
    | (refine a_store1 rfl _ _ rfl _ _ _ rfl rfl _ _ (by assumption) (by first | assumption | exact limbs_len _ _ _ | exact z16_len) ?_; intro w H; try simp only [Act.put, List.setIfInBounds_toArray, List.set_cons_succ, List.set_cons_zero])
    | (refine a_store2 rfl _ _ rfl _ _ _ rfl rfl _ _ _ (by assumption) (by first | assumption | exact limbs_len _ _ _ | exact z16_len) ?_; intro w H; try simp only [Act.put, List.setIfInBounds_toArray, List.set_cons_succ, List.set_cons_zero]))
  clear hal hbl
  rename_i ga _ _ gb _ _ K _
  go_loopw [5, 6] (fun v5 v6 wr => ∃ (i c : Nat) (d : List Nat), i ≤ 16 ∧ c ≤ 1 ∧ v5 = .int .i64 (c : Int) ∧ v6 = .int .i64 (i : Int) ∧ Kept (d.length = i) ∧ AMem wS wr [(g, z16), (gb, b), (ga, d ++ a.drop i)] ∧ Kept (d ++ lessL (a.drop i) (b.drop i) c = R)) (fun _ v6 _ => 16 - (RowKit.intOf v6).toNat)
  case atStart => exact ⟨0, 0, [], by omega, by omega, rfl, rfl, ⟨rfl⟩, H, hR⟩
  case round =>
    clear H
    obtain ⟨i, c, d, hi, hc, rfl, rfl, HD, H, HE⟩ := hrel
    by_cases hlt : i < 16
    · obtain ⟨p, hp⟩ : ∃ p, a.getD i 0 = p := ⟨_, rfl⟩
      obtain ⟨q, hq⟩ : ∃ q, b.getD i 0 = q := ⟨_, rfl⟩
      have hda := drop_getD a i (by rw [hll.out.1]; omega)
      have hdb := drop_getD b i (by rw [hll.out.2]; omega)
      rw [hp] at hda
      rw [hq] at hdb
      have hpl : p < 65536 := hp ▸ getD_ltN haW.out i (by rw [hll.out.1]; omega)
      have hql : q < 65536 := hq ▸ getD_ltN hbW.out i (by rw [hll.out.2]; omega)
      have c1 := H.hcell (.tail _ (.tail _ (.head _))) i p hlt (step_get HD.out hda)
      have c2 := H.hcell (.tail _ (.head _)) i q hlt hq
      have hlti : (i : Int) < 16 := by omega
      have k1 : IntKind.i64.wrap ((p : Int) - (q : Int)) = (p : Int) - (q : Int) := by simp [IntKind.wrap, IntKind.signed, IntKind.bits]; omega
      have k2 : IntKind.i64.wrap ((p : Int) - (q : Int) - (c : Int)) = (p : Int) - (q : Int) - (c : Int) := by simp [IntKind.wrap, IntKind.signed, IntKind.bits]; omega
      replace hp := Kept.mk hp
      replace hq := Kept.mk hq
      replace hda := Kept.mk hda
      replace hdb := Kept.mk hdb
      go_wp2
      refine wp_region_from (by kernel_rfl) (by kernel_rfl) ?_
      repeat (first
        | (go_big_quiet_want; (refine a_quiet_load _ rfl _ _ rfl (by assumption) (by (first | exact .head _ | exact .tail _ (.head _) | exact .tail _ (.tail _ (.head _)) | exact .tail _ (.tail _ (.tail _ (.head _))) | exact .tail _ (.tail _ (.tail _ (.tail _ (.head _)))))) ?_); try simp only [Act.put, List.setIfInBounds_toArray, List.set_cons_succ, List.set_cons_zero]; go_big_quiet_on)
        | go_big_quiet_step ((fail)))
      refine wpQuiet_nil ?_
      intro w5 hw5
      have H := H.from hw5
      clear hw5
      clear c1 c2
      have c3 := H.cell (.tail _ (.tail _ (.head _))) i hlt
      have f3 := H.frozen (.tail _ (.tail _ (.head _))) i
      rw [step_get HD.out hda.out] at c3
      by_cases hu : p < q + c
      · have hn : (p : Int) - (q : Int) - (c : Int) < 0 := by omega
        have hE : d ++ [p + 65536 - q - c] ++ lessL (a.drop (i + 1)) (b.drop (i + 1)) 1 = R := by
          have h := HE.out
          rw [hda.out, hdb.out, lessL, if_pos hu, if_pos hu] at h
          rw [List.append_assoc]; exact h
        have Hn := H.cell2 i (p + 65536 - q - c) ((p : Int) - (q : Int) - (c : Int) + 65536) (by omega)
        rw [step_set HD.out hda.out] at Hn
        replace hE := Kept.mk hE
        go_wp2
        go_roundw
        case rel => exact ⟨i + 1, 1, d ++ [p + 65536 - q - c], by omega, by omega, rfl, val_eq (by omega), ⟨by rw [List.length_append, HD.out]; rfl⟩, Hn, hE⟩
        case measure => simp [RowKit.intOf]; omega
      · have hn : ¬ ((p : Int) - (q : Int) - (c : Int) < 0) := by omega
        have hE : d ++ [p - q - c] ++ lessL (a.drop (i + 1)) (b.drop (i + 1)) 0 = R := by
          have h := HE.out
          rw [hda.out, hdb.out, lessL, if_neg hu, if_neg hu] at h
          rw [List.append_assoc]; exact h
        have Hn := H.cell2 i (p - q - c) ((p : Int) - (q : Int) - (c : Int)) (by omega)
        rw [step_set HD.out hda.out] at Hn
        replace hE := Kept.mk hE
        go_wp2
        go_roundw
        case rel => exact ⟨i + 1, 0, d ++ [p - q - c], by omega, by omega, rfl, val_eq (by omega), ⟨by rw [List.length_append, HD.out]; rfl⟩, Hn, hE⟩
        case measure => simp [RowKit.intOf]; omega
    · obtain rfl : i = 16 := by omega
      have hd : d = R := by
        have h := HE.out
        rw [List.drop_eq_nil_of_le (show a.length ≤ 16 by rw [hll.out.1]; omega), lessL_nil, List.append_nil] at h
        exact h
      have hdl : (d ++ a.drop 16).length = 16 := by rw [List.length_append, HD.out, List.length_drop, hll.out.1]
      have hfin : d ++ a.drop 16 = R := by rw [List.drop_eq_nil_of_le (by rw [hll.out.1]; omega), List.append_nil, hd]
      rw [hfin] at H
      clear hdl hfin hd HE
      go_wp2_with (first
        | (refine a_box rfl _ rfl _ rfl (by assumption) (by first | assumption | exact limbs_len _ _ _ | exact z16_len) ?_; intro g w H; try simp only [Act.put, List.setIfInBounds_toArray, List.set_cons_succ, List.set_cons_zero])
        | (refine a_alloc rfl rfl (by assumption) ?_; intro g w H; try simp only [Act.put, List.setIfInBounds_toArray, List.set_cons_succ, List.set_cons_zero])
        | (refine a_build rfl rfl ?_; try simp only [Act.put, List.setIfInBounds_toArray, List.set_cons_succ, List.set_cons_zero])
        | (refine a_load rfl _ rfl _ _ rfl (by assumption) (by (first | exact .head _ | exact .tail _ (.head _) | exact .tail _ (.tail _ (.head _)) | exact .tail _ (.tail _ (.tail _ (.head _))) | exact .tail _ (.tail _ (.tail _ (.tail _ (.head _)))))) ?_; try simp only [Act.put, List.setIfInBounds_toArray, List.set_cons_succ, List.set_cons_zero])
        | (refine a_store0 rfl _ _ rfl _ _ _ rfl rfl _ (by assumption) (by first | assumption | exact limbs_len _ _ _ | exact z16_len) ?_; intro w H; try simp only [Act.put, List.setIfInBounds_toArray, List.set_cons_succ, List.set_cons_zero])
        | (refine a_store1 rfl _ _ rfl _ _ _ rfl rfl _ _ (by assumption) (by first | assumption | exact limbs_len _ _ _ | exact z16_len) ?_; intro w H; try simp only [Act.put, List.setIfInBounds_toArray, List.set_cons_succ, List.set_cons_zero])
        | (refine a_store2 rfl _ _ rfl _ _ _ rfl rfl _ _ _ (by assumption) (by first | assumption | exact limbs_len _ _ _ | exact z16_len) ?_; intro w H; try simp only [Act.put, List.setIfInBounds_toArray, List.set_cons_succ, List.set_cons_zero]))
      exact a_ret Try.results52 _ rfl rfl (by assumption) (by (first | exact .head _ | exact .tail _ (.head _) | exact .tail _ (.tail _ (.head _)) | exact .tail _ (.tail _ (.tail _ (.head _))) | exact .tail _ (.tail _ (.tail _ (.tail _ (.head _)))))) (rfl)
theorem less_any (x y : Nat) (hx : x < big) (hle : y ≤ x) (wS : World) : Calls Try.prog 52 #[arrV (Md x), arrV (Md y)] wS (AP (Md (x - y)) wS) := by
  have h := lessL_any (Md x) (Md y) (Md_len x) (Md_len y) (Md_lt x) (Md_lt y) wS
  have hv := lessL_val (Md x) (Md y) 0 (by rw [Md_len, Md_len]) (Md_lt x) (Md_lt y) (by omega) (by rw [Md_val x hx, Md_val y (by omega)]; exact hle)
  rw [Md_val x hx, Md_val y (by omega)] at hv
  rw [Md_of (lessL (Md x) (Md y) 0) (x - y) (by rw [lessL_len _ _ _ (by rw [Md_len, Md_len]), Md_len]) (lessL_lt _ _ _ (Md_lt x)) (by omega)] at h
  exact h
end Go.Proofs.Ytbkaemekcjinaaa
