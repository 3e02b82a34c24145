/- Walks of the document's answer for package field: small numbers; which is below; differences. -/
import Derived.Test.YtbkaemekcjinaaaR1
set_option linter.unusedSimpArgs false
set_option linter.unusedVariables false
namespace Go.Proofs.Ytbkaemekcjinaaa
open Go.RowKit
theorem small_list (n : Nat) (h : n < 4294967296) : ((z16.set 0 (n % 65536)).set 1 (n / 65536)) = Md n := by
  refine Md_of _ _ (by simp [z16_len]) ?_ ?_
  · intro x hx
    simp [z16, List.replicate] at hx
    rcases hx with rfl | rfl | rfl
    · omega
    · omega
    · omega
  · simp [z16, List.replicate, valB]
    omega
set_option maxHeartbeats 1000000 in
theorem Small_any (n : Nat) (h : n < 4294967296) (wS : World) : Calls Try.prog 32 #[.int .i64 (n : Int)] wS (AP (Md n) wS) := by
  have H := AMem.start wS
  have he := Kept.mk (small_list n h)
  have h0 : (0 : Int) ≤ (n : Int) := by omega
  have h1 : (n : Int) < 4294967296 := by omega
  clear h
  go_enter Try.func32, Try.ntmps32
  go_wp2_with (first
    | (refine a_box rfl _ rfl _ rfl (by assumption) (by first | assumption | exact limbs_len _ _ _ | exact z16_len) ?_; intro g w H; try simp only [Act.put, List.setIfInBounds_toArray, List.set_cons_succ, List.set_cons_zero])
    | (refine a_alloc rfl rfl (by assumption) ?_; intro g w H; try simp only [Act.put, List.setIfInBounds_toArray, List.set_cons_succ, List.set_cons_zero])
    | (refine a_build rfl rfl ?_; try simp only [Act.put, List.setIfInBounds_toArray, List.set_cons_succ, List.set_cons_zero])
    | (refine a_load rfl _ rfl _ _ rfl (by assumption) (by (first | exact .head _ | exact .tail _ (.head _) | exact .tail _ (.tail _ (.head _)) | exact .tail _ (.tail _ (.tail _ (.head _))) | exact .tail _ (.tail _ (.tail _ (.tail _ (.head _)))))) ?_; try simp only [Act.put, List.setIfInBounds_toArray, List.set_cons_succ, List.set_cons_zero])
    | (refine a_store0 rfl _ _ rfl _ _ _ rfl rfl _ (by assumption) (by first | assumption | exact limbs_len _ _ _ | exact z16_len) ?_; intro w H; have c0 := H.cell (.head _) 0 (by omega); have f0 := H.frozen (.head _) 0; have c1 := H.cell (.head _) 1 (by omega); have f1 := H.frozen (.head _) 1; have Hm := (H.cell0 0 (n % 65536) ((n : Int) % 65536) (by omega)).cell0 1 (n / 65536) ((n : Int) / 65536) (by omega); have hl : ((z16.set 0 (n % 65536)).set 1 (n / 65536)).length = 16 := by simp [z16_len]; try simp only [Act.put, List.setIfInBounds_toArray, List.set_cons_succ, List.set_cons_zero])
    | (refine a_store1 rfl _ _ rfl _ _ _ rfl rfl _ _ (by assumption) (by first | assumption | exact limbs_len _ _ _ | exact z16_len) ?_; intro w H; try simp only [Act.put, List.setIfInBounds_toArray, List.set_cons_succ, List.set_cons_zero]))
  exact a_ret Try.results32 _ rfl rfl (by assumption) (by (first | exact .head _ | exact .tail _ (.head _) | exact .tail _ (.tail _ (.head _)) | exact .tail _ (.tail _ (.tail _ (.head _))) | exact .tail _ (.tail _ (.tail _ (.tail _ (.head _)))))) (he.out)
theorem top_ltB (B : Nat) (hB : 0 < B) (a b : List Nat) (k : Nat) (hl : a.length = b.length) (hk : k < a.length) (ha : ∀ x ∈ a, x < B) (h : a.drop (k + 1) = b.drop (k + 1)) (hlt : a.getD k 0 < b.getD k 0) : valB B a < valB B b := by
  have split : ∀ (l : List Nat) (k : Nat), k ≤ l.length → valB B l = valB B (l.take k) + B ^ k * valB B (l.drop k) := by
    intro l k
    induction k generalizing l with
    | zero => intro _; simp [valB]
    | succ k ih =>
      intro h
      cases l with
      | nil => simp at h
      | cons x r =>
        rw [List.take_succ_cons, List.drop_succ_cons, valB, valB, ih r (by simpa using h), Nat.mul_add, Nat.pow_succ, Nat.mul_comm (B ^ k) B, Nat.mul_assoc]
        omega
  rw [split a k (by omega), split b k (by omega), drop_getD a k hk, drop_getD b k (by omega), valB, valB, h]
  have h1 := valB_lt hB (a.take k) fun x hx => ha x (List.mem_of_mem_take hx)
  rw [List.length_take, Nat.min_eq_left (by omega)] at h1
  generalize B * valB B (b.drop (k + 1)) = v
  have h2 : B ^ k * (a.getD k 0 + v + 1) ≤ B ^ k * (b.getD k 0 + v) := Nat.mul_le_mul_left _ (by omega)
  rw [Nat.mul_add _ _ 1, Nat.mul_one] at h2
  omega
set_option maxHeartbeats 1000000 in
theorem Below_any (x y : Nat) (hx : x < big) (hy : y < big) (wS : World) : Calls Try.prog 35 #[arrV (Md x), arrV (Md y)] wS fun e w' => e = .returned (.bool (decide (x < y))) ∧ Below wS.heap.size wS w' := by
  have H := AMem.start wS
  obtain ⟨a, ha⟩ : ∃ a, Md x = a := ⟨_, rfl⟩
  obtain ⟨b, hb⟩ : ∃ b, Md y = b := ⟨_, rfl⟩
  have hal : a.length = 16 := by rw [← ha, Md_len]
  have hbl : b.length = 16 := by rw [← hb, Md_len]
  have haW : ∀ x ∈ a, x < 65536 := ha ▸ Md_lt x
  have hbW : ∀ x ∈ b, x < 65536 := hb ▸ Md_lt y
  have hav : valB 65536 a = x := by rw [← ha]; exact Md_val x hx
  have hbv : valB 65536 b = y := by rw [← hb]; exact Md_val y hy
  rw [ha, hb]
  have hlt1 : ∀ k, k < 16 → a.drop (k + 1) = b.drop (k + 1) → a.getD k 0 < b.getD k 0 → x < y := fun k hk h h2 => by
    rw [← hav, ← hbv]; exact top_ltB 65536 (by decide) a b k (by rw [hal, hbl]) (by rw [hal]; exact hk) haW h h2
  have hlt2 : ∀ k, k < 16 → a.drop (k + 1) = b.drop (k + 1) → b.getD k 0 < a.getD k 0 → y < x := fun k hk h h2 => by
    rw [← hav, ← hbv]; exact top_ltB 65536 (by decide) b a k (by rw [hal, hbl]) (by rw [hbl]; exact hk) hbW h.symm h2
  have hcc := Kept.mk (And.intro hlt1 hlt2)
  replace hav := Kept.mk hav
  replace hbv := Kept.mk hbv
  replace haW := Kept.mk haW
  replace hbW := Kept.mk hbW
  replace ha := Kept.mk ha
  replace hb := Kept.mk hb
  have hll := Kept.mk (And.intro hal hbl)
  clear hx hy hlt1 hlt2
  unfold arrV
  go_enter Try.func35, Try.ntmps35
  go_wp2_with (first
    | (refine a_box rfl _ rfl _ rfl (by assumption) (by first | assumption | exact limbs_len _ _ _ | exact z16_len) ?_; intro g w H; try simp only [Act.put, List.setIfInBounds_toArray, List.set_cons_succ, List.set_cons_zero])
    | (refine a_alloc rfl rfl (by assumption) ?_; intro g w H; try simp only [Act.put, List.setIfInBounds_toArray, List.set_cons_succ, List.set_cons_zero])
    | (refine a_build rfl rfl ?_; try simp only [Act.put, List.setIfInBounds_toArray, List.set_cons_succ, List.set_cons_zero])
    | (refine a_load rfl _ rfl _ _ rfl (by assumption) (by (first | exact .head _ | exact .tail _ (.head _) | exact .tail _ (.tail _ (.head _)) | exact .tail _ (.tail _ (.tail _ (.head _))) | exact .tail _ (.tail _ (.tail _ (.tail _ (.head _)))))) ?_; try simp only [Act.put, List.setIfInBounds_toArray, List.set_cons_succ, List.set_cons_zero])
    | (refine a_store0 rfl _ _ rfl _ _ _ rfl rfl _ (by assumption) (by first | assumption | exact limbs_len _ _ _ | exact z16_len) ?_; intro w H; try simp only [Act.put, List.setIfInBounds_toArray, List.set_cons_succ, List.set_cons_zero])
    | (refine a_store1 rfl _ _ rfl _ _ _ rfl rfl _ _ (by assumption) (by first | assumption | exact limbs_len _ _ _ | exact z16_len) ?_; intro w H; try simp only [Act.put, List.setIfInBounds_toArray, List.set_cons_succ, List.set_cons_zero])
    | (refine a_store2 rfl _ _ rfl _ _ _ rfl rfl _ _ _ (by assumption) (by first | assumption | exact limbs_len _ _ _ | exact z16_len) ?_; intro w H; try simp only [Act.put, List.setIfInBounds_toArray, List.set_cons_succ, List.set_cons_zero]))
  clear hal hbl
  rename_i ga _ _ K _
  go_loopw [5] (fun v5 wr => ∃ (k : Nat), k ≤ 16 ∧ v5 = .int .i64 ((k : Int) - 1) ∧ Kept (a.drop k = b.drop k) ∧ AMem wS wr [(g, b), (ga, a)]) (fun v5 _ => (RowKit.intOf v5 + 1).toNat)
  case atStart => exact ⟨16, by omega, rfl, ⟨by rw [List.drop_eq_nil_of_le (by rw [hll.out.1]; omega), List.drop_eq_nil_of_le (by rw [hll.out.2]; omega)]⟩, H⟩
  case round =>
    clear H
    obtain ⟨k, hk, rfl, HD, H⟩ := hrel
    cases k with
    | zero =>
      rw [show ((0 : Nat) : Int) - 1 = -1 from rfl]
      go_wp2
      go_ret
      refine ⟨?_, H.below⟩
      have hab : a = b := HD.out
      have : ¬ x < y := by rw [← hav.out, ← hbv.out, hab]; omega
      rw [decide_eq_false this]
      rfl
    | succ k =>
      rw [show ((k + 1 : Nat) : Int) - 1 = (k : Int) by omega]
      obtain ⟨p, hp⟩ : ∃ p, a.getD k 0 = p := ⟨_, rfl⟩
      obtain ⟨q, hq⟩ : ∃ q, b.getD k 0 = q := ⟨_, rfl⟩
      have c1 := H.hcell (.tail _ (.head _)) k p (by omega) hp
      have c2 := H.hcell (.head _) k q (by omega) hq
      have hkI : (0 : Int) ≤ (k : Int) := by omega
      have hkJ : (k : Int) < 16 := by omega
      by_cases hyz : p = q
      · have e1 : ((p : Int) != (q : Int)) = false := by simp [hyz]
        have hdr : a.drop k = b.drop k := by rw [drop_getD a k (by rw [hll.out.1]; omega), drop_getD b k (by rw [hll.out.2]; omega), hp, hq, hyz, HD.out]
        replace hyz := Kept.mk hyz
        replace hdr := Kept.mk hdr
        replace hp := Kept.mk hp
        replace hq := Kept.mk hq
        go_wp2
        refine wp_region_from (by kernel_rfl) (by kernel_rfl) ?_
        repeat (first
          | (go_big_quiet_want; (refine a_quiet_load _ rfl _ _ rfl (by assumption) (by (first | exact .head _ | exact .tail _ (.head _) | exact .tail _ (.tail _ (.head _)) | exact .tail _ (.tail _ (.tail _ (.head _))) | exact .tail _ (.tail _ (.tail _ (.tail _ (.head _)))))) ?_); try simp only [Act.put, List.setIfInBounds_toArray, List.set_cons_succ, List.set_cons_zero]; go_big_quiet_on)
          | go_big_quiet_step ((fail)))
        refine wpQuiet_nil ?_
        intro w5 hw5
        have H := H.from hw5
        clear hw5
        clear c1 c2
        go_wp2
        go_roundw
        case rel => exact ⟨k, by omega, rfl, hdr, H⟩
        case measure => first | (simp [RowKit.intOf]; done) | (simp [RowKit.intOf]; omega)
      · have e1 : ((p : Int) != (q : Int)) = true := by simp; omega
        have hres : (x < y) = (p < q) := by
          have g1 := hcc.out.1 k (by omega) HD.out
          have g2 := hcc.out.2 k (by omega) HD.out
          rw [hp, hq] at g1 g2
          apply propext
          constructor
          · intro h
            have : ¬ q < p := fun h2 => by have := g2 h2; omega
            omega
          · exact g1
        replace hyz := Kept.mk hyz
        replace hres := Kept.mk hres
        have hp2 := Kept.mk hp
        have hq2 := Kept.mk hq
        clear hp hq
        go_wp2
        refine wp_region_from (by kernel_rfl) (by kernel_rfl) ?_
        repeat (first
          | (go_big_quiet_want; (refine a_quiet_load _ rfl _ _ rfl (by assumption) (by (first | exact .head _ | exact .tail _ (.head _) | exact .tail _ (.tail _ (.head _)) | exact .tail _ (.tail _ (.tail _ (.head _))) | exact .tail _ (.tail _ (.tail _ (.tail _ (.head _)))))) ?_); try simp only [Act.put, List.setIfInBounds_toArray, List.set_cons_succ, List.set_cons_zero]; go_big_quiet_on)
          | go_big_quiet_step ((fail)))
        refine wpQuiet_nil ?_
        intro w5 hw5
        have H := H.from hw5
        clear hw5
        clear c1 c2
        have c1 := H.hcell (.tail _ (.head _)) k p (by omega) hp2.out
        have c2 := H.hcell (.head _) k q (by omega) hq2.out
        go_wp2
        refine wp_region_from (by kernel_rfl) (by kernel_rfl) ?_
        repeat (first
          | (go_big_quiet_want; (refine a_quiet_load _ rfl _ _ rfl (by assumption) (by (first | exact .head _ | exact .tail _ (.head _) | exact .tail _ (.tail _ (.head _)) | exact .tail _ (.tail _ (.tail _ (.head _))) | exact .tail _ (.tail _ (.tail _ (.tail _ (.head _)))))) ?_); try simp only [Act.put, List.setIfInBounds_toArray, List.set_cons_succ, List.set_cons_zero]; go_big_quiet_on)
          | go_big_quiet_step ((fail)))
        refine wpQuiet_nil ?_
        intro w5 hw5
        have H := H.from hw5
        clear hw5
        clear c1 c2
        go_wp2
        go_ret
        refine ⟨?_, H.below⟩
        exact bool_ret (decide_eq_decide.2 (by rw [hres.out]))
end Go.Proofs.Ytbkaemekcjinaaa
