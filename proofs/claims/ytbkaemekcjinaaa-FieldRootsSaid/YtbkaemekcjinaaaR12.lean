/- Walks of the document's answer for package field: inverses; halves. -/
import Derived.Test.YtbkaemekcjinaaaR11
set_option linter.unusedSimpArgs false
set_option linter.unusedVariables false
namespace Go.Proofs.Ytbkaemekcjinaaa
open Go.RowKit
theorem Inverse_any (x : Nat) (hx : x < big) (wS : World) : Calls Try.prog 45 #[arrV (Md x)] wS (AP (Md (invF x)) wS) := by
  have H := AMem.start wS
  have cS := fun w => Small_any 2 (by omega) w
  rw [show ((2 : Nat) : Int) = 2 from rfl] at cS
  have cL := fun w => less_any pF 2 p_bigR (Nat.le_of_lt (small_lt 2 (by omega))) w
  obtain ⟨e, he⟩ : ∃ e, pF - 2 = e := ⟨_, rfl⟩
  have heb : e < big := he ▸ Nat.lt_of_le_of_lt (Nat.sub_le _ _) p_bigR
  have hinv : powF x e = invF x := by rw [invF, he]
  have cP := fun w => Power_any x e hx heb w
  rw [hinv] at cP
  rw [he] at cL
  clear he heb hinv
  generalize invF x = r at cP ⊢
  have cQ := fun w => P_any w
  unfold AP at cS cL cP cQ
  have h1 := Md_len x
  have h2 := Md_len r
  generalize Md x = dx at h1 cP ⊢
  generalize Md r = dr at h2 cP ⊢
  generalize Md 2 = d2 at cS cL
  generalize Md pF = dp at cL cQ
  generalize Md e = de at cL cP
  replace cS := Kept.mk cS
  replace cL := Kept.mk cL
  replace cP := Kept.mk cP
  replace cQ := Kept.mk cQ
  clear hx
  unfold arrV
  go_enter Try.func45, Try.ntmps45
  go_wp2_with (first
    | (refine a_box rfl _ rfl _ rfl (by assumption) (by first | assumption | exact limbs_len _ _ _ | exact z16_len) ?_; intro g w H; try simp only [Act.put, List.setIfInBounds_toArray, List.set_cons_succ, List.set_cons_zero])
    | (refine a_alloc rfl rfl (by assumption) ?_; intro g w H; try simp only [Act.put, List.setIfInBounds_toArray, List.set_cons_succ, List.set_cons_zero])
    | (refine a_build rfl rfl ?_; try simp only [Act.put, List.setIfInBounds_toArray, List.set_cons_succ, List.set_cons_zero])
    | (refine a_load rfl _ rfl _ _ rfl (by assumption) (by (first | exact .head _ | exact .tail _ (.head _) | exact .tail _ (.tail _ (.head _)) | exact .tail _ (.tail _ (.tail _ (.head _))) | exact .tail _ (.tail _ (.tail _ (.tail _ (.head _)))))) ?_; try simp only [Act.put, List.setIfInBounds_toArray, List.set_cons_succ, List.set_cons_zero])
    | (refine a_store0 rfl _ _ rfl _ _ _ rfl rfl _ (by assumption) (by first | assumption | exact limbs_len _ _ _ | exact z16_len) ?_; intro w H; try simp only [Act.put, List.setIfInBounds_toArray, List.set_cons_succ, List.set_cons_zero])
    | (refine a_store1 rfl _ _ rfl _ _ _ rfl rfl _ _ (by assumption) (by first | assumption | exact limbs_len _ _ _ | exact z16_len) ?_; intro w H; try simp only [Act.put, List.setIfInBounds_toArray, List.set_cons_succ, List.set_cons_zero])
    | (refine a_store2 rfl _ _ rfl _ _ _ rfl rfl _ _ _ (by assumption) (by first | assumption | exact limbs_len _ _ _ | exact z16_len) ?_; intro w H; try simp only [Act.put, List.setIfInBounds_toArray, List.set_cons_succ, List.set_cons_zero]))
  refine wp_region_from_tail 5 (by kernel_rfl) (by kernel_rfl) ?_
  simp only [List.take_succ_cons, List.take_zero, List.drop_succ_cons, List.drop_zero]
  repeat (first
    | (go_big_quiet_want; (refine a_quiet_load _ rfl _ _ rfl (by assumption) (by (first | exact .head _ | exact .tail _ (.head _) | exact .tail _ (.tail _ (.head _)) | exact .tail _ (.tail _ (.tail _ (.head _))) | exact .tail _ (.tail _ (.tail _ (.tail _ (.head _)))))) ?_); try simp only [Act.put, List.setIfInBounds_toArray, List.set_cons_succ, List.set_cons_zero]; go_big_quiet_on)
    | go_big_quiet_step (((first | (go_at_call 33; exact held_call _ (cQ.out _)) | (go_at_call 32; exact held_call _ (cS.out _)) | (go_at_call 52; exact held_call _ (cL.out _)) | (go_at_call 56; exact held_call _ (cP.out _))))))
  refine wpQuiet_nil ?_
  intro w5 hw5
  have H := H.from hw5
  clear hw5
  go_wp2_with (first
    | (refine a_box rfl _ rfl _ rfl (by assumption) (by first | assumption | exact limbs_len _ _ _ | exact z16_len) ?_; intro g w H; try simp only [Act.put, List.setIfInBounds_toArray, List.set_cons_succ, List.set_cons_zero])
    | (refine a_alloc rfl rfl (by assumption) ?_; intro g w H; try simp only [Act.put, List.setIfInBounds_toArray, List.set_cons_succ, List.set_cons_zero])
    | (refine a_build rfl rfl ?_; try simp only [Act.put, List.setIfInBounds_toArray, List.set_cons_succ, List.set_cons_zero])
    | (refine a_load rfl _ rfl _ _ rfl (by assumption) (by (first | exact .head _ | exact .tail _ (.head _) | exact .tail _ (.tail _ (.head _)) | exact .tail _ (.tail _ (.tail _ (.head _))) | exact .tail _ (.tail _ (.tail _ (.tail _ (.head _)))))) ?_; try simp only [Act.put, List.setIfInBounds_toArray, List.set_cons_succ, List.set_cons_zero])
    | (refine a_store0 rfl _ _ rfl _ _ _ rfl rfl _ (by assumption) (by first | assumption | exact limbs_len _ _ _ | exact z16_len) ?_; intro w H; try simp only [Act.put, List.setIfInBounds_toArray, List.set_cons_succ, List.set_cons_zero])
    | (refine a_store1 rfl _ _ rfl _ _ _ rfl rfl _ _ (by assumption) (by first | assumption | exact limbs_len _ _ _ | exact z16_len) ?_; intro w H; try simp only [Act.put, List.setIfInBounds_toArray, List.set_cons_succ, List.set_cons_zero])
    | (refine a_store2 rfl _ _ rfl _ _ _ rfl rfl _ _ _ (by assumption) (by first | assumption | exact limbs_len _ _ _ | exact z16_len) ?_; intro w H; try simp only [Act.put, List.setIfInBounds_toArray, List.set_cons_succ, List.set_cons_zero]))
  exact a_ret Try.results45 _ rfl rfl (by assumption) (by (first | exact .head _ | exact .tail _ (.head _) | exact .tail _ (.tail _ (.head _)) | exact .tail _ (.tail _ (.tail _ (.head _))) | exact .tail _ (.tail _ (.tail _ (.tail _ (.head _)))))) (rfl)
def halfL : List Nat → List Nat
  | x :: y :: r => (x / 2 + y % 2 * 32768) :: halfL (y :: r)
  | [x] => [x / 2]
  | [] => []
theorem halfL_len : ∀ l, (halfL l).length = l.length
  | x :: y :: r => by simp [halfL, halfL_len (y :: r)]
  | [_] => rfl
  | [] => rfl
theorem halfL_lt : ∀ l, (∀ x ∈ l, x < 65536) → ∀ z ∈ halfL l, z < 65536
  | x :: y :: r, h, z, hz => by
    rw [halfL, List.mem_cons] at hz
    have := h x (by simp)
    rcases hz with rfl | hz
    · omega
    · exact halfL_lt (y :: r) (fun q hq => h q (by simp at hq ⊢; right; exact hq)) z hz
  | [x], h, z, hz => by
    have := h x (by simp)
    simp [halfL] at hz
    omega
  | [], _, z, hz => by simp [halfL] at hz
theorem halfL_val : ∀ l, valB 65536 (halfL l) = valB 65536 l / 2
  | x :: y :: r => by
    have ih := halfL_val (y :: r)
    have hp : valB 65536 (y :: r) % 2 = y % 2 := by rw [valB]; omega
    show x / 2 + y % 2 * 32768 + 65536 * valB 65536 (halfL (y :: r)) = (x + 65536 * valB 65536 (y :: r)) / 2
    rw [ih]
    generalize valB 65536 (y :: r) = V at hp ⊢
    omega
  | [x] => by simp [halfL, valB]
  | [] => rfl
theorem half_Md (e : Nat) (h : e < big) : halfL (Md e) = Md (e / 2) := Md_of _ _ (by rw [halfL_len, Md_len]) (halfL_lt _ (Md_lt e)) (by rw [halfL_val, Md_val e h])
set_option maxHeartbeats 4000000 in
theorem half_any (e m : Nat) (he : e < big) (hm : m < 100) (wS : World) : Calls Try.prog 58 #[arrV (Md e), .int .i64 (m : Int)] wS (AP (Md (e / 2 ^ m)) wS) := by
  have H := AMem.start wS
  have hel := Md_len e
  unfold arrV
  go_enter Try.func58, Try.ntmps58
  go_wp2_with (first
    | (refine a_box rfl _ rfl _ rfl (by assumption) (by first | assumption | exact limbs_len _ _ _ | exact z16_len) ?_; intro g w H; try simp only [Act.put, List.setIfInBounds_toArray, List.set_cons_succ, List.set_cons_zero])
    | (refine a_alloc rfl rfl (by assumption) ?_; intro g w H; try simp only [Act.put, List.setIfInBounds_toArray, List.set_cons_succ, List.set_cons_zero])
    | (refine a_build rfl rfl ?_; try simp only [Act.put, List.setIfInBounds_toArray, List.set_cons_succ, List.set_cons_zero])
    | (refine a_load rfl _ rfl _ _ rfl (by assumption) (by (first | exact .head _ | exact .tail _ (.head _) | exact .tail _ (.tail _ (.head _)) | exact .tail _ (.tail _ (.tail _ (.head _))) | exact .tail _ (.tail _ (.tail _ (.tail _ (.head _)))))) ?_; try simp only [Act.put, List.setIfInBounds_toArray, List.set_cons_succ, List.set_cons_zero])
    | (refine a_store0 rfl _ _ rfl _ _ _ rfl rfl _ (by assumption) (by first | assumption | exact limbs_len _ _ _ | exact z16_len) ?_; intro w H; try simp only [Act.put, List.setIfInBounds_toArray, List.set_cons_succ, List.set_cons_zero])
    | (refine a_store1 rfl _ _ rfl _ _ _ rfl rfl _ _ (by assumption) (by first | assumption | exact limbs_len _ _ _ | exact z16_len) ?_; intro w H; try simp only [Act.put, List.setIfInBounds_toArray, List.set_cons_succ, List.set_cons_zero])
    | (refine a_store2 rfl _ _ rfl _ _ _ rfl rfl _ _ _ (by assumption) (by first | assumption | exact limbs_len _ _ _ | exact z16_len) ?_; intro w H; try simp only [Act.put, List.setIfInBounds_toArray, List.set_cons_succ, List.set_cons_zero]))
  rename_i ga _ _ gr _ _ _ _ K _
  rename Nat => gx
  go_loopw [6] (fun v6 wr => ∃ (i : Nat), i ≤ m ∧ v6 = .int .i64 (i : Int) ∧ AMem wS wr [(gx, Md (e / 2 ^ i)), (gr, z16), (ga, Md (e / 2 ^ i))]) (fun v6 _ => m - (RowKit.intOf v6).toNat)
  case atStart => exact ⟨0, by omega, rfl, by rw [Nat.pow_zero, Nat.div_one]; exact H⟩
  case round =>
    clear H
    obtain ⟨i, hi, rfl, H⟩ := hrel
    by_cases hlt : i < m
    · have hlti : (i : Int) < (m : Int) := by omega
      obtain ⟨a, ha⟩ : ∃ a, Md (e / 2 ^ i) = a := ⟨_, rfl⟩
      have hnx : halfL a = Md (e / 2 ^ (i + 1)) := by
        rw [← ha, half_Md _ (Nat.lt_of_le_of_lt (Nat.div_le_self _ _) he), Nat.div_div_eq_div_mul, ← Nat.pow_succ]
      have hal : a.length = 16 := by rw [← ha, Md_len]
      have haW : ∀ x ∈ a, x < 65536 := ha ▸ Md_lt _
      rw [ha] at H
      have hll := Kept.mk hal
      replace ha := Kept.mk ha
      replace hnx := Kept.mk hnx
      replace haW := Kept.mk haW
      clear hal
      go_wp2
      obtain ⟨wo, rfl⟩ : ∃ wo : World, wo = wr := ⟨_, rfl⟩
      go_loopw [7] (fun v7 wr => ∃ (k : Nat) (d : List Nat), k ≤ 16 ∧ v7 = .int .i64 (k : Int) ∧ Kept (d.length = k) ∧ AMem wS wr [(gx, d ++ a.drop k), (gr, z16), (ga, a)] ∧ Kept (d ++ halfL (a.drop k) = halfL a)) (fun v7 _ => 16 - (RowKit.intOf v7).toNat)
      case atStart => exact ⟨0, [], by omega, rfl, ⟨rfl⟩, H, ⟨rfl⟩⟩
      case round =>
        clear H
        obtain ⟨k, d, hk, rfl, HD, H, HE⟩ := hrel
        by_cases hkt : k < 16
        · obtain ⟨p, hp⟩ : ∃ p, a.getD k 0 = p := ⟨_, rfl⟩
          have hda := drop_getD a k (by rw [hll.out]; omega)
          rw [hp] at hda
          have hpl : p < 65536 := hp ▸ getD_ltN haW.out k (by rw [hll.out]; omega)
          have c1 := H.cell (.head _) k hkt
          rw [step_get HD.out hda] at c1
          have f1 := H.frozen (.head _) k
          have hltk : (k : Int) < 16 := by omega
          have H1 := H.cell0 k (p / 2) ((p : Int) / 2) (by omega)
          by_cases h15 : k < 15
          · obtain ⟨q, hq⟩ : ∃ q, a.getD (k + 1) 0 = q := ⟨_, rfl⟩
            have hdb := drop_getD a (k + 1) (by rw [hll.out]; omega)
            rw [hq] at hdb
            have hql : q < 65536 := hq ▸ getD_ltN haW.out (k + 1) (by rw [hll.out]; omega)
            have h15I : (k : Int) < 15 := by omega
            have hgx : ((d ++ a.drop k).set k (p / 2)).getD k 0 = p / 2 := by
              rw [step_set HD.out hda, ← HD.out]; simp
            have c2 := H1.hcell (.head _) k (p / 2) hkt hgx
            have c3 := H1.hcell (.tail _ (.tail _ (.head _))) (k + 1) q (by omega) hq
            have kk : IntKind.i64.wrap ((k : Int) + 1) = (k : Int) + 1 := by simp [IntKind.wrap, IntKind.signed, IntKind.bits]; omega
            have kk2 : ((k : Int) + 1).toNat = k + 1 := by omega
            have km : IntKind.i64.wrap ((q : Int) % 2 * 32768) = (q : Int) % 2 * 32768 := by simp [IntKind.wrap, IntKind.signed, IntKind.bits]; omega
            rw [show ((p / 2 : Nat) : Int) = (p : Int) / 2 by omega] at c2
            have hE : d ++ [p / 2 + q % 2 * 32768] ++ halfL (a.drop (k + 1)) = halfL a := by
              have h := HE.out
              rw [hda, hdb, halfL, ← hdb] at h
              rw [List.append_assoc]; exact h
            replace hE := Kept.mk hE
            replace hp := Kept.mk hp
            replace hq := Kept.mk hq
            replace hda := Kept.mk hda
            replace hdb := Kept.mk hdb
            replace hgx := Kept.mk hgx
            have H := H1
            go_wp2
            refine wp_region_from_tail 11 (by kernel_rfl) (by kernel_rfl) ?_
            simp only [List.take_succ_cons, List.take_zero, List.drop_succ_cons, List.drop_zero]
            repeat (first
              | (go_big_quiet_want; (refine a_quiet_load _ rfl _ _ rfl (by assumption) (by (first | exact .head _ | exact .tail _ (.head _) | exact .tail _ (.tail _ (.head _)) | exact .tail _ (.tail _ (.tail _ (.head _))) | exact .tail _ (.tail _ (.tail _ (.tail _ (.head _)))))) ?_); try simp only [Act.put, List.setIfInBounds_toArray, List.set_cons_succ, List.set_cons_zero]; go_big_quiet_on)
              | go_big_quiet_step ((fail)))
            refine wpQuiet_nil ?_
            intro w5 hw5
            have H := H.from hw5
            clear hw5
            clear c2 c3
            have c4 := H.cell (.head _) k hkt
            rw [hgx.out] at c4
            have f4 := H.frozen (.head _) k
            have Hn := H.cell0 k (p / 2 + q % 2 * 32768) ((p : Int) / 2 + (q : Int) % 2 * 32768) (by omega)
            rw [List.set_set, step_set HD.out hda.out] at Hn
            go_wp2
            go_roundw
            case rel => exact ⟨k + 1, d ++ [p / 2 + q % 2 * 32768], by omega, val_eq (by omega), ⟨by rw [List.length_append, HD.out]; rfl⟩, Hn, hE⟩
            case measure => first | (simp [RowKit.intOf]; done) | (simp [RowKit.intOf]; omega)
          · obtain rfl : k = 15 := by omega
            have hE : d ++ [p / 2] ++ halfL (a.drop 16) = halfL a := by
              have h := HE.out
              rw [hda, List.drop_eq_nil_of_le (show a.length ≤ 15 + 1 by rw [hll.out]; omega), halfL] at h
              rw [List.drop_eq_nil_of_le (by rw [hll.out]; omega), halfL, List.append_nil]
              exact h
            rw [step_set HD.out hda] at H1
            replace hE := Kept.mk hE
            replace hp := Kept.mk hp
            replace hda := Kept.mk hda
            go_wp2
            go_roundw
            case rel => exact ⟨16, d ++ [p / 2], by omega, val_eq (by omega), ⟨by rw [List.length_append, HD.out]; rfl⟩, H1, hE⟩
            case measure => first | (simp [RowKit.intOf]; done) | (simp [RowKit.intOf]; omega)
        · obtain rfl : k = 16 := by omega
          have hfin : d ++ a.drop 16 = Md (e / 2 ^ (i + 1)) := by
            have h := HE.out
            rw [List.drop_eq_nil_of_le (show a.length ≤ 16 by rw [hll.out]; omega)] at h ⊢
            rw [halfL] at h
            rw [h, hnx.out]
          rw [hfin] at H
          have hfl := Md_len (e / 2 ^ (i + 1))
          clear hfin HE
          go_wp2_with (first
            | (refine a_box rfl _ rfl _ rfl (by assumption) (by first | assumption | exact limbs_len _ _ _ | exact z16_len) ?_; intro g w H; try simp only [Act.put, List.setIfInBounds_toArray, List.set_cons_succ, List.set_cons_zero])
            | (refine a_alloc rfl rfl (by assumption) ?_; intro g w H; try simp only [Act.put, List.setIfInBounds_toArray, List.set_cons_succ, List.set_cons_zero])
            | (refine a_build rfl rfl ?_; try simp only [Act.put, List.setIfInBounds_toArray, List.set_cons_succ, List.set_cons_zero])
            | (refine a_load rfl _ rfl _ _ rfl (by assumption) (by (first | exact .head _ | exact .tail _ (.head _) | exact .tail _ (.tail _ (.head _)) | exact .tail _ (.tail _ (.tail _ (.head _))) | exact .tail _ (.tail _ (.tail _ (.tail _ (.head _)))))) ?_; try simp only [Act.put, List.setIfInBounds_toArray, List.set_cons_succ, List.set_cons_zero])
            | (refine a_store0 rfl _ _ rfl _ _ _ rfl rfl _ (by assumption) (by first | assumption | exact limbs_len _ _ _ | exact z16_len) ?_; intro w H; try simp only [Act.put, List.setIfInBounds_toArray, List.set_cons_succ, List.set_cons_zero])
            | (refine a_store1 rfl _ _ rfl _ _ _ rfl rfl _ _ (by assumption) (by first | assumption | exact limbs_len _ _ _ | exact z16_len) ?_; intro w H; try simp only [Act.put, List.setIfInBounds_toArray, List.set_cons_succ, List.set_cons_zero])
            | (refine a_store2 rfl _ _ rfl _ _ _ rfl rfl _ _ _ (by assumption) (by first | assumption | exact limbs_len _ _ _ | exact z16_len) ?_; intro w H; try simp only [Act.put, List.setIfInBounds_toArray, List.set_cons_succ, List.set_cons_zero]))
          go_roundw
          case rel => exact ⟨i + 1, by omega, val_eq (by omega), H⟩
          case measure => first | (simp [RowKit.intOf]; done) | (simp [RowKit.intOf]; omega)
    · obtain rfl : i = m := by omega
      have hfl := Md_len (e / 2 ^ i)
      clear hi
      go_wp2_with (first
        | (refine a_box rfl _ rfl _ rfl (by assumption) (by first | assumption | exact limbs_len _ _ _ | exact z16_len) ?_; intro g w H; try simp only [Act.put, List.setIfInBounds_toArray, List.set_cons_succ, List.set_cons_zero])
        | (refine a_alloc rfl rfl (by assumption) ?_; intro g w H; try simp only [Act.put, List.setIfInBounds_toArray, List.set_cons_succ, List.set_cons_zero])
        | (refine a_build rfl rfl ?_; try simp only [Act.put, List.setIfInBounds_toArray, List.set_cons_succ, List.set_cons_zero])
        | (refine a_load rfl _ rfl _ _ rfl (by assumption) (by (first | exact .head _ | exact .tail _ (.head _) | exact .tail _ (.tail _ (.head _)) | exact .tail _ (.tail _ (.tail _ (.head _))) | exact .tail _ (.tail _ (.tail _ (.tail _ (.head _)))))) ?_; try simp only [Act.put, List.setIfInBounds_toArray, List.set_cons_succ, List.set_cons_zero])
        | (refine a_store0 rfl _ _ rfl _ _ _ rfl rfl _ (by assumption) (by first | assumption | exact limbs_len _ _ _ | exact z16_len) ?_; intro w H; try simp only [Act.put, List.setIfInBounds_toArray, List.set_cons_succ, List.set_cons_zero])
        | (refine a_store1 rfl _ _ rfl _ _ _ rfl rfl _ _ (by assumption) (by first | assumption | exact limbs_len _ _ _ | exact z16_len) ?_; intro w H; try simp only [Act.put, List.setIfInBounds_toArray, List.set_cons_succ, List.set_cons_zero])
        | (refine a_store2 rfl _ _ rfl _ _ _ rfl rfl _ _ _ (by assumption) (by first | assumption | exact limbs_len _ _ _ | exact z16_len) ?_; intro w H; try simp only [Act.put, List.setIfInBounds_toArray, List.set_cons_succ, List.set_cons_zero]))
      exact a_ret Try.results58 _ rfl rfl (by assumption) (by (first | exact .head _ | exact .tail _ (.head _) | exact .tail _ (.tail _ (.head _)) | exact .tail _ (.tail _ (.tail _ (.head _))) | exact .tail _ (.tail _ (.tail _ (.tail _ (.head _)))))) (rfl)
end Go.Proofs.Ytbkaemekcjinaaa
