/- Walks of the document's answer for package field: the number of bytes; which are elements. -/
import Derived.Test.YtbkaemekcjinaaaR6
import Derived.Test.YtbkaemekcjinaaaFN
set_option linter.unusedSimpArgs false
set_option linter.unusedVariables false
namespace Go.Proofs.Ytbkaemekcjinaaa
open Go.RowKit
def w2 (l : List UInt8) (i : Nat) : Nat := (l.getD (2 * i) 0).toNat + 256 * (l.getD (2 * i + 1) 0).toNat
theorem w2_lt (l : List UInt8) (i : Nat) : w2 l i < 65536 := by
  unfold w2
  have h0 := (l.getD (2 * i) 0).toNat_lt
  have h1 := (l.getD (2 * i + 1) 0).toNat_lt
  omega
theorem two_words : ∀ (n : Nat) (l : List UInt8), l.length = 2 * n → valB 65536 ((List.range n).map (w2 l)) = numB l
  | 0, l, h => by
    have : l = [] := List.eq_nil_of_length_eq_zero (by omega)
    subst this; rfl
  | n + 1, l, h => by
    match l, h with
    | a :: b :: r, h =>
      have ih := two_words n r (by simp at h; omega)
      rw [List.range_succ_eq_map, List.map_cons, List.map_map, valB]
      have e : (List.range n).map (w2 (a :: b :: r) ∘ Nat.succ) = (List.range n).map (w2 r) := by
        refine List.map_congr_left fun i _ => ?_
        simp only [Function.comp, w2]
        rw [show 2 * i.succ = 2 * i + 2 by omega]
        simp
      rw [e, ih]
      simp [numB, valB, w2]
      omega
def dig (l : List UInt8) (i : Nat) : List Nat := (List.range i).map (w2 l) ++ List.replicate (16 - i) 0
theorem dig_set (l : List UInt8) (i : Nat) (h : i < 16) : (dig l i).set i (w2 l i) = dig l (i + 1) := by
  unfold dig
  have hl : ((List.range i).map (w2 l)).length = i := by simp
  rw [show 16 - i = (16 - (i + 1)) + 1 by omega, List.replicate_succ]
  have e := set_mid ((List.range i).map (w2 l)) (List.replicate (16 - (i + 1)) 0) 0 (w2 l i)
  rw [hl] at e
  rw [e, List.range_succ, List.map_append]
  rfl
set_option maxHeartbeats 1000000 in
theorem digits_any (l : List UInt8) (hl : l.length = 32) (wS : World) : Calls Try.prog 36 #[.string (S l)] wS (AP (Md (numB l)) wS) := by
  have H := AMem.start wS
  have hsz : (S l).size = 32 := by rw [S_size, hl]
  have hres : dig l 16 = Md (numB l) := Md_of _ _ (by simp [dig]) (fun x hx => by
    unfold dig at hx
    rw [Nat.sub_self, List.replicate_zero, List.append_nil] at hx
    obtain ⟨i, _, rfl⟩ := List.mem_map.1 hx
    exact w2_lt l i) (by unfold dig; rw [Nat.sub_self, List.replicate_zero, List.append_nil]; exact two_words 16 l (by omega))
  replace hres := Kept.mk hres
  replace hl := Kept.mk hl
  have hML := Md_len (numB l)
  go_enter Try.func36, Try.ntmps36
  go_wp2_with (first
    | (refine a_box rfl _ rfl _ rfl (by assumption) (by first | assumption | exact limbs_len _ _ _ | exact z16_len) ?_; intro g w H; try simp only [Act.put, List.setIfInBounds_toArray, List.set_cons_succ, List.set_cons_zero])
    | (refine a_alloc rfl rfl (by assumption) ?_; intro g w H; try simp only [Act.put, List.setIfInBounds_toArray, List.set_cons_succ, List.set_cons_zero])
    | (refine a_build rfl rfl ?_; try simp only [Act.put, List.setIfInBounds_toArray, List.set_cons_succ, List.set_cons_zero])
    | (refine a_load rfl _ rfl _ _ rfl (by assumption) (by (first | exact .head _ | exact .tail _ (.head _) | exact .tail _ (.tail _ (.head _)) | exact .tail _ (.tail _ (.tail _ (.head _))) | exact .tail _ (.tail _ (.tail _ (.tail _ (.head _)))))) ?_; try simp only [Act.put, List.setIfInBounds_toArray, List.set_cons_succ, List.set_cons_zero])
    | (refine a_store0 rfl _ _ rfl _ _ _ rfl rfl _ (by assumption) (by first | assumption | exact limbs_len _ _ _ | exact z16_len) ?_; intro w H; try simp only [Act.put, List.setIfInBounds_toArray, List.set_cons_succ, List.set_cons_zero])
    | (refine a_store1 rfl _ _ rfl _ _ _ rfl rfl _ _ (by assumption) (by first | assumption | exact limbs_len _ _ _ | exact z16_len) ?_; intro w H; try simp only [Act.put, List.setIfInBounds_toArray, List.set_cons_succ, List.set_cons_zero])
    | (refine a_store2 rfl _ _ rfl _ _ _ rfl rfl _ _ _ (by assumption) (by first | assumption | exact limbs_len _ _ _ | exact z16_len) ?_; intro w H; try simp only [Act.put, List.setIfInBounds_toArray, List.set_cons_succ, List.set_cons_zero]))
  rename_i gr _ _ _ _ K _
  go_loopw [4] (fun v4 wr => ∃ (i : Nat), i ≤ 16 ∧ v4 = .int .i64 (i : Int) ∧ AMem wS wr [(g, dig l i), (gr, z16)]) (fun v4 _ => 16 - (RowKit.intOf v4).toNat)
  case atStart => exact ⟨0, by omega, rfl, H⟩
  case round =>
    clear H
    obtain ⟨i, hi, rfl, H⟩ := hrel
    by_cases hlt : i < 16
    · obtain ⟨b0, hb0⟩ : ∃ b, l.getD (2 * i) 0 = b := ⟨_, rfl⟩
      obtain ⟨b1, hb1⟩ : ∃ b, l.getD (2 * i + 1) 0 = b := ⟨_, rfl⟩
      have hw : w2 l i = b0.toNat + 256 * b1.toNat := by unfold w2; rw [hb0, hb1]
      have hs0 : 2 * i < (S l).size := by rw [hsz]; omega
      have hs1 : 2 * i + 1 < (S l).size := by rw [hsz]; omega
      have g0 : (S l)[2 * i] = b0 := by rw [byte_at, hb0]
      have g1 : (S l)[2 * i + 1] = b1 := by rw [byte_at, hb1]
      have l0 := b0.toNat_lt
      have l1 := b1.toNat_lt
      have hlti : (i : Int) < 16 := by omega
      have k1 : IntKind.i64.wrap (2 * (i : Int)) = 2 * (i : Int) := by simp [IntKind.wrap, IntKind.signed, IntKind.bits]; omega
      have k2 : IntKind.i64.wrap (2 * (i : Int) + 1) = 2 * (i : Int) + 1 := by simp [IntKind.wrap, IntKind.signed, IntKind.bits]; omega
      have k3 : (2 * (i : Int)).toNat = 2 * i := by omega
      have k4 : (2 * (i : Int) + 1).toNat = 2 * i + 1 := by omega
      have k5 : IntKind.i64.wrap (256 * (b1.toNat : Int)) = 256 * (b1.toNat : Int) := by simp [IntKind.wrap, IntKind.signed, IntKind.bits]; omega
      replace hw := Kept.mk hw
      replace hb0 := Kept.mk hb0
      replace hb1 := Kept.mk hb1
      go_wp2
      refine wp_region_from_tail 15 (by kernel_rfl) (by kernel_rfl) ?_
      simp only [List.take_succ_cons, List.take_zero, List.drop_succ_cons, List.drop_zero]
      repeat (first
        | (go_big_quiet_want; (refine a_quiet_load _ rfl _ _ rfl (by assumption) (by (first | exact .head _ | exact .tail _ (.head _) | exact .tail _ (.tail _ (.head _)) | exact .tail _ (.tail _ (.tail _ (.head _))) | exact .tail _ (.tail _ (.tail _ (.tail _ (.head _)))))) ?_); try simp only [Act.put, List.setIfInBounds_toArray, List.set_cons_succ, List.set_cons_zero]; go_big_quiet_on)
        | go_big_quiet_step ((fail)))
      refine wpQuiet_nil ?_
      intro w5 hw5
      have H := H.from hw5
      clear hw5
      clear k1 k2 k3 k4 k5
      have c3 := H.cell (.head _) i hlt
      have f3 := H.frozen (.head _) i
      have Hn := H.cell0 i (w2 l i) ((b0.toNat : Int) + 256 * (b1.toNat : Int)) (by rw [hw.out]; omega)
      rw [dig_set l i hlt] at Hn
      clear hs0 hs1 g0 g1
      go_wp2
      go_roundw
      case rel => exact ⟨i + 1, hlt, val_eq (by omega), Hn⟩
      case measure => simp [RowKit.intOf]; omega
    · obtain rfl : i = 16 := by omega
      rw [hres.out] at H
      clear hi
      go_wp2_with (first
        | (refine a_box rfl _ rfl _ rfl (by assumption) (by first | assumption | exact limbs_len _ _ _ | exact z16_len) ?_; intro g w H; try simp only [Act.put, List.setIfInBounds_toArray, List.set_cons_succ, List.set_cons_zero])
        | (refine a_alloc rfl rfl (by assumption) ?_; intro g w H; try simp only [Act.put, List.setIfInBounds_toArray, List.set_cons_succ, List.set_cons_zero])
        | (refine a_build rfl rfl ?_; try simp only [Act.put, List.setIfInBounds_toArray, List.set_cons_succ, List.set_cons_zero])
        | (refine a_load rfl _ rfl _ _ rfl (by assumption) (by (first | exact .head _ | exact .tail _ (.head _) | exact .tail _ (.tail _ (.head _)) | exact .tail _ (.tail _ (.tail _ (.head _))) | exact .tail _ (.tail _ (.tail _ (.tail _ (.head _)))))) ?_; try simp only [Act.put, List.setIfInBounds_toArray, List.set_cons_succ, List.set_cons_zero])
        | (refine a_store0 rfl _ _ rfl _ _ _ rfl rfl _ (by assumption) (by first | assumption | exact limbs_len _ _ _ | exact z16_len) ?_; intro w H; try simp only [Act.put, List.setIfInBounds_toArray, List.set_cons_succ, List.set_cons_zero])
        | (refine a_store1 rfl _ _ rfl _ _ _ rfl rfl _ _ (by assumption) (by first | assumption | exact limbs_len _ _ _ | exact z16_len) ?_; intro w H; try simp only [Act.put, List.setIfInBounds_toArray, List.set_cons_succ, List.set_cons_zero])
        | (refine a_store2 rfl _ _ rfl _ _ _ rfl rfl _ _ _ (by assumption) (by first | assumption | exact limbs_len _ _ _ | exact z16_len) ?_; intro w H; try simp only [Act.put, List.setIfInBounds_toArray, List.set_cons_succ, List.set_cons_zero]))
      exact a_ret Try.results36 _ rfl rfl (by assumption) (by (first | exact .head _ | exact .tail _ (.head _) | exact .tail _ (.tail _ (.head _)) | exact .tail _ (.tail _ (.tail _ (.head _))) | exact .tail _ (.tail _ (.tail _ (.tail _ (.head _)))))) (rfl)
theorem Num_any (l : List UInt8) (hl : l.length = 32) (wS : World) : Calls Try.prog 30 #[.string (S l)] wS (AP (Md (numB l % pF)) wS) := by
  have H := AMem.start wS
  have cD := Kept.mk fun w => digits_any l hl w
  have cM := fun w => mod_any (Md (numB l)) (Md_len _) (fun x hx => Nat.lt_trans (Md_lt _ x hx) (by decide)) w
  rw [Md_val _ (numB_lt l hl)] at cM
  replace cM := Kept.mk cM
  have h1 := Md_len (numB l)
  have h2 := Md_len (numB l % pF)
  clear hl
  go_enter Try.func30, Try.ntmps30
  go_wp2_with (first
    | (refine a_box rfl _ rfl _ rfl (by assumption) (by first | assumption | exact limbs_len _ _ _ | exact z16_len) ?_; intro g w H; try simp only [Act.put, List.setIfInBounds_toArray, List.set_cons_succ, List.set_cons_zero])
    | (refine a_alloc rfl rfl (by assumption) ?_; intro g w H; try simp only [Act.put, List.setIfInBounds_toArray, List.set_cons_succ, List.set_cons_zero])
    | (refine a_build rfl rfl ?_; try simp only [Act.put, List.setIfInBounds_toArray, List.set_cons_succ, List.set_cons_zero])
    | (refine a_load rfl _ rfl _ _ rfl (by assumption) (by (first | exact .head _ | exact .tail _ (.head _) | exact .tail _ (.tail _ (.head _)) | exact .tail _ (.tail _ (.tail _ (.head _))) | exact .tail _ (.tail _ (.tail _ (.tail _ (.head _)))))) ?_; try simp only [Act.put, List.setIfInBounds_toArray, List.set_cons_succ, List.set_cons_zero])
    | (refine a_store0 rfl _ _ rfl _ _ _ rfl rfl _ (by assumption) (by first | assumption | exact limbs_len _ _ _ | exact z16_len) ?_; intro w H; try simp only [Act.put, List.setIfInBounds_toArray, List.set_cons_succ, List.set_cons_zero])
    | (refine a_store1 rfl _ _ rfl _ _ _ rfl rfl _ _ (by assumption) (by first | assumption | exact limbs_len _ _ _ | exact z16_len) ?_; intro w H; try simp only [Act.put, List.setIfInBounds_toArray, List.set_cons_succ, List.set_cons_zero])
    | (refine a_store2 rfl _ _ rfl _ _ _ rfl rfl _ _ _ (by assumption) (by first | assumption | exact limbs_len _ _ _ | exact z16_len) ?_; intro w H; try simp only [Act.put, List.setIfInBounds_toArray, List.set_cons_succ, List.set_cons_zero])
    | (go_at_call 36; refine a_call (by assumption) (cD.out _) ?_; intro w H)
    | (go_at_call 51; refine a_call (by assumption) (cM.out _) ?_; intro w H))
  exact a_ret Try.results30 _ rfl rfl (by assumption) (by (first | exact .head _ | exact .tail _ (.head _) | exact .tail _ (.tail _ (.head _)) | exact .tail _ (.tail _ (.tail _ (.head _))) | exact .tail _ (.tail _ (.tail _ (.tail _ (.head _)))))) (rfl)
theorem Is_any (l : List UInt8) (wS : World) : Calls Try.prog 14 #[.string (S l)] wS fun e w' => e = .returned (.bool (isEl l)) ∧ Below wS.heap.size wS w' := by
  have H := AMem.start wS
  by_cases hl : l.length = 32
  · have hsz : (S l).size = 32 := by rw [S_size, hl]
    have cD := Kept.mk fun w => digits_any l hl w
    have cB := fun w => Below_any (numB l) pF (numB_lt l hl) p_bigR w
    have e : isEl l = decide (numB l < pF) := by unfold isEl; simp [hl]
    rw [e]
    generalize decide (numB l < pF) = b at cB ⊢
    have cB2 := Kept.mk cB
    clear e hl cB
    go_enter Try.func14, Try.ntmps14
    go_wp2_with (first
      | (refine a_box rfl _ rfl _ rfl (by assumption) (by first | assumption | exact limbs_len _ _ _ | exact z16_len) ?_; intro g w H; try simp only [Act.put, List.setIfInBounds_toArray, List.set_cons_succ, List.set_cons_zero])
      | (refine a_alloc rfl rfl (by assumption) ?_; intro g w H; try simp only [Act.put, List.setIfInBounds_toArray, List.set_cons_succ, List.set_cons_zero])
      | (refine a_build rfl rfl ?_; try simp only [Act.put, List.setIfInBounds_toArray, List.set_cons_succ, List.set_cons_zero])
      | (refine a_load rfl _ rfl _ _ rfl (by assumption) (by (first | exact .head _ | exact .tail _ (.head _) | exact .tail _ (.tail _ (.head _)) | exact .tail _ (.tail _ (.tail _ (.head _))) | exact .tail _ (.tail _ (.tail _ (.tail _ (.head _)))))) ?_; try simp only [Act.put, List.setIfInBounds_toArray, List.set_cons_succ, List.set_cons_zero])
      | (refine a_store0 rfl _ _ rfl _ _ _ rfl rfl _ (by assumption) (by first | assumption | exact limbs_len _ _ _ | exact z16_len) ?_; intro w H; try simp only [Act.put, List.setIfInBounds_toArray, List.set_cons_succ, List.set_cons_zero])
      | (refine a_store1 rfl _ _ rfl _ _ _ rfl rfl _ _ (by assumption) (by first | assumption | exact limbs_len _ _ _ | exact z16_len) ?_; intro w H; try simp only [Act.put, List.setIfInBounds_toArray, List.set_cons_succ, List.set_cons_zero])
      | (refine a_store2 rfl _ _ rfl _ _ _ rfl rfl _ _ _ (by assumption) (by first | assumption | exact limbs_len _ _ _ | exact z16_len) ?_; intro w H; try simp only [Act.put, List.setIfInBounds_toArray, List.set_cons_succ, List.set_cons_zero])
      | (go_at_call 33; refine a_call (by assumption) (P_any _) ?_; intro w H)
      | (go_at_call 36; refine a_call (by assumption) (cD.out _) ?_; intro w H)
      | (go_at_call 35; refine a_call (by assumption) (cB2.out _) ?_; intro w H))
    go_ret
    exact ⟨rfl, H.below⟩
  · have e : isEl l = false := by unfold isEl; simp [hl]
    have hsz : (((S l).size : Int) == 32) = false := by rw [S_size]; simp; omega
    rw [e]
    clear e hl
    go_enter Try.func14, Try.ntmps14
    go_wp2_with (first
      | (refine a_box rfl _ rfl _ rfl (by assumption) (by first | assumption | exact limbs_len _ _ _ | exact z16_len) ?_; intro g w H; try simp only [Act.put, List.setIfInBounds_toArray, List.set_cons_succ, List.set_cons_zero])
      | (refine a_alloc rfl rfl (by assumption) ?_; intro g w H; try simp only [Act.put, List.setIfInBounds_toArray, List.set_cons_succ, List.set_cons_zero])
      | (refine a_build rfl rfl ?_; try simp only [Act.put, List.setIfInBounds_toArray, List.set_cons_succ, List.set_cons_zero])
      | (refine a_load rfl _ rfl _ _ rfl (by assumption) (by (first | exact .head _ | exact .tail _ (.head _) | exact .tail _ (.tail _ (.head _)) | exact .tail _ (.tail _ (.tail _ (.head _))) | exact .tail _ (.tail _ (.tail _ (.tail _ (.head _)))))) ?_; try simp only [Act.put, List.setIfInBounds_toArray, List.set_cons_succ, List.set_cons_zero])
      | (refine a_store0 rfl _ _ rfl _ _ _ rfl rfl _ (by assumption) (by first | assumption | exact limbs_len _ _ _ | exact z16_len) ?_; intro w H; try simp only [Act.put, List.setIfInBounds_toArray, List.set_cons_succ, List.set_cons_zero])
      | (refine a_store1 rfl _ _ rfl _ _ _ rfl rfl _ _ (by assumption) (by first | assumption | exact limbs_len _ _ _ | exact z16_len) ?_; intro w H; try simp only [Act.put, List.setIfInBounds_toArray, List.set_cons_succ, List.set_cons_zero])
      | (refine a_store2 rfl _ _ rfl _ _ _ rfl rfl _ _ _ (by assumption) (by first | assumption | exact limbs_len _ _ _ | exact z16_len) ?_; intro w H; try simp only [Act.put, List.setIfInBounds_toArray, List.set_cons_succ, List.set_cons_zero]))
    go_ret
    exact ⟨rfl, H.below⟩
theorem Reduce_ok (l : List UInt8) (hl : l.length = 32) (wS : World) : Calls Try.prog 11 #[.string (S l)] wS (StrPost (leB (numB l % pF)) 0 wS) := by
  have H := AMem.start wS
  have hsz : (S l).size = 32 := by rw [S_size, hl]
  have cN := Kept.mk fun w => Num_any l hl w
  have cB := Kept.mk fun w => Bytes_any (numB l % pF) (Nat.lt_trans (Nat.mod_lt _ p_pos) p_big) w
  clear hl
  go_enter Try.func11, Try.ntmps11
  go_wp2_with (first
    | (refine a_box rfl _ rfl _ rfl (by assumption) (by first | assumption | exact limbs_len _ _ _ | exact z16_len) ?_; intro g w H; try simp only [Act.put, List.setIfInBounds_toArray, List.set_cons_succ, List.set_cons_zero])
    | (refine a_alloc rfl rfl (by assumption) ?_; intro g w H; try simp only [Act.put, List.setIfInBounds_toArray, List.set_cons_succ, List.set_cons_zero])
    | (refine a_build rfl rfl ?_; try simp only [Act.put, List.setIfInBounds_toArray, List.set_cons_succ, List.set_cons_zero])
    | (refine a_load rfl _ rfl _ _ rfl (by assumption) (by (first | exact .head _ | exact .tail _ (.head _) | exact .tail _ (.tail _ (.head _)) | exact .tail _ (.tail _ (.tail _ (.head _))) | exact .tail _ (.tail _ (.tail _ (.tail _ (.head _)))))) ?_; try simp only [Act.put, List.setIfInBounds_toArray, List.set_cons_succ, List.set_cons_zero])
    | (refine a_store0 rfl _ _ rfl _ _ _ rfl rfl _ (by assumption) (by first | assumption | exact limbs_len _ _ _ | exact z16_len) ?_; intro w H; try simp only [Act.put, List.setIfInBounds_toArray, List.set_cons_succ, List.set_cons_zero])
    | (refine a_store1 rfl _ _ rfl _ _ _ rfl rfl _ _ (by assumption) (by first | assumption | exact limbs_len _ _ _ | exact z16_len) ?_; intro w H; try simp only [Act.put, List.setIfInBounds_toArray, List.set_cons_succ, List.set_cons_zero])
    | (refine a_store2 rfl _ _ rfl _ _ _ rfl rfl _ _ _ (by assumption) (by first | assumption | exact limbs_len _ _ _ | exact z16_len) ?_; intro w H; try simp only [Act.put, List.setIfInBounds_toArray, List.set_cons_succ, List.set_cons_zero])
    | (go_at_call 30; refine a_call (by assumption) (cN.out _) ?_; intro w H)
    | (go_at_call 29; refine a_call (by assumption) (cB.out _) ?_; intro w H))
  go_ret2
  exact ⟨rfl, H.below⟩
theorem Reduce_bad (l : List UInt8) (hl : l.length ≠ 32) (wS : World) : Calls Try.prog 11 #[.string (S l)] wS (StrPost [] 40 wS) := by
  have H := AMem.start wS
  have hsz : (((S l).size : Int) != 32) = true := by rw [S_size]; simp; omega
  clear hl
  go_enter Try.func11, Try.ntmps11
  go_wp2_with (first
    | (refine a_box rfl _ rfl _ rfl (by assumption) (by first | assumption | exact limbs_len _ _ _ | exact z16_len) ?_; intro g w H; try simp only [Act.put, List.setIfInBounds_toArray, List.set_cons_succ, List.set_cons_zero])
    | (refine a_alloc rfl rfl (by assumption) ?_; intro g w H; try simp only [Act.put, List.setIfInBounds_toArray, List.set_cons_succ, List.set_cons_zero])
    | (refine a_build rfl rfl ?_; try simp only [Act.put, List.setIfInBounds_toArray, List.set_cons_succ, List.set_cons_zero])
    | (refine a_load rfl _ rfl _ _ rfl (by assumption) (by (first | exact .head _ | exact .tail _ (.head _) | exact .tail _ (.tail _ (.head _)) | exact .tail _ (.tail _ (.tail _ (.head _))) | exact .tail _ (.tail _ (.tail _ (.tail _ (.head _)))))) ?_; try simp only [Act.put, List.setIfInBounds_toArray, List.set_cons_succ, List.set_cons_zero])
    | (refine a_store0 rfl _ _ rfl _ _ _ rfl rfl _ (by assumption) (by first | assumption | exact limbs_len _ _ _ | exact z16_len) ?_; intro w H; try simp only [Act.put, List.setIfInBounds_toArray, List.set_cons_succ, List.set_cons_zero])
    | (refine a_store1 rfl _ _ rfl _ _ _ rfl rfl _ _ (by assumption) (by first | assumption | exact limbs_len _ _ _ | exact z16_len) ?_; intro w H; try simp only [Act.put, List.setIfInBounds_toArray, List.set_cons_succ, List.set_cons_zero])
    | (refine a_store2 rfl _ _ rfl _ _ _ rfl rfl _ _ _ (by assumption) (by first | assumption | exact limbs_len _ _ _ | exact z16_len) ?_; intro w H; try simp only [Act.put, List.setIfInBounds_toArray, List.set_cons_succ, List.set_cons_zero]))
  go_ret2
  exact ⟨rfl, H.below⟩
end Go.Proofs.Ytbkaemekcjinaaa
