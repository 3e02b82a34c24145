/- Rows of stage 6 from what package curve answers: eight times, and the base by the order. -/
import Derived.Test.YtockcnglennihaaD14
set_option linter.unusedSimpArgs false
set_option linter.unusedVariables false
set_option maxRecDepth 100000
namespace Go.Proofs.Ytockcnglennihaa
open Go.RowKit
theorem take_snoc (l : List Nat) (i : Nat) (h : i < l.length) : l.take i ++ [l.getD i 0] = l.take (i + 1) := by
  rw [List.take_add_one]
  simp [h]
set_option maxHeartbeats 6400000 in
theorem eight_core (p m8 q lb z : ByteArray) (hlb : S (unB lL) = lb) (cF : ∀ w, Calls Try.prog 14 #[] w (RetV (.bool true) w)) (cI : ∀ w, Calls Try.prog 15 #[.string p] w (RetV (.bool true) w)) (cM8 : ∀ w, Calls Try.prog 21 #[.string m8, .string p] w (RetV (.tuple #[.string q, .int .i64 0]) w)) (cML : ∀ w, Calls Try.prog 21 #[.string lb, .string q] w (RetV (.tuple #[.string z, .int .i64 0]) w)) (cZ : ∀ w, Calls Try.prog 19 #[] w (RetV (.string z) w)) (cMod : ∀ ga ca w, AtS w ga [8] → Calls Try.prog 25 #[.slice (some ⟨ga, 0, none⟩) 1 ca] w (RetV (.string m8) w)) (wS : World) : Calls Try.prog 8 #[.string p] wS (RetV (.bool true) wS) := by
  replace cF := Kept.mk cF
  replace cI := Kept.mk cI
  replace cM8 := Kept.mk cM8
  replace cML := Kept.mk cML
  replace cZ := Kept.mk cZ
  replace cMod := Kept.mk cMod
  obtain ⟨i1, hi1, hy0, hy1, hy2⟩ := info_parts info5
  have H := SM.start wS
  have cL := Kept.mk fun w => L_any w
  replace hlb := Kept.mk hlb
  go_enter Try.func8, Try.ntmps8
  go_wp2_with (first
    | (refine wpList_make_row _ rfl _ _ 36 rfl 5 i1 (.int .u8 0) Try.underlying36 hi1 hy0 hy1 rfl .i64 .i64 32 rfl rfl (by rw [hy2]; omega) (by omega) ?_; rw [o_made32])
    | (go_at_call 27; fail "later")
    | (go_at_call 15; (with_reducible refine (cI.out _).mono ?_); rintro _ wI ⟨rfl, hb2⟩; have H := H.grow hb2; clear hb2))
  have hszI := H.below.size
  have hB := Arr.new wI 5 .u8 o_z32
  have hb0 : Below wI.heap.size wI (wI.alloc (.cells (numC .u8 o_z32).toArray 5)) := (Below.refl _ wI).alloc (Nat.le_refl _) _
  have H := H.grow hb0
  have hlt := hB.lt
  have hsw : wS.heap.size ≤ wI.heap.size := hszI
  generalize wI.alloc (.cells (numC .u8 o_z32).toArray 5) = w1 at hB H hlt hb0 ⊢
  replace hB := Kept.mk hB
  refine (cL.out _).mono ?_
  rintro e w2 ⟨g, rfl, hb2, hg2, hA2⟩
  have hB2 := Kept.mk (hB.out.from hb2)
  have H := H.more hb2 hg2 hA2
  have hne : wI.heap.size < g := by omega
  clear hB hb2 hg2 hA2 hlt hb0
  obtain ⟨gb, hgbe⟩ : ∃ b, wI.heap.size = b := ⟨_, rfl⟩
  rw [hgbe] at hB2 hne hsw ⊢
  have hgb : wS.heap.size ≤ gb := hsw
  replace hgbe := Kept.mk hgbe
  go_wp2
  go_loopw [5] (fun v5 wr => ∃ (i : Nat), i ≤ 32 ∧ v5 = .int .i64 (i : Int) ∧ SM wS wr [(g, lL)] ∧ Kept (Arr wr gb 5 .u8 (lL.take i ++ o_z32.drop i))) (fun v5 _ => 32 - (RowKit.intOf v5).toNat)
  case atStart => exact ⟨0, by omega, rfl, H, hB2⟩
  case round =>
    clear H hB2
    obtain ⟨i, hi, rfl, H, HB⟩ := hrel
    by_cases hlt : i < 32
    · obtain ⟨q, hq⟩ : ∃ q, lL.getD i 0 = q := ⟨_, rfl⟩
      have hql : q < 256 := hq ▸ getD_ltN lL_lt i (by rw [lL_len]; omega)
      have c1 := H.cell (.head _) i (by rw [lL_len]; omega)
      rw [hq] at c1
      have hlti : (i : Int) < 32 := by omega
      have kq : IntKind.u8.wrap (q : Int) = (q : Int) := by simp [IntKind.wrap, IntKind.signed, IntKind.bits]; omega
      have hz0 := drop_getD o_z32 i (by show i < 32; exact hlt)
      have hdl : (lL.take i).length = i := by rw [List.length_take, lL_len]; omega
      have e0 := HB.out.cellMid hz0 hdl
      have f0 := HB.out.frozen i
      have hBn : Arr (wr.setCell ⟨gb, i, none⟩ (.int .u8 (q : Int))) gb 5 .u8 (lL.take (i + 1) ++ o_z32.drop (i + 1)) := by
        have h := HB.out.step hz0 hdl q rfl
        rw [show lL.take i ++ [q] = lL.take (i + 1) from hq ▸ take_snoc lL i (by rw [lL_len]; exact hlt)] at h
        exact h
      have hne3 : ∀ g' x', (g', x') ∈ [(g, lL)] → g' ≠ gb := by
        intro g' x' h
        simp at h
        omega
      have Hn := H.setOther gb i (.int .u8 (q : Int)) hne3 hgb
      replace hBn := Kept.mk hBn
      replace hq := Kept.mk hq
      clear hz0 hne3 hdl
      go_wp2
      go_roundw
      case rel => exact ⟨i + 1, by omega, val_eq (by omega), Hn, hBn⟩
      case measure => first | (simp [RowKit.intOf]; done) | (simp [RowKit.intOf]; omega)
    · obtain rfl : i = 32 := by omega
      have hA := HB.out
      rw [show lL.take 32 ++ o_z32.drop 32 = digs (unB lL) from (by kernel_rfl)] at hA
      have HA := Kept.mk hA
      have HB := Kept.mk H.below
      clear hA H
      go_wp2_with (first
        | (refine s_flat rfl _ _ rfl [8] rfl (by decide) (by decide) (by rfl) (SM.start _) ?_; intro g2 w2 H2; have hb2 := H2.below; have hN := Kept.mk (H2.holds g2 [8] (.head _)); clear H2; have HA := Kept.mk (HA.out.from hb2); have HB := Kept.mk (HB.out.trans (hb2.mono HB.out.size)); clear hb2)
        | (go_at_call 25; (refine (cMod.out _ _ _ hN.out).mono ?_); rintro _ w2 ⟨rfl, hb2⟩; have HA := Kept.mk (HA.out.from hb2); have HB := Kept.mk (HB.out.trans (hb2.mono HB.out.size)); clear hb2)
        | (go_at_call 21; (with_reducible refine (cM8.out _).mono ?_); rintro _ w2 ⟨rfl, hb2⟩; have HA := Kept.mk (HA.out.from hb2); have HB := Kept.mk (HB.out.trans (hb2.mono HB.out.size)); clear hb2; have hcv := conv_at (unB lL) HA.out 32 rfl; rw [hlb.out] at hcv)
        | (go_at_call 21; (with_reducible refine (cML.out _).mono ?_); rintro _ w2 ⟨rfl, hb2⟩; have HA := Kept.mk (HA.out.from hb2); have HB := Kept.mk (HB.out.trans (hb2.mono HB.out.size)); clear hb2)
        | (go_at_call 14; (with_reducible refine (cF.out _).mono ?_); rintro _ w2 ⟨rfl, hb2⟩; have HA := Kept.mk (HA.out.from hb2); have HB := Kept.mk (HB.out.trans (hb2.mono HB.out.size)); clear hb2)
        | (go_at_call 19; (with_reducible refine (cZ.out _).mono ?_); rintro _ w2 ⟨rfl, hb2⟩; have HA := Kept.mk (HA.out.from hb2); have HB := Kept.mk (HB.out.trans (hb2.mono HB.out.size)); clear hb2))
      go_ret
      exact ⟨rfl, HB.out⟩
set_option maxHeartbeats 6400000 in
theorem eight_no (p : ByteArray) (cF : ∀ w, Calls Try.prog 14 #[] w (RetV (.bool true) w)) (cI : ∀ w, Calls Try.prog 15 #[.string p] w (RetV (.bool false) w)) (wS : World) : Calls Try.prog 8 #[.string p] wS (RetV (.bool true) wS) := by
  have H := RMem.start wS
  replace cF := Kept.mk cF
  replace cI := Kept.mk cI
  go_enter Try.func8, Try.ntmps8
  go_wp2_with (first
    | (go_at_call 14; with_reducible refine r_call (by assumption) (cF.out _) ?_; intro w H)
    | (go_at_call 15; with_reducible refine r_call (by assumption) (cI.out _) ?_; intro w H))
  go_ret
  exact ⟨rfl, H.below⟩
theorem oL_oN : oN = oL := rfl
theorem unL_num : numB (unB lL) = oL := by rw [unB_num lL_lt, lL_val, oL_oN]
theorem modB_num (a : List Nat) : numB (modB a) = valB 256 a % oN := by
  rw [numB, modB_nat, val_limbs]
  exact Nat.mod_eq_of_lt (Nat.lt_trans (Nat.mod_lt _ o_pos) (by decide +kernel))
theorem mod8 : numB (modB [8]) = 8 := by rw [modB_num]; decide +kernel
theorem law_eight (c : CurveOk) (p : List UInt8) (w : World) : Calls Try.prog 8 #[.string (S p)] w (RetV (.bool true) w) := by
  cases hp : dec p with
  | none => exact eight_no (S p) (fixed_any c) (is_none c hp) w
  | some P =>
    have oP := dec_on hp
    have m1 := c.mul (modB_len [8]) hp
    rw [mod8] at m1
    have m2 := c.mul (k := unB lL) rfl (dec_enc (pmul_on oP 8))
    rw [unL_num, eight_all oP] at m2
    exact eight_core (S p) _ _ _ _ rfl (fixed_any c) (is_some c hp) m1 m2 c.zero (fun ga ca w h => Mod_walk [8] ga 1 ca rfl (by omega) (fun x hx => by simp at hx; omega) w h) w
set_option maxHeartbeats 6400000 in
theorem order_core (a bs lb x ar z : ByteArray) (da : List Nat) (hda : da.length = 32) (hsa : a.size = 32) (hlb : S (unB lL) = lb) (cF : ∀ w, Calls Try.prog 14 #[] w (RetV (.bool true) w)) (cB : ∀ w, Calls Try.prog 17 #[] w (RetV (.string bs) w)) (cML : ∀ w, Calls Try.prog 21 #[.string lb, .string bs] w (RetV (.tuple #[.string z, .int .i64 0]) w)) (cMa : ∀ w, Calls Try.prog 21 #[.string a, .string bs] w (RetV (.tuple #[.string x, .int .i64 0]) w)) (cMr : ∀ w, Calls Try.prog 21 #[.string ar, .string bs] w (RetV (.tuple #[.string x, .int .i64 0]) w)) (cZ : ∀ w, Calls Try.prog 19 #[] w (RetV (.string z) w)) (cMod : ∀ ga ca w, AtS w ga da → Calls Try.prog 25 #[.slice (some ⟨ga, 0, none⟩) 32 ca] w (RetV (.string ar) w)) (cD : ∀ w, Calls Try.prog 28 #[.string a] w (DgPost da w)) (wS : World) : Calls Try.prog 7 #[.string a] wS (RetV (.bool true) wS) := by
  replace cF := Kept.mk cF
  replace cB := Kept.mk cB
  replace cML := Kept.mk cML
  replace cMa := Kept.mk cMa
  replace cMr := Kept.mk cMr
  replace cZ := Kept.mk cZ
  replace cMod := Kept.mk cMod
  replace cD := Kept.mk cD
  replace hda := Kept.mk hda
  obtain ⟨i1, hi1, hy0, hy1, hy2⟩ := info_parts info5
  have H := SM.start wS
  have cL := Kept.mk fun w => L_any w
  replace hlb := Kept.mk hlb
  go_enter Try.func7, Try.ntmps7
  go_wp2_with (first
    | (refine wpList_make_row _ rfl _ _ 36 rfl 5 i1 (.int .u8 0) Try.underlying36 hi1 hy0 hy1 rfl .i64 .i64 32 rfl rfl (by rw [hy2]; omega) (by omega) ?_; rw [o_made32])
    | (go_at_call 27; fail "later"))
  have hszI := H.below.size
  have hB := Arr.new wS 5 .u8 o_z32
  have hb0 : Below wS.heap.size wS (wS.alloc (.cells (numC .u8 o_z32).toArray 5)) := (Below.refl _ wS).alloc (Nat.le_refl _) _
  have H := H.grow hb0
  have hlt := hB.lt
  have hsw : wS.heap.size ≤ wS.heap.size := hszI
  generalize wS.alloc (.cells (numC .u8 o_z32).toArray 5) = w1 at hB H hlt hb0 ⊢
  replace hB := Kept.mk hB
  refine (cL.out _).mono ?_
  rintro e w2 ⟨g, rfl, hb2, hg2, hA2⟩
  have hB2 := Kept.mk (hB.out.from hb2)
  have H := H.more hb2 hg2 hA2
  have hne : wS.heap.size < g := by omega
  clear hB hb2 hg2 hA2 hlt hb0
  obtain ⟨gb, hgbe⟩ : ∃ b, wS.heap.size = b := ⟨_, rfl⟩
  rw [hgbe] at hB2 hne ⊢
  have hgb : wS.heap.size ≤ gb := by omega
  replace hgbe := Kept.mk hgbe
  go_wp2
  go_loopw [5] (fun v5 wr => ∃ (i : Nat), i ≤ 32 ∧ v5 = .int .i64 (i : Int) ∧ SM wS wr [(g, lL)] ∧ Kept (Arr wr gb 5 .u8 (lL.take i ++ o_z32.drop i))) (fun v5 _ => 32 - (RowKit.intOf v5).toNat)
  case atStart => exact ⟨0, by omega, rfl, H, hB2⟩
  case round =>
    clear H hB2
    obtain ⟨i, hi, rfl, H, HB⟩ := hrel
    by_cases hlt : i < 32
    · obtain ⟨q, hq⟩ : ∃ q, lL.getD i 0 = q := ⟨_, rfl⟩
      have hql : q < 256 := hq ▸ getD_ltN lL_lt i (by rw [lL_len]; omega)
      have c1 := H.cell (.head _) i (by rw [lL_len]; omega)
      rw [hq] at c1
      have hlti : (i : Int) < 32 := by omega
      have kq : IntKind.u8.wrap (q : Int) = (q : Int) := by simp [IntKind.wrap, IntKind.signed, IntKind.bits]; omega
      have hz0 := drop_getD o_z32 i (by show i < 32; exact hlt)
      have hdl : (lL.take i).length = i := by rw [List.length_take, lL_len]; omega
      have e0 := HB.out.cellMid hz0 hdl
      have f0 := HB.out.frozen i
      have hBn : Arr (wr.setCell ⟨gb, i, none⟩ (.int .u8 (q : Int))) gb 5 .u8 (lL.take (i + 1) ++ o_z32.drop (i + 1)) := by
        have h := HB.out.step hz0 hdl q rfl
        rw [show lL.take i ++ [q] = lL.take (i + 1) from hq ▸ take_snoc lL i (by rw [lL_len]; exact hlt)] at h
        exact h
      have hne3 : ∀ g' x', (g', x') ∈ [(g, lL)] → g' ≠ gb := by
        intro g' x' h
        simp at h
        omega
      have Hn := H.setOther gb i (.int .u8 (q : Int)) hne3 hgb
      replace hBn := Kept.mk hBn
      replace hq := Kept.mk hq
      clear hz0 hne3 hdl
      go_wp2
      go_roundw
      case rel => exact ⟨i + 1, by omega, val_eq (by omega), Hn, hBn⟩
      case measure => first | (simp [RowKit.intOf]; done) | (simp [RowKit.intOf]; omega)
    · obtain rfl : i = 32 := by omega
      have hA := HB.out
      rw [show lL.take 32 ++ o_z32.drop 32 = digs (unB lL) from (by kernel_rfl)] at hA
      have HA := Kept.mk hA
      have HB := Kept.mk H.below
      clear hA H
      have hcv : ∀ u : Held (From wr.drew), (convert 36 9 (.slice (some ⟨gb, 0, none⟩) 32 32)).run Try.prog u.w = .ok (.string lb) u.w := fun u => by
        have h := conv_at (unB lL) (HA.out.from u.h.of_drew) 32 rfl
        rw [hlb.out] at h
        exact h
      go_wp2
      refine wp_region_from (by kernel_rfl) (by kernel_rfl) ?_
      repeat (go_big_quiet_step ((first | (go_at_call 17; with_reducible exact held_call _ (cB.out _)) | (go_at_call 21; with_reducible exact held_call _ (cML.out _)))))
      refine wpQuiet_nil ?_
      intro w5 hw5
      have hb2 := hw5.of_drew
      have HA := Kept.mk (HA.out.from hb2); have HB := Kept.mk (HB.out.trans (hb2.mono HB.out.size)); clear hb2
      clear hcv hw5
      go_wp2_with (first
        | (go_at_call 28; refine (cD.out _).mono ?_; rintro _ w2 ⟨g2, c2, rfl, hb2, _, hN⟩; rw [hda.out]; have hN := Kept.mk hN; have HA := Kept.mk (HA.out.from hb2); have HB := Kept.mk (HB.out.trans (hb2.mono HB.out.size)); clear hb2)
        | (go_at_call 25; (refine (cMod.out _ _ _ hN.out).mono ?_); rintro _ w2 ⟨rfl, hb2⟩; have HA := Kept.mk (HA.out.from hb2); have HB := Kept.mk (HB.out.trans (hb2.mono HB.out.size)); clear hb2)
        | (go_at_call 17; (with_reducible refine (cB.out _).mono ?_); rintro _ w2 ⟨rfl, hb2⟩; have HA := Kept.mk (HA.out.from hb2); have HB := Kept.mk (HB.out.trans (hb2.mono HB.out.size)); clear hb2)
        | (go_at_call 21; (with_reducible refine (cMa.out _).mono ?_); rintro _ w2 ⟨rfl, hb2⟩; have HA := Kept.mk (HA.out.from hb2); have HB := Kept.mk (HB.out.trans (hb2.mono HB.out.size)); clear hb2)
        | (go_at_call 21; (with_reducible refine (cMr.out _).mono ?_); rintro _ w2 ⟨rfl, hb2⟩; have HA := Kept.mk (HA.out.from hb2); have HB := Kept.mk (HB.out.trans (hb2.mono HB.out.size)); clear hb2)
        | (go_at_call 14; (with_reducible refine (cF.out _).mono ?_); rintro _ w2 ⟨rfl, hb2⟩; have HA := Kept.mk (HA.out.from hb2); have HB := Kept.mk (HB.out.trans (hb2.mono HB.out.size)); clear hb2)
        | (go_at_call 19; (with_reducible refine (cZ.out _).mono ?_); rintro _ w2 ⟨rfl, hb2⟩; have HA := Kept.mk (HA.out.from hb2); have HB := Kept.mk (HB.out.trans (hb2.mono HB.out.size)); clear hb2))
      go_ret
      exact ⟨rfl, HB.out⟩
set_option maxHeartbeats 6400000 in
theorem order_no (a : ByteArray) (hsa : a.size ≠ 32) (cF : ∀ w, Calls Try.prog 14 #[] w (RetV (.bool true) w)) (wS : World) : Calls Try.prog 7 #[.string a] wS (RetV (.bool true) wS) := by
  have H := RMem.start wS
  have hs2 : ((a.size : Int) != 32) = true := by simp; omega
  clear hsa
  replace cF := Kept.mk cF
  go_enter Try.func7, Try.ntmps7
  go_wp2_with (first
    | (go_at_call 14; with_reducible refine r_call (by assumption) (cF.out _) ?_; intro w H))
  go_ret
  exact ⟨rfl, H.below⟩
theorem law_order (c : CurveOk) (a : List UInt8) (w : World) : Calls Try.prog 7 #[.string (S a)] w (RetV (.bool true) w) := by
  by_cases ha : a.length = 32
  · have hb := dec_enc pbase_on
    have m1 := c.mul (k := unB lL) rfl hb
    rw [unL_num, base_order] at m1
    have m2 := c.mul ha hb
    have m3 := c.mul (modB_len (digs a)) hb
    rw [modB_num, show valB 256 (digs a) = numB a from rfl, oL_oN, pmul_mod pbase_on base_order] at m3
    exact order_core (S a) _ _ _ _ _ (digs a) (by rw [digs_len, ha]) (by rw [S_size, ha]) rfl (fixed_any c) c.base m1 m2 m3 c.zero (fun ga ca w h => Mod_walk (digs a) ga 32 ca (by rw [digs_len, ha]) (by omega) (digs_lt a) w h) (Digits_any a (by omega)) w
  · exact order_no (S a) (by rw [S_size]; exact ha) (fixed_any c) w
end Go.Proofs.Ytockcnglennihaa
