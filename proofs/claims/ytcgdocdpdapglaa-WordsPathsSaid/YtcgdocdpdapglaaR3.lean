/- The document's answer: texts and names. -/
import Derived.Test.YtcgdocdpdapglaaR2
namespace Go.Proofs.Ytcgdocdpdapglaa
open Go.RowKit Go.Lib
theorem runeR_good {l : List UInt8} (h : good l = true) : runeR l = decodeL l := by unfold runeR; rw [if_pos h]
theorem runeR_bad {l : List UInt8} (h : good l = false) : runeR l = (0, 0) := by unfold runeR; rw [if_neg (by rw [h]; decide)]
/-- A character stands: it, and its bytes. -/
theorem rune_good (s : List UInt8) (i r n : Nat) (hg : good (s.drop i) = true) (hd : decodeL (s.drop i) = (r, n)) (hi : i < s.length) (hs : s.length ≤ 1125899906842624) (w : World) :
    Calls Try.prog 25 #[.string (S s), .int .i64 i] w fun e w' => e = .returned (.tuple #[.int .i64 r, .int .i64 n]) ∧ Below w.heap.size w w' := by
  refine (rune_any s i hi hs w).mono fun e w' h => ?_
  unfold RunePost at h
  rw [runeR_good hg, hd] at h
  exact h
theorem rune_bad (s : List UInt8) (i : Nat) (hg : good (s.drop i) = false) (hi : i < s.length) (hs : s.length ≤ 1125899906842624) (w : World) :
    Calls Try.prog 25 #[.string (S s), .int .i64 i] w fun e w' => e = .returned (.tuple #[.int .i64 0, .int .i64 0]) ∧ Below w.heap.size w w' := by
  refine (rune_any s i hi hs w).mono fun e w' h => ?_
  unfold RunePost at h
  rw [runeR_bad hg] at h
  exact h
theorem drop_neL {s : List UInt8} {i : Nat} (hi : i < s.length) : s.drop i ≠ [] := by
  intro h0
  have := congrArg List.length h0
  rw [List.length_drop] at this
  simp at this; omega
set_option maxHeartbeats 3200000 in
theorem textR_any (s : List UInt8) (hs : s.length ≤ 1125899906842624) (w : World) :
    Calls Try.prog 12 #[.string (S s)] w fun e w' => e = .returned (.bool (validD s)) ∧ Below w.heap.size w w' := by
  have hz : (S s).size = s.length := S_size s
  replace hz := Lib.hid hz
  go_enter Try.func12, Try.ntmps12
  go_wp2
  go_loopw [3] (fun k wr => ∃ pos : Nat, pos ≤ s.length ∧ k = .int .i64 pos ∧ Hid (Below w.heap.size w wr) ∧ Hid (validD (s.drop pos) = validD s)) (fun k _ => s.length - (intOf k).toNat)
  case atStart => exact ⟨0, by omega, rfl, Below.refl _ _, rfl⟩
  case round =>
    obtain ⟨pos, hp, rfl, HB, HV⟩ := hrel
    have hzz := hz.out
    by_cases hlt : pos < s.length
    · have hlt2 : pos < (S s).size := by omega
      have hne := drop_neL hlt
      have hst := text_step _ hne
      rw [List.drop_drop] at hst
      cases hg : good (s.drop pos) with
      | true =>
        obtain ⟨d, hd⟩ : ∃ d, decodeL (s.drop pos) = d := ⟨_, rfl⟩
        obtain ⟨r, n⟩ := d
        have hw := decodeL_width (s.drop pos)
        have hle := decodeL_le _ hne
        rw [hd, List.length_drop] at hle
        rw [hd] at hw
        dsimp only at hle hw
        rw [hg, hd, Bool.true_and] at hst
        have hv : validD (s.drop (pos + n)) = validD s := by rw [← HV.out, hst]
        have hc := rune_good s pos r n hg hd hlt hs wr
        have b0 : ((n : Int) == 0) = false := by rw [beq_eq_false_iff_ne]; omega
        clear hst hd hg
        replace hv := Lib.hid hv
        replace hc := Lib.hid hc
        replace hne := Lib.hid hne
        replace hzz := Lib.hid hzz
        go_wp2_with fail
        refine hc.out.mono ?_
        rintro e w1 ⟨rfl, hb1⟩
        have B1 := Lib.hid (HB.out.trans (hb1.mono HB.out.size))
        clear hb1
        go_wp2
        go_roundw
        case rel => exact ⟨pos + n, by omega, by go_num, B1, hv⟩
        case measure => simp [intOf]; omega
      | false =>
        rw [hg, Bool.false_and] at hst
        have hv : validD s = false := by rw [← HV.out, hst]
        have hc := rune_bad s pos hg hlt hs wr
        clear hst hg
        replace hv := Lib.hid hv
        replace hc := Lib.hid hc
        replace hne := Lib.hid hne
        replace hzz := Lib.hid hzz
        go_wp2_with fail
        refine hc.out.mono ?_
        rintro e w1 ⟨rfl, hb1⟩
        have B1 := Lib.hid (HB.out.trans (hb1.mono HB.out.size))
        clear hb1
        go_wp2
        go_ret
        exact ⟨bool_ret hv.out.symm, B1.out⟩
    · have hv : validD s = true := by rw [← HV.out, List.drop_eq_nil_of_le (by omega)]; rfl
      have hge : ¬ pos < (S s).size := by omega
      replace hv := Lib.hid hv
      replace hzz := Lib.hid hzz
      go_wp2
      go_ret
      exact ⟨bool_ret hv.out.symm, HB.out⟩
set_option maxHeartbeats 3200000 in
theorem nameR_loop (s : List UInt8) (h1 : 1 ≤ (S s).size) (h24 : (S s).size ≤ 24) (hd : ((S s).toList == [46]) = false) (hdd : ((S s).toList == [46, 46]) = false) (w : World) :
    Calls Try.prog 14 #[.string (S s)] w fun e w' => e = .returned (.bool (nameAll s)) ∧ Below w.heap.size w w' := by
  have hz : (S s).size = s.length := S_size s
  replace hz := Lib.hid hz
  go_enter Try.func14, Try.ntmps14
  go_wp2
  go_loopw [3] (fun k wr => ∃ pos : Nat, pos ≤ s.length ∧ k = .int .i64 pos ∧ Hid (Below w.heap.size w wr) ∧ Hid (nameAll (s.drop pos) = nameAll s)) (fun k _ => s.length - (intOf k).toNat)
  case atStart => exact ⟨0, by omega, rfl, Below.refl _ _, rfl⟩
  case round =>
    obtain ⟨pos, hp, rfl, HB, HV⟩ := hrel
    have hzz := hz.out
    have hs : s.length ≤ 1125899906842624 := by omega
    by_cases hlt : pos < s.length
    · have hlt2 : pos < (S s).size := by omega
      have hne := drop_neL hlt
      have hst := nameAll_step _ hne
      unfold nameCh at hst
      rw [List.drop_drop] at hst
      cases hg : good (s.drop pos) with
      | true =>
        obtain ⟨d, hd⟩ : ∃ d, decodeL (s.drop pos) = d := ⟨_, rfl⟩
        obtain ⟨r, n⟩ := d
        have hw := decodeL_width (s.drop pos)
        have hle := decodeL_le _ hne
        rw [hd, List.length_drop] at hle
        rw [hd] at hw
        dsimp only at hle hw
        rw [hg, hd, Bool.true_and] at hst
        dsimp only at hst
        have hc := rune_good s pos r n hg hd hlt hs wr
        have b0 : ((n : Int) == 0) = false := by rw [beq_eq_false_iff_ne]; omega
        clear hd hg
        replace hc := Lib.hid hc
        replace hne := Lib.hid hne
        replace hzz := Lib.hid hzz
        replace hst := Lib.hid hst
        cases hpl : plainN r with
        | false =>
          have hv : nameAll s = false := by rw [← HV.out, hst.out, hpl]; rfl
          replace hv := Lib.hid hv
          replace hpl := Lib.hid hpl
          go_wp2_with fail
          refine hc.out.mono ?_
          rintro e w1 ⟨rfl, hb1⟩
          have B1 := Lib.hid (HB.out.trans (hb1.mono HB.out.size))
          clear hb1
          go_wp2_with fail
          refine (plainR_any _ _).mono ?_
          rw [plainZ_nat, hpl.out]
          rintro e w' ⟨rfl, rfl⟩
          go_wp2
          go_ret
          exact ⟨bool_ret hv.out.symm, B1.out⟩
        | true =>
          by_cases h47 : r = 47
          · have hv : nameAll s = false := by rw [← HV.out, hst.out, hpl, decide_eq_true h47]; rfl
            have b47 : ((r : Int) == 47) = true := by rw [h47]; rfl
            clear h47
            replace hv := Lib.hid hv
            replace hpl := Lib.hid hpl
            go_wp2_with fail
            refine hc.out.mono ?_
            rintro e w1 ⟨rfl, hb1⟩
            have B1 := Lib.hid (HB.out.trans (hb1.mono HB.out.size))
            clear hb1
            go_wp2_with fail
            refine (plainR_any _ _).mono ?_
            rw [plainZ_nat, hpl.out]
            rintro e w' ⟨rfl, rfl⟩
            go_wp2
            go_ret
            exact ⟨bool_ret hv.out.symm, B1.out⟩
          · have hv : nameAll (s.drop (pos + n)) = nameAll s := by rw [← HV.out, hst.out, hpl, decide_eq_false h47]; rfl
            have b47 : ((r : Int) == 47) = false := by rw [beq_eq_false_iff_ne]; omega
            clear h47
            replace hv := Lib.hid hv
            replace hpl := Lib.hid hpl
            go_wp2_with fail
            refine hc.out.mono ?_
            rintro e w1 ⟨rfl, hb1⟩
            have B1 := Lib.hid (HB.out.trans (hb1.mono HB.out.size))
            clear hb1
            go_wp2_with fail
            refine (plainR_any _ _).mono ?_
            rw [plainZ_nat, hpl.out]
            rintro e w' ⟨rfl, rfl⟩
            go_wp2
            go_roundw
            case rel => exact ⟨pos + n, by omega, by go_num, B1, hv⟩
            case measure => simp [intOf]; omega
      | false =>
        rw [hg, Bool.false_and] at hst
        have hv : nameAll s = false := by rw [← HV.out, hst]; rfl
        have hc := rune_bad s pos hg hlt hs wr
        clear hst hg
        replace hv := Lib.hid hv
        replace hc := Lib.hid hc
        replace hne := Lib.hid hne
        replace hzz := Lib.hid hzz
        go_wp2_with fail
        refine hc.out.mono ?_
        rintro e w1 ⟨rfl, hb1⟩
        have B1 := Lib.hid (HB.out.trans (hb1.mono HB.out.size))
        clear hb1
        go_wp2
        go_ret
        exact ⟨bool_ret hv.out.symm, B1.out⟩
    · have hv : nameAll s = true := by rw [← HV.out, List.drop_eq_nil_of_le (by omega)]; rfl
      have hge : ¬ pos < (S s).size := by omega
      replace hv := Lib.hid hv
      replace hzz := Lib.hid hzz
      go_wp2
      go_ret
      exact ⟨bool_ret hv.out.symm, HB.out⟩
theorem nameR_any (l : List UInt8) (w : World) : Calls Try.prog 14 #[.string (S l)] w fun e w' => e = .returned (.bool (isName l)) ∧ Below w.heap.size w w' := by
  unfold isName
  rw [← S_size l]
  by_cases h1 : (S l).size < 1
  · rw [decide_eq_false (show ¬ 1 ≤ (S l).size by omega)]
    go_enter Try.func14, Try.ntmps14
    go_wp2
    go_ret
    exact ⟨rfl, Below.refl _ _⟩
  by_cases h2 : 24 < (S l).size
  · rw [decide_eq_false (show ¬ (S l).size ≤ 24 by omega), Bool.false_and, Bool.and_false]
    go_enter Try.func14, Try.ntmps14
    go_wp2
    go_ret
    exact ⟨rfl, Below.refl _ _⟩
  rw [decide_eq_true (show 1 ≤ (S l).size by omega), decide_eq_true (show (S l).size ≤ 24 by omega), Bool.true_and, Bool.true_and]
  by_cases h3 : l = [46]
  · have b : ((S l).toList == [46]) = true := by rw [toList_beq, S_data]; simpa using h3
    rw [decide_eq_true h3, Bool.not_true, Bool.false_and]
    clear h3
    go_enter Try.func14, Try.ntmps14
    go_wp2
    go_ret
    exact ⟨rfl, Below.refl _ _⟩
  have b : ((S l).toList == [46]) = false := by rw [toList_beq, S_data]; simpa using h3
  rw [decide_eq_false h3, Bool.not_false, Bool.true_and]
  clear h3
  by_cases h4 : l = [46, 46]
  · have b2 : ((S l).toList == [46, 46]) = true := by rw [toList_beq, S_data]; simpa using h4
    rw [decide_eq_true h4, Bool.not_true, Bool.false_and]
    clear h4
    go_enter Try.func14, Try.ntmps14
    go_wp2
    go_ret
    exact ⟨rfl, Below.refl _ _⟩
  have b2 : ((S l).toList == [46, 46]) = false := by rw [toList_beq, S_data]; simpa using h4
  rw [decide_eq_false h4, Bool.not_false, Bool.true_and]
  exact nameR_loop l (by omega) (by omega) b b2 w
end Go.Proofs.Ytcgdocdpdapglaa
