/- Walks of package words: names. -/
import Derived.Test.YtcgdocdpdapglaaW3
namespace Go.Proofs.Ytcgdocdpdapglaa
open Go.RowKit Go.Lib
theorem toList_beq (s : ByteArray) (l : List UInt8) : (s.toList == l) = decide (s.data.toList = l) := by
  have e : s.toList = s.data.toList := by
    have := Lib.extract_toList s 0 s.size
    rw [List.drop_zero, Nat.sub_zero, List.take_of_length_le (by rw [Lib.size_eq]; exact Nat.le_refl _)] at this
    rw [← this, show s.extract 0 s.size = s from ByteArray.extract_zero_size]
  rw [e, beq_dec]
set_option maxHeartbeats 1600000 in
theorem name_loop (s : ByteArray) (h1 : 1 ≤ s.size) (h24 : s.size ≤ 24) (hd : (s.toList == [46]) = false) (hdd : (s.toList == [46, 46]) = false) (w : World) :
    Calls Try.prog 13 #[.string s] w fun e w' => e = .returned (.bool (nameAll s.data.toList)) ∧ Below w.heap.size w w' := by
  have hs : s.size ≤ 1125899906842624 := by omega
  go_enter Try.func13, Try.ntmps13
  go_wp2
  go_loopw [3, 4] (fun _ _ wr => ∃ pos : Nat, wr = w.iter s pos ∧ Hid (nameAll (s.data.toList.drop pos) = nameAll s.data.toList)) (fun _ _ wr => s.size - wr.iterPos w.heap.size)
  case atStart => exact ⟨0, rfl, rfl⟩
  case round =>
    obtain ⟨pos, rfl, H⟩ := hrel
    by_cases hp : pos < s.size
    · have hnx : ∀ ty, (Instr.next (.pointer (some ⟨w.heap.size, 0, none⟩)) true ty).run Try.prog (w.iter s pos) = _ := fun ty => run_next_any w s pos ty hp
      have hst := nameAll_step _ (drop_ne hp)
      unfold nameCh at hst
      rw [Lib.decodeL_drop, List.drop_drop] at hst
      have H2 := Lib.hid hst
      clear hst
      have hw := Lib.width_pos s pos
      cases hg : good (s.data.toList.drop pos) with
      | true =>
        rw [hg] at H2
        have HG := Lib.hid hg
        clear hg
        cases hpl : plainN (Utf8.decode s pos).1 with
        | true =>
          rw [hpl] at H2
          have HP := Lib.hid hpl
          clear hpl
          by_cases h47 : (Utf8.decode s pos).1 = 47
          · rw [h47] at H2
            have b1 : (((Utf8.decode s pos).1 : Int) == 47) = true := by rw [h47]; rfl
            clear h47
            go_wp2_with fail
            refine (stands_any s pos hp hs _).mono ?_; rw [HG.out]; rintro e w' ⟨rfl, rfl⟩
            go_wp2_with fail
            refine (plain_any _ _).mono ?_; rw [plainZ_nat, HP.out]; rintro e w' ⟨rfl, rfl⟩
            go_wp2
            go_ret
            exact ⟨bool_ret (by rw [← H.out, H2.out]; rfl), Below.iter (Below.refl _ _) (Nat.le_refl _) _ _⟩
          · have b1 : (((Utf8.decode s pos).1 : Int) == 47) = false := by rw [beq_eq_false_iff_ne]; omega
            rw [decide_eq_false h47] at H2
            clear h47
            go_wp2_with fail
            refine (stands_any s pos hp hs _).mono ?_; rw [HG.out]; rintro e w' ⟨rfl, rfl⟩
            go_wp2_with fail
            refine (plain_any _ _).mono ?_; rw [plainZ_nat, HP.out]; rintro e w' ⟨rfl, rfl⟩
            go_wp2
            go_roundw
            case rel => exact ⟨pos + (Utf8.decode s pos).2, rfl, by rw [← H.out, H2.out]; rfl⟩
            case measure => simp; omega
        | false =>
          rw [hpl] at H2
          have HP := Lib.hid hpl
          clear hpl
          go_wp2_with fail
          refine (stands_any s pos hp hs _).mono ?_; rw [HG.out]; rintro e w' ⟨rfl, rfl⟩
          go_wp2_with fail
          refine (plain_any _ _).mono ?_; rw [plainZ_nat, HP.out]; rintro e w' ⟨rfl, rfl⟩
          go_wp2
          go_ret
          exact ⟨bool_ret (by rw [← H.out, H2.out]; rfl), Below.iter (Below.refl _ _) (Nat.le_refl _) _ _⟩
      | false =>
        rw [hg] at H2
        have HG := Lib.hid hg
        clear hg
        go_wp2_with fail
        refine (stands_any s pos hp hs _).mono ?_; rw [HG.out]; rintro e w' ⟨rfl, rfl⟩
        go_wp2
        go_ret
        exact ⟨bool_ret (by rw [← H.out, H2.out]; rfl), Below.iter (Below.refl _ _) (Nat.le_refl _) _ _⟩
    · have hnx : ∀ ty, (Instr.next (.pointer (some ⟨w.heap.size, 0, none⟩)) true ty).run Try.prog (w.iter s pos) = _ := fun ty => run_next_end w s pos ty hp
      go_wp2
      go_ret
      refine ⟨bool_ret ?_, Below.iter (Below.refl _ _) (Nat.le_refl _) _ _⟩
      rw [← H.out, List.drop_eq_nil_of_le (by rw [← Lib.size_eq]; omega)]
      rfl
theorem name_any (s : ByteArray) (w : World) : Calls Try.prog 13 #[.string s] w fun e w' => e = .returned (.bool (isName s.data.toList)) ∧ Below w.heap.size w w' := by
  unfold isName
  rw [← Lib.size_eq]
  by_cases h1 : s.size < 1
  · rw [decide_eq_false (show ¬ 1 ≤ s.size by omega)]
    go_enter Try.func13, Try.ntmps13
    go_wp2
    go_ret
    exact ⟨rfl, Below.refl _ _⟩
  by_cases h2 : 24 < s.size
  · rw [decide_eq_false (show ¬ s.size ≤ 24 by omega), Bool.false_and, Bool.and_false]
    go_enter Try.func13, Try.ntmps13
    go_wp2
    go_ret
    exact ⟨rfl, Below.refl _ _⟩
  rw [decide_eq_true (show 1 ≤ s.size by omega), decide_eq_true (show s.size ≤ 24 by omega), Bool.true_and, Bool.true_and]
  by_cases h3 : s.data.toList = [46]
  · have b : (s.toList == [46]) = true := by rw [toList_beq]; simpa using h3
    rw [decide_eq_true h3, Bool.not_true, Bool.false_and]
    clear h3
    go_enter Try.func13, Try.ntmps13
    go_wp2
    go_ret
    exact ⟨rfl, Below.refl _ _⟩
  have b : (s.toList == [46]) = false := by rw [toList_beq]; simpa using h3
  rw [decide_eq_false h3, Bool.not_false, Bool.true_and]
  clear h3
  by_cases h4 : s.data.toList = [46, 46]
  · have b2 : (s.toList == [46, 46]) = true := by rw [toList_beq]; simpa using h4
    rw [decide_eq_true h4, Bool.not_true, Bool.false_and]
    clear h4
    go_enter Try.func13, Try.ntmps13
    go_wp2
    go_ret
    exact ⟨rfl, Below.refl _ _⟩
  have b2 : (s.toList == [46, 46]) = false := by rw [toList_beq]; simpa using h4
  rw [decide_eq_false h4, Bool.not_false, Bool.true_and]
  exact name_loop s (by omega) (by omega) b b2 w
end Go.Proofs.Ytcgdocdpdapglaa
