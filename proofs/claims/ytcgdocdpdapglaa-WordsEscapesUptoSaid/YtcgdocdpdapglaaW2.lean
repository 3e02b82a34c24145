/- Walks of package words: digits, one escape that is read, where a path's part ends, names. -/
import Derived.Test.YtcgdocdpdapglaaW1
namespace Go.Proofs.Ytcgdocdpdapglaa
open Go.RowKit Go.Lib
def isDigZ (c : Int) : Bool := (decide (48 ≤ c) && decide (c ≤ 57)) || (decide (97 ≤ c) && decide (c ≤ 102))
def digVZ (c : Int) : Int := if c ≤ 57 then c - 48 else c - 87
set_option maxHeartbeats 400000 in
theorem isDigit_any (c : Int) (w : World) : Calls Try.prog 36 #[.int .u8 c] w fun e w' => e = .returned (.bool (isDigZ c)) ∧ w = w' := by
  by_cases h1 : c < 48
  · have e : Hid (isDigZ c = false) := by show isDigZ c = false; unfold isDigZ; simp; omega
    go_enter Try.func36, Try.ntmps36
    go_wp2
    go_ret
    exact ⟨bool_ret e.out.symm, rfl⟩
  by_cases h2 : c ≤ 57
  · have e : Hid (isDigZ c = true) := by show isDigZ c = true; unfold isDigZ; simp; omega
    go_enter Try.func36, Try.ntmps36
    go_wp2
    go_ret
    exact ⟨bool_ret e.out.symm, rfl⟩
  by_cases h3 : c < 97
  · have e : Hid (isDigZ c = false) := by show isDigZ c = false; unfold isDigZ; simp; omega
    go_enter Try.func36, Try.ntmps36
    go_wp2
    go_ret
    exact ⟨bool_ret e.out.symm, rfl⟩
  by_cases h4 : c ≤ 102
  · have e : Hid (isDigZ c = true) := by show isDigZ c = true; unfold isDigZ; simp; omega
    go_enter Try.func36, Try.ntmps36
    go_wp2
    go_ret
    exact ⟨bool_ret e.out.symm, rfl⟩
  · have e : Hid (isDigZ c = false) := by show isDigZ c = false; unfold isDigZ; simp; omega
    go_enter Try.func36, Try.ntmps36
    go_wp2
    go_ret
    exact ⟨bool_ret e.out.symm, rfl⟩
def digVA (c : Int) : Int := if c ≤ 57 then (c - 48) % 256 else (c - 87) % 256
theorem digVA_lt (c : Int) : 0 ≤ digVA c ∧ digVA c < 256 := by unfold digVA; split <;> omega
set_option maxHeartbeats 400000 in
theorem digitValue_any (c : Int) (h0 : 0 ≤ c) (h9 : c ≤ 255) (w : World) : Calls Try.prog 37 #[.int .u8 c] w fun e w' => e = .returned (.int .u8 (digVA c)) ∧ w' = w := by
  by_cases h2 : c ≤ 57
  · have e : Hid (digVA c = (c - 48) % 256) := by show _ = _; unfold digVA; rw [if_pos h2]
    go_enter Try.func37, Try.ntmps37
    go_wp2
    go_ret
    refine ⟨int_ret ?_, rfl⟩
    rw [e.out]
  · have e : Hid (digVA c = (c - 87) % 256) := by show _ = _; unfold digVA; rw [if_neg h2]
    go_enter Try.func37, Try.ntmps37
    go_wp2
    go_ret
    refine ⟨int_ret ?_, rfl⟩
    rw [e.out]
    omega
set_option maxHeartbeats 800000 in
theorem partEnd_any (s : ByteArray) (h0 : 0 < s.size) (hs : s.size ≤ 1125899906842624) (w : World) : Calls Try.prog 28 #[.string s] w fun e w' => e = .returned (.int .i64 (partEndL s.data.toList)) ∧ w = w' := by
  go_enter Try.func28, Try.ntmps28
  go_wp2
  go_loop [3] (fun i => ∃ k : Nat, 1 ≤ k ∧ k ≤ s.size ∧ i = .int .i64 k ∧ Hid (partEndL s.data.toList = k + ((s.data.toList.drop k).takeWhile (fun c => !decide (c = 47))).length)) (fun i => s.size - (intOf i).toNat)
  case atStart => exact ⟨1, Nat.le_refl _, h0, rfl, rfl⟩
  case round =>
    obtain ⟨k, hk1, hk, rfl, H⟩ := hrel
    by_cases hlt : k < s.size
    · have hd : s.data.toList.drop k = s[k] :: s.data.toList.drop (k + 1) := by
        rw [List.drop_eq_getElem_cons (by rw [← Lib.size_eq]; exact hlt)]; rfl
      rw [hd, List.takeWhile_cons] at H
      clear hd
      by_cases hc : s[k] = 47
      · rw [hc] at H
        have hc2 : ((s[k].toNat : Int) == 47) = true := by rw [hc]; rfl
        clear hc
        go_wp2
        go_ret
        exact ⟨int_ret (by rw [H.out]; simp), rfl⟩
      · have hc2 : ((s[k].toNat : Int) == 47) = false := by
          rw [beq_eq_false_iff_ne]
          intro e
          apply hc
          have : s[k].toNat = 47 := by omega
          exact UInt8.toNat_inj.1 this
        have H2 : Hid (partEndL s.data.toList = (k + 1) + ((s.data.toList.drop (k + 1)).takeWhile (fun c => !decide (c = 47))).length) := by
          show _ = _
          rw [H.out, if_pos (by simp [hc])]
          rw [List.length_cons]; omega
        clear H hc
        go_wp2
        go_round
        case rel => exact ⟨k + 1, by omega, by omega, by go_num, H2⟩
        case measure => simp [intOf]; omega
    · go_wp2
      go_ret
      refine ⟨int_ret ?_, rfl⟩
      rw [H.out, List.drop_eq_nil_of_le (by rw [← Lib.size_eq]; omega)]
      simp; omega
end Go.Proofs.Ytcgdocdpdapglaa
