import Derived.Test.YtcgdocdpdapglaaW2
namespace Go.Proofs.Ytcgdocdpdapglaa
open Go.RowKit Go.Lib
theorem getD_at (s : ByteArray) (k : Nat) (h : k < s.size) : s.data.toList.getD k 0 = s[k] := by
  rw [List.getD_eq_getElem?_getD, List.getElem?_eq_getElem (by rw [← Lib.size_eq]; exact h)]; rfl
def Pair (b : UInt8) (n : Nat) : Value := .tuple #[.int .u8 (b.toNat : Int), .int .i64 (n : Int)]
theorem isDigZ_nat (c : UInt8) : isDigZ (c.toNat : Int) = isDig c := by
  have e1 : decide ((48 : Int) ≤ (c.toNat : Int)) = decide (48 ≤ c.toNat) := decide_eq_decide.2 (by omega)
  have e2 : decide ((c.toNat : Int) ≤ 57) = decide (c.toNat ≤ 57) := decide_eq_decide.2 (by omega)
  have e3 : decide ((97 : Int) ≤ (c.toNat : Int)) = decide (97 ≤ c.toNat) := decide_eq_decide.2 (by omega)
  have e4 : decide ((c.toNat : Int) ≤ 102) = decide (c.toNat ≤ 102) := decide_eq_decide.2 (by omega)
  unfold isDigZ isDig
  rw [e1, e2, e3, e4]
theorem beq_byte (c : UInt8) (n : Nat) (hn : n < 256) : ((c.toNat : Int) == (n : Int)) = decide (c = UInt8.ofNat n) := by
  rw [Bool.eq_iff_iff, beq_iff_eq, decide_eq_true_eq]
  constructor
  · intro h
    have h2 : c.toNat = n := by omega
    subst h2; simp
  · intro h
    subst h
    simp; omega
theorem bne_byte (c : UInt8) (n : Nat) (hn : n < 256) : ((c.toNat : Int) != (n : Int)) = !decide (c = UInt8.ofNat n) := by
  unfold bne; rw [beq_byte c n hn]
theorem beq_no {c : UInt8} {n : Nat} (hn : n < 256) (h : c ≠ UInt8.ofNat n) : ((c.toNat : Int) == (n : Int)) = false := by
  rw [beq_byte c n hn]; simpa using h
theorem bne_yes {c : UInt8} {n : Nat} (hn : n < 256) (h : c ≠ UInt8.ofNat n) : ((c.toNat : Int) != (n : Int)) = true := by
  rw [bne_byte c n hn]; simpa using h
theorem or_hex : ∀ x y : Fin 16, bits BinOp.or IntKind.u8 ((x.val : Int) * 16 % 256) (y.val : Int) = (((UInt8.ofNat (x.val * 16 + y.val)).toNat : Nat) : Int) := by decide +kernel
theorem digVA_nat (c : UInt8) (h : isDig c = true) : digVA (c.toNat : Int) = (digV c : Int) ∧ digV c < 16 := by
  unfold isDig at h
  have h' : (48 ≤ c.toNat ∧ c.toNat ≤ 57) ∨ (97 ≤ c.toNat ∧ c.toNat ≤ 102) := by simpa using h
  unfold digVA digV
  split <;> split <;> omega
theorem or_digits (c d : UInt8) (hc : isDig c = true) (hd : isDig d = true) : bits BinOp.or IntKind.u8 (digVA (c.toNat : Int) * 16 % 256) (digVA (d.toNat : Int)) = (((UInt8.ofNat (digV c * 16 + digV d)).toNat : Nat) : Int) := by
  obtain ⟨e1, l1⟩ := digVA_nat c hc
  obtain ⟨e2, l2⟩ := digVA_nat d hd
  rw [e1, e2]
  exact or_hex ⟨digV c, l1⟩ ⟨digV d, l2⟩
def RB (s : ByteArray) (w : World) (e : Ending) (w' : World) : Prop := e = .returned (Pair (readB s.data.toList).1 (readB s.data.toList).2) ∧ Below w.heap.size w w'
set_option maxHeartbeats 1600000 in
theorem readByte_plain (s : ByteArray) (h0 : 0 < s.size) (hs : s.size ≤ 1125899906842624) (hc : s[0] ≠ 92) (w : World) :
    Calls Try.prog 29 #[.string s] w (RB s w) := by
  have e : Hid (readB s.data.toList = (s[0], 1)) := by
    show _ = _
    unfold readB
    rw [getD_at s 0 h0, if_pos hc]
  have b1 : ((s[0].toNat : Int) != 92) = true := bne_yes (n := 92) (by decide) hc
  clear hc
  go_enter Try.func29, Try.ntmps29
  go_wp2
  go_ret2
  refine ⟨?_, Below.refl _ _⟩
  rw [e.out]; rfl
set_option maxHeartbeats 1600000 in
theorem readByte_slash (s : ByteArray) (h0 : 0 < s.size) (h1 : 1 < s.size) (hs : s.size ≤ 1125899906842624) (hc : s[0] = 92) (hd : s[1] = 92) (w : World) :
    Calls Try.prog 29 #[.string s] w (RB s w) := by
  have e : Hid (readB s.data.toList = (92, 2)) := by
    show _ = _
    unfold readB
    rw [getD_at s 0 h0, getD_at s 1 h1, if_neg (by rw [hc]; simp), if_pos ⟨by rw [← Lib.size_eq]; omega, hd⟩]
  have b1 : ((s[0].toNat : Int) != 92) = false := by rw [hc]; rfl
  have b2 : ((s[1].toNat : Int) == 92) = true := by rw [hd]; rfl
  clear hc hd
  go_enter Try.func29, Try.ntmps29
  go_wp2
  go_ret2
  refine ⟨?_, Below.refl _ _⟩
  rw [e.out]; rfl
set_option maxHeartbeats 1600000 in
theorem readByte_line (s : ByteArray) (h0 : 0 < s.size) (h1 : 1 < s.size) (hs : s.size ≤ 1125899906842624) (hc : s[0] = 92) (hd : s[1] = 110) (w : World) :
    Calls Try.prog 29 #[.string s] w (RB s w) := by
  have e : Hid (readB s.data.toList = (10, 2)) := by
    show _ = _
    unfold readB
    rw [getD_at s 0 h0, getD_at s 1 h1, if_neg (by rw [hc]; simp), if_neg (by rw [hd]; simp), if_pos ⟨by rw [← Lib.size_eq]; omega, hd⟩]
  have b1 : ((s[0].toNat : Int) != 92) = false := by rw [hc]; rfl
  have b2 : ((s[1].toNat : Int) == 92) = false := by rw [hd]; rfl
  have b3 : ((s[1].toNat : Int) == 110) = true := by rw [hd]; rfl
  clear hc hd
  go_enter Try.func29, Try.ntmps29
  go_wp2
  go_ret2
  refine ⟨?_, Below.refl _ _⟩
  rw [e.out]; rfl
/-- A backslash that stands last. -/
theorem readByte_last (s : ByteArray) (h0 : 0 < s.size) (h1 : ¬ 1 < s.size) (hc : s[0] = 92) (w : World) :
    Calls Try.prog 29 #[.string s] w (RB s w) := by
  have e : Hid (readB s.data.toList = (0, 0)) := by
    show _ = _
    unfold readB
    rw [getD_at s 0 h0, if_neg (by rw [hc]; simp), if_neg (by rw [← Lib.size_eq]; omega), if_neg (by rw [← Lib.size_eq]; omega), if_neg (by rw [← Lib.size_eq]; omega)]
  have b1 : ((s[0].toNat : Int) != 92) = false := by rw [hc]; rfl
  clear hc
  go_enter Try.func29, Try.ntmps29
  go_wp2
  go_ret2
  refine ⟨?_, Below.refl _ _⟩
  rw [e.out]; rfl
set_option maxHeartbeats 1600000 in
theorem readByte_short (s : ByteArray) (h0 : 0 < s.size) (h1 : 1 < s.size) (hs : s.size ≤ 1125899906842624) (hc : s[0] = 92) (hd : s[1] ≠ 92) (hd2 : s[1] ≠ 110) (hx : ¬ 3 < s.size) (w : World) :
    Calls Try.prog 29 #[.string s] w (RB s w) := by
  have e : Hid (readB s.data.toList = (0, 0)) := by
    show _ = _
    unfold readB
    rw [getD_at s 0 h0, getD_at s 1 h1, if_neg (by rw [hc]; simp), if_neg (fun h => hd h.2), if_neg (fun h => hd2 h.2), if_neg (by rw [← Lib.size_eq]; omega)]
  have b1 : ((s[0].toNat : Int) != 92) = false := by rw [hc]; rfl
  have b2 : ((s[1].toNat : Int) == 92) = false := beq_no (n := 92) (by decide) hd
  have b3 : ((s[1].toNat : Int) == 110) = false := beq_no (n := 110) (by decide) hd2
  clear hc hd hd2
  go_enter Try.func29, Try.ntmps29
  go_wp2
  go_ret2
  refine ⟨?_, Below.refl _ _⟩
  rw [e.out]; rfl
set_option maxHeartbeats 1600000 in
theorem readByte_nox (s : ByteArray) (h0 : 0 < s.size) (h1 : 1 < s.size) (h3 : 3 < s.size) (hs : s.size ≤ 1125899906842624) (hc : s[0] = 92) (hd : s[1] ≠ 92) (hd2 : s[1] ≠ 110) (hx : s[1] ≠ 120) (w : World) :
    Calls Try.prog 29 #[.string s] w (RB s w) := by
  have e : Hid (readB s.data.toList = (0, 0)) := by
    show _ = _
    unfold readB
    rw [getD_at s 0 h0, getD_at s 1 h1, if_neg (by rw [hc]; simp), if_neg (fun h => hd h.2), if_neg (fun h => hd2 h.2), if_neg (fun h => hx h.2.1)]
  have b1 : ((s[0].toNat : Int) != 92) = false := by rw [hc]; rfl
  have b2 : ((s[1].toNat : Int) == 92) = false := beq_no (n := 92) (by decide) hd
  have b3 : ((s[1].toNat : Int) == 110) = false := beq_no (n := 110) (by decide) hd2
  have b4 : ((s[1].toNat : Int) == 120) = false := beq_no (n := 120) (by decide) hx
  clear hc hd hd2 hx
  go_enter Try.func29, Try.ntmps29
  go_wp2
  go_ret2
  refine ⟨?_, Below.refl _ _⟩
  rw [e.out]; rfl
set_option maxHeartbeats 1600000 in
theorem readByte_bad2 (s : ByteArray) (h0 : 0 < s.size) (h1 : 1 < s.size) (h2 : 2 < s.size) (h3 : 3 < s.size) (hs : s.size ≤ 1125899906842624) (hc : s[0] = 92) (hx : s[1] = 120) (hy : isDig s[2] = false) (w : World) :
    Calls Try.prog 29 #[.string s] w (RB s w) := by
  have e : Hid (readB s.data.toList = (0, 0)) := by
    show _ = _
    unfold readB
    rw [getD_at s 0 h0, getD_at s 1 h1, getD_at s 2 h2, if_neg (by rw [hc]; simp), if_neg (fun h => by rw [hx] at h; simp at h), if_neg (fun h => by rw [hx] at h; simp at h), if_neg (fun h => by rw [hy] at h; simp at h)]
  have b1 : ((s[0].toNat : Int) != 92) = false := by rw [hc]; rfl
  have b2 : ((s[1].toNat : Int) == 92) = false := by rw [hx]; rfl
  have b3 : ((s[1].toNat : Int) == 110) = false := by rw [hx]; rfl
  have b4 : ((s[1].toNat : Int) == 120) = true := by rw [hx]; rfl
  have y1 : Hid (isDigZ (s[2].toNat : Int) = false) := by show _ = _; rw [isDigZ_nat]; exact hy
  clear hc hx hy
  go_enter Try.func29, Try.ntmps29
  go_wp2_with (go_at_call 36; refine (isDigit_any _ _).mono ?_; rw [y1.out]; rintro e w' ⟨rfl, rfl⟩)
  go_ret2
  refine ⟨?_, Below.refl _ _⟩
  rw [e.out]; rfl
set_option maxHeartbeats 1600000 in
theorem readByte_bad3 (s : ByteArray) (h0 : 0 < s.size) (h1 : 1 < s.size) (h2 : 2 < s.size) (h3 : 3 < s.size) (hs : s.size ≤ 1125899906842624) (hc : s[0] = 92) (hx : s[1] = 120) (hy : isDig s[2] = true) (hz : isDig s[3] = false) (w : World) :
    Calls Try.prog 29 #[.string s] w (RB s w) := by
  have e : Hid (readB s.data.toList = (0, 0)) := by
    show _ = _
    unfold readB
    rw [getD_at s 0 h0, getD_at s 1 h1, getD_at s 2 h2, getD_at s 3 h3, if_neg (by rw [hc]; simp), if_neg (fun h => by rw [hx] at h; simp at h), if_neg (fun h => by rw [hx] at h; simp at h), if_neg (fun h => by rw [hz] at h; simp at h)]
  have b1 : ((s[0].toNat : Int) != 92) = false := by rw [hc]; rfl
  have b2 : ((s[1].toNat : Int) == 92) = false := by rw [hx]; rfl
  have b3 : ((s[1].toNat : Int) == 110) = false := by rw [hx]; rfl
  have b4 : ((s[1].toNat : Int) == 120) = true := by rw [hx]; rfl
  have y1 : Hid (isDigZ (s[2].toNat : Int) = true) := by show _ = _; rw [isDigZ_nat]; exact hy
  have y2 : Hid (isDigZ (s[3].toNat : Int) = false) := by show _ = _; rw [isDigZ_nat]; exact hz
  clear hc hx hy hz
  go_enter Try.func29, Try.ntmps29
  go_wp2_with fail
  refine (isDigit_any _ _).mono ?_
  rw [y1.out]; rintro e w' ⟨rfl, rfl⟩
  go_wp2_with fail
  refine (isDigit_any _ _).mono ?_
  rw [y2.out]; rintro e w' ⟨rfl, rfl⟩
  go_wp2
  go_ret2
  refine ⟨?_, Below.refl _ _⟩
  rw [e.out]; rfl
set_option maxHeartbeats 1600000 in
theorem readByte_hex (s : ByteArray) (h0 : 0 < s.size) (h1 : 1 < s.size) (h2 : 2 < s.size) (h3 : 3 < s.size) (hs : s.size ≤ 1125899906842624) (hc : s[0] = 92) (hx : s[1] = 120) (hy : isDig s[2] = true) (hz : isDig s[3] = true) (w : World) :
    Calls Try.prog 29 #[.string s] w (RB s w) := by
  have e : Hid (readB s.data.toList = (UInt8.ofNat (digV s[2] * 16 + digV s[3]), 4)) := by
    show _ = _
    unfold readB
    rw [getD_at s 0 h0, getD_at s 1 h1, getD_at s 2 h2, getD_at s 3 h3, if_neg (by rw [hc]; simp), if_neg (fun h => by rw [hx] at h; simp at h), if_neg (fun h => by rw [hx] at h; simp at h), if_pos ⟨by rw [← Lib.size_eq]; omega, hx, hy, hz⟩]
  have b1 : ((s[0].toNat : Int) != 92) = false := by rw [hc]; rfl
  have b2 : ((s[1].toNat : Int) == 92) = false := by rw [hx]; rfl
  have b3 : ((s[1].toNat : Int) == 110) = false := by rw [hx]; rfl
  have b4 : ((s[1].toNat : Int) == 120) = true := by rw [hx]; rfl
  have y1 : Hid (isDigZ (s[2].toNat : Int) = true) := by show _ = _; rw [isDigZ_nat]; exact hy
  have y2 : Hid (isDigZ (s[3].toNat : Int) = true) := by show _ = _; rw [isDigZ_nat]; exact hz
  clear hc hx
  have hy := Lib.hid hy
  have hz := Lib.hid hz
  go_enter Try.func29, Try.ntmps29
  go_wp2_with fail
  refine (isDigit_any _ _).mono ?_
  rw [y1.out]; rintro e w' ⟨rfl, rfl⟩
  go_wp2_with fail
  refine (isDigit_any _ _).mono ?_
  rw [y2.out]; rintro e w' ⟨rfl, rfl⟩
  go_wp2_with fail
  have d2 : ((s[2].toNat : Int)) ≤ 255 := by have := s[2].toNat_lt; omega
  have d3 : ((s[3].toNat : Int)) ≤ 255 := by have := s[3].toNat_lt; omega
  go_quiet ((go_at_call 37; exact Calls.quiet_of_same (digitValue_any _ (by omega) (by omega) _)))
  go_wp2
  go_ret2
  refine ⟨?_, ?_⟩
  · rw [e.out, or_digits _ _ hy.out hz.out]; rfl
  · exact ⟨rfl, rfl, rfl, Nat.le_refl _, fun _ _ => rfl⟩
theorem readByte_any (s : ByteArray) (h0 : 0 < s.size) (hs : s.size ≤ 1125899906842624) (w : World) : Calls Try.prog 29 #[.string s] w (RB s w) := by
  by_cases c0 : s[0] = 92
  · by_cases h1 : 1 < s.size
    · by_cases c1 : s[1] = 92
      · exact readByte_slash s h0 h1 hs c0 c1 w
      by_cases c2 : s[1] = 110
      · exact readByte_line s h0 h1 hs c0 c2 w
      by_cases h3 : 3 < s.size
      · have h2 : 2 < s.size := by omega
        by_cases c3 : s[1] = 120
        · cases c4 : isDig s[2] with
          | false => exact readByte_bad2 s h0 h1 h2 h3 hs c0 c3 c4 w
          | true =>
            cases c5 : isDig s[3] with
            | false => exact readByte_bad3 s h0 h1 h2 h3 hs c0 c3 c4 c5 w
            | true => exact readByte_hex s h0 h1 h2 h3 hs c0 c3 c4 c5 w
        · exact readByte_nox s h0 h1 h3 hs c0 c1 c2 c3 w
      · exact readByte_short s h0 h1 hs c0 c1 c2 h3 w
    · exact readByte_last s h0 h1 c0 w
  · exact readByte_plain s h0 hs c0 w
end Go.Proofs.Ytcgdocdpdapglaa
