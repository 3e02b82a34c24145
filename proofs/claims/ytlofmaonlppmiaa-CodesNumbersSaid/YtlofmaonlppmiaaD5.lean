/- Package codes by its contracts, and the law package's own fixed calls. -/
import Derived.Test.YtlofmaonlppmiaaD4
import Derived.Test.YtlofmaonlppmiaaD2
namespace Go.Proofs.Ytlofmaonlppmiaa
open Go.RowKit Go.Lib
theorem put_some (n k : Int) (p : List UInt8) (h : putL n k = some p) (hn : n < 9223372036854775808) (w : World) : Calls Try.prog 10 #[.int .i64 n, .int .i64 k] w fun e w' => e = .returned (.tuple #[.string (S p), .int .i64 0]) ∧ Below w.heap.size w w' := by
  have := put_any n k hn w
  unfold PutPost at this; rw [h] at this; exact this
theorem put_none (n k : Int) (h : putL n k = none) (hn : n < 9223372036854775808) (w : World) : Calls Try.prog 10 #[.int .i64 n, .int .i64 k] w fun e w' => e = .returned (.tuple #[.string (S []), .int .i64 20]) ∧ Below w.heap.size w w' := by
  have := put_any n k hn w
  unfold PutPost at this; rw [h] at this; exact this
theorem get_some (s : List UInt8) (n : Nat) (h : getN s = n) (h1 : 1 ≤ s.length) (h7 : s.length ≤ 7) (w : World) : Calls Try.prog 12 #[.string (S s)] w fun e w' => e = .returned (.tuple #[.int .i64 n, .int .i64 0]) ∧ w = w' := by
  have := get_any s (by omega) w
  unfold GetPost GetV at this; rw [if_neg (by omega), h] at this; exact this
theorem get_none (s : List UInt8) (h : s.length < 1 ∨ 7 < s.length) (hs : s.length ≤ 1125899906842624) (w : World) : Calls Try.prog 12 #[.string (S s)] w fun e w' => e = .returned (.tuple #[.int .i64 0, .int .i64 20]) ∧ w = w' := by
  have := get_any s hs w
  unfold GetPost GetV at this; rw [if_pos h] at this; exact this
theorem crc_is (sum : Nat) (s : List UInt8) (c : Nat) (hc : crcN sum s = c) (h : sum ≤ 4294967295) (hs : s.length ≤ 1125899906842624) (w : World) : Calls Try.prog 17 #[.int .u32 sum, .string (S s)] w fun e w' => e = .returned (.int .u32 (c : Nat)) ∧ w = w' := by
  subst hc
  exact crc_any sum h s hs w
theorem hex_is (s m : List UInt8) (h : hexL s = m) (hs : s.length ≤ 140737488355328) (w : World) : Calls Try.prog 19 #[.string (S s)] w fun e w' => e = .returned (.string (S m)) ∧ Below w.heap.size w w' := by
  subst h
  exact hex_any s hs w
theorem unhex_some (s p : List UInt8) (h : unhexL s = some p) (hs : s.length ≤ 281474976710656) (w : World) : Calls Try.prog 15 #[.string (S s)] w fun e w' => e = .returned (.tuple #[.string (S p), .int .i64 0]) ∧ Below w.heap.size w w' := by
  have := unhex_any s hs w
  unfold UnhexPost at this; rw [h] at this; exact this
theorem unhex_none (s : List UInt8) (h : unhexL s = none) (hs : s.length ≤ 281474976710656) (w : World) : Calls Try.prog 15 #[.string (S s)] w fun e w' => e = .returned (.tuple #[.string (S []), .int .i64 21]) ∧ Below w.heap.size w w' := by
  have := unhex_any s hs w
  unfold UnhexPost at this; rw [h] at this; exact this
set_option maxHeartbeats 6400000 in
theorem fixed_any (w : World) : Calls Try.prog 14 #[] w fun e w' => e = .returned (.bool true) ∧ Below w.heap.size w w' := by
  have e1 : putL 258 2 = some [2, 1] := by decide +kernel
  have e2 : putL 256 1 = none := by decide +kernel
  have e3 : getN [2, 1] = 258 := by decide +kernel
  have e4 : unhexL [48, 48, 65, 66] = none := by decide +kernel
  have e5 : unhexL [48, 48, 97, 98] = some [0, 171] := by decide +kernel
  have e6 : crcN 0 [49, 50, 51, 52, 53, 54, 55, 56, 57] = 3421780262 := by decide +kernel
  have e7 : hexL [0, 171] = [48, 48, 97, 98] := by decide +kernel
  have q1 := beq_self [2, 1]
  have q2 := beq_self [48, 48, 97, 98]
  have q3 := beq_self [0, 171]
  replace e1 := Lib.hid e1
  replace e2 := Lib.hid e2
  replace e3 := Lib.hid e3
  replace e4 := Lib.hid e4
  replace e5 := Lib.hid e5
  replace e6 := Lib.hid e6
  replace e7 := Lib.hid e7
  go_enter Try.func14, Try.ntmps14
  go_wp2_with fail
  refine (put_some 258 2 _ e1.out (by decide) _).mono ?_
  rintro e w1 ⟨rfl, hb1⟩
  have B1 := Lib.hid hb1
  clear hb1
  go_wp2_with fail
  refine (put_none 256 1 e2.out (by decide) _).mono ?_
  rintro e w2 ⟨rfl, hb2⟩
  have B2 := Lib.hid (B1.out.trans (hb2.mono B1.out.size))
  clear hb2 B1
  go_wp2_with fail
  refine (get_some [2, 1] _ e3.out (by decide) (by decide) _).mono ?_
  rintro e w' ⟨rfl, rfl⟩
  go_wp2_with fail
  refine (unhex_none [48, 48, 65, 66] e4.out (by decide) _).mono ?_
  rintro e w3 ⟨rfl, hb3⟩
  have B3 := Lib.hid (B2.out.trans (hb3.mono B2.out.size))
  clear hb3 B2
  go_wp2_with fail
  refine (unhex_some [48, 48, 97, 98] _ e5.out (by decide) _).mono ?_
  rintro e w4 ⟨rfl, hb4⟩
  have B4 := Lib.hid (B3.out.trans (hb4.mono B3.out.size))
  clear hb4 B3
  go_wp2_with fail
  refine (crc_is 0 [49, 50, 51, 52, 53, 54, 55, 56, 57] _ e6.out (by decide) (by decide) _).mono ?_
  rintro e w' ⟨rfl, rfl⟩
  go_wp2_with fail
  refine (hex_is [0, 171] _ e7.out (by decide) _).mono ?_
  rintro e w5 ⟨rfl, hb5⟩
  have B5 := Lib.hid (B4.out.trans (hb5.mono B4.out.size))
  clear hb5 B4
  go_wp2
  go_ret
  exact ⟨rfl, B5.out⟩
end Go.Proofs.Ytlofmaonlppmiaa
