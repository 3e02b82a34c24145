/- Package field's calls in the words of package curve. -/
import Derived.Test.YtockcnglennihaaD16
set_option linter.unusedSimpArgs false
set_option linter.unusedVariables false
namespace Go.Proofs.Ytockcnglennihaa
open Go.RowKit
theorem fAdd (x y : Nat) (hx : x < pF) (hy : y < pF) (w : World) : Calls Try.prog 66 #[.string (S (leB x)), .string (S (leB y))] w (RetV (.tuple #[.string (S (leB (ad x y))), .int .i64 0]) w) := addE x y hx hy w
theorem fSub (x y : Nat) (hx : x < pF) (hy : y < pF) (w : World) : Calls Try.prog 67 #[.string (S (leB x)), .string (S (leB y))] w (RetV (.tuple #[.string (S (leB (sb x y))), .int .i64 0]) w) := subE x y hx hy w
theorem fMul (x y : Nat) (hx : x < pF) (hy : y < pF) (w : World) : Calls Try.prog 65 #[.string (S (leB x)), .string (S (leB y))] w (RetV (.tuple #[.string (S (leB (ml x y))), .int .i64 0]) w) := mulE x y hx hy w
theorem fInv (x : Nat) (hx : x < pF) (w : World) : Calls Try.prog 68 #[.string (S (leB x))] w (RetV (.tuple #[.string (S (leB (fi x))), .int .i64 0]) w) := by
  have h := invE x hx w
  exact h
theorem fRoot (q : Nat) (hq : q < pF) (hs : cand q * cand q % pF = q) (w : World) : Calls Try.prog 74 #[.string (S (leB q))] w (RetV (.tuple #[.string (S (leB (evenN (cand q)))), .bool true, .int .i64 0]) w) := rootE q hq hs w
theorem fRoot_no (q : Nat) (hq : q < pF) (hs : ¬ cand q * cand q % pF = q) (w : World) : Calls Try.prog 74 #[.string (S (leB q))] w (RetV (.tuple #[.string ⟨#[]⟩, .bool false, .int .i64 0]) w) := rootE_no q hq hs w
theorem fIs (l : List UInt8) (w : World) : Calls Try.prog 47 #[.string (S l)] w (RetV (.bool (isEl l)) w) := is_any l w
/-- The most significant bit of 32 bytes, and the number without it. -/
theorem top_div (l : List UInt8) (hl : l.length = 32) : numB l / tt = (l.getD 31 0).toNat / 128 := by
  have hd : (l.getD 31 0).toNat = numB l / 256 ^ 31 % 256 := digit_at l 31 (by omega)
  have hnl := numB_lt l hl
  have h31 : numB l / 256 ^ 31 < 256 := Nat.div_lt_of_lt_mul (Nat.lt_of_lt_of_le hnl (by decide +kernel))
  rw [Nat.mod_eq_of_lt h31] at hd
  rw [tt_eq, Nat.mul_comm, ← Nat.div_div_eq_div_mul, hd]
theorem low_num (l : List UInt8) (hl : l.length = 32) (c : UInt8) (hc : c.toNat = (l.getD 31 0).toNat % 128) : numB (l.set 31 c) = numB l % tt := by
  have hset := numB_set l 31 c (by omega)
  have hq := top_div l hl
  have hmod := Nat.div_add_mod (numB l) tt
  have hdm := Nat.div_add_mod (l.getD 31 0).toNat 128
  rw [← hc, ← hq] at hdm
  rw [← hdm, Nat.add_mul] at hset
  have e : 128 * (numB l / tt) * 256 ^ 31 = tt * (numB l / tt) := by rw [tt_eq]; ac_rfl
  rw [e] at hset
  omega
theorem low_len (l : List UInt8) (hl : l.length = 32) (c : UInt8) : (l.set 31 c).length = 32 := by rw [List.length_set, hl]
/-- What bytes are whose: by the bytes without their most significant bit. -/
theorem dec_by (l : List UInt8) (hl : l.length = 32) (c : UInt8) (hc : c.toNat = (l.getD 31 0).toNat % 128) (y : Nat) (hy : numB (l.set 31 c) = y) (o : Nat) (ho : (l.getD 31 0).toNat / 128 = o) :
    dec l = if y < pF then (if cand (sqY y) * cand (sqY y) % pF = sqY y then (if o = 0 then some ⟨evenN (cand (sqY y)), y⟩ else if evenN (cand (sqY y)) = 0 then none else some ⟨sb 0 (evenN (cand (sqY y))), y⟩) else none) else none := by
  rw [low_num l hl c hc] at hy
  rw [← top_div l hl] at ho
  unfold dec
  rw [if_pos hl, hy, ho]
end Go.Proofs.Ytockcnglennihaa
