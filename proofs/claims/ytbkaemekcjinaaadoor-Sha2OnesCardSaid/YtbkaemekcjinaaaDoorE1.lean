/- The document's sum and the program's: words, rotations, rounds: the numbers are the same. No walk. -/
import Derived.Test.YtbkaemekcjinaaaDoorG5
import Derived.Test.YtbkaemekcjinaaaDoorS12
namespace Go.Proofs.YtbkaemekcjinaaaDoor
open Go.RowKit Go.Lib
theorem and_u32 (a b : Nat) (ha : a < 2 ^ 32) (hb : b < 2 ^ 32) : bits .and .u32 (a : Int) (b : Int) = ((a &&& b : Nat) : Int) := by
  have hx : a &&& b < 2 ^ 32 := Nat.lt_of_le_of_lt Nat.and_le_left ha
  have h1 : (BitVec.ofInt 32 (a : Int)).toNat = a := by
    rw [BitVec.ofInt_natCast, BitVec.toNat_ofNat]; exact Nat.mod_eq_of_lt ha
  have h2 : (BitVec.ofInt 32 (b : Int)).toNat = b := by
    rw [BitVec.ofInt_natCast, BitVec.toNat_ofNat]; exact Nat.mod_eq_of_lt hb
  show IntKind.u32.wrap ((BitVec.ofInt 32 (a : Int) &&& BitVec.ofInt 32 (b : Int)).toNat : Int) = _
  rw [BitVec.toNat_and, h1, h2]
  simp [IntKind.wrap, IntKind.signed, IntKind.bits]
  omega
theorem or_u32 (a b : Nat) (ha : a < 2 ^ 32) (hb : b < 2 ^ 32) : bits .or .u32 (a : Int) (b : Int) = ((a ||| b : Nat) : Int) := by
  have hx : a ||| b < 2 ^ 32 := Nat.or_lt_two_pow ha hb
  have h1 : (BitVec.ofInt 32 (a : Int)).toNat = a := by
    rw [BitVec.ofInt_natCast, BitVec.toNat_ofNat]; exact Nat.mod_eq_of_lt ha
  have h2 : (BitVec.ofInt 32 (b : Int)).toNat = b := by
    rw [BitVec.ofInt_natCast, BitVec.toNat_ofNat]; exact Nat.mod_eq_of_lt hb
  show IntKind.u32.wrap ((BitVec.ofInt 32 (a : Int) ||| BitVec.ofInt 32 (b : Int)).toNat : Int) = _
  rw [BitVec.toNat_or, h1, h2]
  simp [IntKind.wrap, IntKind.signed, IntKind.bits]
  omega
theorem xor_u32 (a b : Nat) (ha : a < 2 ^ 32) (hb : b < 2 ^ 32) : bits .xor .u32 (a : Int) (b : Int) = ((a ^^^ b : Nat) : Int) := by
  have hx : a ^^^ b < 2 ^ 32 := Nat.xor_lt_two_pow ha hb
  have h1 : (BitVec.ofInt 32 (a : Int)).toNat = a := by
    rw [BitVec.ofInt_natCast, BitVec.toNat_ofNat]; exact Nat.mod_eq_of_lt ha
  have h2 : (BitVec.ofInt 32 (b : Int)).toNat = b := by
    rw [BitVec.ofInt_natCast, BitVec.toNat_ofNat]; exact Nat.mod_eq_of_lt hb
  show IntKind.u32.wrap ((BitVec.ofInt 32 (a : Int) ^^^ BitVec.ofInt 32 (b : Int)).toNat : Int) = _
  rw [BitVec.toNat_xor, h1, h2]
  simp [IntKind.wrap, IntKind.signed, IntKind.bits]
  omega
theorem not_u32 (a : Nat) (h : a < 2 ^ 32) : bits .xor .u32 IntKind.u32.max (a : Int) = ((2 ^ 32 - 1 - a : Nat) : Int) := by
  have h1 := xor_u32 (2 ^ 32 - 1) a (by omega) h
  have h3 := BitVec.toNat_not (x := BitVec.ofNat 32 a)
  have h4 : (BitVec.ofNat 32 a ^^^ BitVec.allOnes 32) = ~~~ (BitVec.ofNat 32 a) := BitVec.xor_allOnes
  rw [← h4, BitVec.toNat_xor, BitVec.toNat_allOnes, BitVec.toNat_ofNat, Nat.mod_eq_of_lt (by omega), Nat.xor_comm] at h3
  rw [← h3, ← h1]
  rfl
theorem wrapK (o : Bool) (x : Nat) : (KI o).wrap (x : Int) = ((x % 2 ^ wd o : Nat) : Int) := by
  cases o <;> simp [KI, wd, IntKind.wrap, IntKind.signed, IntKind.bits]
theorem andK (o : Bool) (a b : Nat) (ha : a < 2 ^ wd o) (hb : b < 2 ^ wd o) : bits .and (KI o) (a : Int) (b : Int) = ((a &&& b : Nat) : Int) := by
  cases o
  · exact and_u32 a b ha hb
  · exact and_u64 a b ha hb
theorem orK (o : Bool) (a b : Nat) (ha : a < 2 ^ wd o) (hb : b < 2 ^ wd o) : bits .or (KI o) (a : Int) (b : Int) = ((a ||| b : Nat) : Int) := by
  cases o
  · exact or_u32 a b ha hb
  · exact or_u64 a b ha hb
theorem xorK (o : Bool) (a b : Nat) (ha : a < 2 ^ wd o) (hb : b < 2 ^ wd o) : bits .xor (KI o) (a : Int) (b : Int) = ((a ^^^ b : Nat) : Int) := by
  cases o
  · exact xor_u32 a b ha hb
  · exact xor_u64 a b ha hb
theorem notK (o : Bool) (a : Nat) (ha : a < 2 ^ wd o) : bits .xor (KI o) (KI o).max (a : Int) = ((2 ^ wd o - 1 - a : Nat) : Int) := by
  cases o
  · exact not_u32 a ha
  · exact not_u64 a ha
theorem wordN_ltW (o : Bool) (x : Nat) : wordN o x < 2 ^ wd o := Nat.mod_lt _ (Nat.two_pow_pos _)
theorem wordN_mod (o : Bool) (x : Nat) : wordN o (x % 18446744073709551616) = wordN o x := by
  cases o
  · show x % 18446744073709551616 % 2 ^ 32 = x % 2 ^ 32
    omega
  · show x % 18446744073709551616 % 2 ^ 64 = x % 2 ^ 64
    omega
theorem rotK (o : Bool) (x n : Nat) (hx : x < 2 ^ wd o) (hn : n ≤ wd o) : rotI (KI o) (wd o) (x : Int) n = ((rotN o x n : Nat) : Int) := by
  unfold rotI rotN
  have e1 : (x : Int) / 2 ^ n = ((x / 2 ^ n : Nat) : Int) := by simp
  have e2 : (x : Int) * 2 ^ (wd o - n) = ((x * 2 ^ (wd o - n) : Nat) : Int) := by simp
  have l1 : x / 2 ^ n < 2 ^ wd o := Nat.lt_of_le_of_lt (Nat.div_le_self _ _) hx
  rw [e1, e2, wrapK, orK o _ _ l1 (Nat.mod_lt _ (Nat.two_pow_pos _))]
  congr 1
  unfold wordN
  rw [Nat.or_mod_two_pow, Nat.mod_eq_of_lt l1]
  congr 1
  cases o
  · show _ % 2 ^ 32 = _ % 18446744073709551616 % 2 ^ 32
    omega
  · show _ % 2 ^ 64 = _ % 18446744073709551616 % 2 ^ 64
    omega
theorem rotN_ltW (o : Bool) (x n : Nat) : rotN o x n < 2 ^ wd o := wordN_ltW o _
theorem xor_ltW (o : Bool) {a b : Nat} (ha : a < 2 ^ wd o) (hb : b < 2 ^ wd o) : a ^^^ b < 2 ^ wd o := Nat.xor_lt_two_pow ha hb
theorem tripK (o : Bool) (x a b c : Nat) (hx : x < 2 ^ wd o) (ha : a ≤ wd o) (hb : b ≤ wd o) (hc : c ≤ wd o) : tripI (KI o) (wd o) (x : Int) a b c = ((threeN o x a b c : Nat) : Int) := by
  unfold tripI threeN
  rw [rotK o x a hx ha, rotK o x b hx hb, rotK o x c hx hc, xorK o _ _ (rotN_ltW ..) (rotN_ltW ..), xorK o _ _ (xor_ltW o (rotN_ltW ..) (rotN_ltW ..)) (rotN_ltW ..)]
theorem twicK (o : Bool) (x a b c : Nat) (hx : x < 2 ^ wd o) (ha : a ≤ wd o) (hb : b ≤ wd o) : twicI (KI o) (wd o) (x : Int) a b c = ((twoN o x a b c : Nat) : Int) := by
  unfold twicI twoN
  have e1 : (x : Int) / 2 ^ c = ((x / 2 ^ c : Nat) : Int) := by simp
  have l1 : x / 2 ^ c < 2 ^ wd o := Nat.lt_of_le_of_lt (Nat.div_le_self _ _) hx
  rw [e1, rotK o x a hx ha, rotK o x b hx hb, xorK o _ _ (rotN_ltW ..) (rotN_ltW ..), xorK o _ _ (xor_ltW o (rotN_ltW ..) (rotN_ltW ..)) l1]
theorem aK (o : Bool) (x : Nat) (hx : x < 2 ^ wd o) : aI o (KI o) (x : Int) = ((cA o x : Nat) : Int) := by
  unfold aI cA
  cases o
  · rw [if_neg (by decide), if_neg (by decide)]; exact tripK false x 2 13 22 hx (by decide) (by decide) (by decide)
  · rw [if_pos rfl, if_pos rfl]; exact tripK true x 28 34 39 hx (by decide) (by decide) (by decide)
theorem bK (o : Bool) (x : Nat) (hx : x < 2 ^ wd o) : bI o (KI o) (x : Int) = ((cB o x : Nat) : Int) := by
  unfold bI cB
  cases o
  · rw [if_neg (by decide), if_neg (by decide)]; exact tripK false x 6 11 25 hx (by decide) (by decide) (by decide)
  · rw [if_pos rfl, if_pos rfl]; exact tripK true x 14 18 41 hx (by decide) (by decide) (by decide)
theorem cK (o : Bool) (x : Nat) (hx : x < 2 ^ wd o) : cI o (KI o) (x : Int) = ((cC o x : Nat) : Int) := by
  unfold cI cC
  cases o
  · rw [if_neg (by decide), if_neg (by decide)]; exact twicK false x 7 18 3 hx (by decide) (by decide)
  · rw [if_pos rfl, if_pos rfl]; exact twicK true x 1 8 7 hx (by decide) (by decide)
theorem dK (o : Bool) (x : Nat) (hx : x < 2 ^ wd o) : dI o (KI o) (x : Int) = ((cD o x : Nat) : Int) := by
  unfold dI cD
  cases o
  · rw [if_neg (by decide), if_neg (by decide)]; exact twicK false x 17 19 10 hx (by decide) (by decide)
  · rw [if_pos rfl, if_pos rfl]; exact twicK true x 19 61 6 hx (by decide) (by decide)
end Go.Proofs.YtbkaemekcjinaaaDoor
