/- Walks of the document's answer for package sha2: roots, bit by bit.
Walks of the document's answer for package sha2: the first primes.
Walks of the document's answer for package sha2: words.
Walks of the document's answer for package sha2: words turned.
Walks of the document's answer for package sha2: a block.
Walks of the document's answer for package sha2: a kind's constants.
Walks of the document's answer for package sha2: a kind's constants.
Walks of the document's answer for package sha2: the sum of bytes.
The document's sum and the program's: words, rotations, rounds: the numbers are the same. No walk.
The document's sum and the program's: rounds and sums: the numbers are the same. No walk.
The document's sum and the program's: a block: the numbers are the same. No walk.
The document's sum and the program's: words of bytes: the numbers are the same. No walk.
The document's sum and the program's: a block of bytes: the numbers are the same. No walk.
The document's sum and the program's: many blocks, what comes out: the numbers are the same. No walk.
The document's sum and the program's: the numbers are the same. No walk. -/
import Derived.Test.YtgnblaaldpniiaaDoorZS3
import Derived.Test.YtgnblaaldpniiaaDoorZK1
import Derived.RegionTactic
import Derived.Deep.RegionHeld3
import Derived.Deep.RegionLawGrows
import Derived.Deep.RegionHeldLaw
import Derived.Test.YtgnblaaldpniiaaDoorZK2
import Derived.Laws.CopyOwn
import Derived.Deep.WholeRow
section
set_option maxRecDepth 100000
set_option linter.unusedVariables false
set_option linter.unusedSimpArgs false
namespace Go.Proofs.YtgnblaaldpniiaaDoor.Sh
open Go.RowKit Go.Lib
def zero5 : List Nat := [0, 0, 0, 0, 0]
def moreL (p : Nat) (r q : List Nat) : List Nat := if p = 2 then plusL 2 0 (growL 1 1 zero5) r else plusL 3 0 (plusL 3 0 (growL 1 1 zero5) r) q
def stepR (p g : Nat) (x : List Nat × List Nat × List Nat) : List Nat × List Nat × List Nat :=
  let l := growL (2 ^ p) g x.2.2
  let r := growL 2 0 x.1
  let q := growL 4 0 x.2.1
  if belowL l (moreL p r q) = true then (r, q, l) else (growL 1 1 r, growL 1 1 (plusL 2 0 q r), lessL 0 l (moreL p r q))
def groupR (p n i : Nat) : Nat := if 64 ≤ i then n / 2 ^ (p * (i - 64)) % 2 ^ p else 0
def bitsR (p n : Nat) : Nat → List Nat × List Nat × List Nat → List Nat × List Nat × List Nat
  | 0, x => x
  | i + 1, x => bitsR p n i (stepR p (groupR p n i) x)
def rootP (n p : Nat) : List Nat × List Nat × List Nat := bitsR p n 67 (zero5, zero5, zero5)
def rootN (n p : Nat) : Nat := ((rootP n p).1.getD 0 0 + (rootP n p).1.getD 1 0 * 4294967296) % 18446744073709551616
def RootPost (n p : Nat) (w : World) (e : Ending) (w' : World) : Prop := e = .returned (.int .u64 (rootN n p : Nat)) ∧ Below w.heap.size w w'
end Go.Proofs.YtgnblaaldpniiaaDoor.Sh
end
section
set_option maxRecDepth 100000
set_option linter.unusedVariables false
set_option linter.unusedSimpArgs false
namespace Go.Proofs.YtgnblaaldpniiaaDoor.Sh
open Go.RowKit Go.Lib
def plN : Nat → List Nat
  | 0 => []
  | n + 1 => if 2 ≤ n ∧ (plN n).all (fun p => n % p != 0) = true then plN n ++ [n] else plN n
end Go.Proofs.YtgnblaaldpniiaaDoor.Sh
end
section
set_option maxRecDepth 100000
set_option linter.unusedVariables false
set_option linter.unusedSimpArgs false
namespace Go.Proofs.YtgnblaaldpniiaaDoor.Sh
open Go.RowKit Go.Lib
def wd (o : Bool) : Nat := if o = true then 64 else 32
def wordN (o : Bool) (x : Nat) : Nat := x % 2 ^ wd o
def rotN (o : Bool) (x n : Nat) : Nat := wordN o (x / 2 ^ n ||| x * 2 ^ (wd o - n) % 18446744073709551616)
theorem or_u64 (a b : Nat) (ha : a < 18446744073709551616) (hb : b < 18446744073709551616) : bits .or .u64 (a : Int) (b : Int) = ((a ||| b : Nat) : Int) := by
  have hx : a ||| b < 2 ^ 64 := Nat.or_lt_two_pow (by omega) (by omega)
  have h1 : (BitVec.ofInt 64 (a : Int)).toNat = a := by
    rw [BitVec.ofInt_natCast, BitVec.toNat_ofNat]; exact Nat.mod_eq_of_lt (by omega)
  have h2 : (BitVec.ofInt 64 (b : Int)).toNat = b := by
    rw [BitVec.ofInt_natCast, BitVec.toNat_ofNat]; exact Nat.mod_eq_of_lt (by omega)
  show IntKind.u64.wrap ((BitVec.ofInt 64 (a : Int) ||| BitVec.ofInt 64 (b : Int)).toNat : Int) = _
  rw [BitVec.toNat_or, h1, h2]
  simp [IntKind.wrap, IntKind.signed, IntKind.bits]
  omega
end Go.Proofs.YtgnblaaldpniiaaDoor.Sh
end
section
set_option maxRecDepth 100000
set_option linter.unusedVariables false
set_option linter.unusedSimpArgs false
namespace Go.Proofs.YtgnblaaldpniiaaDoor.Sh
open Go.RowKit Go.Lib
def threeN (o : Bool) (x n1 n2 n3 : Nat) : Nat := (rotN o x n1 ^^^ rotN o x n2) ^^^ rotN o x n3
def twoN (o : Bool) (x n1 n2 n3 : Nat) : Nat := (rotN o x n1 ^^^ rotN o x n2) ^^^ x / 2 ^ n3
theorem xor_u64 (a b : Nat) (ha : a < 18446744073709551616) (hb : b < 18446744073709551616) : bits .xor .u64 (a : Int) (b : Int) = ((a ^^^ b : Nat) : Int) := by
  have hx : a ^^^ b < 2 ^ 64 := Nat.xor_lt_two_pow (by omega) (by omega)
  have h1 : (BitVec.ofInt 64 (a : Int)).toNat = a := by
    rw [BitVec.ofInt_natCast, BitVec.toNat_ofNat]; exact Nat.mod_eq_of_lt (by omega)
  have h2 : (BitVec.ofInt 64 (b : Int)).toNat = b := by
    rw [BitVec.ofInt_natCast, BitVec.toNat_ofNat]; exact Nat.mod_eq_of_lt (by omega)
  show IntKind.u64.wrap ((BitVec.ofInt 64 (a : Int) ^^^ BitVec.ofInt 64 (b : Int)).toNat : Int) = _
  rw [BitVec.toNat_xor, h1, h2]
  simp [IntKind.wrap, IntKind.signed, IntKind.bits]
  omega
end Go.Proofs.YtgnblaaldpniiaaDoor.Sh
end
section
set_option maxRecDepth 100000
set_option linter.unusedVariables false
set_option linter.unusedSimpArgs false
namespace Go.Proofs.YtgnblaaldpniiaaDoor.Sh
open Go.RowKit Go.Lib
def cD (o : Bool) (x : Nat) : Nat := if o = true then twoN o x 19 61 6 else twoN o x 17 19 10
def cC (o : Bool) (x : Nat) : Nat := if o = true then twoN o x 1 8 7 else twoN o x 7 18 3
def cA (o : Bool) (x : Nat) : Nat := if o = true then threeN o x 28 34 39 else threeN o x 2 13 22
def cB (o : Bool) (x : Nat) : Nat := if o = true then threeN o x 14 18 41 else threeN o x 6 11 25
def nextW (o : Bool) (l : List Nat) : Nat := wordN o (((((cD o (l.getD (l.length - 2) 0) + l.getD (l.length - 7) 0) % 18446744073709551616) + cC o (l.getD (l.length - 15) 0)) % 18446744073709551616 + l.getD (l.length - 16) 0) % 18446744073709551616)
def schN (o : Bool) : Nat → List Nat → List Nat
  | 0, l => l
  | k + 1, l => schN o k (l ++ [nextW o l])
def chN (e f g : Nat) : Nat := (e &&& f) ^^^ ((18446744073709551615 - e) &&& g)
def majN (a b c : Nat) : Nat := ((a &&& b) ^^^ (a &&& c)) ^^^ (b &&& c)
structure S8 where
  (a b c d e f g h : Nat)
def oneN (o : Bool) (k w : Nat) (s : S8) : Nat := wordN o ((((((s.h + cB o s.e) % 18446744073709551616) + chN s.e s.f s.g) % 18446744073709551616 + k) % 18446744073709551616 + w) % 18446744073709551616)
def twoS (o : Bool) (s : S8) : Nat := wordN o ((cA o s.a + majN s.a s.b s.c) % 18446744073709551616)
def roundN (o : Bool) (k w : Nat) (s : S8) : S8 := ⟨wordN o ((oneN o k w s + twoS o s) % 18446744073709551616), s.a, s.b, s.c, wordN o ((s.d + oneN o k w s) % 18446744073709551616), s.e, s.f, s.g⟩
def roundsN (o : Bool) (ks ws : List Nat) : Nat → Nat → S8 → S8
  | 0, _, s => s
  | k + 1, t, s => roundsN o ks ws k (t + 1) (roundN o (ks.getD t 0) (ws.getD t 0) s)
def S8.ok (s : S8) : Prop := s.a < 18446744073709551616 ∧ s.b < 18446744073709551616 ∧ s.c < 18446744073709551616 ∧ s.d < 18446744073709551616 ∧ s.e < 18446744073709551616 ∧ s.f < 18446744073709551616 ∧ s.g < 18446744073709551616 ∧ s.h < 18446744073709551616
def S8.list (s : S8) : List Nat := [s.a, s.b, s.c, s.d, s.e, s.f, s.g, s.h]
def S8.of (l : List Nat) : S8 := ⟨l.getD 0 0, l.getD 1 0, l.getD 2 0, l.getD 3 0, l.getD 4 0, l.getD 5 0, l.getD 6 0, l.getD 7 0⟩
def addN (o : Bool) (x y : Nat) : Nat := wordN o ((x + y) % 18446744073709551616)
def sumN (o : Bool) (sl : List Nat) : Nat → Nat → List Nat → List Nat
  | 0, _, l => l
  | k + 1, i, l => sumN o sl k (i + 1) (l.set i (addN o (l.getD i 0) (sl.getD i 0)))
def blockN (o : Bool) (ks sl ws : List Nat) : List Nat :=
  sumN o sl 8 0 (roundsN o ks (schN o (ks.length - 16) ws) ks.length 0 (S8.of sl)).list
def RowAt (w : World) (g : Nat) (l : List Nat) : Prop := g < w.heap.size ∧ ∀ t, t < l.length → w.cell? ⟨g, t, none⟩ = some (.int .u64 (l.getD t 0 : Nat))
theorem RowAt.below {w w' : World} {g B : Nat} {l : List Nat} (h : RowAt w g l) (hb : Below B w w') (hg : g < B) : RowAt w' g l :=
  ⟨Nat.lt_of_lt_of_le h.1 hb.size, fun t ht => (hb.cell (p := ⟨g, t, none⟩) hg).trans (h.2 t ht)⟩
theorem and_u64 (a b : Nat) (ha : a < 18446744073709551616) (hb : b < 18446744073709551616) : bits .and .u64 (a : Int) (b : Int) = ((a &&& b : Nat) : Int) := by
  have hx : a &&& b < 2 ^ 64 := Nat.and_lt_two_pow a (by omega)
  have h1 : (BitVec.ofInt 64 (a : Int)).toNat = a := by
    rw [BitVec.ofInt_natCast, BitVec.toNat_ofNat]; exact Nat.mod_eq_of_lt (by omega)
  have h2 : (BitVec.ofInt 64 (b : Int)).toNat = b := by
    rw [BitVec.ofInt_natCast, BitVec.toNat_ofNat]; exact Nat.mod_eq_of_lt (by omega)
  show IntKind.u64.wrap ((BitVec.ofInt 64 (a : Int) &&& BitVec.ofInt 64 (b : Int)).toNat : Int) = _
  rw [BitVec.toNat_and, h1, h2]
  simp [IntKind.wrap, IntKind.signed, IntKind.bits]
  omega
theorem not_u64 (a : Nat) (h : a < 18446744073709551616) : bits .xor .u64 IntKind.u64.max (a : Int) = ((18446744073709551615 - a : Nat) : Int) := by
  have h1 := xor_u64 18446744073709551615 a (by omega) h
  have h3 := BitVec.toNat_not (x := BitVec.ofNat 64 a)
  have h4 : (BitVec.ofNat 64 a ^^^ BitVec.allOnes 64) = ~~~ (BitVec.ofNat 64 a) := BitVec.xor_allOnes
  rw [← h4, BitVec.toNat_xor, BitVec.toNat_allOnes, BitVec.toNat_ofNat, Nat.mod_eq_of_lt (by omega), Nat.xor_comm] at h3
  have e : (2 : Nat) ^ 64 - 1 = 18446744073709551615 := by decide
  rw [e] at h3
  rw [← h3, ← h1]
  rfl
theorem getD_lt {l : List Nat} {M : Nat} (h : ∀ x ∈ l, x < M) (hM : 0 < M) (i : Nat) : l.getD i 0 < M := by
  rw [List.getD_eq_getElem?_getD]
  rcases Nat.lt_or_ge i l.length with hi | hi
  · rw [List.getElem?_eq_getElem hi]; exact h _ (List.getElem_mem hi)
  · rw [List.getElem?_eq_none hi]; exact hM
section
variable {o : Bool} {KV H : Value} {B gs gV : Nat} {sl l : List Nat} {w wr wr2 : World}
end
end Go.Proofs.YtgnblaaldpniiaaDoor.Sh
end
section
set_option maxRecDepth 100000
set_option linter.unusedVariables false
set_option linter.unusedSimpArgs false
namespace Go.Proofs.YtgnblaaldpniiaaDoor.Sh
open Go.RowKit Go.Lib
def constR (o : Bool) (p n : Nat) : Nat := rootN n p / 2 ^ (64 - wd o)
def constK (o : Bool) (ps : List Nat) : List Nat := ps.map (constR o 3)
def constH (o : Bool) (ps : List Nat) : List Nat := (ps.take 8).map (constR o 2)
end Go.Proofs.YtgnblaaldpniiaaDoor.Sh
end
section
set_option maxRecDepth 100000
set_option linter.unusedVariables false
set_option linter.unusedSimpArgs false
namespace Go.Proofs.YtgnblaaldpniiaaDoor.Sh
open Go.RowKit Go.Lib
section
variable {P : Program} {ops : Array Oper} {Q : Exit → Act → World → Prop} {S : World → Prop} {o : Oper} {r : List (Nat × Oper)} {a : Act} {w : World}
theorem wpMix_take (v : Value) (hy : YieldsIf P ops S o v a) (hS : S w) (h : wpMix P ops Q S r (a.put o.dst v) w) : wpMix P ops Q S ((0, o) :: r) a w := ⟨v, hy, hS, h⟩
theorem wpMix_one (h : ∀ K : Act → World → Prop, (∀ a' w', S w' → wpMix P ops Q S r a' w' → K a' w') → if Region.wanted o (yielded ops a.tmps) = true then o.wp P a w K Q else K (a.put o.dst undef) w) : wpMix P ops Q S ((1, o) :: r) a w := h
theorem wpMix_last (h : ∀ K : Act → World → Prop, (∀ a' w', wpMix P ops Q S r a' w' → K a' w') → if Region.wanted o (yielded ops a.tmps) = true then o.wp P a w K Q else K (a.put o.dst undef) w) : wpMix P ops Q S ((2, o) :: r) a w := h
theorem wpMix_nil (h : Q .normal a w) : wpMix P ops Q S [] a w := h
end
end Go.Proofs.YtgnblaaldpniiaaDoor.Sh
end
section
set_option maxRecDepth 100000
set_option linter.unusedVariables false
set_option linter.unusedSimpArgs false
namespace Go.Proofs.YtgnblaaldpniiaaDoor.Sh
open Go.RowKit Go.Lib
def lenR (n8 : Nat) : Nat → List UInt8
  | 0 => []
  | k + 1 => UInt8.ofNat (if k < 8 then n8 / 2 ^ (8 * k) else 0) :: lenR n8 k
def foldW (b : List UInt8) (i : Nat) : Nat → Nat → Nat → Nat
  | 0, _, x => x
  | k + 1, j, x => foldW b i k (j + 1) ((x * 256 % 18446744073709551616 + (b.getD (i + j) 0).toNat) % 18446744073709551616)
def wordsL (b : List UInt8) (i c : Nat) : Nat → Nat → List Nat → List Nat
  | 0, _, l => l
  | k + 1, t, l => wordsL b i c k (t + 1) (l ++ [foldW b (i + t * c) c 0 0])
def blocksL (o : Bool) (ks : List Nat) (b : List UInt8) : Nat → Nat → List Nat → List Nat
  | 0, _, l => l
  | k + 1, i, l => blocksL o ks b k (i + 2 * wd o) (blockN o ks l (wordsL b i (wd o / 8) 16 0 []))
theorem sumN_len (o : Bool) (sl : List Nat) : ∀ (k i : Nat) (l : List Nat), (sumN o sl k i l).length = l.length
  | 0, _, _ => rfl
  | k + 1, i, l => by rw [sumN, sumN_len o sl k, List.length_set]
theorem blockN_len (o : Bool) (ks sl ws : List Nat) : (blockN o ks sl ws).length = 8 := by
  unfold blockN; rw [sumN_len]; rfl
def dOutR (x : Nat) : Nat → List UInt8
  | 0 => []
  | k + 1 => UInt8.ofNat (x / 2 ^ (8 * k)) :: dOutR x k
def dOutL (o : Bool) (l : List Nat) : List UInt8 := l.flatMap fun x => dOutR x (wd o / 8)
def dPadZ (o : Bool) (n : Nat) : Nat := (2 * wd o - (n + 1 + wd o / 4) % (2 * wd o)) % (2 * wd o)
def dPadL (o : Bool) (s : List UInt8) : List UInt8 := s ++ [128] ++ List.replicate (dPadZ o s.length) 0 ++ lenR (s.length * 8 % 18446744073709551616) (wd o / 4)
def docSum (o : Bool) (ks hs : List Nat) (s : List UInt8) : List UInt8 := dOutL o (blocksL o ks (dPadL o s) ((dPadL o s).length / (2 * wd o)) 0 hs)
end Go.Proofs.YtgnblaaldpniiaaDoor.Sh
end
section
set_option maxRecDepth 100000
set_option linter.unusedVariables false
set_option linter.unusedSimpArgs false
namespace Go.Proofs.YtgnblaaldpniiaaDoor.Sh
open Go.RowKit Go.Lib
theorem and_u32 (a b : Nat) (ha : a < 2 ^ 32) (hb : b < 2 ^ 32) : bits .and .u32 (a : Int) (b : Int) = ((a &&& b : Nat) : Int) := by
  have hx : a &&& b < 2 ^ 32 := Nat.lt_of_le_of_lt Nat.and_le_left ha
  have h1 : (BitVec.ofInt 32 (a : Int)).toNat = a := by
    rw [BitVec.ofInt_natCast, BitVec.toNat_ofNat]; exact Nat.mod_eq_of_lt ha
  have h2 : (BitVec.ofInt 32 (b : Int)).toNat = b := by
    rw [BitVec.ofInt_natCast, BitVec.toNat_ofNat]; exact Nat.mod_eq_of_lt hb
  show IntKind.u32.wrap ((BitVec.ofInt 32 (a : Int) &&& BitVec.ofInt 32 (b : Int)).toNat : Int) = _
  rw [BitVec.toNat_and, h1, h2]
  simp [IntKind.wrap, IntKind.signed, IntKind.bits]
  omega
theorem or_u32 (a b : Nat) (ha : a < 2 ^ 32) (hb : b < 2 ^ 32) : bits .or .u32 (a : Int) (b : Int) = ((a ||| b : Nat) : Int) := by
  have hx : a ||| b < 2 ^ 32 := Nat.or_lt_two_pow ha hb
  have h1 : (BitVec.ofInt 32 (a : Int)).toNat = a := by
    rw [BitVec.ofInt_natCast, BitVec.toNat_ofNat]; exact Nat.mod_eq_of_lt ha
  have h2 : (BitVec.ofInt 32 (b : Int)).toNat = b := by
    rw [BitVec.ofInt_natCast, BitVec.toNat_ofNat]; exact Nat.mod_eq_of_lt hb
  show IntKind.u32.wrap ((BitVec.ofInt 32 (a : Int) ||| BitVec.ofInt 32 (b : Int)).toNat : Int) = _
  rw [BitVec.toNat_or, h1, h2]
  simp [IntKind.wrap, IntKind.signed, IntKind.bits]
  omega
theorem xor_u32 (a b : Nat) (ha : a < 2 ^ 32) (hb : b < 2 ^ 32) : bits .xor .u32 (a : Int) (b : Int) = ((a ^^^ b : Nat) : Int) := by
  have hx : a ^^^ b < 2 ^ 32 := Nat.xor_lt_two_pow ha hb
  have h1 : (BitVec.ofInt 32 (a : Int)).toNat = a := by
    rw [BitVec.ofInt_natCast, BitVec.toNat_ofNat]; exact Nat.mod_eq_of_lt ha
  have h2 : (BitVec.ofInt 32 (b : Int)).toNat = b := by
    rw [BitVec.ofInt_natCast, BitVec.toNat_ofNat]; exact Nat.mod_eq_of_lt hb
  show IntKind.u32.wrap ((BitVec.ofInt 32 (a : Int) ^^^ BitVec.ofInt 32 (b : Int)).toNat : Int) = _
  rw [BitVec.toNat_xor, h1, h2]
  simp [IntKind.wrap, IntKind.signed, IntKind.bits]
  omega
theorem not_u32 (a : Nat) (h : a < 2 ^ 32) : bits .xor .u32 IntKind.u32.max (a : Int) = ((2 ^ 32 - 1 - a : Nat) : Int) := by
  have h1 := xor_u32 (2 ^ 32 - 1) a (by omega) h
  have h3 := BitVec.toNat_not (x := BitVec.ofNat 32 a)
  have h4 : (BitVec.ofNat 32 a ^^^ BitVec.allOnes 32) = ~~~ (BitVec.ofNat 32 a) := BitVec.xor_allOnes
  rw [← h4, BitVec.toNat_xor, BitVec.toNat_allOnes, BitVec.toNat_ofNat, Nat.mod_eq_of_lt (by omega), Nat.xor_comm] at h3
  rw [← h3, ← h1]
  rfl
theorem wrapK (o : Bool) (x : Nat) : (KI o).wrap (x : Int) = ((x % 2 ^ wd o : Nat) : Int) := by
  cases o <;> simp [KI, wd, IntKind.wrap, IntKind.signed, IntKind.bits]
theorem andK (o : Bool) (a b : Nat) (ha : a < 2 ^ wd o) (hb : b < 2 ^ wd o) : bits .and (KI o) (a : Int) (b : Int) = ((a &&& b : Nat) : Int) := by
  cases o
  · exact and_u32 a b ha hb
  · exact and_u64 a b ha hb
theorem orK (o : Bool) (a b : Nat) (ha : a < 2 ^ wd o) (hb : b < 2 ^ wd o) : bits .or (KI o) (a : Int) (b : Int) = ((a ||| b : Nat) : Int) := by
  cases o
  · exact or_u32 a b ha hb
  · exact or_u64 a b ha hb
theorem xorK (o : Bool) (a b : Nat) (ha : a < 2 ^ wd o) (hb : b < 2 ^ wd o) : bits .xor (KI o) (a : Int) (b : Int) = ((a ^^^ b : Nat) : Int) := by
  cases o
  · exact xor_u32 a b ha hb
  · exact xor_u64 a b ha hb
theorem notK (o : Bool) (a : Nat) (ha : a < 2 ^ wd o) : bits .xor (KI o) (KI o).max (a : Int) = ((2 ^ wd o - 1 - a : Nat) : Int) := by
  cases o
  · exact not_u32 a ha
  · exact not_u64 a ha
theorem wordN_ltW (o : Bool) (x : Nat) : wordN o x < 2 ^ wd o := Nat.mod_lt _ (Nat.two_pow_pos _)
theorem wordN_mod (o : Bool) (x : Nat) : wordN o (x % 18446744073709551616) = wordN o x := by
  cases o
  · show x % 18446744073709551616 % 2 ^ 32 = x % 2 ^ 32
    omega
  · show x % 18446744073709551616 % 2 ^ 64 = x % 2 ^ 64
    omega
theorem rotK (o : Bool) (x n : Nat) (hx : x < 2 ^ wd o) (hn : n ≤ wd o) : rotI (KI o) (wd o) (x : Int) n = ((rotN o x n : Nat) : Int) := by
  unfold rotI rotN
  have e1 : (x : Int) / 2 ^ n = ((x / 2 ^ n : Nat) : Int) := by simp
  have e2 : (x : Int) * 2 ^ (wd o - n) = ((x * 2 ^ (wd o - n) : Nat) : Int) := by simp
  have l1 : x / 2 ^ n < 2 ^ wd o := Nat.lt_of_le_of_lt (Nat.div_le_self _ _) hx
  rw [e1, e2, wrapK, orK o _ _ l1 (Nat.mod_lt _ (Nat.two_pow_pos _))]
  congr 1
  unfold wordN
  rw [Nat.or_mod_two_pow, Nat.mod_eq_of_lt l1]
  congr 1
  cases o
  · show _ % 2 ^ 32 = _ % 18446744073709551616 % 2 ^ 32
    omega
  · show _ % 2 ^ 64 = _ % 18446744073709551616 % 2 ^ 64
    omega
theorem rotN_ltW (o : Bool) (x n : Nat) : rotN o x n < 2 ^ wd o := wordN_ltW o _
theorem xor_ltW (o : Bool) {a b : Nat} (ha : a < 2 ^ wd o) (hb : b < 2 ^ wd o) : a ^^^ b < 2 ^ wd o := Nat.xor_lt_two_pow ha hb
theorem tripK (o : Bool) (x a b c : Nat) (hx : x < 2 ^ wd o) (ha : a ≤ wd o) (hb : b ≤ wd o) (hc : c ≤ wd o) : tripI (KI o) (wd o) (x : Int) a b c = ((threeN o x a b c : Nat) : Int) := by
  unfold tripI threeN
  rw [rotK o x a hx ha, rotK o x b hx hb, rotK o x c hx hc, xorK o _ _ (rotN_ltW ..) (rotN_ltW ..), xorK o _ _ (xor_ltW o (rotN_ltW ..) (rotN_ltW ..)) (rotN_ltW ..)]
theorem twicK (o : Bool) (x a b c : Nat) (hx : x < 2 ^ wd o) (ha : a ≤ wd o) (hb : b ≤ wd o) : twicI (KI o) (wd o) (x : Int) a b c = ((twoN o x a b c : Nat) : Int) := by
  unfold twicI twoN
  have e1 : (x : Int) / 2 ^ c = ((x / 2 ^ c : Nat) : Int) := by simp
  have l1 : x / 2 ^ c < 2 ^ wd o := Nat.lt_of_le_of_lt (Nat.div_le_self _ _) hx
  rw [e1, rotK o x a hx ha, rotK o x b hx hb, xorK o _ _ (rotN_ltW ..) (rotN_ltW ..), xorK o _ _ (xor_ltW o (rotN_ltW ..) (rotN_ltW ..)) l1]
theorem aK (o : Bool) (x : Nat) (hx : x < 2 ^ wd o) : aI o (KI o) (x : Int) = ((cA o x : Nat) : Int) := by
  unfold aI cA
  cases o
  · rw [if_neg (by decide), if_neg (by decide)]; exact tripK false x 2 13 22 hx (by decide) (by decide) (by decide)
  · rw [if_pos rfl, if_pos rfl]; exact tripK true x 28 34 39 hx (by decide) (by decide) (by decide)
theorem bK (o : Bool) (x : Nat) (hx : x < 2 ^ wd o) : bI o (KI o) (x : Int) = ((cB o x : Nat) : Int) := by
  unfold bI cB
  cases o
  · rw [if_neg (by decide), if_neg (by decide)]; exact tripK false x 6 11 25 hx (by decide) (by decide) (by decide)
  · rw [if_pos rfl, if_pos rfl]; exact tripK true x 14 18 41 hx (by decide) (by decide) (by decide)
theorem cK (o : Bool) (x : Nat) (hx : x < 2 ^ wd o) : cI o (KI o) (x : Int) = ((cC o x : Nat) : Int) := by
  unfold cI cC
  cases o
  · rw [if_neg (by decide), if_neg (by decide)]; exact twicK false x 7 18 3 hx (by decide) (by decide)
  · rw [if_pos rfl, if_pos rfl]; exact twicK true x 1 8 7 hx (by decide) (by decide)
theorem dK (o : Bool) (x : Nat) (hx : x < 2 ^ wd o) : dI o (KI o) (x : Int) = ((cD o x : Nat) : Int) := by
  unfold dI cD
  cases o
  · rw [if_neg (by decide), if_neg (by decide)]; exact twicK false x 17 19 10 hx (by decide) (by decide)
  · rw [if_pos rfl, if_pos rfl]; exact twicK true x 19 61 6 hx (by decide) (by decide)
end Go.Proofs.YtgnblaaldpniiaaDoor.Sh
end
section
set_option maxRecDepth 100000
set_option linter.unusedVariables false
set_option linter.unusedSimpArgs false
namespace Go.Proofs.YtgnblaaldpniiaaDoor.Sh
open Go.RowKit Go.Lib
def S8.int (s : S8) : S8I := ⟨(s.a : Nat), (s.b : Nat), (s.c : Nat), (s.d : Nat), (s.e : Nat), (s.f : Nat), (s.g : Nat), (s.h : Nat)⟩
def S8.okW (o : Bool) (s : S8) : Prop := s.a < 2 ^ wd o ∧ s.b < 2 ^ wd o ∧ s.c < 2 ^ wd o ∧ s.d < 2 ^ wd o ∧ s.e < 2 ^ wd o ∧ s.f < 2 ^ wd o ∧ s.g < 2 ^ wd o ∧ s.h < 2 ^ wd o
theorem and_ltW (o : Bool) {a b : Nat} (ha : a < 2 ^ wd o) : a &&& b < 2 ^ wd o := Nat.lt_of_le_of_lt Nat.and_le_left ha
theorem not_low (e g : Nat) (he : e < 2 ^ 32) (hg : g < 2 ^ 32) : (18446744073709551615 - e) &&& g = (2 ^ 32 - 1 - e) &&& g := by
  have h1 : ((18446744073709551615 - e) &&& g) % 2 ^ 32 = (18446744073709551615 - e) &&& g := Nat.mod_eq_of_lt (Nat.lt_of_le_of_lt Nat.and_le_right hg)
  rw [← h1, Nat.and_mod_two_pow, Nat.mod_eq_of_lt hg]
  congr 1
  omega
theorem chK (o : Bool) (e f g : Nat) (he : e < 2 ^ wd o) (hf : f < 2 ^ wd o) (hg : g < 2 ^ wd o) :
    bits .xor (KI o) (bits .and (KI o) (e : Int) (f : Int)) (bits .and (KI o) (bits .xor (KI o) (KI o).max (e : Int)) (g : Int)) = ((chN e f g : Nat) : Int) := by
  have hn : 2 ^ wd o - 1 - e < 2 ^ wd o := by omega
  rw [andK o _ _ he hf, notK o _ he, andK o _ _ hn hg, xorK o _ _ (and_ltW o he) (and_ltW o hn)]
  congr 1
  unfold chN
  cases o
  · rw [not_low e g he hg]; rfl
  · rfl
theorem majK (o : Bool) (a b c : Nat) (ha : a < 2 ^ wd o) (hb : b < 2 ^ wd o) (hc : c < 2 ^ wd o) :
    bits .xor (KI o) (bits .xor (KI o) (bits .and (KI o) (a : Int) (b : Int)) (bits .and (KI o) (a : Int) (c : Int))) (bits .and (KI o) (b : Int) (c : Int)) = ((majN a b c : Nat) : Int) := by
  rw [andK o _ _ ha hb, andK o _ _ ha hc, andK o _ _ hb hc, xorK o _ _ (and_ltW o ha) (and_ltW o ha), xorK o _ _ (xor_ltW o (and_ltW o ha) (and_ltW o ha)) (and_ltW o hb)]
  rfl
theorem addK (o : Bool) (x y : Nat) : (KI o).wrap ((x : Int) + (y : Int)) = ((wordN o (x + y) : Nat) : Int) := by
  rw [← Int.natCast_add, wrapK]; rfl
theorem wordN_add (o : Bool) (x y : Nat) : wordN o (wordN o x + y) = wordN o (x + y) := by
  unfold wordN; rw [Nat.mod_add_mod]
theorem t1K (o : Bool) (k w : Nat) (s : S8) (h : s.okW o) : t1I o (KI o) (k : Int) (w : Int) s.int = ((oneN o k w s : Nat) : Int) := by
  obtain ⟨ha, hb, hc, hd, he, hf, hg, hh⟩ := h
  unfold t1I oneN S8.int
  dsimp only
  rw [bK o _ he, chK o _ _ _ he hf hg, addK, addK, addK, addK]
  congr 1
  rw [wordN_add, wordN_mod]
  cases o <;> (unfold wordN wd; simp only [Bool.false_eq_true, if_false, if_true]; omega)
theorem t2K (o : Bool) (s : S8) (h : s.okW o) : t2I o (KI o) s.int = ((twoS o s : Nat) : Int) := by
  obtain ⟨ha, hb, hc, hd, he, hf, hg, hh⟩ := h
  unfold t2I twoS S8.int
  dsimp only
  rw [aK o _ ha, majK o _ _ _ ha hb hc, addK, wordN_mod]
theorem roundK (o : Bool) (k w : Nat) (s : S8) (h : s.okW o) : roundI o (KI o) (k : Int) (w : Int) s.int = (roundN o k w s).int ∧ (roundN o k w s).okW o := by
  refine ⟨?_, ?_⟩
  · unfold roundI
    rw [t1K o k w s h, t2K o s h]
    unfold roundN S8.int
    dsimp only
    rw [addK, addK, wordN_mod, wordN_mod]
  · obtain ⟨ha, hb, hc, hd, he, hf, hg, hh⟩ := h
    exact ⟨wordN_ltW _ _, ha, hb, hc, wordN_ltW _ _, he, hf, hg⟩
end Go.Proofs.YtgnblaaldpniiaaDoor.Sh
end
section
set_option maxRecDepth 100000
set_option linter.unusedVariables false
set_option linter.unusedSimpArgs false
namespace Go.Proofs.YtgnblaaldpniiaaDoor.Sh
open Go.RowKit Go.Lib
theorem roundsK (o : Bool) (ks ws' : List Nat) (ws : List Int) (T : Nat) (hk : ∀ t, t < T → kcI o t = ((ks.getD t 0 : Nat) : Int)) (hw : ∀ t, t < T → ws.getD t 0 = ((ws'.getD t 0 : Nat) : Int)) :
    ∀ (k t : Nat) (s : S8), t + k ≤ T → s.okW o → roundsI o (KI o) ws k t s.int = (roundsN o ks ws' k t s).int ∧ (roundsN o ks ws' k t s).okW o
  | 0, _, s, _, h => ⟨rfl, h⟩
  | k + 1, t, s, ht, h => by
    obtain ⟨h1, h2⟩ := roundK o (ks.getD t 0) (ws'.getD t 0) s h
    rw [roundsI, roundsN, hk t (by omega), hw t (by omega), h1]
    exact roundsK o ks ws' ws T hk hw k (t + 1) _ (by omega) h2
theorem addIK (o : Bool) (x y : Nat) (hx : x < 2 ^ wd o) (hy : y < 2 ^ wd o) : addI o (x : Int) (y : Int) = ((addN o y x : Nat) : Int) := by
  unfold addI addN
  rw [wordN_mod]
  cases o
  · rw [if_neg (by decide)]
    have e1 : IntKind.u32.wrap (x : Int) = (x : Int) := by rw [show IntKind.u32 = KI false from rfl, wrapK, Nat.mod_eq_of_lt hx]
    rw [e1, show IntKind.u32 = KI false from rfl, addK, show IntKind.u64 = KI true from rfl, wrapK, Nat.mod_eq_of_lt (Nat.lt_trans (wordN_ltW false _) (by decide)), Nat.add_comm]
  · rw [if_pos rfl, show IntKind.u64 = KI true from rfl, addK, Nat.add_comm]
theorem addN_ltW (o : Bool) (x y : Nat) : addN o x y < 2 ^ wd o := wordN_ltW _ _
theorem sumK (o : Bool) (s m : S8) (hs : s.okW o) (hm : m.okW o) : sumR o m.int.list 8 0 s.int.list = (sumN o s.list 8 0 m.list).map (fun x : Nat => (x : Int)) := by
  obtain ⟨a0, a1, a2, a3, a4, a5, a6, a7⟩ := hs
  obtain ⟨b0, b1, b2, b3, b4, b5, b6, b7⟩ := hm
  have e1 : sumR o m.int.list 8 0 s.int.list = [addI o (s.a : Nat) (m.a : Nat), addI o (s.b : Nat) (m.b : Nat), addI o (s.c : Nat) (m.c : Nat), addI o (s.d : Nat) (m.d : Nat), addI o (s.e : Nat) (m.e : Nat), addI o (s.f : Nat) (m.f : Nat), addI o (s.g : Nat) (m.g : Nat), addI o (s.h : Nat) (m.h : Nat)] := rfl
  have e2 : sumN o s.list 8 0 m.list = [addN o m.a s.a, addN o m.b s.b, addN o m.c s.c, addN o m.d s.d, addN o m.e s.e, addN o m.f s.f, addN o m.g s.g, addN o m.h s.h] := rfl
  rw [e1, e2, addIK o _ _ a0 b0, addIK o _ _ a1 b1, addIK o _ _ a2 b2, addIK o _ _ a3 b3, addIK o _ _ a4 b4, addIK o _ _ a5 b5, addIK o _ _ a6 b6, addIK o _ _ a7 b7]
  rfl
theorem nextK (o : Bool) (l : List Int) (l' : List Nat) (ht : 16 ≤ l'.length) (h : ∀ i, i < l'.length → l.getD i 0 = ((l'.getD i 0 : Nat) : Int)) (hb : ∀ x ∈ l', x < 2 ^ wd o) :
    nextI o (KI o) l l'.length = ((nextW o l' : Nat) : Int) := by
  have g := fun i => getD_lt hb (Nat.two_pow_pos _) i
  unfold nextI nextW
  rw [h _ (by omega), h _ (by omega), h _ (by omega), h _ (by omega), dK o _ (g _), cK o _ (g _), ← Int.natCast_add, ← Int.natCast_add, addK]
  congr 1
  rw [wordN_mod]
  cases o <;> (unfold wordN wd; simp only [Bool.false_eq_true, if_false, if_true]; omega)
theorem schK (o : Bool) : ∀ (k : Nat) (l : List Int) (l' : List Nat), 16 ≤ l'.length → l'.length + k ≤ l.length → (∀ i, i < l'.length → l.getD i 0 = ((l'.getD i 0 : Nat) : Int)) → (∀ x ∈ l', x < 2 ^ wd o) →
    ∀ i, i < l'.length + k → (schR o (KI o) k l'.length l).getD i 0 = (((schN o k l').getD i 0 : Nat) : Int)
  | 0, l, l', _, _, h, _, i, hi => h i (by omega)
  | k + 1, l, l', ht, hl, h, hb, i, hi => by
    rw [schR, schN, nextK o l l' ht h hb]
    have hlen : (l' ++ [nextW o l']).length = l'.length + 1 := by simp
    have := schK o k (l.set l'.length ((nextW o l' : Nat) : Int)) (l' ++ [nextW o l']) (by omega) (by rw [hlen, List.length_set]; omega) (fun j hj => by
      rw [hlen] at hj
      rw [getD_set]
      by_cases e : l'.length = j
      · subst e
        rw [if_pos ⟨rfl, by omega⟩]
        simp
      · rw [if_neg (fun h => e h.1), h j (by omega)]
        congr 1
        simp only [List.getD_eq_getElem?_getD]
        rw [List.getElem?_append_left (by omega)]) (fun x hx => by
      rcases List.mem_append.1 hx with hx | hx
      · exact hb x hx
      · simp at hx; subst hx; exact wordN_ltW _ _) i (by rw [hlen]; omega)
    rw [hlen] at this
    exact this
end Go.Proofs.YtgnblaaldpniiaaDoor.Sh
end
section
set_option maxRecDepth 100000
set_option linter.unusedVariables false
set_option linter.unusedSimpArgs false
namespace Go.Proofs.YtgnblaaldpniiaaDoor.Sh
open Go.RowKit Go.Lib
theorem byteK (o : Bool) (v : Nat) (b : UInt8) (hv : v * 256 < 2 ^ wd o) : byteI (KI o) (v : Int) b = ((v * 256 + b.toNat : Nat) : Int) := by
  unfold byteI
  have hb : b.toNat < 2 ^ 8 := b.toNat_lt
  have hbw : b.toNat < 2 ^ wd o := Nat.lt_of_lt_of_le hb (Nat.pow_le_pow_right (by decide) (by cases o <;> decide))
  have e : (v : Int) * 2 ^ 8 = ((v * 256 : Nat) : Int) := by simp
  rw [e, wrapK, Nat.mod_eq_of_lt hv, orK o _ _ hv hbw]
  congr 1
  have := Nat.shiftLeft_add_eq_or_of_lt hb v
  rw [Nat.shiftLeft_eq] at this
  exact this.symm
def valF (b : List UInt8) (i : Nat) : Nat → Nat → Nat → Nat
  | 0, _, x => x
  | k + 1, j, x => valF b i k (j + 1) (x * 256 + (b.getD (i + j) 0).toNat)
theorem step_lt (x j : Nat) (b : UInt8) (hx : x < 256 ^ j) : x * 256 + b.toNat < 256 ^ (j + 1) := by
  have := b.toNat_lt
  rw [Nat.pow_succ]
  omega
theorem foldW_val (b : List UInt8) (i : Nat) : ∀ (k j x : Nat), x < 256 ^ j → j + k ≤ 8 → foldW b i k j x = valF b i k j x
  | 0, _, _, _, _ => rfl
  | k + 1, j, x, hx, hj => by
    have h1 := step_lt x j (b.getD (i + j) 0) hx
    have h2 : 256 ^ (j + 1) ≤ 256 ^ 8 := Nat.pow_le_pow_right (by omega) (by omega)
    have h3 : (256 : Nat) ^ 8 = 18446744073709551616 := by decide
    rw [h3] at h2
    have h5 : x * 256 + (b.getD (i + j) 0).toNat < 18446744073709551616 := Nat.lt_of_lt_of_le h1 h2
    have h4 : x * 256 < 18446744073709551616 := Nat.lt_of_le_of_lt (Nat.le_add_right _ _) h5
    rw [foldW, valF, Nat.mod_eq_of_lt h4, Nat.mod_eq_of_lt h5]
    exact foldW_val b i k (j + 1) _ h1 (by omega)
theorem valF_lt (b : List UInt8) (i : Nat) : ∀ (k j x : Nat), x < 256 ^ j → valF b i k j x < 256 ^ (j + k)
  | 0, _, _, h => h
  | k + 1, j, x, h => by
    rw [valF, show j + (k + 1) = (j + 1) + k by omega]
    exact valF_lt b i k (j + 1) _ (step_lt x j _ h)
theorem valF_same (b b' : List UInt8) (i i' : Nat) : ∀ (k j x : Nat), (∀ t, t < j + k → b.getD (i + t) 0 = b'.getD (i' + t) 0) → valF b i k j x = valF b' i' k j x
  | 0, _, _, _ => rfl
  | k + 1, j, x, h => by
    rw [valF, valF, h j (by omega)]
    exact valF_same b b' i i' k (j + 1) _ (fun t ht => h t (by omega))
theorem pow_wd (o : Bool) : 256 ^ (wd o / 8) = 2 ^ wd o := by cases o <;> decide
theorem fillK (o : Bool) (bl : List UInt8) (p i : Nat) : ∀ (k j x : Nat) (l : List Int), i < l.length → l.getD i 0 = ((x : Nat) : Int) → x < 256 ^ j → j + k ≤ wd o / 8 → p + j + k ≤ bl.length →
    fillB (KI o) ((bl.drop (p + j)).take k) i l = l.set i ((valF bl p k j x : Nat) : Int)
  | 0, j, x, l, hi, hx, _, _, _ => by
    rw [List.take_zero, fillB, valF, ← hx, List.getD_eq_getElem?_getD, List.getElem?_eq_getElem hi]
    exact (List.set_getElem_self hi).symm
  | k + 1, j, x, l, hi, hx, hl, hj, hp => by
    have h1 := step_lt x j (bl.getD (p + j) 0) hl
    have h2 : 256 ^ (j + 1) ≤ 256 ^ (wd o / 8) := Nat.pow_le_pow_right (by omega) (by omega)
    rw [pow_wd] at h2
    rw [List.drop_eq_getElem_cons (by omega), List.take_succ_cons, fillB, hx]
    have e : bl[p + j]'(by omega) = bl.getD (p + j) 0 := by
      rw [List.getD_eq_getElem?_getD, List.getElem?_eq_getElem (by omega)]; rfl
    rw [e, byteK o x _ (Nat.lt_of_le_of_lt (Nat.le_add_right _ _) (Nat.lt_of_lt_of_le h1 h2))]
    have := fillK o bl p i k (j + 1) (x * 256 + (bl.getD (p + j) 0).toNat) (l.set i ((x * 256 + (bl.getD (p + j) 0).toNat : Nat) : Int)) (by rw [List.length_set]; exact hi)
      (by rw [getD_set, if_pos ⟨rfl, hi⟩]) h1 (by omega) (by omega)
    rw [List.set_set] at this
    rw [valF]
    exact this
end Go.Proofs.YtgnblaaldpniiaaDoor.Sh
end
section
set_option maxRecDepth 100000
set_option linter.unusedVariables false
set_option linter.unusedSimpArgs false
namespace Go.Proofs.YtgnblaaldpniiaaDoor.Sh
open Go.RowKit Go.Lib
theorem fillW_len (K : IntKind) (n : Nat) (bl : List UInt8) : ∀ (k i : Nat) (l : List Int), (fillW K n bl k i l).length = l.length := fillW_length K n bl
theorem fillWK (o : Bool) (bl : List UInt8) : ∀ (k i : Nat) (l : List Int), i + k ≤ l.length → (i + k) * (wd o / 8) ≤ bl.length → (∀ t, i ≤ t → t < i + k → l.getD t 0 = 0) →
    ∀ t, (fillW (KI o) (wd o / 8) bl k i l).getD t 0 = if i ≤ t ∧ t < i + k then ((valF bl (t * (wd o / 8)) (wd o / 8) 0 0 : Nat) : Int) else l.getD t 0
  | 0, i, l, _, _, _, t => by rw [fillW, if_neg (by omega)]
  | k + 1, i, l, hl, hb, hz, t => by
    have h0 := fillK o bl (i * (wd o / 8)) i (wd o / 8) 0 0 l (by omega) (by rw [hz i (by omega) (by omega)]; rfl) (by decide) (by omega) (by
      have : i * (wd o / 8) + (wd o / 8) = (i + 1) * (wd o / 8) := by rw [Nat.succ_mul]
      have h2 : (i + 1) * (wd o / 8) ≤ (i + (k + 1)) * (wd o / 8) := Nat.mul_le_mul_right _ (by omega)
      omega)
    rw [Nat.add_zero] at h0
    rw [fillW, h0, fillWK o bl k (i + 1) _ (by rw [List.length_set]; omega) (by rw [show i + 1 + k = i + (k + 1) by omega]; exact hb) (fun t h1 h2 => by
      rw [getD_set, if_neg (by omega)]; exact hz t (by omega) (by omega))]
    by_cases e : t = i
    · subst e
      rw [if_neg (by omega), getD_set, if_pos ⟨rfl, by omega⟩, if_pos ⟨Nat.le_refl _, by omega⟩]
    · by_cases h : i + 1 ≤ t ∧ t < i + 1 + k
      · rw [if_pos h, if_pos (by omega)]
      · rw [if_neg h, getD_set, if_neg (by omega), if_neg (by omega)]
theorem wordsL_len (b : List UInt8) (I c : Nat) : ∀ (k t : Nat) (l : List Nat), (wordsL b I c k t l).length = l.length + k
  | 0, _, _ => rfl
  | k + 1, t, l => by rw [wordsL, wordsL_len b I c k, List.length_append]; simp; omega
theorem wordsL_at (b : List UInt8) (I c : Nat) : ∀ (k t : Nat) (l : List Nat), l.length = t → ∀ j, j < t + k → (wordsL b I c k t l).getD j 0 = if j < t then l.getD j 0 else foldW b (I + j * c) c 0 0
  | 0, t, l, _, j, hj => by rw [wordsL, if_pos (by omega)]
  | k + 1, t, l, hl, j, hj => by
    rw [wordsL, wordsL_at b I c k (t + 1) _ (by rw [List.length_append, hl]; rfl) j (by omega)]
    by_cases h : j < t
    · rw [if_pos (by omega), if_pos h]
      simp only [List.getD_eq_getElem?_getD]
      rw [List.getElem?_append_left (by omega)]
    · by_cases h2 : j = t
      · subst h2
        rw [if_pos (by omega), if_neg h]
        simp only [List.getD_eq_getElem?_getD]
        rw [List.getElem?_append_right (by omega), hl, Nat.sub_self]
        rfl
      · rw [if_neg (by omega), if_neg h]
theorem wdI_wd (o : Bool) : wdI o = wd o := by cases o <;> rfl
theorem cvK (o : Bool) (x : Nat) (hx : x < 2 ^ wd o) : cvI o (x : Int) = (x : Int) := by
  unfold cvI
  cases o
  · rw [if_neg (by decide), show IntKind.u32 = KI false from rfl, wrapK, Nat.mod_eq_of_lt hx]
  · rw [if_pos rfl]
theorem cvS (o : Bool) (s : S8) (h : s.okW o) : S8I.of o s.int.list = s.int := by
  obtain ⟨ha, hb, hc, hd, he, hf, hg, hh⟩ := h
  show S8I.mk (cvI o (s.a : Nat)) (cvI o (s.b : Nat)) (cvI o (s.c : Nat)) (cvI o (s.d : Nat)) (cvI o (s.e : Nat)) (cvI o (s.f : Nat)) (cvI o (s.g : Nat)) (cvI o (s.h : Nat)) = _
  rw [cvK o _ ha, cvK o _ hb, cvK o _ hc, cvK o _ hd, cvK o _ he, cvK o _ hf, cvK o _ hg, cvK o _ hh]
  rfl
theorem blockK (o : Bool) (ks : List Nat) (hk : ks.length = rnds o) (hkc : ∀ t, t < rnds o → kcI o t = ((ks.getD t 0 : Nat) : Int)) (s : S8) (hs : s.okW o) (bl b : List UInt8) (I : Nat) (hbl : room o ≤ bl.length) (hbb : ∀ t, t < room o → bl.getD t 0 = b.getD (I + t) 0) :
    mixI (KI o) o s.int.list bl = (blockN o ks s.list (wordsL b I (wd o / 8) 16 0 [])).map (fun x : Nat => (x : Int)) := by
  have hr : 16 ≤ rnds o := by cases o <;> decide
  have hr8 : rnds o ≤ 80 := by cases o <;> decide
  have h16 : 16 * (wd o / 8) = room o := by cases o <;> rfl
  have hc8 : wd o / 8 ≤ 8 := by cases o <;> decide
  have hwl : (wordsL b I (wd o / 8) 16 0 []).length = 16 := by rw [wordsL_len]; rfl
  have hwb : ∀ x ∈ wordsL b I (wd o / 8) 16 0 [], x < 2 ^ wd o := by
    intro x hx
    obtain ⟨j, hj, rfl⟩ := List.getElem_of_mem hx
    have e : (wordsL b I (wd o / 8) 16 0 [])[j] = (wordsL b I (wd o / 8) 16 0 []).getD j 0 := by
      rw [List.getD_eq_getElem?_getD, List.getElem?_eq_getElem hj]; rfl
    rw [e, wordsL_at b I _ 16 0 [] rfl j (by omega), if_neg (by omega), foldW_val _ _ _ _ _ (by decide) (by omega)]
    have := valF_lt b (I + j * (wd o / 8)) (wd o / 8) 0 0 (by decide)
    rw [Nat.zero_add, pow_wd] at this
    exact this
  have hsame : ∀ i, i < 16 → (fillW (KI o) (wd o / 8) bl 16 0 (List.replicate 80 0)).getD i 0 = (((wordsL b I (wd o / 8) 16 0 []).getD i 0 : Nat) : Int) := by
    intro i hi
    rw [fillWK o bl 16 0 _ (by simp) (by rw [Nat.zero_add, h16]; exact hbl) (fun t _ h => by rw [List.getD_eq_getElem?_getD, List.getElem?_replicate, if_pos (by omega)]; rfl) i, if_pos ⟨Nat.zero_le _, by omega⟩, wordsL_at b I _ 16 0 [] rfl i (by omega), if_neg (by omega), foldW_val _ _ _ _ _ (by decide) (by omega)]
    congr 1
    refine valF_same bl b _ _ _ 0 0 (fun t ht => ?_)
    have h1 : i * (wd o / 8) + t < room o := by
      rw [← h16]
      have : (i + 1) * (wd o / 8) ≤ 16 * (wd o / 8) := Nat.mul_le_mul_right _ (by omega)
      rw [Nat.succ_mul] at this
      omega
    rw [hbb _ h1, Nat.add_assoc]
  have hsp := schK o (rnds o - 16) (fillW (KI o) (wd o / 8) bl 16 0 (List.replicate 80 0)) (wordsL b I (wd o / 8) 16 0 []) (by omega) (by rw [fillW_len, hwl]; simp; omega) (by rw [hwl]; exact hsame) hwb
  rw [hwl] at hsp
  obtain ⟨h1, h2⟩ := roundsK o ks (schN o (rnds o - 16) (wordsL b I (wd o / 8) 16 0 [])) (spreadI (KI o) o bl) (rnds o) hkc (fun t ht => by
    unfold spreadI
    rw [wdI_wd]
    exact hsp t (by omega)) (rnds o) 0 s (by omega) hs
  unfold mixI blockN
  rw [cvS o s hs, h1, hk, sumK o s _ hs h2]
  rfl
end Go.Proofs.YtgnblaaldpniiaaDoor.Sh
end
section
set_option maxRecDepth 100000
set_option linter.unusedVariables false
set_option linter.unusedSimpArgs false
namespace Go.Proofs.YtgnblaaldpniiaaDoor.Sh
open Go.RowKit Go.Lib
theorem byK (x sh : Nat) : byI (x : Int) sh = UInt8.ofNat (x / 2 ^ sh) := by
  unfold byI
  have e : ((x : Int) / 2 ^ sh % 256).toNat = x / 2 ^ sh % 256 := by
    have : (x : Int) / 2 ^ sh % 256 = ((x / 2 ^ sh % 256 : Nat) : Int) := by simp
    rw [this]; rfl
  rw [e]
  apply UInt8.toNat.inj
  simp
theorem outBK (x : Nat) : ∀ (k : Nat) (acc : List UInt8), outB (x : Int) k acc = acc ++ dOutR x k
  | 0, acc => by rw [outB, dOutR, List.append_nil]
  | k + 1, acc => by rw [outB, outBK x k, dOutR, byK, List.append_assoc]; rfl
theorem outSK (o : Bool) : ∀ (l : List Nat) (acc : List UInt8), outS o (l.map (fun x : Nat => (x : Int))) acc = acc ++ dOutL o l
  | [], acc => by rw [List.map_nil, outS, show dOutL o [] = [] from rfl, List.append_nil]
  | x :: r, acc => by
    rw [List.map_cons, outS, outBK, outSK o r, wdI_wd, List.append_assoc]
    rfl
theorem list_of8 (l : List Nat) (h : l.length = 8) : (S8.of l).list = l := by
  obtain ⟨a0, a1, a2, a3, a4, a5, a6, a7, rfl⟩ := eight h
  rfl
theorem blockN_ltW (o : Bool) (ks sl ws : List Nat) : ∀ x ∈ blockN o ks sl ws, x < 2 ^ wd o := by
  unfold blockN
  generalize roundsN o ks (schN o (ks.length - 16) ws) ks.length 0 (S8.of sl) = m
  have e2 : sumN o sl 8 0 m.list = [addN o m.a (sl.getD 0 0), addN o m.b (sl.getD 1 0), addN o m.c (sl.getD 2 0), addN o m.d (sl.getD 3 0), addN o m.e (sl.getD 4 0), addN o m.f (sl.getD 5 0), addN o m.g (sl.getD 6 0), addN o m.h (sl.getD 7 0)] := rfl
  rw [e2]
  intro x hx
  simp only [List.mem_cons, List.not_mem_nil, or_false] at hx
  rcases hx with rfl | rfl | rfl | rfl | rfl | rfl | rfl | rfl <;> exact addN_ltW ..
theorem okW_of (o : Bool) (l : List Nat) (h : ∀ x ∈ l, x < 2 ^ wd o) : (S8.of l).okW o := by
  have g := fun i => getD_lt h (Nat.two_pow_pos _) i
  exact ⟨g 0, g 1, g 2, g 3, g 4, g 5, g 6, g 7⟩
theorem int_list (s : S8) : s.int.list = s.list.map (fun x : Nat => (x : Int)) := rfl
theorem putB_get : ∀ (p bl : List UInt8) (f t : Nat), f + p.length ≤ bl.length → (putB bl f p).getD t 0 = if f ≤ t ∧ t < f + p.length then p.getD (t - f) 0 else bl.getD t 0
  | [], bl, f, t, _ => by rw [putB, if_neg (by simp)]
  | b :: p, bl, f, t, h => by
    simp only [List.length_cons] at h
    rw [putB, putB_get p (bl.set f b) (f + 1) t (by rw [List.length_set]; omega)]
    simp only [List.length_cons]
    by_cases e : t = f
    · subst e
      rw [if_neg (by omega), if_pos (by omega), Nat.sub_self]
      simp [List.getD_eq_getElem?_getD, show t < bl.length by omega]
    · by_cases h1 : f + 1 ≤ t ∧ t < f + 1 + p.length
      · rw [if_pos h1, if_pos (by omega), show t - f = (t - (f + 1)) + 1 by omega, List.getD_cons_succ]
      · rw [if_neg h1, if_neg (by omega)]
        simp only [List.getD_eq_getElem?_getD]
        rw [List.getElem?_set_ne (by omega)]
theorem feedK (o : Bool) (ks : List Nat) (hk : ks.length = rnds o) (hkc : ∀ t, t < rnds o → kcI o t = ((ks.getD t 0 : Nat) : Int)) (p : List UInt8) :
    ∀ (T I : Nat) (sl : List Nat) (bl : List UInt8), sl.length = 8 → (∀ x ∈ sl, x < 2 ^ wd o) → bl.length = 128 → I + room o * T ≤ p.length →
    (feed o ⟨sl.map (fun x : Nat => (x : Int)), bl, 0⟩ ((p.drop I).take (room o * T))).st = (blocksL o ks p T I sl).map (fun x : Nat => (x : Int))
  | 0, I, sl, bl, _, _, _, _ => by rw [Nat.mul_zero, List.take_zero, feed_nil, blocksL]
  | T + 1, I, sl, bl, h8, hb, hbl, hp => by
    have hm : room o * (T + 1) = room o + room o * T := by rw [Nat.mul_succ, Nat.add_comm]
    have hr := room_le o
    have hr0 := room_pos o
    have hq : ((p.drop I).take (room o)).length = room o := by rw [List.length_take, List.length_drop]; omega
    have hw : 2 * wd o = room o := by cases o <;> rfl
    have hff := feed_full o ((p.drop I).take (room o)) ⟨sl.map (fun x : Nat => (x : Int)), bl, 0⟩ (by intro e; rw [e] at hq; simp at hq; omega) (by show 0 + _ = _; rw [hq]; omega)
    rw [hm, List.take_add, feed_append, hff]
    have hs := list_of8 sl h8
    have hblk := blockK o ks hk hkc (S8.of sl) (okW_of o sl hb) (putB bl 0 ((p.drop I).take (room o))) p I (by rw [putB_length]; omega) (fun t ht => by
      rw [putB_get _ _ _ _ (by rw [hq]; omega), if_pos ⟨Nat.zero_le _, by rw [hq]; omega⟩, Nat.sub_zero]
      simp only [List.getD_eq_getElem?_getD]
      rw [List.getElem?_take, if_pos ht, List.getElem?_drop])
    rw [int_list, hs] at hblk
    dsimp only
    rw [hblk, List.drop_drop, blocksL, hw]
    exact feedK o ks hk hkc p T (I + room o) _ _ (blockN_len _ _ _ _) (blockN_ltW _ _ _ _) (by rw [putB_length]; exact hbl) (by omega)
end Go.Proofs.YtgnblaaldpniiaaDoor.Sh
end
section
set_option maxRecDepth 100000
set_option linter.unusedVariables false
set_option linter.unusedSimpArgs false
namespace Go.Proofs.YtgnblaaldpniiaaDoor.Sh
open Go.RowKit Go.Lib
theorem lenR_len (n8 : Nat) : ∀ k, (lenR n8 k).length = k
  | 0 => rfl
  | k + 1 => by rw [lenR, List.length_cons, lenR_len n8 k]
theorem dPad_len (o : Bool) (s : List UInt8) : (dPadL o s).length = room o * ((dPadL o s).length / room o) := by
  have h : (dPadL o s).length = s.length + 1 + dPadZ o s.length + wd o / 4 := by
    unfold dPadL
    rw [List.length_append, List.length_append, List.length_append, List.length_replicate, lenR_len]; rfl
  rw [h]
  unfold dPadZ
  cases o
  · show _ + (2 * 32 - (_ + 32 / 4) % (2 * 32)) % (2 * 32) + 32 / 4 = (2 * 32) * (( _ + (2 * 32 - (_ + 32 / 4) % (2 * 32)) % (2 * 32) + 32 / 4) / (2 * 32))
    omega
  · show _ + (2 * 64 - (_ + 64 / 4) % (2 * 64)) % (2 * 64) + 64 / 4 = (2 * 64) * (( _ + (2 * 64 - (_ + 64 / 4) % (2 * 64)) % (2 * 64) + 64 / 4) / (2 * 64))
    omega
theorem sums_same (o : Bool) (ks hl : List Nat) (s : List UInt8) (hk : ks.length = rnds o) (hkc : ∀ t, t < rnds o → kcI o t = ((ks.getD t 0 : Nat) : Int)) (hi : initI o = hl.map (fun x : Nat => (x : Int))) (h8 : hl.length = 8) (hb : ∀ x ∈ hl, x < 2 ^ wd o)
    (hp : s ++ padL o s.length = dPadL o s) : shaL o s = docSum o ks hl s := by
  unfold shaL sumL
  rw [hs_append, hp]
  unfold hs
  have hl2 := dPad_len o s
  have h := feedK o ks hk hkc (dPadL o s) ((dPadL o s).length / room o) 0 hl (List.replicate 128 0) h8 hb (by simp) (by omega)
  rw [List.drop_zero, ← hl2, List.take_length] at h
  rw [hi, h, outSK, List.nil_append]
  unfold docSum
  rw [show 2 * wd o = room o by cases o <;> rfl]
end Go.Proofs.YtgnblaaldpniiaaDoor.Sh
end
