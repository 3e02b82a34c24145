/- Walks of the document's answer for package sha2: words.
Walks of the document's answer for package sha2: words turned.
Walks of the document's answer for package sha2: words turned three times.
Walks of the document's answer for package sha2: rows of words, and an append in a region that draws its order.
Walks of the document's answer for package sha2: a block. -/
import Derived.Test.YtgnblaaldpniiaaGreatDoorZK1
import Derived.RegionTactic
import Derived.Deep.RegionHeld3
import Derived.Test.YtgnblaaldpniiaaGreatDoorZS5
import Derived.Deep.RegionLawGrows
section
set_option maxRecDepth 100000
set_option linter.unusedVariables false
set_option linter.unusedSimpArgs false
namespace Go.Proofs.YtgnblaaldpniiaaGreatDoor.Sh
open Go.RowKit Go.Lib
def kindC (o : Bool) (K H : Value) : Array Value := if o = true then
  #[.int .i64 64, .int .i64 28, .int .i64 34, .int .i64 39, .int .i64 14, .int .i64 18, .int .i64 41, .int .i64 1, .int .i64 8, .int .i64 7, .int .i64 19, .int .i64 61, .int .i64 6, K, H]
  else #[.int .i64 32, .int .i64 2, .int .i64 13, .int .i64 22, .int .i64 6, .int .i64 11, .int .i64 25, .int .i64 7, .int .i64 18, .int .i64 3, .int .i64 17, .int .i64 19, .int .i64 10, K, H]
theorem kindC1 (K H : Value) : kindC true K H = #[.int .i64 64, .int .i64 28, .int .i64 34, .int .i64 39, .int .i64 14, .int .i64 18, .int .i64 41, .int .i64 1, .int .i64 8, .int .i64 7, .int .i64 19, .int .i64 61, .int .i64 6, K, H] := rfl
def wd (o : Bool) : Nat := if o = true then 64 else 32
def wordN (o : Bool) (x : Nat) : Nat := x % 2 ^ wd o
def U64Post (v : Nat) (w : World) (e : Ending) (w' : World) : Prop := e = .returned (.int .u64 (v : Nat)) ∧ Below w.heap.size w w'
def KAt (o : Bool) (K H : Value) (w : World) (g : Nat) : Prop := ∃ fr, w.heap[g]? = some (.cells (kindC o K H) 75 fr)
theorem KAt.cells1 {K H : Value} {w' : World} {B : Nat} (h : KAt true K H w' B) : w'.cell? ⟨B, 0, none⟩ = some (.int .i64 64) ∧ w'.cell? ⟨B, 1, none⟩ = some (.int .i64 28) ∧ w'.cell? ⟨B, 2, none⟩ = some (.int .i64 34) ∧ w'.cell? ⟨B, 3, none⟩ = some (.int .i64 39) ∧ w'.cell? ⟨B, 4, none⟩ = some (.int .i64 14) ∧ w'.cell? ⟨B, 5, none⟩ = some (.int .i64 18) ∧ w'.cell? ⟨B, 6, none⟩ = some (.int .i64 41) ∧ w'.cell? ⟨B, 7, none⟩ = some (.int .i64 1) ∧ w'.cell? ⟨B, 8, none⟩ = some (.int .i64 8) ∧ w'.cell? ⟨B, 9, none⟩ = some (.int .i64 7) ∧ w'.cell? ⟨B, 10, none⟩ = some (.int .i64 19) ∧ w'.cell? ⟨B, 11, none⟩ = some (.int .i64 61) ∧ w'.cell? ⟨B, 12, none⟩ = some (.int .i64 6) ∧ w'.cell? ⟨B, 13, none⟩ = some K ∧ w'.cell? ⟨B, 14, none⟩ = some H := by
  obtain ⟨fr, h⟩ := h
  rw [kindC1] at h
  refine ⟨?_, ?_, ?_, ?_, ?_, ?_, ?_, ?_, ?_, ?_, ?_, ?_, ?_, ?_, ?_⟩ <;> (rw [cell_of_row w' B _ _ _ _ h]; rfl)
theorem KAt.lt {o : Bool} {K H : Value} {w : World} {g : Nat} (h : KAt o K H w g) : g < w.heap.size := by
  obtain ⟨fr, h⟩ := h
  exact (Array.getElem?_eq_some_iff.1 h).1
theorem KAt.new (o : Bool) (K H : Value) (w : World) : KAt o K H (w.alloc (.cells (kindC o K H) 75)).drew w.heap.size := ⟨_, heap_alloc_new w _⟩
theorem KAt.below {o : Bool} {K H : Value} {w w' : World} {g B : Nat} (h : KAt o K H w g) (hb : Below B w w') (hg : g < B) : KAt o K H w' g := by
  obtain ⟨fr, h⟩ := h
  exact ⟨fr, (hb.block g hg).trans h⟩
theorem word1_any (K H : Value) (x : Nat) (hx : x < 18446744073709551616) (w : World) : Calls Tryz.prog 90 #[.agg (kindC true K H), .int .u64 x] w (U64Post x w) := by
  rw [kindC1]
  go_enter Tryz.func90, Tryz.ntmps90
  go_wp2
  go_region
  all_goals
    go_wp2
    go_ret
    exact ⟨rfl, ((Below.refl _ _).alloc (Nat.le_refl _) _).drew⟩
def rotN (o : Bool) (x n : Nat) : Nat := wordN o (x / 2 ^ n ||| x * 2 ^ (wd o - n) % 18446744073709551616)
theorem or_u64 (a b : Nat) (ha : a < 18446744073709551616) (hb : b < 18446744073709551616) : bits .or .u64 (a : Int) (b : Int) = ((a ||| b : Nat) : Int) := by
  have hx : a ||| b < 2 ^ 64 := Nat.or_lt_two_pow (by omega) (by omega)
  have h1 : (BitVec.ofInt 64 (a : Int)).toNat = a := by
    rw [BitVec.ofInt_natCast, BitVec.toNat_ofNat]; exact Nat.mod_eq_of_lt (by omega)
  have h2 : (BitVec.ofInt 64 (b : Int)).toNat = b := by
    rw [BitVec.ofInt_natCast, BitVec.toNat_ofNat]; exact Nat.mod_eq_of_lt (by omega)
  show IntKind.u64.wrap ((BitVec.ofInt 64 (a : Int) ||| BitVec.ofInt 64 (b : Int)).toNat : Int) = _
  rw [BitVec.toNat_or, h1, h2]
  simp [IntKind.wrap, IntKind.signed, IntKind.bits]
  omega
set_option maxRecDepth 100000 in
set_option maxHeartbeats 6400000 in
theorem rot1_any (K H : Value) (x n v : Nat) (hx : x < 18446744073709551616) (hn : n < 64) (hv : rotN true x n = v) (w : World) : Calls Tryz.prog 110 #[.agg (kindC true K H), .int .u64 x, .int .i64 n] w (U64Post v w) := by
  have hK := KAt.new true K H w
  have hS := hK.cells1
  rw [kindC1] at hS
  obtain ⟨m, hm⟩ : ∃ m, 64 - n = m := ⟨_, rfl⟩
  obtain ⟨p, hp⟩ : ∃ p, x / 2 ^ n = p := ⟨_, rfl⟩
  obtain ⟨s, hs⟩ : ∃ s, x * 2 ^ m % 18446744073709551616 = s := ⟨_, rfl⟩
  obtain ⟨y, hy⟩ : ∃ y, p ||| s = y := ⟨_, rfl⟩
  have hpl : p < 18446744073709551616 := by rw [← hp]; exact Nat.lt_of_le_of_lt (Nat.div_le_self _ _) hx
  have hsl : s < 18446744073709551616 := by rw [← hs]; exact Nat.mod_lt _ (by omega)
  have hyl : y < 18446744073709551616 := by rw [← hy]; exact Nat.or_lt_two_pow (n := 64) hpl hsl
  have k0 : IntKind.i64.wrap (64 - (n : Int)) = (m : Int) := by
    simp [IntKind.wrap, IntKind.signed, IntKind.bits]; omega
  have k1 : (x : Int) / 2 ^ n = (p : Int) := by rw [← hp]; simp
  have k2 : IntKind.u64.wrap ((x : Int) * 2 ^ min m 64) = (s : Int) := by
    rw [Nat.min_eq_left (by omega), ← hs]; simp [IntKind.wrap, IntKind.signed, IntKind.bits]
  have k3 : bits .or .u64 (p : Int) (s : Int) = (y : Int) := by rw [or_u64 p s hpl hsl, hy]
  have hv2 : wordN true y = v := by rw [← hv]; unfold rotN; rw [hp, show wd true - n = m from hm, hs, hy]
  have hyv : y = v := by rw [← hv2]; exact (Nat.mod_eq_of_lt hyl).symm
  replace hyv := Lib.hid hyv
  replace hv := Lib.hid hv2
  have cw := fun w => word1_any K H y hyl w
  rw [kindC1] at cw
  replace cw := Lib.hid cw
  replace hK := Lib.hid hK
  replace hm := Lib.hid hm
  replace hp := Lib.hid hp
  replace hs := Lib.hid hs
  replace hy := Lib.hid hy
  clear hv2
  rw [kindC1]
  go_enter Tryz.func110, Tryz.ntmps110
  go_wp2_with fail
  go_region_held3 (fun w' => w'.cell? ⟨w.heap.size, 0, none⟩ = some (.int .i64 64) ∧ w'.cell? ⟨w.heap.size, 1, none⟩ = some (.int .i64 28) ∧ w'.cell? ⟨w.heap.size, 2, none⟩ = some (.int .i64 34) ∧ w'.cell? ⟨w.heap.size, 3, none⟩ = some (.int .i64 39) ∧ w'.cell? ⟨w.heap.size, 4, none⟩ = some (.int .i64 14) ∧ w'.cell? ⟨w.heap.size, 5, none⟩ = some (.int .i64 18) ∧ w'.cell? ⟨w.heap.size, 6, none⟩ = some (.int .i64 41) ∧ w'.cell? ⟨w.heap.size, 7, none⟩ = some (.int .i64 1) ∧ w'.cell? ⟨w.heap.size, 8, none⟩ = some (.int .i64 8) ∧ w'.cell? ⟨w.heap.size, 9, none⟩ = some (.int .i64 7) ∧ w'.cell? ⟨w.heap.size, 10, none⟩ = some (.int .i64 19) ∧ w'.cell? ⟨w.heap.size, 11, none⟩ = some (.int .i64 61) ∧ w'.cell? ⟨w.heap.size, 12, none⟩ = some (.int .i64 6) ∧ w'.cell? ⟨w.heap.size, 13, none⟩ = some K ∧ w'.cell? ⟨w.heap.size, 14, none⟩ = some H) (first | exact hS | exact (hK.out.below hb hK.out.lt).cells1)
    (first
      | (go_at_call_of 90 (Value.int .u64 (y : Nat)); refine (cw.out _).mono ?_; rintro e w' ⟨rfl, hb⟩))
  all_goals
    go_wp2
    go_ret
    exact ⟨by rw [hyv.out]; rfl, ((Below.refl _ _).alloc (Nat.le_refl _) _).drew.trans (hb.mono (by rw [World.size_drew, World.size_alloc]; omega))⟩
end Go.Proofs.YtgnblaaldpniiaaGreatDoor.Sh
end
section
set_option maxRecDepth 100000
set_option linter.unusedVariables false
set_option linter.unusedSimpArgs false
namespace Go.Proofs.YtgnblaaldpniiaaGreatDoor.Sh
open Go.RowKit Go.Lib
def threeN (o : Bool) (x n1 n2 n3 : Nat) : Nat := (rotN o x n1 ^^^ rotN o x n2) ^^^ rotN o x n3
def twoN (o : Bool) (x n1 n2 n3 : Nat) : Nat := (rotN o x n1 ^^^ rotN o x n2) ^^^ x / 2 ^ n3
theorem wordN_lt (o : Bool) (x : Nat) : wordN o x < 18446744073709551616 := by
  unfold wordN
  cases o
  · exact Nat.lt_of_lt_of_le (Nat.mod_lt _ (Nat.two_pow_pos _)) (by decide)
  · exact Nat.mod_lt _ (Nat.two_pow_pos _)
theorem rotN_lt (o : Bool) (x n : Nat) : rotN o x n < 18446744073709551616 := wordN_lt o _
theorem xor_u64 (a b : Nat) (ha : a < 18446744073709551616) (hb : b < 18446744073709551616) : bits .xor .u64 (a : Int) (b : Int) = ((a ^^^ b : Nat) : Int) := by
  have hx : a ^^^ b < 2 ^ 64 := Nat.xor_lt_two_pow (by omega) (by omega)
  have h1 : (BitVec.ofInt 64 (a : Int)).toNat = a := by
    rw [BitVec.ofInt_natCast, BitVec.toNat_ofNat]; exact Nat.mod_eq_of_lt (by omega)
  have h2 : (BitVec.ofInt 64 (b : Int)).toNat = b := by
    rw [BitVec.ofInt_natCast, BitVec.toNat_ofNat]; exact Nat.mod_eq_of_lt (by omega)
  show IntKind.u64.wrap ((BitVec.ofInt 64 (a : Int) ^^^ BitVec.ofInt 64 (b : Int)).toNat : Int) = _
  rw [BitVec.toNat_xor, h1, h2]
  simp [IntKind.wrap, IntKind.signed, IntKind.bits]
  omega
theorem holds1_below {w w1 w2 : World} {K H : Value} {n1 n2 n3 : Nat} (h : w1.cell? ⟨w.heap.size, 0, none⟩ = some (.int .i64 64) ∧ w1.cell? ⟨w.heap.size, 1, none⟩ = some (.int .i64 28) ∧ w1.cell? ⟨w.heap.size, 2, none⟩ = some (.int .i64 34) ∧ w1.cell? ⟨w.heap.size, 3, none⟩ = some (.int .i64 39) ∧ w1.cell? ⟨w.heap.size, 4, none⟩ = some (.int .i64 14) ∧ w1.cell? ⟨w.heap.size, 5, none⟩ = some (.int .i64 18) ∧ w1.cell? ⟨w.heap.size, 6, none⟩ = some (.int .i64 41) ∧ w1.cell? ⟨w.heap.size, 7, none⟩ = some (.int .i64 1) ∧ w1.cell? ⟨w.heap.size, 8, none⟩ = some (.int .i64 8) ∧ w1.cell? ⟨w.heap.size, 9, none⟩ = some (.int .i64 7) ∧ w1.cell? ⟨w.heap.size, 10, none⟩ = some (.int .i64 19) ∧ w1.cell? ⟨w.heap.size, 11, none⟩ = some (.int .i64 61) ∧ w1.cell? ⟨w.heap.size, 12, none⟩ = some (.int .i64 6) ∧ w1.cell? ⟨w.heap.size, 13, none⟩ = some K ∧ w1.cell? ⟨w.heap.size, 14, none⟩ = some H ∧ w1.cell? ⟨w.heap.size + 1, 0, none⟩ = some (.int .i64 (n1 : Nat)) ∧ w1.cell? ⟨w.heap.size + 1, 1, none⟩ = some (.int .i64 (n2 : Nat)) ∧ w1.cell? ⟨w.heap.size + 1, 2, none⟩ = some (.int .i64 (n3 : Nat)) ∧ Hid (w.heap.size + 2 ≤ w1.heap.size) ∧ Hid (Below w.heap.size w w1)) (hb : Below w1.heap.size w1 w2) : w2.cell? ⟨w.heap.size, 0, none⟩ = some (.int .i64 64) ∧ w2.cell? ⟨w.heap.size, 1, none⟩ = some (.int .i64 28) ∧ w2.cell? ⟨w.heap.size, 2, none⟩ = some (.int .i64 34) ∧ w2.cell? ⟨w.heap.size, 3, none⟩ = some (.int .i64 39) ∧ w2.cell? ⟨w.heap.size, 4, none⟩ = some (.int .i64 14) ∧ w2.cell? ⟨w.heap.size, 5, none⟩ = some (.int .i64 18) ∧ w2.cell? ⟨w.heap.size, 6, none⟩ = some (.int .i64 41) ∧ w2.cell? ⟨w.heap.size, 7, none⟩ = some (.int .i64 1) ∧ w2.cell? ⟨w.heap.size, 8, none⟩ = some (.int .i64 8) ∧ w2.cell? ⟨w.heap.size, 9, none⟩ = some (.int .i64 7) ∧ w2.cell? ⟨w.heap.size, 10, none⟩ = some (.int .i64 19) ∧ w2.cell? ⟨w.heap.size, 11, none⟩ = some (.int .i64 61) ∧ w2.cell? ⟨w.heap.size, 12, none⟩ = some (.int .i64 6) ∧ w2.cell? ⟨w.heap.size, 13, none⟩ = some K ∧ w2.cell? ⟨w.heap.size, 14, none⟩ = some H ∧ w2.cell? ⟨w.heap.size + 1, 0, none⟩ = some (.int .i64 (n1 : Nat)) ∧ w2.cell? ⟨w.heap.size + 1, 1, none⟩ = some (.int .i64 (n2 : Nat)) ∧ w2.cell? ⟨w.heap.size + 1, 2, none⟩ = some (.int .i64 (n3 : Nat)) ∧ Hid (w.heap.size + 2 ≤ w2.heap.size) ∧ Hid (Below w.heap.size w w2) := by
  obtain ⟨c0, c1, c2, c3, c4, c5, c6, c7, c8, c9, c10, c11, c12, c13, c14, c15, c16, c17, hs, hB⟩ := h
  have hs' := hs.out
  have q0 : w.heap.size < w1.heap.size := by omega
  have q1 : w.heap.size + 1 < w1.heap.size := by omega
  refine ⟨(hb.cell (p := ⟨_, 0, none⟩) q0).trans c0, (hb.cell (p := ⟨_, 1, none⟩) q0).trans c1, (hb.cell (p := ⟨_, 2, none⟩) q0).trans c2, (hb.cell (p := ⟨_, 3, none⟩) q0).trans c3, (hb.cell (p := ⟨_, 4, none⟩) q0).trans c4, (hb.cell (p := ⟨_, 5, none⟩) q0).trans c5, (hb.cell (p := ⟨_, 6, none⟩) q0).trans c6, (hb.cell (p := ⟨_, 7, none⟩) q0).trans c7, (hb.cell (p := ⟨_, 8, none⟩) q0).trans c8, (hb.cell (p := ⟨_, 9, none⟩) q0).trans c9, (hb.cell (p := ⟨_, 10, none⟩) q0).trans c10, (hb.cell (p := ⟨_, 11, none⟩) q0).trans c11, (hb.cell (p := ⟨_, 12, none⟩) q0).trans c12, (hb.cell (p := ⟨_, 13, none⟩) q0).trans c13, (hb.cell (p := ⟨_, 14, none⟩) q0).trans c14, (hb.cell (p := ⟨_, 0, none⟩) q1).trans c15, (hb.cell (p := ⟨_, 1, none⟩) q1).trans c16, (hb.cell (p := ⟨_, 2, none⟩) q1).trans c17, ?_, ?_⟩
  · exact Nat.le_trans hs.out hb.size
  · exact hB.out.trans (hb.mono (by omega))
theorem holds1_first (w : World) (K H : Value) (n1 n2 n3 : Nat) : ((w.alloc (.cells #[.int .i64 64, .int .i64 28, .int .i64 34, .int .i64 39, .int .i64 14, .int .i64 18, .int .i64 41, .int .i64 1, .int .i64 8, .int .i64 7, .int .i64 19, .int .i64 61, .int .i64 6, K, H] 75)).alloc (.cells #[.int .i64 (n1 : Nat), .int .i64 (n2 : Nat), .int .i64 (n3 : Nat)] 72)).drew.cell? ⟨w.heap.size, 0, none⟩ = some (.int .i64 64) ∧ ((w.alloc (.cells #[.int .i64 64, .int .i64 28, .int .i64 34, .int .i64 39, .int .i64 14, .int .i64 18, .int .i64 41, .int .i64 1, .int .i64 8, .int .i64 7, .int .i64 19, .int .i64 61, .int .i64 6, K, H] 75)).alloc (.cells #[.int .i64 (n1 : Nat), .int .i64 (n2 : Nat), .int .i64 (n3 : Nat)] 72)).drew.cell? ⟨w.heap.size, 1, none⟩ = some (.int .i64 28) ∧ ((w.alloc (.cells #[.int .i64 64, .int .i64 28, .int .i64 34, .int .i64 39, .int .i64 14, .int .i64 18, .int .i64 41, .int .i64 1, .int .i64 8, .int .i64 7, .int .i64 19, .int .i64 61, .int .i64 6, K, H] 75)).alloc (.cells #[.int .i64 (n1 : Nat), .int .i64 (n2 : Nat), .int .i64 (n3 : Nat)] 72)).drew.cell? ⟨w.heap.size, 2, none⟩ = some (.int .i64 34) ∧ ((w.alloc (.cells #[.int .i64 64, .int .i64 28, .int .i64 34, .int .i64 39, .int .i64 14, .int .i64 18, .int .i64 41, .int .i64 1, .int .i64 8, .int .i64 7, .int .i64 19, .int .i64 61, .int .i64 6, K, H] 75)).alloc (.cells #[.int .i64 (n1 : Nat), .int .i64 (n2 : Nat), .int .i64 (n3 : Nat)] 72)).drew.cell? ⟨w.heap.size, 3, none⟩ = some (.int .i64 39) ∧ ((w.alloc (.cells #[.int .i64 64, .int .i64 28, .int .i64 34, .int .i64 39, .int .i64 14, .int .i64 18, .int .i64 41, .int .i64 1, .int .i64 8, .int .i64 7, .int .i64 19, .int .i64 61, .int .i64 6, K, H] 75)).alloc (.cells #[.int .i64 (n1 : Nat), .int .i64 (n2 : Nat), .int .i64 (n3 : Nat)] 72)).drew.cell? ⟨w.heap.size, 4, none⟩ = some (.int .i64 14) ∧ ((w.alloc (.cells #[.int .i64 64, .int .i64 28, .int .i64 34, .int .i64 39, .int .i64 14, .int .i64 18, .int .i64 41, .int .i64 1, .int .i64 8, .int .i64 7, .int .i64 19, .int .i64 61, .int .i64 6, K, H] 75)).alloc (.cells #[.int .i64 (n1 : Nat), .int .i64 (n2 : Nat), .int .i64 (n3 : Nat)] 72)).drew.cell? ⟨w.heap.size, 5, none⟩ = some (.int .i64 18) ∧ ((w.alloc (.cells #[.int .i64 64, .int .i64 28, .int .i64 34, .int .i64 39, .int .i64 14, .int .i64 18, .int .i64 41, .int .i64 1, .int .i64 8, .int .i64 7, .int .i64 19, .int .i64 61, .int .i64 6, K, H] 75)).alloc (.cells #[.int .i64 (n1 : Nat), .int .i64 (n2 : Nat), .int .i64 (n3 : Nat)] 72)).drew.cell? ⟨w.heap.size, 6, none⟩ = some (.int .i64 41) ∧ ((w.alloc (.cells #[.int .i64 64, .int .i64 28, .int .i64 34, .int .i64 39, .int .i64 14, .int .i64 18, .int .i64 41, .int .i64 1, .int .i64 8, .int .i64 7, .int .i64 19, .int .i64 61, .int .i64 6, K, H] 75)).alloc (.cells #[.int .i64 (n1 : Nat), .int .i64 (n2 : Nat), .int .i64 (n3 : Nat)] 72)).drew.cell? ⟨w.heap.size, 7, none⟩ = some (.int .i64 1) ∧ ((w.alloc (.cells #[.int .i64 64, .int .i64 28, .int .i64 34, .int .i64 39, .int .i64 14, .int .i64 18, .int .i64 41, .int .i64 1, .int .i64 8, .int .i64 7, .int .i64 19, .int .i64 61, .int .i64 6, K, H] 75)).alloc (.cells #[.int .i64 (n1 : Nat), .int .i64 (n2 : Nat), .int .i64 (n3 : Nat)] 72)).drew.cell? ⟨w.heap.size, 8, none⟩ = some (.int .i64 8) ∧ ((w.alloc (.cells #[.int .i64 64, .int .i64 28, .int .i64 34, .int .i64 39, .int .i64 14, .int .i64 18, .int .i64 41, .int .i64 1, .int .i64 8, .int .i64 7, .int .i64 19, .int .i64 61, .int .i64 6, K, H] 75)).alloc (.cells #[.int .i64 (n1 : Nat), .int .i64 (n2 : Nat), .int .i64 (n3 : Nat)] 72)).drew.cell? ⟨w.heap.size, 9, none⟩ = some (.int .i64 7) ∧ ((w.alloc (.cells #[.int .i64 64, .int .i64 28, .int .i64 34, .int .i64 39, .int .i64 14, .int .i64 18, .int .i64 41, .int .i64 1, .int .i64 8, .int .i64 7, .int .i64 19, .int .i64 61, .int .i64 6, K, H] 75)).alloc (.cells #[.int .i64 (n1 : Nat), .int .i64 (n2 : Nat), .int .i64 (n3 : Nat)] 72)).drew.cell? ⟨w.heap.size, 10, none⟩ = some (.int .i64 19) ∧ ((w.alloc (.cells #[.int .i64 64, .int .i64 28, .int .i64 34, .int .i64 39, .int .i64 14, .int .i64 18, .int .i64 41, .int .i64 1, .int .i64 8, .int .i64 7, .int .i64 19, .int .i64 61, .int .i64 6, K, H] 75)).alloc (.cells #[.int .i64 (n1 : Nat), .int .i64 (n2 : Nat), .int .i64 (n3 : Nat)] 72)).drew.cell? ⟨w.heap.size, 11, none⟩ = some (.int .i64 61) ∧ ((w.alloc (.cells #[.int .i64 64, .int .i64 28, .int .i64 34, .int .i64 39, .int .i64 14, .int .i64 18, .int .i64 41, .int .i64 1, .int .i64 8, .int .i64 7, .int .i64 19, .int .i64 61, .int .i64 6, K, H] 75)).alloc (.cells #[.int .i64 (n1 : Nat), .int .i64 (n2 : Nat), .int .i64 (n3 : Nat)] 72)).drew.cell? ⟨w.heap.size, 12, none⟩ = some (.int .i64 6) ∧ ((w.alloc (.cells #[.int .i64 64, .int .i64 28, .int .i64 34, .int .i64 39, .int .i64 14, .int .i64 18, .int .i64 41, .int .i64 1, .int .i64 8, .int .i64 7, .int .i64 19, .int .i64 61, .int .i64 6, K, H] 75)).alloc (.cells #[.int .i64 (n1 : Nat), .int .i64 (n2 : Nat), .int .i64 (n3 : Nat)] 72)).drew.cell? ⟨w.heap.size, 13, none⟩ = some K ∧ ((w.alloc (.cells #[.int .i64 64, .int .i64 28, .int .i64 34, .int .i64 39, .int .i64 14, .int .i64 18, .int .i64 41, .int .i64 1, .int .i64 8, .int .i64 7, .int .i64 19, .int .i64 61, .int .i64 6, K, H] 75)).alloc (.cells #[.int .i64 (n1 : Nat), .int .i64 (n2 : Nat), .int .i64 (n3 : Nat)] 72)).drew.cell? ⟨w.heap.size, 14, none⟩ = some H ∧ ((w.alloc (.cells #[.int .i64 64, .int .i64 28, .int .i64 34, .int .i64 39, .int .i64 14, .int .i64 18, .int .i64 41, .int .i64 1, .int .i64 8, .int .i64 7, .int .i64 19, .int .i64 61, .int .i64 6, K, H] 75)).alloc (.cells #[.int .i64 (n1 : Nat), .int .i64 (n2 : Nat), .int .i64 (n3 : Nat)] 72)).drew.cell? ⟨w.heap.size + 1, 0, none⟩ = some (.int .i64 (n1 : Nat)) ∧ ((w.alloc (.cells #[.int .i64 64, .int .i64 28, .int .i64 34, .int .i64 39, .int .i64 14, .int .i64 18, .int .i64 41, .int .i64 1, .int .i64 8, .int .i64 7, .int .i64 19, .int .i64 61, .int .i64 6, K, H] 75)).alloc (.cells #[.int .i64 (n1 : Nat), .int .i64 (n2 : Nat), .int .i64 (n3 : Nat)] 72)).drew.cell? ⟨w.heap.size + 1, 1, none⟩ = some (.int .i64 (n2 : Nat)) ∧ ((w.alloc (.cells #[.int .i64 64, .int .i64 28, .int .i64 34, .int .i64 39, .int .i64 14, .int .i64 18, .int .i64 41, .int .i64 1, .int .i64 8, .int .i64 7, .int .i64 19, .int .i64 61, .int .i64 6, K, H] 75)).alloc (.cells #[.int .i64 (n1 : Nat), .int .i64 (n2 : Nat), .int .i64 (n3 : Nat)] 72)).drew.cell? ⟨w.heap.size + 1, 2, none⟩ = some (.int .i64 (n3 : Nat)) ∧ Hid (w.heap.size + 2 ≤ ((w.alloc (.cells #[.int .i64 64, .int .i64 28, .int .i64 34, .int .i64 39, .int .i64 14, .int .i64 18, .int .i64 41, .int .i64 1, .int .i64 8, .int .i64 7, .int .i64 19, .int .i64 61, .int .i64 6, K, H] 75)).alloc (.cells #[.int .i64 (n1 : Nat), .int .i64 (n2 : Nat), .int .i64 (n3 : Nat)] 72)).drew.heap.size) ∧ Hid (Below w.heap.size w ((w.alloc (.cells #[.int .i64 64, .int .i64 28, .int .i64 34, .int .i64 39, .int .i64 14, .int .i64 18, .int .i64 41, .int .i64 1, .int .i64 8, .int .i64 7, .int .i64 19, .int .i64 61, .int .i64 6, K, H] 75)).alloc (.cells #[.int .i64 (n1 : Nat), .int .i64 (n2 : Nat), .int .i64 (n3 : Nat)] 72)).drew) := by
  have h1 : (w.alloc (.cells #[.int .i64 64, .int .i64 28, .int .i64 34, .int .i64 39, .int .i64 14, .int .i64 18, .int .i64 41, .int .i64 1, .int .i64 8, .int .i64 7, .int .i64 19, .int .i64 61, .int .i64 6, K, H] 75)).heap[w.heap.size]? = _ := heap_alloc_new w _
  have e1 : (w.alloc (.cells #[.int .i64 64, .int .i64 28, .int .i64 34, .int .i64 39, .int .i64 14, .int .i64 18, .int .i64 41, .int .i64 1, .int .i64 8, .int .i64 7, .int .i64 19, .int .i64 61, .int .i64 6, K, H] 75)).heap.size = w.heap.size + 1 := World.size_alloc w _
  have h2 := heap_alloc_new (w.alloc (.cells #[.int .i64 64, .int .i64 28, .int .i64 34, .int .i64 39, .int .i64 14, .int .i64 18, .int .i64 41, .int .i64 1, .int .i64 8, .int .i64 7, .int .i64 19, .int .i64 61, .int .i64 6, K, H] 75)) (.cells #[.int .i64 (n1 : Nat), .int .i64 (n2 : Nat), .int .i64 (n3 : Nat)] 72)
  rw [e1] at h2
  have h3 := (Below.heap_alloc (w.alloc (.cells #[.int .i64 64, .int .i64 28, .int .i64 34, .int .i64 39, .int .i64 14, .int .i64 18, .int .i64 41, .int .i64 1, .int .i64 8, .int .i64 7, .int .i64 19, .int .i64 61, .int .i64 6, K, H] 75)) (.cells #[.int .i64 (n1 : Nat), .int .i64 (n2 : Nat), .int .i64 (n3 : Nat)] 72) w.heap.size (by omega)).trans h1
  refine ⟨(cell_of_row _ _ 0 _ _ _ h3).trans rfl, (cell_of_row _ _ 1 _ _ _ h3).trans rfl, (cell_of_row _ _ 2 _ _ _ h3).trans rfl, (cell_of_row _ _ 3 _ _ _ h3).trans rfl, (cell_of_row _ _ 4 _ _ _ h3).trans rfl, (cell_of_row _ _ 5 _ _ _ h3).trans rfl, (cell_of_row _ _ 6 _ _ _ h3).trans rfl, (cell_of_row _ _ 7 _ _ _ h3).trans rfl, (cell_of_row _ _ 8 _ _ _ h3).trans rfl, (cell_of_row _ _ 9 _ _ _ h3).trans rfl, (cell_of_row _ _ 10 _ _ _ h3).trans rfl, (cell_of_row _ _ 11 _ _ _ h3).trans rfl, (cell_of_row _ _ 12 _ _ _ h3).trans rfl, (cell_of_row _ _ 13 _ _ _ h3).trans rfl, (cell_of_row _ _ 14 _ _ _ h3).trans rfl, (cell_of_row _ _ 0 _ _ _ h2).trans rfl, (cell_of_row _ _ 1 _ _ _ h2).trans rfl, (cell_of_row _ _ 2 _ _ _ h2).trans rfl, ?_, ?_⟩
  · show w.heap.size + 2 ≤ (World.alloc (w.alloc (.cells #[.int .i64 64, .int .i64 28, .int .i64 34, .int .i64 39, .int .i64 14, .int .i64 18, .int .i64 41, .int .i64 1, .int .i64 8, .int .i64 7, .int .i64 19, .int .i64 61, .int .i64 6, K, H] 75)) _).heap.size
    rw [World.size_alloc, World.size_alloc]
    omega
  · exact (((Below.refl _ _).alloc (Nat.le_refl _) _).alloc (by rw [World.size_alloc]; omega) _).drew
set_option maxRecDepth 100000 in
set_option maxHeartbeats 12800000 in
theorem two1_any (K H : Value) (x n1 n2 n3 v : Nat) (hx : x < 18446744073709551616) (l1 : n1 < 64) (l2 : n2 < 64) (l3 : n3 < 64) (hv : twoN true x n1 n2 n3 = v) (w : World) : Calls Tryz.prog 91 #[.agg (kindC true K H), .int .u64 x, .agg #[.int .i64 n1, .int .i64 n2, .int .i64 n3]] w (U64Post v w) := by
  have hS := holds1_first w K H n1 n2 n3
  rw [kindC1]
  obtain ⟨v1, h1⟩ : ∃ v, rotN true x n1 = v := ⟨_, rfl⟩
  obtain ⟨v2, h2⟩ : ∃ v, rotN true x n2 = v := ⟨_, rfl⟩
  have r1 := fun w => rot1_any K H x n1 v1 hx l1 h1 w
  have r2 := fun w => rot1_any K H x n2 v2 hx l2 h2 w
  rw [kindC1] at r1 r2
  replace r1 := Lib.hid r1
  replace r2 := Lib.hid r2
  obtain ⟨v3, h3⟩ : ∃ v, x / 2 ^ n3 = v := ⟨_, rfl⟩
  have k3 : (x : Int) / 2 ^ n3 = (v3 : Int) := by rw [← h3]; simp
  have g1 : v1 < 18446744073709551616 := by rw [← h1]; exact rotN_lt true x n1
  have g2 : v2 < 18446744073709551616 := by rw [← h2]; exact rotN_lt true x n2
  have g3 : v3 < 18446744073709551616 := by rw [← h3]; exact Nat.lt_of_le_of_lt (Nat.div_le_self _ _) hx
  have x1 := xor_u64 v1 v2 g1 g2
  obtain ⟨u, hu⟩ : ∃ u, v1 ^^^ v2 = u := ⟨_, rfl⟩
  rw [hu] at x1
  have x2 := xor_u64 u v3 (by rw [← hu]; exact Nat.xor_lt_two_pow (n := 64) g1 g2) g3
  have x3 : u ^^^ v3 = v := by rw [← hu, ← h1, ← h2, ← h3]; exact hv
  rw [x3] at x2
  clear hv
  replace h1 := Lib.hid h1
  replace h2 := Lib.hid h2
  replace h3 := Lib.hid h3
  replace hu := Lib.hid hu
  replace x3 := Lib.hid x3
  go_enter Tryz.func91, Tryz.ntmps91
  go_wp2_with fail
  go_region_held3 (fun w' => w'.cell? ⟨w.heap.size, 0, none⟩ = some (.int .i64 64) ∧ w'.cell? ⟨w.heap.size, 1, none⟩ = some (.int .i64 28) ∧ w'.cell? ⟨w.heap.size, 2, none⟩ = some (.int .i64 34) ∧ w'.cell? ⟨w.heap.size, 3, none⟩ = some (.int .i64 39) ∧ w'.cell? ⟨w.heap.size, 4, none⟩ = some (.int .i64 14) ∧ w'.cell? ⟨w.heap.size, 5, none⟩ = some (.int .i64 18) ∧ w'.cell? ⟨w.heap.size, 6, none⟩ = some (.int .i64 41) ∧ w'.cell? ⟨w.heap.size, 7, none⟩ = some (.int .i64 1) ∧ w'.cell? ⟨w.heap.size, 8, none⟩ = some (.int .i64 8) ∧ w'.cell? ⟨w.heap.size, 9, none⟩ = some (.int .i64 7) ∧ w'.cell? ⟨w.heap.size, 10, none⟩ = some (.int .i64 19) ∧ w'.cell? ⟨w.heap.size, 11, none⟩ = some (.int .i64 61) ∧ w'.cell? ⟨w.heap.size, 12, none⟩ = some (.int .i64 6) ∧ w'.cell? ⟨w.heap.size, 13, none⟩ = some K ∧ w'.cell? ⟨w.heap.size, 14, none⟩ = some H ∧ w'.cell? ⟨w.heap.size + 1, 0, none⟩ = some (.int .i64 (n1 : Nat)) ∧ w'.cell? ⟨w.heap.size + 1, 1, none⟩ = some (.int .i64 (n2 : Nat)) ∧ w'.cell? ⟨w.heap.size + 1, 2, none⟩ = some (.int .i64 (n3 : Nat)) ∧ Hid (w.heap.size + 2 ≤ w'.heap.size) ∧ Hid (Below w.heap.size w w')) (first | exact hS | exact holds1_below (by assumption) hb)
    (first
      | (go_at_call_of 110 (Value.int .i64 (n1 : Nat)); refine (r1.out _).mono ?_; rintro e w' ⟨rfl, hb⟩)
      | (go_at_call_of 110 (Value.int .i64 (n2 : Nat)); refine (r2.out _).mono ?_; rintro e w' ⟨rfl, hb⟩))
  all_goals
    go_wp2
    go_ret
    rename_i hheld
    exact ⟨rfl, hheld.2.2.2.2.2.2.2.2.2.2.2.2.2.2.2.2.2.2.2.out⟩
end Go.Proofs.YtgnblaaldpniiaaGreatDoor.Sh
end
section
set_option maxRecDepth 100000
set_option linter.unusedVariables false
set_option linter.unusedSimpArgs false
namespace Go.Proofs.YtgnblaaldpniiaaGreatDoor.Sh
open Go.RowKit Go.Lib
set_option maxRecDepth 100000 in
set_option maxHeartbeats 12800000 in
theorem three1_any (K H : Value) (x n1 n2 n3 v : Nat) (hx : x < 18446744073709551616) (l1 : n1 < 64) (l2 : n2 < 64) (l3 : n3 < 64) (hv : threeN true x n1 n2 n3 = v) (w : World) : Calls Tryz.prog 92 #[.agg (kindC true K H), .int .u64 x, .agg #[.int .i64 n1, .int .i64 n2, .int .i64 n3]] w (U64Post v w) := by
  have hS := holds1_first w K H n1 n2 n3
  rw [kindC1]
  obtain ⟨v1, h1⟩ : ∃ v, rotN true x n1 = v := ⟨_, rfl⟩
  obtain ⟨v2, h2⟩ : ∃ v, rotN true x n2 = v := ⟨_, rfl⟩
  have r1 := fun w => rot1_any K H x n1 v1 hx l1 h1 w
  have r2 := fun w => rot1_any K H x n2 v2 hx l2 h2 w
  rw [kindC1] at r1 r2
  replace r1 := Lib.hid r1
  replace r2 := Lib.hid r2
  obtain ⟨v3, h3⟩ : ∃ v, rotN true x n3 = v := ⟨_, rfl⟩
  have r3 := fun w => rot1_any K H x n3 v3 hx l3 h3 w
  rw [kindC1] at r3
  replace r3 := Lib.hid r3
  have g1 : v1 < 18446744073709551616 := by rw [← h1]; exact rotN_lt true x n1
  have g2 : v2 < 18446744073709551616 := by rw [← h2]; exact rotN_lt true x n2
  have g3 : v3 < 18446744073709551616 := by rw [← h3]; exact rotN_lt true x n3
  have x1 := xor_u64 v1 v2 g1 g2
  obtain ⟨u, hu⟩ : ∃ u, v1 ^^^ v2 = u := ⟨_, rfl⟩
  rw [hu] at x1
  have x2 := xor_u64 u v3 (by rw [← hu]; exact Nat.xor_lt_two_pow (n := 64) g1 g2) g3
  have x3 : u ^^^ v3 = v := by rw [← hu, ← h1, ← h2, ← h3]; exact hv
  rw [x3] at x2
  clear hv
  replace h1 := Lib.hid h1
  replace h2 := Lib.hid h2
  replace h3 := Lib.hid h3
  replace hu := Lib.hid hu
  replace x3 := Lib.hid x3
  go_enter Tryz.func92, Tryz.ntmps92
  go_wp2_with fail
  go_region_held3 (fun w' => w'.cell? ⟨w.heap.size, 0, none⟩ = some (.int .i64 64) ∧ w'.cell? ⟨w.heap.size, 1, none⟩ = some (.int .i64 28) ∧ w'.cell? ⟨w.heap.size, 2, none⟩ = some (.int .i64 34) ∧ w'.cell? ⟨w.heap.size, 3, none⟩ = some (.int .i64 39) ∧ w'.cell? ⟨w.heap.size, 4, none⟩ = some (.int .i64 14) ∧ w'.cell? ⟨w.heap.size, 5, none⟩ = some (.int .i64 18) ∧ w'.cell? ⟨w.heap.size, 6, none⟩ = some (.int .i64 41) ∧ w'.cell? ⟨w.heap.size, 7, none⟩ = some (.int .i64 1) ∧ w'.cell? ⟨w.heap.size, 8, none⟩ = some (.int .i64 8) ∧ w'.cell? ⟨w.heap.size, 9, none⟩ = some (.int .i64 7) ∧ w'.cell? ⟨w.heap.size, 10, none⟩ = some (.int .i64 19) ∧ w'.cell? ⟨w.heap.size, 11, none⟩ = some (.int .i64 61) ∧ w'.cell? ⟨w.heap.size, 12, none⟩ = some (.int .i64 6) ∧ w'.cell? ⟨w.heap.size, 13, none⟩ = some K ∧ w'.cell? ⟨w.heap.size, 14, none⟩ = some H ∧ w'.cell? ⟨w.heap.size + 1, 0, none⟩ = some (.int .i64 (n1 : Nat)) ∧ w'.cell? ⟨w.heap.size + 1, 1, none⟩ = some (.int .i64 (n2 : Nat)) ∧ w'.cell? ⟨w.heap.size + 1, 2, none⟩ = some (.int .i64 (n3 : Nat)) ∧ Hid (w.heap.size + 2 ≤ w'.heap.size) ∧ Hid (Below w.heap.size w w')) (first | exact hS | exact holds1_below (by assumption) hb)
    (first
      | (go_at_call_of 110 (Value.int .i64 (n1 : Nat)); refine (r1.out _).mono ?_; rintro e w' ⟨rfl, hb⟩)
      | (go_at_call_of 110 (Value.int .i64 (n2 : Nat)); refine (r2.out _).mono ?_; rintro e w' ⟨rfl, hb⟩)
      | (go_at_call_of 110 (Value.int .i64 (n3 : Nat)); refine (r3.out _).mono ?_; rintro e w' ⟨rfl, hb⟩))
  all_goals
    go_wp2
    go_ret
    rename_i hheld
    exact ⟨rfl, hheld.2.2.2.2.2.2.2.2.2.2.2.2.2.2.2.2.2.2.2.out⟩
end Go.Proofs.YtgnblaaldpniiaaGreatDoor.Sh
end
section
set_option maxRecDepth 100000
set_option linter.unusedVariables false
set_option linter.unusedSimpArgs false
namespace Go.Proofs.YtgnblaaldpniiaaGreatDoor.Sh
open Go.RowKit Go.Lib
theorem infoU64 : (Tryz.prog.info? 77).map (fun i => (i.zero, i.size, i.bytes)) = some (some (.int .u64 0), 1, 8) := by kernel_rfl
def u64C (l : List Nat) : List Value := l.map fun d => Value.int .u64 (d : Nat)
theorem u64C_append (a b : List Nat) : u64C (a ++ b) = u64C a ++ u64C b := by simp [u64C]
theorem ownsRow_mono {w : World} {b b' : Nat} {e : TypeId} {k : Nat} {v : Value} {n : Nat} {xs : List Value} (h : w.ownsRow b e k v n xs) (hb : b' ≤ b) : w.ownsRow b' e k v n xs := by
  refine ⟨h.1, ?_⟩
  rcases h.2 with hn | ⟨g, cap, cur, hv, hB, rest⟩
  · exact Or.inl hn
  · exact Or.inr ⟨g, cap, cur, hv, Nat.le_trans hb hB, rest⟩
theorem ownsRow_less {w : World} {b : Nat} {e : TypeId} {k g n m cap : Nat} {xs ys : List Value} (h : w.ownsRow b e k (.slice (some ⟨g, 0, none⟩) (n + m) cap) (n + m) (xs ++ ys)) (hx : xs.length = n * k) : w.ownsRow b e k (.slice (some ⟨g, 0, none⟩) n cap) n xs := by
  refine ⟨hx, ?_⟩
  rcases h.2 with ⟨hv, _⟩ | ⟨g', cap', cur, hv, hB, hg, hnc, hcm, hcs, ht⟩
  · cases hv
  · obtain ⟨rfl, rfl⟩ : g = g' ∧ cap = cap' := by injection hv with e1 e2 e3; injection e1 with e1; injection e1 with e1; exact ⟨e1, e3⟩
    refine Or.inr ⟨g, cap, cur, rfl, hB, hg, by omega, hcm, hcs, ?_⟩
    have := congrArg (List.take (n * k)) ht
    have e2 : (xs ++ ys).take (n * k) = xs := by rw [List.take_append_of_le_length (by omega), List.take_of_length_le (by omega)]
    rw [List.take_take, Nat.min_eq_left (by rw [Nat.add_mul]; omega), e2] at this
    exact this
theorem grownBy_more {w w' : World} {g : Nat} (h : w.grownBy w' none) : w.grownBy w' (some g) := ⟨h.os, h.tape, h.output, h.size, fun k hk _ => h.block k hk (by intro e; cases e)⟩
theorem step_fits {P : Program} {ops : Array Oper} {o : Oper} {a : Act} {w : World} {K : Act → World → Prop} {Q : Exit → Act → World → Prop} {E : Prop} (hgd : o.guard = none) (s x : Operand) (t : TypeId)
    (ho : o.op = .call { callee := .builtin .append, args := #[s, x], argTypes := #[t, t] })
    (base : Nat) (e : TypeId) (i : TypeInfo) (size : Nat) (ht : P.underlying t = some (.slice e)) (hi : P.info? e = some i) (hsize : i.size = size)
    (g n cap : Nat) (xs : List Value) (hs : a.eval s = .slice (some ⟨g, 0, none⟩) n cap) (hown : w.ownsRow base e size (.slice (some ⟨g, 0, none⟩) n cap) n xs)
    (ad : Addr) (m c : Nat) (news : List Value) (hx : a.eval x = .slice (some ad) m c) (hl : news.length = m * size) (hnews : ∀ j u, news[j]? = some u → w.cell? (ad.add j) = some u) (h1 : ∀ u ∈ news, u.oneCell' = true)
    (hroom : n + m ≤ cap)
    (h : ∀ w', w'.ownsRow base e size (.slice (some ⟨g, 0, none⟩) (n + m) cap) (n + m) (xs ++ news) → w.grownBy w' (some g) → K (a.put o.dst (.slice (some ⟨g, 0, none⟩) (n + m) cap)) w') :
    if Region.wanted o (yielded ops a.tmps) = true then Oper.wp P o a w K Q else E := by
  have hw : Region.wanted o (yielded ops a.tmps) = true := by simp [Region.wanted, hgd]
  rw [if_pos hw]
  obtain ⟨w', hr, h2, h3⟩ := run_append_fits (P := P) w base t o.type e i size ht hi hsize g n cap xs hown ad m c news hl hnews h1 hroom
  unfold Oper.wp execOp
  simp only [ho, resolve, invoke, builtin, Sem.run_bind, Sem.run_pure, Result.andThen_ok, List.map_toArray, List.map_cons, List.map_nil, hs, hx, hr]
  exact h w' h2 h3
end Go.Proofs.YtgnblaaldpniiaaGreatDoor.Sh
end
section
set_option maxRecDepth 100000
set_option linter.unusedVariables false
set_option linter.unusedSimpArgs false
namespace Go.Proofs.YtgnblaaldpniiaaGreatDoor.Sh
open Go.RowKit Go.Lib
def cD (o : Bool) (x : Nat) : Nat := if o = true then twoN o x 19 61 6 else twoN o x 17 19 10
def cC (o : Bool) (x : Nat) : Nat := if o = true then twoN o x 1 8 7 else twoN o x 7 18 3
def cA (o : Bool) (x : Nat) : Nat := if o = true then threeN o x 28 34 39 else threeN o x 2 13 22
def cB (o : Bool) (x : Nat) : Nat := if o = true then threeN o x 14 18 41 else threeN o x 6 11 25
def nextW (o : Bool) (l : List Nat) : Nat := wordN o (((((cD o (l.getD (l.length - 2) 0) + l.getD (l.length - 7) 0) % 18446744073709551616) + cC o (l.getD (l.length - 15) 0)) % 18446744073709551616 + l.getD (l.length - 16) 0) % 18446744073709551616)
def schN (o : Bool) : Nat → List Nat → List Nat
  | 0, l => l
  | k + 1, l => schN o k (l ++ [nextW o l])
def chN (e f g : Nat) : Nat := (e &&& f) ^^^ ((18446744073709551615 - e) &&& g)
def majN (a b c : Nat) : Nat := ((a &&& b) ^^^ (a &&& c)) ^^^ (b &&& c)
structure S8 where
  (a b c d e f g h : Nat)
def oneN (o : Bool) (k w : Nat) (s : S8) : Nat := wordN o ((((((s.h + cB o s.e) % 18446744073709551616) + chN s.e s.f s.g) % 18446744073709551616 + k) % 18446744073709551616 + w) % 18446744073709551616)
def twoS (o : Bool) (s : S8) : Nat := wordN o ((cA o s.a + majN s.a s.b s.c) % 18446744073709551616)
def roundN (o : Bool) (k w : Nat) (s : S8) : S8 := ⟨wordN o ((oneN o k w s + twoS o s) % 18446744073709551616), s.a, s.b, s.c, wordN o ((s.d + oneN o k w s) % 18446744073709551616), s.e, s.f, s.g⟩
def roundsN (o : Bool) (ks ws : List Nat) : Nat → Nat → S8 → S8
  | 0, _, s => s
  | k + 1, t, s => roundsN o ks ws k (t + 1) (roundN o (ks.getD t 0) (ws.getD t 0) s)
def S8.ok (s : S8) : Prop := s.a < 18446744073709551616 ∧ s.b < 18446744073709551616 ∧ s.c < 18446744073709551616 ∧ s.d < 18446744073709551616 ∧ s.e < 18446744073709551616 ∧ s.f < 18446744073709551616 ∧ s.g < 18446744073709551616 ∧ s.h < 18446744073709551616
def S8.list (s : S8) : List Nat := [s.a, s.b, s.c, s.d, s.e, s.f, s.g, s.h]
def S8.of (l : List Nat) : S8 := ⟨l.getD 0 0, l.getD 1 0, l.getD 2 0, l.getD 3 0, l.getD 4 0, l.getD 5 0, l.getD 6 0, l.getD 7 0⟩
def addN (o : Bool) (x y : Nat) : Nat := wordN o ((x + y) % 18446744073709551616)
def sumN (o : Bool) (sl : List Nat) : Nat → Nat → List Nat → List Nat
  | 0, _, l => l
  | k + 1, i, l => sumN o sl k (i + 1) (l.set i (addN o (l.getD i 0) (sl.getD i 0)))
def blockN (o : Bool) (ks sl ws : List Nat) : List Nat :=
  sumN o sl 8 0 (roundsN o ks (schN o (ks.length - 16) ws) ks.length 0 (S8.of sl)).list
def RowAt (w : World) (g : Nat) (l : List Nat) : Prop := g < w.heap.size ∧ ∀ t, t < l.length → w.cell? ⟨g, t, none⟩ = some (.int .u64 (l.getD t 0 : Nat))
theorem RowAt.below {w w' : World} {g B : Nat} {l : List Nat} (h : RowAt w g l) (hb : Below B w w') (hg : g < B) : RowAt w' g l :=
  ⟨Nat.lt_of_lt_of_le h.1 hb.size, fun t ht => (hb.cell (p := ⟨g, t, none⟩) hg).trans (h.2 t ht)⟩
def BlockPost (o : Bool) (B : Nat) (ks sl ws : List Nat) (w : World) (e : Ending) (w' : World) : Prop :=
  ∃ g c, w.heap.size ≤ g ∧ e = .returned (.slice (some ⟨g, 0, none⟩) 8 c) ∧ RowAt w' g (blockN o ks sl ws) ∧ Below B w w'
theorem wrap_add (a b : Nat) : IntKind.u64.wrap ((a : Int) + (b : Int)) = (((a + b) % 18446744073709551616 : Nat) : Int) := by
  simp [IntKind.wrap, IntKind.signed, IntKind.bits]
theorem own_pos {w : World} {base : Nat} {e : TypeId} {size : Nat} {v : Value} {n : Nat} {xs : List Value} (h : w.ownsRow base e size v n xs) (hn : 0 < n) :
    ∃ g cap, v = .slice (some ⟨g, 0, none⟩) n cap ∧ base ≤ g ∧ g < w.heap.size := by
  rcases h.2 with ⟨_, h0⟩ | ⟨g, cap, cur, hv, hb, hg, _⟩
  · omega
  · exact ⟨g, cap, hv, hb, (Array.getElem?_eq_some_iff.1 hg).1⟩
theorem own_ne {w : World} {o : Bool} {K H : Value} {B g b n cap : Nat} {xs : List Value} (h : w.ownsRow B 77 1 (.slice (some ⟨g, 0, none⟩) n cap) n xs) (hk : KAt o K H w b) : g ≠ b := by
  intro e
  subst e
  obtain ⟨fr, hk⟩ := hk
  rcases h.2 with ⟨hv, _⟩ | ⟨g', cap', cur, hv, hB, hg, _⟩
  · cases hv
  · obtain rfl : g = g' := by injection hv with e1 e2 e3; injection e1 with e1; injection e1
    rw [hg] at hk
    injection hk with hk
    injection hk with e1 e2 e3
    revert e2; decide
theorem KAt.grown {o : Bool} {K H : Value} {w w' : World} {g b : Nat} (h : KAt o K H w b) (hb : w.grownBy w' (some g)) (hg : g ≠ b) : KAt o K H w' b := by
  have hl := h.lt
  obtain ⟨fr, h⟩ := h
  exact ⟨fr, (hb.block b hl (by intro e; injection e with e; exact hg e.symm)).trans h⟩
theorem and_u64 (a b : Nat) (ha : a < 18446744073709551616) (hb : b < 18446744073709551616) : bits .and .u64 (a : Int) (b : Int) = ((a &&& b : Nat) : Int) := by
  have hx : a &&& b < 2 ^ 64 := Nat.and_lt_two_pow a (by omega)
  have h1 : (BitVec.ofInt 64 (a : Int)).toNat = a := by
    rw [BitVec.ofInt_natCast, BitVec.toNat_ofNat]; exact Nat.mod_eq_of_lt (by omega)
  have h2 : (BitVec.ofInt 64 (b : Int)).toNat = b := by
    rw [BitVec.ofInt_natCast, BitVec.toNat_ofNat]; exact Nat.mod_eq_of_lt (by omega)
  show IntKind.u64.wrap ((BitVec.ofInt 64 (a : Int) &&& BitVec.ofInt 64 (b : Int)).toNat : Int) = _
  rw [BitVec.toNat_and, h1, h2]
  simp [IntKind.wrap, IntKind.signed, IntKind.bits]
  omega
theorem not_u64 (a : Nat) (h : a < 18446744073709551616) : bits .xor .u64 IntKind.u64.max (a : Int) = ((18446744073709551615 - a : Nat) : Int) := by
  have h1 := xor_u64 18446744073709551615 a (by omega) h
  have h3 := BitVec.toNat_not (x := BitVec.ofNat 64 a)
  have h4 : (BitVec.ofNat 64 a ^^^ BitVec.allOnes 64) = ~~~ (BitVec.ofNat 64 a) := BitVec.xor_allOnes
  rw [← h4, BitVec.toNat_xor, BitVec.toNat_allOnes, BitVec.toNat_ofNat, Nat.mod_eq_of_lt (by omega), Nat.xor_comm] at h3
  have e : (2 : Nat) ^ 64 - 1 = 18446744073709551615 := by decide
  rw [e] at h3
  rw [← h3, ← h1]
  rfl
theorem word1v_any (K H : Value) (x v : Nat) (hx : x < 18446744073709551616) (hv : wordN true x = v) (w : World) : Calls Tryz.prog 90 #[.agg (kindC true K H), .int .u64 x] w (U64Post v w) := by
  have : v = x := by rw [← hv]; exact Nat.mod_eq_of_lt hx
  subst this
  exact word1_any K H v hx w
theorem getD_lt {l : List Nat} {M : Nat} (h : ∀ x ∈ l, x < M) (hM : 0 < M) (i : Nat) : l.getD i 0 < M := by
  rw [List.getD_eq_getElem?_getD]
  rcases Nat.lt_or_ge i l.length with hi | hi
  · rw [List.getElem?_eq_getElem hi]; exact h _ (List.getElem_mem hi)
  · rw [List.getElem?_eq_none hi]; exact hM
theorem u64C_cell {w : World} {B g n cap : Nat} {T : TypeId} {l : List Nat} (h : w.ownsRow B T 1 (.slice (some ⟨g, 0, none⟩) n cap) n (u64C l)) (i : Nat) (hi : i < l.length) (hn : n = l.length) : w.cell? ⟨g, i, none⟩ = some (.int .u64 (l.getD i 0 : Nat)) := by
  rw [h.cellAt i (by omega)]
  simp [u64C, hi]

structure BlkAt (o : Bool) (KV H : Value) (B gK gs g t cap : Nat) (ks sl tot : List Nat) (w wr : World) : Prop where
  own : wr.ownsRow B 77 1 (.slice (some ⟨g, 0, none⟩) t cap) t (u64C tot)
  k : KAt o KV H wr w.heap.size
  below : Below B w wr
  hB : B ≤ w.heap.size
  rk : RowAt wr gK ks
  rs : RowAt wr gs sl
theorem BlkAt.grow {o : Bool} {KV H : Value} {B gK gs g t cap : Nat} {ks sl tot : List Nat} {w wr wr2 : World} (h : BlkAt o KV H B gK gs g t cap ks sl tot w wr) (hb : Below wr.heap.size wr wr2) : BlkAt o KV H B gK gs g t cap ks sl tot w wr2 :=
  ⟨ownsRow_below h.own hb, h.k.below hb h.k.lt, h.below.trans (hb.mono (Nat.le_trans h.hB h.below.size)), h.hB, h.rk.below hb h.rk.1, h.rs.below hb h.rs.1⟩
theorem BlkAt.drewN {o : Bool} {KV H : Value} {B gK gs g t cap : Nat} {ks sl tot : List Nat} {w wr : World} (h : BlkAt o KV H B gK gs g t cap ks sl tot w wr) (n : Nat) : BlkAt o KV H B gK gs g t cap ks sl tot w (wr.drewN n) := h.grow ⟨rfl, rfl, rfl, Nat.le_refl _, fun _ _ => rfl⟩
structure SumAt (o : Bool) (KV H : Value) (B gs gV : Nat) (sl l : List Nat) (w wr : World) : Prop where
  k : KAt o KV H wr w.heap.size
  below : Below B w wr
  hB : B ≤ w.heap.size
  rs : RowAt wr gs sl
  hgs : gs < B
  hgV : w.heap.size < gV
  row : wr.heap[gV]? = some (.cells (u64C l).toArray 77 (0, 0))
section
variable {o : Bool} {KV H : Value} {B gs gV : Nat} {sl l : List Nat} {w wr wr2 : World}
theorem SumAt.lt (h : SumAt o KV H B gs gV sl l w wr) : gV < wr.heap.size := (Array.getElem?_eq_some_iff.1 h.row).1
theorem SumAt.grow (h : SumAt o KV H B gs gV sl l w wr) (hb : Below wr.heap.size wr wr2) : SumAt o KV H B gs gV sl l w wr2 :=
  ⟨h.k.below hb h.k.lt, h.below.trans (hb.mono (Nat.le_trans h.hB h.below.size)), h.hB, h.rs.below hb h.rs.1, h.hgs, h.hgV, (hb.block _ h.lt).trans h.row⟩
theorem SumAt.drewN (h : SumAt o KV H B gs gV sl l w wr) (n : Nat) : SumAt o KV H B gs gV sl l w (wr.drewN n) := h.grow ⟨rfl, rfl, rfl, Nat.le_refl _, fun _ _ => rfl⟩
theorem SumAt.cell (h : SumAt o KV H B gs gV sl l w wr) (j : Nat) (hj : j < l.length) : wr.cell? ⟨gV, j, none⟩ = some (.int .u64 (l.getD j 0 : Nat)) := by
  rw [cell_of_row wr _ _ _ _ _ h.row]
  simp [u64C, hj]
theorem SumAt.fr (h : SumAt o KV H B gs gV sl l w wr) (j : Nat) : wr.frozen? ⟨gV, j, none⟩ = false := frozen_of_row wr _ j _ _ h.row
theorem SumAt.set (h : SumAt o KV H B gs gV sl l w wr) (j x : Nat) : SumAt o KV H B gs gV sl (l.set j x) w (wr.setCell ⟨gV, j, none⟩ (.int .u64 (x : Nat))) := by
  have hv := h.hgV
  have hb := h.hB
  refine ⟨?_, h.below.setCell (by show B ≤ gV; omega) _, h.hB, h.rs.below ((Below.refl B _).setCell (by show B ≤ gV; omega) _) h.hgs, h.hgs, h.hgV, ?_⟩
  · obtain ⟨fr, hk⟩ := h.k
    exact ⟨fr, (heap_setCell_other wr _ _ _ (by show w.heap.size ≠ gV; omega)).trans hk⟩
  · rw [heap_setCell_same wr _ j _ _ _ h.row]; simp [u64C, List.map_set]
end
theorem and_lt64 (a b : Nat) (ha : a < 18446744073709551616) : a &&& b < 18446744073709551616 := Nat.lt_of_le_of_lt Nat.and_le_left ha
theorem xor_lt64 (a b : Nat) (ha : a < 18446744073709551616) (hb : b < 18446744073709551616) : a ^^^ b < 18446744073709551616 := by
  have h : a ^^^ b < 2 ^ 64 := Nat.xor_lt_two_pow (by omega) (by omega)
  omega
end Go.Proofs.YtgnblaaldpniiaaGreatDoor.Sh
end
