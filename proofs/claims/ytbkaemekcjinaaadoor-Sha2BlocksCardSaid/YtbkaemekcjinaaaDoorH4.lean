/- Walks of the document's answer for package sha2: words. -/
import Derived.Test.YtbkaemekcjinaaaDoorKitB
import Derived.RegionTactic
import Derived.Deep.RegionHeld3
namespace Go.Proofs.YtbkaemekcjinaaaDoor
open Go.RowKit Go.Lib
/-- A kind's value: its bits of a word, its counts, its constants. -/
def kindC (o : Bool) (K H : Value) : Array Value := if o = true then
  #[.int .i64 64, .int .i64 28, .int .i64 34, .int .i64 39, .int .i64 14, .int .i64 18, .int .i64 41, .int .i64 1, .int .i64 8, .int .i64 7, .int .i64 19, .int .i64 61, .int .i64 6, K, H]
  else #[.int .i64 32, .int .i64 2, .int .i64 13, .int .i64 22, .int .i64 6, .int .i64 11, .int .i64 25, .int .i64 7, .int .i64 18, .int .i64 3, .int .i64 17, .int .i64 19, .int .i64 10, K, H]
theorem kindC0 (K H : Value) : kindC false K H = #[.int .i64 32, .int .i64 2, .int .i64 13, .int .i64 22, .int .i64 6, .int .i64 11, .int .i64 25, .int .i64 7, .int .i64 18, .int .i64 3, .int .i64 17, .int .i64 19, .int .i64 10, K, H] := rfl
theorem kindC1 (K H : Value) : kindC true K H = #[.int .i64 64, .int .i64 28, .int .i64 34, .int .i64 39, .int .i64 14, .int .i64 18, .int .i64 41, .int .i64 1, .int .i64 8, .int .i64 7, .int .i64 19, .int .i64 61, .int .i64 6, K, H] := rfl
def wd (o : Bool) : Nat := if o = true then 64 else 32
def wordN (o : Bool) (x : Nat) : Nat := x % 2 ^ wd o
def U64Post (v : Nat) (w : World) (e : Ending) (w' : World) : Prop := e = .returned (.int .u64 (v : Nat)) ∧ Below w.heap.size w w'
/-- A kind's value in a block. -/
def KAt (o : Bool) (K H : Value) (w : World) (g : Nat) : Prop := ∃ fr, w.heap[g]? = some (.cells (kindC o K H) 42 fr)
theorem KAt.cells0 {K H : Value} {w' : World} {B : Nat} (h : KAt false K H w' B) : w'.cell? ⟨B, 0, none⟩ = some (.int .i64 32) ∧ w'.cell? ⟨B, 1, none⟩ = some (.int .i64 2) ∧ w'.cell? ⟨B, 2, none⟩ = some (.int .i64 13) ∧ w'.cell? ⟨B, 3, none⟩ = some (.int .i64 22) ∧ w'.cell? ⟨B, 4, none⟩ = some (.int .i64 6) ∧ w'.cell? ⟨B, 5, none⟩ = some (.int .i64 11) ∧ w'.cell? ⟨B, 6, none⟩ = some (.int .i64 25) ∧ w'.cell? ⟨B, 7, none⟩ = some (.int .i64 7) ∧ w'.cell? ⟨B, 8, none⟩ = some (.int .i64 18) ∧ w'.cell? ⟨B, 9, none⟩ = some (.int .i64 3) ∧ w'.cell? ⟨B, 10, none⟩ = some (.int .i64 17) ∧ w'.cell? ⟨B, 11, none⟩ = some (.int .i64 19) ∧ w'.cell? ⟨B, 12, none⟩ = some (.int .i64 10) ∧ w'.cell? ⟨B, 13, none⟩ = some K ∧ w'.cell? ⟨B, 14, none⟩ = some H := by
  obtain ⟨fr, h⟩ := h
  rw [kindC0] at h
  refine ⟨?_, ?_, ?_, ?_, ?_, ?_, ?_, ?_, ?_, ?_, ?_, ?_, ?_, ?_, ?_⟩ <;> (rw [cell_of_row w' B _ _ _ _ h]; rfl)
theorem KAt.cells1 {K H : Value} {w' : World} {B : Nat} (h : KAt true K H w' B) : w'.cell? ⟨B, 0, none⟩ = some (.int .i64 64) ∧ w'.cell? ⟨B, 1, none⟩ = some (.int .i64 28) ∧ w'.cell? ⟨B, 2, none⟩ = some (.int .i64 34) ∧ w'.cell? ⟨B, 3, none⟩ = some (.int .i64 39) ∧ w'.cell? ⟨B, 4, none⟩ = some (.int .i64 14) ∧ w'.cell? ⟨B, 5, none⟩ = some (.int .i64 18) ∧ w'.cell? ⟨B, 6, none⟩ = some (.int .i64 41) ∧ w'.cell? ⟨B, 7, none⟩ = some (.int .i64 1) ∧ w'.cell? ⟨B, 8, none⟩ = some (.int .i64 8) ∧ w'.cell? ⟨B, 9, none⟩ = some (.int .i64 7) ∧ w'.cell? ⟨B, 10, none⟩ = some (.int .i64 19) ∧ w'.cell? ⟨B, 11, none⟩ = some (.int .i64 61) ∧ w'.cell? ⟨B, 12, none⟩ = some (.int .i64 6) ∧ w'.cell? ⟨B, 13, none⟩ = some K ∧ w'.cell? ⟨B, 14, none⟩ = some H := by
  obtain ⟨fr, h⟩ := h
  rw [kindC1] at h
  refine ⟨?_, ?_, ?_, ?_, ?_, ?_, ?_, ?_, ?_, ?_, ?_, ?_, ?_, ?_, ?_⟩ <;> (rw [cell_of_row w' B _ _ _ _ h]; rfl)
theorem KAt.lt {o : Bool} {K H : Value} {w : World} {g : Nat} (h : KAt o K H w g) : g < w.heap.size := by
  obtain ⟨fr, h⟩ := h
  exact (Array.getElem?_eq_some_iff.1 h).1
theorem KAt.new (o : Bool) (K H : Value) (w : World) : KAt o K H (w.alloc (.cells (kindC o K H) 42)).drew w.heap.size := ⟨_, heap_alloc_new w _⟩
theorem KAt.below {o : Bool} {K H : Value} {w w' : World} {g B : Nat} (h : KAt o K H w g) (hb : Below B w w') (hg : g < B) : KAt o K H w' g := by
  obtain ⟨fr, h⟩ := h
  exact ⟨fr, (hb.block g hg).trans h⟩
theorem word0_any (K H : Value) (x v : Nat) (hx : x < 18446744073709551616) (hv : wordN false x = v) (w : World) : Calls Tryd.prog 23 #[.agg (kindC false K H), .int .u64 x] w (U64Post v w) := by
  rw [kindC0]
  have hv2 : x % 4294967296 = v := by rw [← hv]; rfl
  have hw : IntKind.u64.wrap ((x : Int) * 4294967296) / 4294967296 = (v : Int) := by
    simp [IntKind.wrap, IntKind.signed, IntKind.bits]; omega
  replace hv := Lib.hid hv
  clear hv2
  go_enter Tryd.func23, Tryd.ntmps23
  go_wp2
  go_region
  all_goals
    go_wp2
    go_ret
    exact ⟨rfl, ((Below.refl _ _).alloc (Nat.le_refl _) _).drew⟩
theorem word1_any (K H : Value) (x : Nat) (hx : x < 18446744073709551616) (w : World) : Calls Tryd.prog 23 #[.agg (kindC true K H), .int .u64 x] w (U64Post x w) := by
  rw [kindC1]
  go_enter Tryd.func23, Tryd.ntmps23
  go_wp2
  go_region
  all_goals
    go_wp2
    go_ret
    exact ⟨rfl, ((Below.refl _ _).alloc (Nat.le_refl _) _).drew⟩
def rotN (o : Bool) (x n : Nat) : Nat := wordN o (x / 2 ^ n ||| x * 2 ^ (wd o - n) % 18446744073709551616)
theorem or_u64 (a b : Nat) (ha : a < 18446744073709551616) (hb : b < 18446744073709551616) : bits .or .u64 (a : Int) (b : Int) = ((a ||| b : Nat) : Int) := by
  have hx : a ||| b < 2 ^ 64 := Nat.or_lt_two_pow (by omega) (by omega)
  have h1 : (BitVec.ofInt 64 (a : Int)).toNat = a := by
    rw [BitVec.ofInt_natCast, BitVec.toNat_ofNat]; exact Nat.mod_eq_of_lt (by omega)
  have h2 : (BitVec.ofInt 64 (b : Int)).toNat = b := by
    rw [BitVec.ofInt_natCast, BitVec.toNat_ofNat]; exact Nat.mod_eq_of_lt (by omega)
  show IntKind.u64.wrap ((BitVec.ofInt 64 (a : Int) ||| BitVec.ofInt 64 (b : Int)).toNat : Int) = _
  rw [BitVec.toNat_or, h1, h2]
  simp [IntKind.wrap, IntKind.signed, IntKind.bits]
  omega
set_option maxRecDepth 100000 in
set_option maxHeartbeats 6400000 in
theorem rot0_any (K H : Value) (x n v : Nat) (hx : x < 18446744073709551616) (hn : n < 32) (hv : rotN false x n = v) (w : World) : Calls Tryd.prog 32 #[.agg (kindC false K H), .int .u64 x, .int .i64 n] w (U64Post v w) := by
  have hK := KAt.new false K H w
  have hS := hK.cells0
  rw [kindC0] at hS
  obtain ⟨m, hm⟩ : ∃ m, 32 - n = m := ⟨_, rfl⟩
  obtain ⟨p, hp⟩ : ∃ p, x / 2 ^ n = p := ⟨_, rfl⟩
  obtain ⟨s, hs⟩ : ∃ s, x * 2 ^ m % 18446744073709551616 = s := ⟨_, rfl⟩
  obtain ⟨y, hy⟩ : ∃ y, p ||| s = y := ⟨_, rfl⟩
  have hpl : p < 18446744073709551616 := by rw [← hp]; exact Nat.lt_of_le_of_lt (Nat.div_le_self _ _) hx
  have hsl : s < 18446744073709551616 := by rw [← hs]; exact Nat.mod_lt _ (by omega)
  have hyl : y < 18446744073709551616 := by rw [← hy]; exact Nat.or_lt_two_pow (n := 64) hpl hsl
  have k0 : IntKind.i64.wrap (32 - (n : Int)) = (m : Int) := by
    simp [IntKind.wrap, IntKind.signed, IntKind.bits]; omega
  have k1 : (x : Int) / 2 ^ n = (p : Int) := by rw [← hp]; simp
  have k2 : IntKind.u64.wrap ((x : Int) * 2 ^ min m 64) = (s : Int) := by
    rw [Nat.min_eq_left (by omega), ← hs]; simp [IntKind.wrap, IntKind.signed, IntKind.bits]
  have k3 : bits .or .u64 (p : Int) (s : Int) = (y : Int) := by rw [or_u64 p s hpl hsl, hy]
  have hv2 : wordN false y = v := by rw [← hv]; unfold rotN; rw [hp, show wd false - n = m from hm, hs, hy]
  replace hv := Lib.hid hv2
  have cw := fun w => word0_any K H y v hyl hv.out w
  rw [kindC0] at cw
  replace cw := Lib.hid cw
  replace hK := Lib.hid hK
  replace hm := Lib.hid hm
  replace hp := Lib.hid hp
  replace hs := Lib.hid hs
  replace hy := Lib.hid hy
  clear hv2
  rw [kindC0]
  go_enter Tryd.func32, Tryd.ntmps32
  go_wp2_with fail
  go_region_held3 (fun w' => w'.cell? ⟨w.heap.size, 0, none⟩ = some (.int .i64 32) ∧ w'.cell? ⟨w.heap.size, 1, none⟩ = some (.int .i64 2) ∧ w'.cell? ⟨w.heap.size, 2, none⟩ = some (.int .i64 13) ∧ w'.cell? ⟨w.heap.size, 3, none⟩ = some (.int .i64 22) ∧ w'.cell? ⟨w.heap.size, 4, none⟩ = some (.int .i64 6) ∧ w'.cell? ⟨w.heap.size, 5, none⟩ = some (.int .i64 11) ∧ w'.cell? ⟨w.heap.size, 6, none⟩ = some (.int .i64 25) ∧ w'.cell? ⟨w.heap.size, 7, none⟩ = some (.int .i64 7) ∧ w'.cell? ⟨w.heap.size, 8, none⟩ = some (.int .i64 18) ∧ w'.cell? ⟨w.heap.size, 9, none⟩ = some (.int .i64 3) ∧ w'.cell? ⟨w.heap.size, 10, none⟩ = some (.int .i64 17) ∧ w'.cell? ⟨w.heap.size, 11, none⟩ = some (.int .i64 19) ∧ w'.cell? ⟨w.heap.size, 12, none⟩ = some (.int .i64 10) ∧ w'.cell? ⟨w.heap.size, 13, none⟩ = some K ∧ w'.cell? ⟨w.heap.size, 14, none⟩ = some H) (first | exact hS | exact (hK.out.below hb hK.out.lt).cells0)
    (first
      | (go_at_call_of 23 (Value.int .u64 (y : Nat)); refine (cw.out _).mono ?_; rintro e w' ⟨rfl, hb⟩))
  all_goals
    go_wp2
    go_ret
    exact ⟨rfl, ((Below.refl _ _).alloc (Nat.le_refl _) _).drew.trans (hb.mono (by rw [World.size_drew, World.size_alloc]; omega))⟩
set_option maxRecDepth 100000 in
set_option maxHeartbeats 6400000 in
theorem rot1_any (K H : Value) (x n v : Nat) (hx : x < 18446744073709551616) (hn : n < 64) (hv : rotN true x n = v) (w : World) : Calls Tryd.prog 32 #[.agg (kindC true K H), .int .u64 x, .int .i64 n] w (U64Post v w) := by
  have hK := KAt.new true K H w
  have hS := hK.cells1
  rw [kindC1] at hS
  obtain ⟨m, hm⟩ : ∃ m, 64 - n = m := ⟨_, rfl⟩
  obtain ⟨p, hp⟩ : ∃ p, x / 2 ^ n = p := ⟨_, rfl⟩
  obtain ⟨s, hs⟩ : ∃ s, x * 2 ^ m % 18446744073709551616 = s := ⟨_, rfl⟩
  obtain ⟨y, hy⟩ : ∃ y, p ||| s = y := ⟨_, rfl⟩
  have hpl : p < 18446744073709551616 := by rw [← hp]; exact Nat.lt_of_le_of_lt (Nat.div_le_self _ _) hx
  have hsl : s < 18446744073709551616 := by rw [← hs]; exact Nat.mod_lt _ (by omega)
  have hyl : y < 18446744073709551616 := by rw [← hy]; exact Nat.or_lt_two_pow (n := 64) hpl hsl
  have k0 : IntKind.i64.wrap (64 - (n : Int)) = (m : Int) := by
    simp [IntKind.wrap, IntKind.signed, IntKind.bits]; omega
  have k1 : (x : Int) / 2 ^ n = (p : Int) := by rw [← hp]; simp
  have k2 : IntKind.u64.wrap ((x : Int) * 2 ^ min m 64) = (s : Int) := by
    rw [Nat.min_eq_left (by omega), ← hs]; simp [IntKind.wrap, IntKind.signed, IntKind.bits]
  have k3 : bits .or .u64 (p : Int) (s : Int) = (y : Int) := by rw [or_u64 p s hpl hsl, hy]
  have hv2 : wordN true y = v := by rw [← hv]; unfold rotN; rw [hp, show wd true - n = m from hm, hs, hy]
  have hyv : y = v := by rw [← hv2]; exact (Nat.mod_eq_of_lt hyl).symm
  replace hyv := Lib.hid hyv
  replace hv := Lib.hid hv2
  have cw := fun w => word1_any K H y hyl w
  rw [kindC1] at cw
  replace cw := Lib.hid cw
  replace hK := Lib.hid hK
  replace hm := Lib.hid hm
  replace hp := Lib.hid hp
  replace hs := Lib.hid hs
  replace hy := Lib.hid hy
  clear hv2
  rw [kindC1]
  go_enter Tryd.func32, Tryd.ntmps32
  go_wp2_with fail
  go_region_held3 (fun w' => w'.cell? ⟨w.heap.size, 0, none⟩ = some (.int .i64 64) ∧ w'.cell? ⟨w.heap.size, 1, none⟩ = some (.int .i64 28) ∧ w'.cell? ⟨w.heap.size, 2, none⟩ = some (.int .i64 34) ∧ w'.cell? ⟨w.heap.size, 3, none⟩ = some (.int .i64 39) ∧ w'.cell? ⟨w.heap.size, 4, none⟩ = some (.int .i64 14) ∧ w'.cell? ⟨w.heap.size, 5, none⟩ = some (.int .i64 18) ∧ w'.cell? ⟨w.heap.size, 6, none⟩ = some (.int .i64 41) ∧ w'.cell? ⟨w.heap.size, 7, none⟩ = some (.int .i64 1) ∧ w'.cell? ⟨w.heap.size, 8, none⟩ = some (.int .i64 8) ∧ w'.cell? ⟨w.heap.size, 9, none⟩ = some (.int .i64 7) ∧ w'.cell? ⟨w.heap.size, 10, none⟩ = some (.int .i64 19) ∧ w'.cell? ⟨w.heap.size, 11, none⟩ = some (.int .i64 61) ∧ w'.cell? ⟨w.heap.size, 12, none⟩ = some (.int .i64 6) ∧ w'.cell? ⟨w.heap.size, 13, none⟩ = some K ∧ w'.cell? ⟨w.heap.size, 14, none⟩ = some H) (first | exact hS | exact (hK.out.below hb hK.out.lt).cells1)
    (first
      | (go_at_call_of 23 (Value.int .u64 (y : Nat)); refine (cw.out _).mono ?_; rintro e w' ⟨rfl, hb⟩))
  all_goals
    go_wp2
    go_ret
    exact ⟨by rw [hyv.out]; rfl, ((Below.refl _ _).alloc (Nat.le_refl _) _).drew.trans (hb.mono (by rw [World.size_drew, World.size_alloc]; omega))⟩
end Go.Proofs.YtbkaemekcjinaaaDoor
