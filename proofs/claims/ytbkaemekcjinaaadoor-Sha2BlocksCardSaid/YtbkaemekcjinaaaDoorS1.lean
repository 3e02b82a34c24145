/- Walks of package sha2: rotations. -/
import Derived.Test.YtbkaemekcjinaaaDoorKitB
import Derived.Test.YtbkaemekcjinaaaDoorSway
import Derived.RegionTactic
namespace Go.Proofs.YtbkaemekcjinaaaDoor
open Go.RowKit Go.Lib
/-- x rotated to the right by n of W bits. -/
def rotI (K : IntKind) (W : Nat) (x : Int) (n : Nat) : Int := bits .or K (x / 2 ^ n) (K.wrap (x * 2 ^ (W - n)))
def tripI (K : IntKind) (W : Nat) (x : Int) (a b c : Nat) : Int := bits .xor K (bits .xor K (rotI K W x a) (rotI K W x b)) (rotI K W x c)
def twicI (K : IntKind) (W : Nat) (x : Int) (a b c : Nat) : Int := bits .xor K (bits .xor K (rotI K W x a) (rotI K W x b)) (x / 2 ^ c)
theorem below_drewN' {B : Nat} {a w : World} (h : Below B a w) (n : Nat) : Below B a (w.drewN n) := ⟨h.os, h.tape, h.output, h.size, h.block⟩

theorem rotated_u32 (x : Int) (n : Nat) (w : World) (hn : n ≤ 32) :
    Calls Tryd.prog 38 #[.int .u32 x, .int .u64 n, .int .i64 32] w fun e w' => e = .returned (.int .u32 (rotI .u32 32 x n)) ∧ w = w' := by
  obtain ⟨m, hm⟩ : ∃ m, 32 - n = m := ⟨_, rfl⟩
  have k0 : IntKind.u64.wrap (32 - (n : Int)) = (m : Int) := by
    simp [IntKind.wrap, IntKind.signed, IntKind.bits]; omega
  have k0' : 32 - (n : Int) = (m : Int) := by omega
  have k2 : (x * 2 ^ min m 64) = x * 2 ^ m := by rw [Nat.min_eq_left (by omega)]
  unfold rotI
  rw [hm]
  replace hm := Lib.hid hm
  go_enter Tryd.func38, Tryd.ntmps38
  go_wp2
  go_ret
  exact ⟨rfl, rfl⟩

theorem turnedTwice_u32 (x : Int) (a b c : Nat) (w : World) (ha : a ≤ 32) (hb : b ≤ 32) (hc : c ≤ 32) :
    Calls Tryd.prog 37 #[.int .u32 x, .agg #[.int .u64 a, .int .u64 b, .int .u64 c], .int .i64 32] w fun e w' => e = .returned (.int .u32 (twicI .u32 32 x a b c)) ∧ Below w.heap.size w w' := by
  go_enter Tryd.func37, Tryd.ntmps37
  go_wp2
  go_quiet ((go_at_call 38; exact Calls.quiet_of_same ((rotated_u32 _ _ _ (by omega)).mono fun _ _ h => ⟨h.1, h.2.symm⟩)))
  go_wp2
  go_ret
  exact ⟨rfl, below_drewN' ((Below.refl _ _).alloc (Nat.le_refl _) _) _⟩

theorem turnedThrice_u32 (x : Int) (a b c : Nat) (w : World) (ha : a ≤ 32) (hb : b ≤ 32) (hc : c ≤ 32) :
    Calls Tryd.prog 34 #[.int .u32 x, .agg #[.int .u64 a, .int .u64 b, .int .u64 c], .int .i64 32] w fun e w' => e = .returned (.int .u32 (tripI .u32 32 x a b c)) ∧ Below w.heap.size w w' := by
  go_enter Tryd.func34, Tryd.ntmps34
  go_wp2
  go_quiet ((go_at_call 38; exact Calls.quiet_of_same ((rotated_u32 _ _ _ (by omega)).mono fun _ _ h => ⟨h.1, h.2.symm⟩)))
  go_wp2
  go_ret
  exact ⟨rfl, below_drewN' ((Below.refl _ _).alloc (Nat.le_refl _) _) _⟩

theorem rotated_u64 (x : Int) (n : Nat) (w : World) (hn : n ≤ 64) :
    Calls Tryd.prog 40 #[.int .u64 x, .int .u64 n, .int .i64 64] w fun e w' => e = .returned (.int .u64 (rotI .u64 64 x n)) ∧ w = w' := by
  obtain ⟨m, hm⟩ : ∃ m, 64 - n = m := ⟨_, rfl⟩
  have k0 : IntKind.u64.wrap (64 - (n : Int)) = (m : Int) := by
    simp [IntKind.wrap, IntKind.signed, IntKind.bits]; omega
  have k0' : 64 - (n : Int) = (m : Int) := by omega
  have k2 : (x * 2 ^ min m 64) = x * 2 ^ m := by rw [Nat.min_eq_left (by omega)]
  unfold rotI
  rw [hm]
  replace hm := Lib.hid hm
  go_enter Tryd.func40, Tryd.ntmps40
  go_wp2
  go_ret
  exact ⟨rfl, rfl⟩

theorem turnedTwice_u64 (x : Int) (a b c : Nat) (w : World) (ha : a ≤ 64) (hb : b ≤ 64) (hc : c ≤ 64) :
    Calls Tryd.prog 39 #[.int .u64 x, .agg #[.int .u64 a, .int .u64 b, .int .u64 c], .int .i64 64] w fun e w' => e = .returned (.int .u64 (twicI .u64 64 x a b c)) ∧ Below w.heap.size w w' := by
  go_enter Tryd.func39, Tryd.ntmps39
  go_wp2
  go_quiet ((go_at_call 40; exact Calls.quiet_of_same ((rotated_u64 _ _ _ (by omega)).mono fun _ _ h => ⟨h.1, h.2.symm⟩)))
  go_wp2
  go_ret
  exact ⟨rfl, below_drewN' ((Below.refl _ _).alloc (Nat.le_refl _) _) _⟩

theorem turnedThrice_u64 (x : Int) (a b c : Nat) (w : World) (ha : a ≤ 64) (hb : b ≤ 64) (hc : c ≤ 64) :
    Calls Tryd.prog 36 #[.int .u64 x, .agg #[.int .u64 a, .int .u64 b, .int .u64 c], .int .i64 64] w fun e w' => e = .returned (.int .u64 (tripI .u64 64 x a b c)) ∧ Below w.heap.size w w' := by
  go_enter Tryd.func36, Tryd.ntmps36
  go_wp2
  go_quiet ((go_at_call 40; exact Calls.quiet_of_same ((rotated_u64 _ _ _ (by omega)).mono fun _ _ h => ⟨h.1, h.2.symm⟩)))
  go_wp2
  go_ret
  exact ⟨rfl, below_drewN' ((Below.refl _ _).alloc (Nat.le_refl _) _) _⟩
end Go.Proofs.YtbkaemekcjinaaaDoor
