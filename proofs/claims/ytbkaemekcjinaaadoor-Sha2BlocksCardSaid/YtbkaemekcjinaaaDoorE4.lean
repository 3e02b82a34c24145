/- The document's sum and the program's: words of bytes: the numbers are the same. No walk. -/
import Derived.Test.YtbkaemekcjinaaaDoorE3
namespace Go.Proofs.YtbkaemekcjinaaaDoor
open Go.RowKit Go.Lib
theorem byteK (o : Bool) (v : Nat) (b : UInt8) (hv : v * 256 < 2 ^ wd o) : byteI (KI o) (v : Int) b = ((v * 256 + b.toNat : Nat) : Int) := by
  unfold byteI
  have hb : b.toNat < 2 ^ 8 := b.toNat_lt
  have hbw : b.toNat < 2 ^ wd o := Nat.lt_of_lt_of_le hb (Nat.pow_le_pow_right (by decide) (by cases o <;> decide))
  have e : (v : Int) * 2 ^ 8 = ((v * 256 : Nat) : Int) := by simp
  rw [e, wrapK, Nat.mod_eq_of_lt hv, orK o _ _ hv hbw]
  congr 1
  have := Nat.shiftLeft_add_eq_or_of_lt hb v
  rw [Nat.shiftLeft_eq] at this
  exact this.symm
/-- A word of bytes: k of them are left. -/
def valF (b : List UInt8) (i : Nat) : Nat → Nat → Nat → Nat
  | 0, _, x => x
  | k + 1, j, x => valF b i k (j + 1) (x * 256 + (b.getD (i + j) 0).toNat)
theorem step_lt (x j : Nat) (b : UInt8) (hx : x < 256 ^ j) : x * 256 + b.toNat < 256 ^ (j + 1) := by
  have := b.toNat_lt
  rw [Nat.pow_succ]
  omega
theorem foldW_val (b : List UInt8) (i : Nat) : ∀ (k j x : Nat), x < 256 ^ j → j + k ≤ 8 → foldW b i k j x = valF b i k j x
  | 0, _, _, _, _ => rfl
  | k + 1, j, x, hx, hj => by
    have h1 := step_lt x j (b.getD (i + j) 0) hx
    have h2 : 256 ^ (j + 1) ≤ 256 ^ 8 := Nat.pow_le_pow_right (by omega) (by omega)
    have h3 : (256 : Nat) ^ 8 = 18446744073709551616 := by decide
    rw [h3] at h2
    have h5 : x * 256 + (b.getD (i + j) 0).toNat < 18446744073709551616 := Nat.lt_of_lt_of_le h1 h2
    have h4 : x * 256 < 18446744073709551616 := Nat.lt_of_le_of_lt (Nat.le_add_right _ _) h5
    rw [foldW, valF, Nat.mod_eq_of_lt h4, Nat.mod_eq_of_lt h5]
    exact foldW_val b i k (j + 1) _ h1 (by omega)
theorem valF_lt (b : List UInt8) (i : Nat) : ∀ (k j x : Nat), x < 256 ^ j → valF b i k j x < 256 ^ (j + k)
  | 0, _, _, h => h
  | k + 1, j, x, h => by
    rw [valF, show j + (k + 1) = (j + 1) + k by omega]
    exact valF_lt b i k (j + 1) _ (step_lt x j _ h)
theorem valF_same (b b' : List UInt8) (i i' : Nat) : ∀ (k j x : Nat), (∀ t, t < j + k → b.getD (i + t) 0 = b'.getD (i' + t) 0) → valF b i k j x = valF b' i' k j x
  | 0, _, _, _ => rfl
  | k + 1, j, x, h => by
    rw [valF, valF, h j (by omega)]
    exact valF_same b b' i i' k (j + 1) _ (fun t ht => h t (by omega))
theorem pow_wd (o : Bool) : 256 ^ (wd o / 8) = 2 ^ wd o := by cases o <;> decide
theorem fillK (o : Bool) (bl : List UInt8) (p i : Nat) : ∀ (k j x : Nat) (l : List Int), i < l.length → l.getD i 0 = ((x : Nat) : Int) → x < 256 ^ j → j + k ≤ wd o / 8 → p + j + k ≤ bl.length →
    fillB (KI o) ((bl.drop (p + j)).take k) i l = l.set i ((valF bl p k j x : Nat) : Int)
  | 0, j, x, l, hi, hx, _, _, _ => by
    rw [List.take_zero, fillB, valF, ← hx, List.getD_eq_getElem?_getD, List.getElem?_eq_getElem hi]
    exact (List.set_getElem_self hi).symm
  | k + 1, j, x, l, hi, hx, hl, hj, hp => by
    have h1 := step_lt x j (bl.getD (p + j) 0) hl
    have h2 : 256 ^ (j + 1) ≤ 256 ^ (wd o / 8) := Nat.pow_le_pow_right (by omega) (by omega)
    rw [pow_wd] at h2
    rw [List.drop_eq_getElem_cons (by omega), List.take_succ_cons, fillB, hx]
    have e : bl[p + j]'(by omega) = bl.getD (p + j) 0 := by
      rw [List.getD_eq_getElem?_getD, List.getElem?_eq_getElem (by omega)]; rfl
    rw [e, byteK o x _ (Nat.lt_of_le_of_lt (Nat.le_add_right _ _) (Nat.lt_of_lt_of_le h1 h2))]
    have := fillK o bl p i k (j + 1) (x * 256 + (bl.getD (p + j) 0).toNat) (l.set i ((x * 256 + (bl.getD (p + j) 0).toNat : Nat) : Int)) (by rw [List.length_set]; exact hi)
      (by rw [getD_set, if_pos ⟨rfl, hi⟩]) h1 (by omega) (by omega)
    rw [List.set_set] at this
    rw [valF]
    exact this
end Go.Proofs.YtbkaemekcjinaaaDoor
