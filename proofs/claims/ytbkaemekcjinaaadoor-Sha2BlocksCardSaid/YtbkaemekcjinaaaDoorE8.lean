/- The document's sum and the program's: the padding is the same. No walk. -/
import Derived.Test.YtbkaemekcjinaaaDoorE7
namespace Go.Proofs.YtbkaemekcjinaaaDoor
open Go.RowKit Go.Lib
def revB (bits : Nat) : Nat → Nat → List UInt8
  | 0, _ => []
  | k + 1, i => revB bits k (i + 1) ++ [UInt8.ofNat (bits / 2 ^ (8 * i))]
theorem padRK (bits m : Nat) : ∀ (k i : Nat) (pre suf : List UInt8), pre.length + k + i = m → padR bits m k i (pre ++ List.replicate k 0 ++ suf) = pre ++ revB bits k i ++ suf
  | 0, i, pre, suf, _ => by rw [padR, revB, List.replicate_zero]
  | k + 1, i, pre, suf, h => by
    have e : (pre ++ List.replicate (k + 1) 0 ++ suf).set (m - 1 - i) (UInt8.ofNat (bits / 2 ^ (8 * i))) = pre ++ List.replicate k 0 ++ (UInt8.ofNat (bits / 2 ^ (8 * i)) :: suf) := by
      rw [List.replicate_succ', ← List.append_assoc, List.append_assoc (pre ++ List.replicate k 0), List.set_append_right _ _ (by simp; omega)]
      rw [show m - 1 - i - (pre ++ List.replicate k (0 : UInt8)).length = 0 by (simp; omega)]
      rfl
    rw [padR, e, padRK bits m k (i + 1) pre _ (by omega), revB]
    simp
theorem pad_same (o : Bool) (s : List UInt8) (hs : s.length ≤ 2000) : s ++ padL o s.length = dPadL o s := by
  unfold dPadL padL
  rw [Nat.mod_eq_of_lt (a := s.length * 8) (by omega), List.append_assoc, List.append_assoc]
  congr 1
  have hz : (room o - (s.length + 1 + wdI o / 4) % room o) % room o = dPadZ o s.length := by unfold dPadZ; cases o <;> rfl
  rw [hz]
  generalize s.length * 8 = bits
  generalize dPadZ o s.length = Z
  cases o
  · show padR bits (1 + Z + 8) 8 0 ((List.replicate (1 + Z + 8) 0).set 0 128) = [128] ++ (List.replicate Z 0 ++ lenR bits 8)
    have e : (List.replicate (1 + Z + 8) (0 : UInt8)).set 0 128 = ([128] ++ List.replicate Z 0) ++ List.replicate 8 0 ++ [] := by
      rw [show 1 + Z + 8 = (Z + 8) + 1 by omega, List.replicate_succ, List.set_cons_zero, ← List.replicate_append_replicate]
      simp
    rw [e, padRK bits _ 8 0 _ _ (by simp; omega)]
    simp [revB, lenR]
  · show padR bits (1 + Z + 16) 8 0 ((List.replicate (1 + Z + 16) 0).set 0 128) = [128] ++ (List.replicate Z 0 ++ lenR bits 16)
    have e : (List.replicate (1 + Z + 16) (0 : UInt8)).set 0 128 = ([128] ++ List.replicate Z 0 ++ List.replicate 8 0) ++ List.replicate 8 0 ++ [] := by
      rw [show 1 + Z + 16 = (Z + 16) + 1 by omega, List.replicate_succ, List.set_cons_zero, ← List.replicate_append_replicate, show List.replicate 16 (0 : UInt8) = List.replicate 8 0 ++ List.replicate 8 0 from rfl]
      simp only [List.append_nil, List.cons_append, List.append_assoc, List.nil_append]
    rw [e, padRK bits _ 8 0 _ _ (by simp; omega)]
    simp [revB, lenR]
end Go.Proofs.YtbkaemekcjinaaaDoor
