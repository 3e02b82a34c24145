/- The document's answer for package scalar: the order, and differences of 33 digits. -/
import Derived.Test.YthlkpdfdbdfbjaaOM
set_option linter.unusedSimpArgs false
set_option linter.unusedVariables false
namespace Go.Proofs.Ythlkpdfdbdfbjaa
open Go.RowKit
/-- The order's digits, and the order. -/
def lL : List Nat := [237, 211, 245, 92, 26, 99, 18, 88, 214, 156, 247, 162, 222, 249, 222, 20, 0, 0, 0, 0, 0, 0, 0, 0, 0, 0, 0, 0, 0, 0, 0, 16]
def oN : Nat := 7237005577332262213973186563042994240857116359379907606001950938285454250989
theorem lL_val : valB 256 lL = oN := by decide +kernel
theorem lL_len : lL.length = 32 := rfl
theorem lL_lt : ∀ x ∈ lL, x < 256 := by decide +kernel
def SlPost (l : List Nat) (w : World) (e : Ending) (w' : World) : Prop := ∃ g, e = .returned (.slice (some ⟨g, 0, none⟩) l.length l.length) ∧ Below w.heap.size w w' ∧ w.heap.size ≤ g ∧ AtS w' g l
theorem L_any (wS : World) : Calls Try.prog 30 #[] wS (SlPost lL wS) := by
  have H := SM.start wS
  go_enter Try.func30, Try.ntmps30
  go_wp2_with (refine s_flat rfl _ _ rfl lL rfl (by decide) (by decide) (by kernel_rfl) (by assumption) ?_; intro g w H; try simp only [Act.put, List.setIfInBounds_toArray, List.set_cons_succ, List.set_cons_zero])
  go_ret
  exact ⟨g, rfl, H.below, H.ours g lL (.head _), H.holds g lL (.head _)⟩
/-- A difference digit by digit: what is left behind a carry of u, and the last carry. -/
def dfL : List Nat → List Nat → Nat → List Nat
  | x :: xs, y :: ys, u => (if x < u + y then x + 256 - u - y else x - u - y) :: dfL xs ys (if x < u + y then 1 else 0)
  | _, _, _ => []
def dfU : List Nat → List Nat → Nat → Nat
  | x :: xs, y :: ys, u => dfU xs ys (if x < u + y then 1 else 0)
  | _, _, u => u
theorem dfL_nil (ys : List Nat) (u : Nat) : dfL [] ys u = [] := by cases ys <;> rfl
theorem dfU_nil (ys : List Nat) (u : Nat) : dfU [] ys u = u := by cases ys <;> rfl
theorem dfL_len : ∀ (xs ys : List Nat) (u : Nat), xs.length = ys.length → (dfL xs ys u).length = xs.length
  | [], _, _, _ => by rw [dfL_nil]
  | x :: xs, [], _, h => by simp at h
  | x :: xs, y :: ys, u, h => by rw [dfL, List.length_cons, List.length_cons, dfL_len xs ys _ (by simpa using h)]
theorem dfL_lt : ∀ (xs ys : List Nat) (u : Nat), (∀ x ∈ xs, x < 256) → ∀ z ∈ dfL xs ys u, z < 256
  | [], _, _, _, z, h => by rw [dfL_nil] at h; simp at h
  | x :: xs, [], _, _, z, h => by simp [dfL] at h
  | x :: xs, y :: ys, u, hx, z, h => by
    rw [dfL, List.mem_cons] at h
    have := hx x (by simp)
    rcases h with rfl | h
    · split <;> omega
    · exact dfL_lt xs ys _ (fun q hq => hx q (by simp [hq])) z h
theorem dfU_le : ∀ (xs ys : List Nat) (u : Nat), u ≤ 1 → dfU xs ys u ≤ 1
  | [], _, _, h => by rw [dfU_nil]; exact h
  | x :: xs, [], _, h => h
  | x :: xs, y :: ys, u, h => by
    rw [dfU]
    exact dfU_le xs ys _ (by split <;> omega)
theorem df_val : ∀ (xs ys : List Nat) (u : Nat), xs.length = ys.length → (∀ x ∈ xs, x < 256) → (∀ x ∈ ys, x < 256) → u ≤ 1 →
    valB 256 (dfL xs ys u) + valB 256 ys + u = valB 256 xs + 256 ^ xs.length * dfU xs ys u
  | [], [], u, _, _, _, _ => by simp [valB, dfL, dfU]
  | [], y :: ys, _, h, _, _, _ => by simp at h
  | x :: xs, [], _, h, _, _, _ => by simp at h
  | x :: xs, y :: ys, u, h, hx, hy, hu => by
    have h1 := hx x (by simp)
    have h2 := hy y (by simp)
    have ih := df_val xs ys (if x < u + y then 1 else 0) (by simpa using h) (fun z hz => hx z (by simp [hz])) (fun z hz => hy z (by simp [hz])) (by split <;> omega)
    rw [dfL, dfU, List.length_cons, Nat.pow_succ, Nat.mul_comm (256 ^ xs.length) 256, Nat.mul_assoc]
    simp only [valB]
    generalize 256 ^ xs.length * dfU xs ys (if x < u + y then 1 else 0) = p at ih ⊢
    by_cases hb : x < u + y
    · rw [if_pos hb] at ih ⊢
      rw [if_pos hb]
      omega
    · rw [if_neg hb] at ih ⊢
      rw [if_neg hb]
      omega
end Go.Proofs.Ythlkpdfdbdfbjaa
