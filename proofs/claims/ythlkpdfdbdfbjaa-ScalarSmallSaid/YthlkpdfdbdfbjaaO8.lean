/- The document's answer for package scalar: Mul, walked. -/
import Derived.Test.YthlkpdfdbdfbjaaO7
set_option linter.unusedSimpArgs false
set_option linter.unusedVariables false
namespace Go.Proofs.Ythlkpdfdbdfbjaa
open Go.RowKit
/-- A number's digits and p times another one's, with what is carried behind them. -/
def muL (p : Nat) : List Nat → List Nat → Nat → List Nat
  | x :: xs, y :: ys, c => (x + p * y + c) % 256 :: muL p xs ys ((x + p * y + c) / 256)
  | _, _, c => [c]
theorem muL_nil (p : Nat) (ys : List Nat) (c : Nat) : muL p [] ys c = [c] := by cases ys <;> rfl
theorem muL_len (p : Nat) : ∀ (xs ys : List Nat) (c : Nat), xs.length = ys.length → (muL p xs ys c).length = xs.length + 1
  | [], _, _, _ => by rw [muL_nil]; rfl
  | x :: xs, [], _, h => by simp at h
  | x :: xs, y :: ys, c, h => by rw [muL, List.length_cons, List.length_cons, muL_len p xs ys _ (by simpa using h)]
theorem carry_lt {x p y c : Nat} (hx : x < 256) (hp : p < 256) (hy : y < 256) (hc : c < 256) : (x + p * y + c) / 256 < 256 ∧ p * y ≤ 65025 := by
  have h : p * y ≤ 255 * 255 := Nat.mul_le_mul (by omega) (by omega)
  omega
theorem muL_lt (p : Nat) (hp : p < 256) : ∀ (xs ys : List Nat) (c : Nat), (∀ x ∈ xs, x < 256) → (∀ x ∈ ys, x < 256) → c < 256 → ∀ z ∈ muL p xs ys c, z < 256
  | [], _, c, _, _, hc, z, h => by rw [muL_nil] at h; simp at h; omega
  | x :: xs, [], c, _, _, hc, z, h => by simp [muL] at h; omega
  | x :: xs, y :: ys, c, hx, hy, hc, z, h => by
    rw [muL, List.mem_cons] at h
    rcases h with rfl | h
    · exact Nat.mod_lt _ (by decide)
    · exact muL_lt p hp xs ys _ (fun q hq => hx q (by simp [hq])) (fun q hq => hy q (by simp [hq])) (carry_lt (hx x (by simp)) hp (hy y (by simp)) hc).1 z h
theorem mu_val (p : Nat) : ∀ (xs ys : List Nat) (c : Nat), xs.length = ys.length → valB 256 (muL p xs ys c) = valB 256 xs + p * valB 256 ys + c
  | [], [], c, _ => by simp [valB, muL]
  | [], y :: ys, _, h => by simp at h
  | x :: xs, [], _, h => by simp at h
  | x :: xs, y :: ys, c, h => by
    have ih := mu_val p xs ys ((x + p * y + c) / 256) (by simpa using h)
    rw [muL]
    simp only [valB]
    have e : p * (y + 256 * valB 256 ys) = p * y + 256 * (p * valB 256 ys) := by rw [Nat.mul_add, Nat.mul_left_comm]
    rw [ih, e]
    generalize p * y = q
    generalize p * valB 256 ys = r
    omega
theorem val_app : ∀ (d r : List Nat), valB 256 (d ++ r) = valB 256 d + 256 ^ d.length * valB 256 r
  | [], r => by simp [valB]
  | x :: d, r => by
    rw [List.cons_append, valB, valB, val_app d r, List.length_cons, Nat.pow_succ, Nat.mul_comm (256 ^ d.length) 256, Nat.mul_assoc]
    omega
theorem val_zero : ∀ n, valB 256 (List.replicate n 0) = 0
  | 0 => rfl
  | n + 1 => by rw [List.replicate_succ, valB, val_zero n]
/-- What stands behind i rounds: i digits that are done, 32 that go on. -/
structure Rnd (a b : List Nat) (i : Nat) (d e : List Nat) : Prop where
  dlen : d.length = i
  elen : e.length = 32
  dlt : ∀ x ∈ d, x < 256
  elt : ∀ x ∈ e, x < 256
  val : valB 256 d + 256 ^ i * valB 256 e = valB 256 (a.take i) * valB 256 b
theorem Rnd.step {a b d e : List Nat} {i : Nat} (h : Rnd a b i d e) (hi : i < a.length) (hb : b.length = 32) (haW : ∀ x ∈ a, x < 256) (hbW : ∀ x ∈ b, x < 256) :
    ∃ x f, muL (a.getD i 0) e b 0 = x :: f ∧ Rnd a b (i + 1) (d ++ [x]) f := by
  have hl := muL_len (a.getD i 0) e b 0 (by rw [h.elen, hb])
  have hlt := muL_lt (a.getD i 0) (getD_ltN haW i hi) e b 0 h.elt hbW (by omega)
  have hv := mu_val (a.getD i 0) e b 0 (by rw [h.elen, hb])
  cases hm : muL (a.getD i 0) e b 0 with
  | nil => rw [hm, h.elen] at hl; simp at hl
  | cons x f =>
    rw [hm] at hl hlt hv
    refine ⟨x, f, rfl, by rw [List.length_append, h.dlen]; rfl, by rw [List.length_cons, h.elen] at hl; omega, ?_, fun y hy => hlt y (by simp [hy]), ?_⟩
    · intro y hy
      rcases List.mem_append.1 hy with hy | hy
      · exact h.dlt y hy
      · simp at hy; subst hy; exact hlt _ (by simp)
    · have h1 : valB 256 (d ++ [x]) + 256 ^ (i + 1) * valB 256 f = valB 256 d + 256 ^ i * valB 256 (x :: f) := by
        rw [val_app, h.dlen]
        simp only [valB]
        rw [Nat.pow_succ, Nat.mul_zero, Nat.add_zero, Nat.mul_add, Nat.mul_assoc, Nat.add_assoc]
      have h2 : a.take (i + 1) = a.take i ++ [a.getD i 0] := by
        rw [List.take_add_one]; simp [hi]
      have h3 : valB 256 (a.take (i + 1)) = valB 256 (a.take i) + 256 ^ i * a.getD i 0 := by
        rw [h2, val_app, List.length_take, Nat.min_eq_left (by omega)]
        simp [valB]
      rw [h1, hv, h3, Nat.add_zero, Nat.add_mul, ← h.val, Nat.mul_add, Nat.mul_assoc]
      omega
end Go.Proofs.Ythlkpdfdbdfbjaa
