/- Package field: what its powers are, modulo p; what follows of p's being a prime. No walk. -/
import Derived.Test.YtbkaemekcjinaaaF12
set_option linter.unusedVariables false
namespace Go.Proofs.Ytbkaemekcjinaaa
open Go.RowKit
theorem p_pos : 0 < pF := by decide +kernel
theorem sqN_big (n : Nat) (h : n < big) : ∀ m, sqN n m < big
  | 0 => h
  | m + 1 => prodN_lt _ _
def powF (x e : Nat) : Nat := x ^ e % pF
theorem powF_lt (x e : Nat) : powF x e < pF := Nat.mod_lt _ p_pos
theorem mulm (x y n e f : Nat) (hx : x % pF = n ^ e % pF) (hy : y % pF = n ^ f % pF) : x * y % pF = n ^ (e + f) % pF := by
  rw [Nat.mul_mod, hx, hy, ← Nat.mul_mod, ← Nat.pow_add]
theorem prod_pow (x y n e f g : Nat) (hxb : x < big) (hyb : y < big) (hx : x % pF = n ^ e % pF) (hy : y % pF = n ^ f % pF) (hg : e + f = g) : prodN x y % pF = n ^ g % pF := by
  rw [prodN_mod x y hxb hyb, mulm x y n e f hx hy, hg]
theorem sqN_pow (x n e : Nat) (hxb : x < big) (hx : x % pF = n ^ e % pF) : ∀ m, sqN x m % pF = n ^ (e * 2 ^ m) % pF
  | 0 => by rw [Nat.pow_zero, Nat.mul_one]; exact hx
  | m + 1 => prod_pow _ _ n _ _ _ (sqN_big x hxb m) (sqN_big x hxb m) (sqN_pow x n e hxb hx m) (sqN_pow x n e hxb hx m) (by rw [Nat.pow_succ, ← Nat.mul_assoc, Nat.mul_two])
theorem onesN_big (n : Nat) (h : n < big) (c : Nat) : onesN n c < big := by
  rw [onesN]
  split
  · exact h
  · cases c % 2 == 1
    · exact prodN_lt _ _
    · exact prodN_lt _ _
theorem one_lt_pow2 (k : Nat) : 1 ≤ 2 ^ k := Nat.pow_pos (by decide)
theorem onesN_pow (n : Nat) (h : n < big) : ∀ c, 1 ≤ c → onesN n c % pF = n ^ (2 ^ c - 1) % pF := by
  intro c
  induction c using Nat.strongRecOn with
  | _ c ih =>
    intro h1
    rw [onesN]
    by_cases hc : c ≤ 1
    · rw [dif_pos hc]
      obtain rfl : c = 1 := by omega
      rw [show 2 ^ 1 - 1 = 1 from rfl, Nat.pow_one]
    · rw [dif_neg hc]
      obtain ⟨k, hk⟩ : ∃ k, c / 2 = k := ⟨_, rfl⟩
      rw [hk]
      have ihk := ih k (by omega) (by omega)
      have hob := onesN_big n h k
      have hs := sqN_pow (onesN n k) n (2 ^ k - 1) hob ihk k
      have hp := prod_pow _ _ n _ _ ((2 ^ k - 1) * 2 ^ k + (2 ^ k - 1)) (sqN_big _ hob k) hob hs ihk rfl
      have e1 : (2 ^ k - 1) * 2 ^ k + (2 ^ k - 1) = 2 ^ (2 * k) - 1 := by
        have hq := one_lt_pow2 k
        rw [Nat.two_mul, Nat.pow_add, Nat.sub_mul, Nat.one_mul]
        have : 2 ^ k ≤ 2 ^ k * 2 ^ k := Nat.le_mul_of_pos_left _ hq
        omega
      rw [e1] at hp
      by_cases ho : c % 2 = 1
      · rw [show (c % 2 == 1) = true by simp [ho]]
        show prodN (sqN (prodN (sqN (onesN n k) k) (onesN n k)) 1) n % pF = _
        have hs2 := sqN_pow _ n _ (prodN_lt _ _) hp 1
        refine prod_pow _ _ n _ 1 _ (prodN_lt _ _) h hs2 (by rw [Nat.pow_one]) ?_
        have hq := one_lt_pow2 (2 * k)
        rw [show c = 2 * k + 1 by omega, Nat.pow_succ 2 (2 * k)]
        omega
      · rw [show (c % 2 == 1) = false by simp [ho]]
        show prodN (sqN (onesN n k) k) (onesN n k) % pF = _
        rw [hp, show 2 * k = c by omega]
theorem self_pow (n : Nat) : n % pF = n ^ 1 % pF := by rw [Nat.pow_one]
theorem invN_pow (n : Nat) (h : n < big) : invN n % pF = n ^ (pF - 2) % pF := by
  unfold invN
  have h2 := sqN_pow n n 1 h (self_pow n) 2
  have h5 := prod_pow _ _ n _ 1 5 (prodN_lt _ _) h h2 (self_pow n) (by decide)
  have h10 := sqN_pow _ n _ (prodN_lt _ _) h5 1
  have h11 := prod_pow _ _ n _ 1 11 (prodN_lt _ _) h h10 (self_pow n) (by decide)
  have h250 := onesN_pow n h 250 (by decide)
  have hs := sqN_pow _ n _ (onesN_big n h 250) h250 5
  exact prod_pow _ _ n _ 11 _ (prodN_lt _ _) (prodN_lt _ _) hs h11 (by decide +kernel)
/-- (p + 3) / 8. -/
def eF : Nat := 2 * (2 ^ 251 - 1)
theorem r0N_pow (n : Nat) (h : n < big) : r0N n % pF = powF n eF := by
  unfold r0N powF
  have h1 := sqN_pow _ n _ (onesN_big n h 251) (onesN_pow n h 251 (by decide)) 1
  rw [h1, show (2 ^ 251 - 1) * 2 ^ 1 = eF by decide +kernel]
/-- A root's candidate: the power, or that times a root of p - 1. -/
def cand (n : Nat) : Nat := if powF n eF * powF n eF % pF = n then powF n eF else powF n eF * iF % pF
theorem i_big : iF < big := by decide +kernel
theorem sq1_mod (x : Nat) (h : x < big) : sqN x 1 % pF = x % pF * (x % pF) % pF := by
  show prodN x x % pF = _
  rw [prodN_mod x x h h, Nat.mul_mod]
theorem r1N_mod (n : Nat) (h : n < pF) : r1N n % pF = cand n := by
  have hb := Nat.lt_trans h p_big
  have h0 := r0N_pow n hb
  unfold r1N cand
  rw [sq1_mod _ (show r0N n < big from prodN_lt _ _), h0]
  split
  · exact h0
  · rw [prodN_mod _ _ (show r0N n < big from prodN_lt _ _) i_big, Nat.mul_mod, h0, Nat.mod_eq_of_lt (show iF < pF by decide +kernel)]
theorem r1N_sq (n : Nat) (h : n < pF) : (sqN (r1N n) 1 % pF = n) = (cand n * cand n % pF = n) := by
  rw [sq1_mod _ (r1_big n), r1N_mod n h]
theorem cand_lt (n : Nat) : cand n < pF := by
  unfold cand
  split
  · exact Nat.mod_lt _ p_pos
  · exact Nat.mod_lt _ p_pos
theorem evenN_lt (r : Nat) (h : r < pF) : evenN r < pF := by
  unfold evenN
  split
  · have : r ≠ 0 := fun e => by subst e; simp at *
    omega
  · exact h
/-- The element of a number. -/
def E (x : Nat) : Value := .string (S (leB x))
theorem el_E {x : Nat} (h : x < pF) : isEl (leB x) = true := by
  unfold isEl
  rw [leB_len, numB_leB x (Nat.lt_trans h p_big)]
  simp [h]
theorem num_E {x : Nat} (h : x < pF) : numB (leB x) = x := numB_leB x (Nat.lt_trans h p_big)
theorem E_of {l : List UInt8} (h : isEl l = true) : l = leB (numB l) := (leB_numB l (isEl_len h) (numB_lt l (isEl_len h))).symm
def EP (x : Nat) (w : World) (e : Ending) (w' : World) : Prop := e = .returned (.tuple #[E x, .int .i64 0]) ∧ Below w.heap.size w w'
theorem addE (x y : Nat) (hx : x < pF) (hy : y < pF) (w : World) : Calls Try.prog 15 #[E x, E y] w (EP ((x + y) % pF) w) := by
  have h := add_ok (leB x) (leB y) (el_E hx) (el_E hy) w
  rw [num_E hx, num_E hy] at h
  exact h
theorem subE (x y : Nat) (hx : x < pF) (hy : y < pF) (w : World) : Calls Try.prog 17 #[E x, E y] w (EP ((x + (pF - y)) % pF) w) := by
  have h := sub_ok (leB x) (leB y) (el_E hx) (el_E hy) w
  rw [num_E hx, num_E hy] at h
  exact h
theorem mulE (x y : Nat) (hx : x < pF) (hy : y < pF) (w : World) : Calls Try.prog 19 #[E x, E y] w (EP (x * y % pF) w) := by
  have h := mul_ok (leB x) (leB y) (el_E hx) (el_E hy) w
  rw [num_E hx, num_E hy, prodN_mod x y (Nat.lt_trans hx p_big) (Nat.lt_trans hy p_big)] at h
  exact h
theorem powF_zero (e : Nat) (h : 0 < e) : powF 0 e = 0 := by unfold powF; rw [Nat.zero_pow h, Nat.zero_mod]
/-- The inverse. -/
def invF (x : Nat) : Nat := powF x (pF - 2)
theorem invF_lt (x : Nat) : invF x < pF := Nat.mod_lt _ p_pos
theorem p_ge : 5 < pF := by decide +kernel
theorem invF_mul (x : Nat) (h0 : x ≠ 0) (hx : x < pF) : invF x * x % pF = 1 := by
  have h := pr_p.little (a := x) (fun hd => absurd (Nat.le_of_dvd (Nat.pos_of_ne_zero h0) hd) (Nat.not_le.2 hx))
  have e : pF - 1 = pF - 2 + 1 := by have := p_ge; omega
  rw [e, Nat.pow_succ] at h
  unfold invF powF
  rw [Nat.mul_mod, Nat.mod_mod, ← Nat.mul_mod]
  exact h
theorem invF_zero : invF 0 = 0 := by
  exact powF_zero (pF - 2) (by have := p_ge; omega)
theorem invE (x : Nat) (hx : x < pF) (w : World) : Calls Try.prog 21 #[E x] w (EP (invF x) w) := by
  have h := inv_ok (leB x) (el_E hx) w
  rw [num_E hx, invN_pow x (Nat.lt_trans hx p_big)] at h
  exact h
def RP (x : Nat) (w : World) (e : Ending) (w' : World) : Prop := e = .returned (.tuple #[E x, .bool true, .int .i64 0]) ∧ Below w.heap.size w w'
def RN (w : World) (e : Ending) (w' : World) : Prop := e = .returned (.tuple #[.string (S []), .bool false, .int .i64 0]) ∧ Below w.heap.size w w'
theorem rootE (x : Nat) (hx : x < pF) (hq : cand x * cand x % pF = x) (w : World) : Calls Try.prog 23 #[E x] w (RP (evenN (cand x)) w) := by
  have h := rootC_yes (leB x) (el_E hx) (by rw [num_E hx, r1N_sq x hx]; exact hq) w
  rw [num_E hx, r1N_mod x hx] at h
  exact h
theorem rootE_no (x : Nat) (hx : x < pF) (hq : ¬ cand x * cand x % pF = x) (w : World) : Calls Try.prog 23 #[E x] w (RN w) :=
  rootC_no (leB x) (el_E hx) (by rw [num_E hx, r1N_sq x hx]; exact hq) w
theorem isE (x : Nat) (hx : x < pF) (w : World) : Calls Try.prog 13 #[E x] w fun e w' => e = .returned (.bool true) ∧ Below w.heap.size w w' := by
  have h := is_any (leB x) w
  rw [el_E hx] at h
  exact h
/-- By certificates. -/
def candR (n r : Nat) : Nat := if r * r % pF = n then r else r * iF % pF
theorem cand_pm (n : Nat) : cand n = candR n (pm pF 256 n eF) := by
  have e : pm pF 256 n eF = powF n eF := pm_eq pF 256 n eF (by decide +kernel)
  rw [e]
  rfl
theorem cand4 : cand 4 * cand 4 % pF = 4 ∧ evenN (cand 4) = 2 := by
  rw [cand_pm 4]
  decide +kernel
theorem cand2 : ¬ cand 2 * cand 2 % pF = 2 := by
  rw [cand_pm 2]
  decide +kernel
end Go.Proofs.Ytbkaemekcjinaaa
