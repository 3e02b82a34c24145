/- The prime 2^255 - 19: that it is one, and what follows of it (Fermat, no divisors of nought). Numbers only, no program is spoken of.
Arrays of numbers in a block: rows that are read and written place by place.
Walks of package field: sums.
Walks of package field: differences. -/
import Derived.Test.YtgnblaaldpniiaaGreatDoorZK1
import Derived.Deep.WholeRow
import Derived.Laws.CopyOwn
import Derived.Laws.Tables
section
set_option maxRecDepth 100000
set_option linter.unusedVariables false
set_option linter.unusedSimpArgs false
namespace Go.Proofs.YtgnblaaldpniiaaGreatDoor
def Pr (p : Nat) : Prop := 1 < p ∧ ∀ d, d ∣ p → d = 1 ∨ d = p
theorem Pr.cop {p k : Nat} (h : Pr p) (hk : ¬ p ∣ k) : Nat.gcd p k = 1 := by
  rcases h.2 (Nat.gcd p k) (Nat.gcd_dvd_left p k) with e | e
  · exact e
  · exact absurd (e ▸ Nat.gcd_dvd_right p k) hk
theorem Pr.dvd_mul {p a b : Nat} (h : Pr p) (hd : p ∣ a * b) : p ∣ a ∨ p ∣ b := by
  by_cases ha : p ∣ a
  · exact Or.inl ha
  · exact Or.inr (Nat.Coprime.dvd_of_dvd_mul_left (h.cop ha) hd)
def choose : Nat → Nat → Nat
  | _, 0 => 1
  | 0, _ + 1 => 0
  | n + 1, k + 1 => choose n k + choose n (k + 1)
theorem choose_zero (n : Nat) : choose n 0 = 1 := by cases n <;> rfl
theorem choose_gt : ∀ (n k : Nat), n < k → choose n k = 0
  | 0, k + 1, _ => rfl
  | n + 1, k + 1, h => by rw [choose, choose_gt n k (by omega), choose_gt n (k + 1) (by omega)]
theorem choose_self : ∀ n : Nat, choose n n = 1
  | 0 => rfl
  | n + 1 => by rw [choose, choose_self n, choose_gt n (n + 1) (by omega)]
theorem choose_mul : ∀ (n k : Nat), (n + 1) * choose n k = (k + 1) * choose (n + 1) (k + 1)
  | 0, 0 => rfl
  | 0, k + 1 => by simp [choose]
  | n + 1, 0 => by
    have h := choose_mul n 0
    rw [choose_zero] at h ⊢
    have e : choose (n + 1 + 1) (0 + 1) = choose (n + 1) 0 + choose (n + 1) (0 + 1) := rfl
    rw [choose_zero] at e
    omega
  | n + 1, k + 1 => by
    have h1 := choose_mul n k
    have h2 := choose_mul n (k + 1)
    have e1 : choose (n + 1 + 1) (k + 1 + 1) = choose (n + 1) (k + 1) + choose (n + 1) (k + 1 + 1) := rfl
    have e2 : choose (n + 1) (k + 1) = choose n k + choose n (k + 1) := rfl
    have e3 : (n + 1 + 1) * choose (n + 1) (k + 1) = (n + 1) * choose n k + (n + 1) * choose n (k + 1) + choose (n + 1) (k + 1) := by
      rw [Nat.add_mul, Nat.one_mul]; rw [show (n + 1) * choose (n + 1) (k + 1) = (n + 1) * choose n k + (n + 1) * choose n (k + 1) by rw [e2, Nat.mul_add]]
    rw [e3, e1, h1, h2, Nat.mul_add]
    rw [show (k + 1 + 1) * choose (n + 1) (k + 1) = (k + 1) * choose (n + 1) (k + 1) + choose (n + 1) (k + 1) by rw [Nat.add_mul, Nat.one_mul]]
    omega
def bin (n a : Nat) : Nat → Nat
  | 0 => 0
  | m + 1 => bin n a m + choose n m * a ^ m
theorem bin_succ (n a : Nat) : ∀ m, bin (n + 1) a (m + 1) = bin n a (m + 1) + a * bin n a m
  | 0 => by simp [bin, choose_zero]
  | m + 1 => by
    rw [bin, bin_succ n a m]
    have e : bin n a (m + 1 + 1) = bin n a (m + 1) + choose n (m + 1) * a ^ (m + 1) := rfl
    have e2 : bin n a (m + 1) = bin n a m + choose n m * a ^ m := rfl
    have e3 : choose (n + 1) (m + 1) = choose n m + choose n (m + 1) := rfl
    rw [e, e3, Nat.add_mul]
    conv => rhs; rw [show a * bin n a (m + 1) = a * bin n a m + choose n m * a ^ (m + 1) by rw [e2, Nat.mul_add, Nat.pow_succ]; congr 1; rw [Nat.mul_left_comm, Nat.mul_comm a (a ^ m)]]
    omega
theorem bin_all (a : Nat) : ∀ n, bin n a (n + 1) = (1 + a) ^ n
  | 0 => by simp [bin, choose_zero]
  | n + 1 => by
    rw [bin_succ, Nat.pow_succ, Nat.mul_add, ← bin_all a n, Nat.mul_one, Nat.mul_comm a]
    have e : bin n a (n + 1 + 1) = bin n a (n + 1) := by
      show bin n a (n + 1) + choose n (n + 1) * a ^ (n + 1) = _
      rw [choose_gt n (n + 1) (by omega)]; omega
    rw [e]
theorem Pr.choose_dvd {p k : Nat} (h : Pr p) (h0 : 0 < k) (hk : k < p) : p ∣ choose p k := by
  obtain ⟨k, rfl⟩ : ∃ j, k = j + 1 := ⟨k - 1, by omega⟩
  obtain ⟨q, rfl⟩ : ∃ j, p = j + 1 := ⟨p - 1, by have := h.1; omega⟩
  have e := choose_mul q k
  rcases h.dvd_mul (show (q + 1) ∣ (k + 1) * choose (q + 1) (k + 1) from e ▸ Nat.dvd_mul_right _ _) with hd | hd
  · exact absurd (Nat.le_of_dvd (by omega) hd) (by omega)
  · exact hd
theorem Pr.bin_mod {p : Nat} (h : Pr p) (a : Nat) : ∀ m, 0 < m → m ≤ p → bin p a m % p = 1 % p
  | 1, _, _ => by simp [bin, choose_zero]
  | m + 1 + 1, _, hm => by
    show (bin p a (m + 1) + choose p (m + 1) * a ^ (m + 1)) % p = _
    obtain ⟨c, hc⟩ := h.choose_dvd (k := m + 1) (by omega) (by omega)
    rw [hc, Nat.mul_assoc, Nat.add_mul_mod_self_left]
    exact h.bin_mod a (m + 1) (by omega) (by omega)
theorem Pr.succ_pow {p : Nat} (h : Pr p) (a : Nat) : (1 + a) ^ p % p = (1 + a ^ p) % p := by
  rw [← bin_all]
  show (bin p a p + choose p p * a ^ p) % p = _
  rw [choose_self, Nat.one_mul, Nat.add_mod, h.bin_mod a p (by have := h.1; omega) (Nat.le_refl _), ← Nat.add_mod]
theorem Pr.fermat {p : Nat} (h : Pr p) : ∀ a, a ^ p % p = a % p
  | 0 => by rw [Nat.zero_pow (by have := h.1; omega)]
  | a + 1 => by
    rw [Nat.add_comm a 1, h.succ_pow, Nat.add_mod, h.fermat a, ← Nat.add_mod]
theorem Pr.dvd_sub_of_mod {p a b : Nat} (h : a % p = b % p) : p ∣ a - b := Nat.dvd_of_mod_eq_zero (Nat.sub_mod_eq_zero_of_mod_eq h)
theorem Pr.little {p a : Nat} (h : Pr p) (ha : ¬ p ∣ a) : a ^ (p - 1) % p = 1 := by
  have h1 := h.1
  have ha0 : 0 < a := Nat.pos_of_ne_zero fun e => ha (e ▸ Nat.dvd_zero p)
  have e : a ^ p = a * a ^ (p - 1) := by
    conv => lhs; rw [show p = p - 1 + 1 by omega, Nat.pow_succ, Nat.mul_comm]
  have hf := h.fermat a
  rw [e] at hf
  have hpos : 1 ≤ a ^ (p - 1) := Nat.pow_pos ha0
  have hd : p ∣ a * (a ^ (p - 1) - 1) := by
    rw [Nat.mul_sub, Nat.mul_one]
    exact Pr.dvd_sub_of_mod hf
  rcases h.dvd_mul hd with hd | ⟨c, hc⟩
  · exact absurd hd ha
  · rw [show a ^ (p - 1) = 1 + p * c by omega, Nat.add_mul_mod_self_left, Nat.mod_eq_of_lt h1]
theorem pow_one_mod {a r k : Nat} (n : Nat) (h : a ^ k % r = 1 % r) : a ^ (k * n) % r = 1 % r := by
  rw [Nat.pow_mul, Nat.pow_mod, h, ← Nat.pow_mod, Nat.one_pow]
theorem pow_gcd {b r : Nat} : ∀ (x y : Nat), b ^ x % r = 1 % r → b ^ y % r = 1 % r → b ^ Nat.gcd x y % r = 1 % r := by
  intro x y
  induction x, y using Nat.gcd.induction with
  | H0 y => intro _ h; rw [Nat.gcd_zero_left]; exact h
  | H1 x y hx ih =>
    intro h1 h2
    rw [Nat.gcd_rec]
    refine ih ?_ h1
    have e : b ^ y = b ^ (x * (y / x)) * b ^ (y % x) := by rw [← Nat.pow_add, Nat.div_add_mod]
    rw [e, Nat.mul_mod, pow_one_mod (y / x) h1, ← Nat.mul_mod, Nat.one_mul] at h2
    exact h2
theorem prime_divisor : ∀ n : Nat, 1 < n → ∃ r, Pr r ∧ r ∣ n := by
  intro n
  induction n using Nat.strongRecOn with
  | _ n ih =>
    intro hn
    by_cases h : Pr n
    · exact ⟨n, h, Nat.dvd_refl n⟩
    · have : ∃ d, d ∣ n ∧ d ≠ 1 ∧ d ≠ n := by
        apply Classical.byContradiction
        intro hc
        refine h ⟨hn, fun d hd => ?_⟩
        by_cases h1 : d = 1
        · exact Or.inl h1
        · by_cases h2 : d = n
          · exact Or.inr h2
          · exact absurd ⟨d, hd, h1, h2⟩ hc
      obtain ⟨d, hd, h1, h2⟩ := this
      have hle := Nat.le_of_dvd (by omega) hd
      have hp := Nat.pos_of_dvd_of_pos hd (by omega)
      obtain ⟨r, hr, hrd⟩ := ih d (by omega) (by omega)
      exact ⟨r, hr, Nat.dvd_trans hrd hd⟩
theorem prime_of_none {n : Nat} (hn : 1 < n) (h : ∀ r, Pr r → r ∣ n → n < r * r) : Pr n := by
  refine ⟨hn, fun d hd => ?_⟩
  obtain ⟨c, rfl⟩ := hd
  by_cases h1 : d = 1
  · exact Or.inl h1
  · by_cases h2 : c = 1
    · subst h2; right; omega
    · have hd0 : 0 < d := Nat.pos_of_ne_zero fun e => by subst e; simp at hn
      have hc0 : 0 < c := Nat.pos_of_ne_zero fun e => by subst e; simp at hn
      obtain ⟨r, hr, hrd⟩ := prime_divisor d (by omega)
      obtain ⟨t, ht, htc⟩ := prime_divisor c (by omega)
      have a1 := h r hr (Nat.dvd_trans hrd (Nat.dvd_mul_right d c))
      have a2 := h t ht (Nat.dvd_trans htc (Nat.dvd_mul_left c d))
      have b1 := Nat.le_of_dvd hd0 hrd
      have b2 := Nat.le_of_dvd hc0 htc
      exfalso
      by_cases hrt : r ≤ t
      · have c1 : r * t ≤ d * c := Nat.mul_le_mul b1 b2
        have c2 : d * c < r * r := a1
        have c3 : r * r ≤ r * t := Nat.mul_le_mul_left r hrt
        omega
      · have c1 : r * t ≤ d * c := Nat.mul_le_mul b1 b2
        have c3 : t * t ≤ r * t := Nat.mul_le_mul_right t (by omega)
        omega
theorem pock {n q m a r : Nat} (hq : Pr q) (hn : n = q * m + 1) (h1 : a ^ (q * m) % n = 1 % n) {A : Nat} (hA : A % n = a ^ m % n) (h2 : Nat.gcd (A - 1) n = 1) (hr : Pr r) (hd : r ∣ n) : q ∣ r - 1 := by
  apply Classical.byContradiction
  intro hc
  have hg := hq.cop hc
  have hr1 := hr.1
  have h1r : a ^ (q * m) % r = 1 % r := by
    rw [← Nat.mod_mod_of_dvd _ hd, h1, Nat.mod_mod_of_dvd _ hd]
  have hra : ¬ r ∣ a := by
    intro ha
    have : 0 < q * m := by
      apply Nat.pos_of_ne_zero
      intro e
      rw [e] at hn
      subst hn
      exact absurd (Nat.le_of_dvd (by omega) hd) (by omega)
    have e2 : a ^ (q * m) % r = 0 := Nat.mod_eq_zero_of_dvd (Nat.dvd_trans ha ⟨a ^ (q * m - 1), by conv => lhs; rw [show q * m = q * m - 1 + 1 by omega, Nat.pow_succ, Nat.mul_comm]⟩)
    rw [e2, Nat.mod_eq_of_lt hr1] at h1r
    omega
  have hl := hr.little hra
  have g1 : (a ^ m) ^ q % r = 1 % r := by rw [← Nat.pow_mul, Nat.mul_comm]; exact h1r
  have g2 : (a ^ m) ^ (r - 1) % r = 1 % r := by
    rw [← Nat.pow_mul, Nat.mul_comm]
    exact pow_one_mod m (by rw [hl, Nat.mod_eq_of_lt hr1])
  have g3 := pow_gcd q (r - 1) g1 g2
  rw [hg, Nat.pow_one] at g3
  rw [← Nat.mod_mod_of_dvd _ hd, ← hA, Nat.mod_mod_of_dvd _ hd] at g3
  have hdv : r ∣ A - 1 := Pr.dvd_sub_of_mod g3
  have := Nat.dvd_gcd hdv hd
  rw [h2] at this
  exact absurd (Nat.le_of_dvd (by omega) this) (by omega)
def pm (n : Nat) : Nat → Nat → Nat → Nat
  | 0, _, _ => 1 % n
  | k + 1, a, e => bif e % 2 == 1 then a * pm n k (a * a % n) (e / 2) % n else pm n k (a * a % n) (e / 2)
theorem pm_eq (n : Nat) : ∀ (k a e : Nat), e < 2 ^ k → pm n k a e = a ^ e % n
  | 0, a, e, h => by
    have : e = 0 := by simpa using h
    subst this; rfl
  | k + 1, a, e, h => by
    have hlt : e / 2 < 2 ^ k := by rw [Nat.pow_succ] at h; omega
    have ih := pm_eq n k (a * a % n) (e / 2) hlt
    have e2 : (a * a % n) ^ (e / 2) % n = a ^ (2 * (e / 2)) % n := by
      rw [← Nat.pow_mod, Nat.pow_mul]
      rw [show a ^ 2 = a * a by rw [Nat.pow_succ, Nat.pow_one]]
    rw [pm, ih, e2]
    by_cases hb : e % 2 = 1
    · rw [show (e % 2 == 1) = true by simp [hb]]
      show a * _ % n = _
      rw [Nat.mul_mod, Nat.mod_mod, ← Nat.mul_mod]
      conv => rhs; rw [show e = 2 * (e / 2) + 1 by omega, Nat.pow_succ, Nat.mul_comm]
    · rw [show (e % 2 == 1) = false by simp [hb]]
      show a ^ (2 * (e / 2)) % n = _
      rw [show 2 * (e / 2) = e by omega]
def noDiv (n : Nat) : Nat → Bool
  | 0 => true
  | k + 1 => (n % (k + 2) != 0) && noDiv n k
theorem noDiv_spec {n : Nat} : ∀ k, noDiv n k = true → ∀ r, 2 ≤ r → r ≤ k + 1 → ¬ r ∣ n
  | 0, _, r, h1, h2, _ => by omega
  | k + 1, h, r, h1, h2, hd => by
    rw [noDiv, Bool.and_eq_true] at h
    by_cases e : r = k + 2
    · subst e
      have := Nat.mod_eq_zero_of_dvd hd
      simp [this] at h
    · exact noDiv_spec k h.2 r h1 (by omega) hd
theorem prime_small {n : Nat} (k : Nat) (hn : 1 < n) (hk : n < (k + 2) * (k + 2)) (h : noDiv n k = true) : Pr n := by
  refine prime_of_none hn fun r hr hd => ?_
  have h1 := hr.1
  have : ¬ r ≤ k + 1 := fun hle => noDiv_spec k h r h1 hle hd
  exact Nat.lt_of_lt_of_le hk (Nat.mul_le_mul (by omega) (by omega))
theorem pock2 {n q m q' m' a : Nat} (hq : Pr q) (hq' : Pr q') (hne : q ≠ q') (hn : n = q * m + 1) (hn' : n = q' * m' + 1) (hsz : n < (q * q' + 1) * (q * q' + 1))
    (h1 : pm n 256 a (q * m) = 1 % n) (h2 : Nat.gcd (pm n 256 a m - 1) n = 1) (h1' : pm n 256 a (q' * m') = 1 % n) (h2' : Nat.gcd (pm n 256 a m' - 1) n = 1) (hb : n < 2 ^ 256) (hn1 : 1 < n) : Pr n := by
  have hqm : q * m < 2 ^ 256 := by omega
  have hqm' : q' * m' < 2 ^ 256 := by omega
  have hml : m < 2 ^ 256 := Nat.lt_of_le_of_lt (Nat.le_mul_of_pos_left m (by have := hq.1; omega)) hqm
  have hml' : m' < 2 ^ 256 := Nat.lt_of_le_of_lt (Nat.le_mul_of_pos_left m' (by have := hq'.1; omega)) hqm'
  rw [pm_eq n 256 a _ hqm] at h1
  rw [pm_eq n 256 a _ hqm'] at h1'
  refine prime_of_none hn1 fun r hr hd => ?_
  have d1 := pock hq hn h1 (A := pm n 256 a m) (by rw [pm_eq n 256 a _ hml, Nat.mod_mod]) h2 hr hd
  have d2 := pock hq' hn' h1' (A := pm n 256 a m') (by rw [pm_eq n 256 a _ hml', Nat.mod_mod]) h2' hr hd
  have hc : Nat.gcd q q' = 1 := hq.cop fun hdq => by
    rcases hq'.2 q hdq with e | e
    · have := hq.1; omega
    · exact hne e
  have d3 : q * q' ∣ r - 1 := Nat.Coprime.mul_dvd_of_dvd_of_dvd hc d1 d2
  have hr1 := hr.1
  have hle := Nat.le_of_dvd (by omega) d3
  exact Nat.lt_of_lt_of_le hsz (Nat.mul_le_mul (by omega) (by omega))
theorem pock1 {n q m a : Nat} (hq : Pr q) (hn : n = q * m + 1) (hsz : n < (q + 1) * (q + 1))
    (h1 : pm n 256 a (q * m) = 1 % n) (h2 : Nat.gcd (pm n 256 a m - 1) n = 1) (hb : n < 2 ^ 256) (hn1 : 1 < n) : Pr n := by
  have hqm : q * m < 2 ^ 256 := by omega
  have hml : m < 2 ^ 256 := Nat.lt_of_le_of_lt (Nat.le_mul_of_pos_left m (by have := hq.1; omega)) hqm
  rw [pm_eq n 256 a _ hqm] at h1
  refine prime_of_none hn1 fun r hr hd => ?_
  have d1 := pock hq hn h1 (A := pm n 256 a m) (by rw [pm_eq n 256 a _ hml, Nat.mod_mod]) h2 hr hd
  have hr1 := hr.1
  have hle := Nat.le_of_dvd (by omega) d1
  exact Nat.lt_of_lt_of_le hsz (Nat.mul_le_mul (by omega) (by omega))
theorem pr_75707 : Pr 75707 := prime_small 275 (by decide) (by decide) (by decide +kernel)
theorem pr_8574133 : Pr 8574133 := prime_small 2929 (by decide) (by decide) (by decide +kernel)
theorem pr_127 : Pr 127 := prime_small 11 (by decide) (by decide) (by decide +kernel)
theorem pr_4153 : Pr 4153 := prime_small 64 (by decide) (by decide) (by decide +kernel)
theorem pr_430751 : Pr 430751 := prime_small 656 (by decide) (by decide) (by decide +kernel)
theorem pr_q3 : Pr 1919519569386763 := pock2 (m := 1919519569386762 / 8574133) (m' := 1919519569386762 / 127) (a := 2) pr_8574133 pr_127 (by decide) (by decide +kernel) (by decide +kernel) (by decide +kernel) (by decide +kernel) (by decide +kernel) (by decide +kernel) (by decide +kernel) (by decide +kernel) (by decide +kernel)
theorem pr_q2 : Pr 31757755568855353 := pock2 (m := 31757755568855352 / 430751) (m' := 31757755568855352 / 4153) (a := 2) pr_430751 pr_4153 (by decide) (by decide +kernel) (by decide +kernel) (by decide +kernel) (by decide +kernel) (by decide +kernel) (by decide +kernel) (by decide +kernel) (by decide +kernel) (by decide +kernel)
theorem pr_q1 : Pr 75445702479781427272750846543864801 := pock2 (m := 75445702479781427272750846543864800 / 1919519569386763) (m' := 75445702479781427272750846543864800 / 75707) (a := 2) pr_q3 pr_75707 (by decide) (by decide +kernel) (by decide +kernel) (by decide +kernel) (by decide +kernel) (by decide +kernel) (by decide +kernel) (by decide +kernel) (by decide +kernel) (by decide +kernel)
theorem pr_q : Pr 74058212732561358302231226437062788676166966415465897661863160754340907 := pock2 (m := 74058212732561358302231226437062788676166966415465897661863160754340906 / 75445702479781427272750846543864801) (m' := 74058212732561358302231226437062788676166966415465897661863160754340906 / 31757755568855353) (a := 2) pr_q1 pr_q2 (by decide +kernel) (by decide +kernel) (by decide +kernel) (by decide +kernel) (by decide +kernel) (by decide +kernel) (by decide +kernel) (by decide +kernel) (by decide +kernel) (by decide +kernel)
def pF : Nat := 57896044618658097711785492504343953926634992332820282019728792003956564819949
theorem pr_p : Pr pF := pock1 (q := 74058212732561358302231226437062788676166966415465897661863160754340907) (m := 781764) (a := 2) pr_q (by decide +kernel) (by decide +kernel) (by decide +kernel) (by decide +kernel) (by decide +kernel) (by decide +kernel)
end Go.Proofs.YtgnblaaldpniiaaGreatDoor
end
section
set_option maxRecDepth 100000
set_option linter.unusedVariables false
set_option linter.unusedSimpArgs false
namespace Go.Proofs.YtgnblaaldpniiaaGreatDoor
open Go.RowKit Go.Lib
def numC (k : IntKind) (l : List Nat) : List Value := l.map fun (x : Nat) => .int k (x : Int)
theorem numC_length (k : IntKind) (l : List Nat) : (numC k l).length = l.length := by simp [numC]
theorem numC_one (k : IntKind) (l : List Nat) : (numC k l).toArray.all (·.oneCell') = true := by simp [numC, Value.oneCell']
def aggN (k : IntKind) (l : List Nat) : Value := .agg (numC k l).toArray
structure Arr (w : World) (g : Nat) (t : TypeId) (k : IntKind) (l : List Nat) : Prop where
  blk : w.heap[g]? = some (.cells (numC k l).toArray t (0, 0))
section
variable {w w' : World} {g : Nat} {t : TypeId} {k : IntKind} {l : List Nat}
theorem Arr.lt (h : Arr w g t k l) : g < w.heap.size := (Array.getElem?_eq_some_iff.1 h.blk).1
theorem Arr.cell (h : Arr w g t k l) (i : Nat) (hi : i < l.length) : w.cell? ⟨g, i, none⟩ = some (.int k (l.getD i 0 : Nat)) := by
  rw [cell_of_row w g _ _ _ _ h.blk, List.getElem?_toArray]
  simp [numC, hi]
theorem Arr.frozen (h : Arr w g t k l) (i : Nat) : w.frozen? ⟨g, i, none⟩ = false := frozen_of_row w g i _ _ h.blk
theorem Arr.of_heap (h : Arr w g t k l) (e : w'.heap[g]? = w.heap[g]?) : Arr w' g t k l := ⟨e.trans h.blk⟩
theorem Arr.below {B : Nat} (h : Arr w g t k l) (hb : Below B w w') (hg : g < B) : Arr w' g t k l := h.of_heap (hb.block g hg)
theorem Arr.from (h : Arr w g t k l) (hb : Below w.heap.size w w') : Arr w' g t k l := h.below hb h.lt
theorem Arr.set (h : Arr w g t k l) (i x : Nat) : Arr (w.setCell ⟨g, i, none⟩ (.int k (x : Int))) g t k (l.set i x) := by
  refine ⟨(heap_setCell_same _ _ _ _ _ _ h.blk).trans ?_⟩
  rw [List.setIfInBounds_toArray]
  simp [numC, List.map_set]
theorem Arr.other (h : Arr w g t k l) {g' : Nat} (hne : g ≠ g') (i : Nat) (v : Value) : Arr (w.setCell ⟨g', i, none⟩ v) g t k l :=
  h.of_heap (Below.heap_setCell w ⟨g', i, none⟩ v g hne)
theorem Arr.new (w : World) (t : TypeId) (k : IntKind) (l : List Nat) : Arr (w.alloc (.cells (numC k l).toArray t)) w.heap.size t k l := ⟨heap_alloc_new w _⟩
theorem Arr.drewN (h : Arr w g t k l) (n : Nat) : Arr (w.drewN n) g t k l := ⟨h.blk⟩
end
theorem set_mid (d r : List Nat) (x y : Nat) : (d ++ x :: r).set d.length y = (d ++ [y]) ++ r := by simp
theorem drop_getD (l : List Nat) (i : Nat) (h : i < l.length) : l.drop i = l.getD i 0 :: l.drop (i + 1) := by
  rw [List.drop_eq_getElem_cons h]; simp [h]
theorem Arr.step {w : World} {g i : Nat} {t : TypeId} {k : IntKind} {d r r' : List Nat} {x : Nat} (h : Arr w g t k (d ++ r)) (hr : r = x :: r') (hd : d.length = i) {v : Int} (y : Nat) (hv : v = (y : Int)) :
    Arr (w.setCell ⟨g, i, none⟩ (.int k v)) g t k ((d ++ [y]) ++ r') := by
  have h2 := h.set i y
  rw [hr, ← hd, set_mid] at h2
  rw [hv, ← hd]
  exact h2
theorem Arr.cellMid {w : World} {g i : Nat} {t : TypeId} {k : IntKind} {d r r' : List Nat} {x : Nat} (h : Arr w g t k (d ++ r)) (hr : r = x :: r') (hd : d.length = i) : w.cell? ⟨g, i, none⟩ = some (.int k (x : Int)) := by
  rw [hr] at h
  have h2 := h.cell i (by rw [← hd]; simp)
  rw [h2]
  have : (d ++ x :: r').getD i 0 = x := by rw [← hd]; simp
  rw [this]
theorem val_eq {k : IntKind} {a b : Int} (h : a = b) : Value.int k a = .int k b := by rw [h]
theorem getD_ltN {l : List Nat} {B : Nat} (h : ∀ x ∈ l, x < B) (i : Nat) (hi : i < l.length) : l.getD i 0 < B := by
  refine h _ ?_
  rw [List.getD_eq_getElem?_getD, List.getElem?_eq_getElem hi]
  simp
def valB (B : Nat) : List Nat → Nat
  | [] => 0
  | x :: r => x + B * valB B r
def limbs (B : Nat) : Nat → Nat → List Nat
  | 0, _ => []
  | k + 1, x => x % B :: limbs B k (x / B)
theorem limbs_len (B : Nat) : ∀ (k x : Nat), (limbs B k x).length = k
  | 0, _ => rfl
  | k + 1, x => by rw [limbs, List.length_cons, limbs_len B k]
theorem limbs_lt {B : Nat} (hB : 0 < B) : ∀ (k x : Nat), ∀ y ∈ limbs B k x, y < B
  | 0, _, y, h => by simp [limbs] at h
  | k + 1, x, y, h => by
    rw [limbs, List.mem_cons] at h
    rcases h with rfl | h
    · exact Nat.mod_lt _ hB
    · exact limbs_lt hB k _ y h
theorem limbs_val {B : Nat} (hB : 0 < B) : ∀ (l : List Nat), (∀ x ∈ l, x < B) → limbs B l.length (valB B l) = l
  | [], _ => rfl
  | x :: r, h => by
    have hx := h x (by simp)
    rw [List.length_cons, limbs, valB, Nat.add_mul_mod_self_left, Nat.mod_eq_of_lt hx, Nat.add_mul_div_left _ _ hB, Nat.div_eq_of_lt hx, Nat.zero_add, limbs_val hB r fun y hy => h y (by simp [hy])]
theorem val_limbs {B : Nat} : ∀ (k x : Nat), valB B (limbs B k x) = x % B ^ k
  | 0, x => by rw [Nat.pow_zero, Nat.mod_one]; rfl
  | k + 1, x => by rw [limbs, valB, val_limbs k, Nat.pow_succ, Nat.mul_comm (B ^ k) B, Nat.mod_mul]
theorem valB_lt {B : Nat} (hB : 0 < B) : ∀ (l : List Nat), (∀ x ∈ l, x < B) → valB B l < B ^ l.length
  | [], _ => by simp [valB]
  | x :: r, h => by
    have hx := h x (by simp)
    have ih := valB_lt hB r fun y hy => h y (by simp [hy])
    rw [valB, List.length_cons, Nat.pow_succ, Nat.mul_comm _ B]
    have : B * (valB B r + 1) ≤ B * B ^ r.length := Nat.mul_le_mul_left B ih
    rw [Nat.mul_add] at this
    omega
theorem limbs_eq {B : Nat} (hB : 0 < B) (l : List Nat) (k n : Nat) (hk : l.length = k) (h : ∀ x ∈ l, x < B) (hv : valB B l = n) : l = limbs B k n := by
  subst hk; subst hv; exact (limbs_val hB l h).symm
end Go.Proofs.YtgnblaaldpniiaaGreatDoor
end
section
set_option maxRecDepth 100000
set_option linter.unusedVariables false
set_option linter.unusedSimpArgs false
namespace Go.Proofs.YtgnblaaldpniiaaGreatDoor
open Go.RowKit Go.Lib
def addL : List Nat → List Nat → Nat → List Nat
  | x :: xs, y :: ys, c => (x + y + c) % 4294967296 :: addL xs ys ((x + y + c) / 4294967296)
  | _, _, _ => []
theorem addL_nil (ys : List Nat) (c : Nat) : addL [] ys c = [] := by cases ys <;> rfl
theorem infoN : (Tryz.prog.info? 118).map (·.size) = some 8 := by kernel_rfl
theorem zeroN : ∃ Z : Array Value, Z.size = 8 ∧ ∀ w, (zeroValue 118).run Tryz.prog w = .ok (.agg Z) w :=
  ⟨(numC .u32 (List.replicate 8 0)).toArray, by kernel_rfl, (zero_of_info (n := 8) (by kernel_rfl)).1⟩
def NumPost (l : List Nat) (w : World) (e : Ending) (w' : World) : Prop := e = .returned (aggN .u32 l) ∧ Below w.heap.size w w'
set_option maxHeartbeats 1000000 in
theorem sum_any (a b : List Nat) (ha : a.length = 8) (hb : b.length = 8) (hal : ∀ x ∈ a, x < 4294967296) (hbl : ∀ x ∈ b, x < 4294967296) (w : World) :
    Calls Tryz.prog 117 #[aggN .u32 a, aggN .u32 b] w (NumPost (addL a b 0) w) := by
  obtain ⟨Z, hZ, hz⟩ := zeroN
  replace hZ := Kept.mk hZ
  replace ha := Kept.mk ha
  replace hb := Kept.mk hb
  replace hal := Kept.mk hal
  replace hbl := Kept.mk hbl
  obtain ⟨A, hA⟩ : ∃ A, (numC .u32 a).toArray = A := ⟨_, rfl⟩
  obtain ⟨B, hB⟩ : ∃ B, (numC .u32 b).toArray = B := ⟨_, rfl⟩
  unfold aggN
  rw [hA, hB]
  go_enter Tryz.func117, Tryz.ntmps117
  go_wp2
  have h1 : Arr (((w.alloc (.cells A 118)).alloc (.cells B 118)).alloc (.cells Z 118)) w.heap.size 118 .u32 a := by
    have h := Arr.new w 118 .u32 a
    rw [hA] at h
    exact (h.from ((Below.refl _ _).alloc (Nat.le_refl _) _)).from ((Below.refl _ _).alloc (Nat.le_refl _) _)
  have h2 : Arr (((w.alloc (.cells A 118)).alloc (.cells B 118)).alloc (.cells Z 118)) (w.heap.size + 1) 118 .u32 b := by
    have h := Arr.new (w.alloc (.cells A 118)) 118 .u32 b
    rw [hB, World.size_alloc] at h
    exact h.from ((Below.refl _ _).alloc (Nat.le_refl _) _)
  have h3 : (((w.alloc (.cells A 118)).alloc (.cells B 118)).alloc (.cells Z 118)).heap[w.heap.size + 2]? = some (.cells Z 118 (0, 0)) := by
    have h := heap_alloc_new ((w.alloc (.cells A 118)).alloc (.cells B 118)) (.cells Z 118)
    simpa using h
  have h4 : Below w.heap.size w (((w.alloc (.cells A 118)).alloc (.cells B 118)).alloc (.cells Z 118)) :=
    (((Below.refl _ _).alloc (Nat.le_refl _) _).alloc (by simp) _).alloc (by simp; omega) _
  replace hA := Kept.mk hA
  replace hB := Kept.mk hB
  generalize ((w.alloc (.cells A 118)).alloc (.cells B 118)).alloc (.cells Z 118) = w0 at h1 h2 h3 h4 ⊢
  obtain ⟨n, hn⟩ : ∃ n, w.heap.size = n := ⟨_, rfl⟩
  rw [hn] at h1 h2 h3 ⊢
  replace h1 := Kept.mk h1
  replace h2 := Kept.mk h2
  replace h3 := Kept.mk h3
  replace h4 := Kept.mk h4
  replace hn := Kept.mk hn
  go_loopw [5, 8] (fun v5 v8 wr => ∃ (i c : Nat) (d : List Nat), i ≤ 8 ∧ c ≤ 1 ∧ v5 = .int .u64 (c : Int) ∧ v8 = .int .i64 (i : Int) ∧ Kept (d.length = i) ∧ Kept (Arr wr n 118 .u32 (d ++ a.drop i)) ∧ Kept (Arr wr (n + 1) 118 .u32 b) ∧
    Kept (wr.heap[n + 2]? = some (.cells Z 118 (0, 0))) ∧ Kept (Below w.heap.size w wr) ∧ Kept (d ++ addL (a.drop i) (b.drop i) c = addL a b 0)) (fun _ v8 _ => 8 - (RowKit.intOf v8).toNat)
  case atStart => exact ⟨0, 0, [], by omega, by omega, rfl, rfl, ⟨rfl⟩, h1, h2, h3, h4, ⟨rfl⟩⟩
  case round =>
    clear h1 h2 h3 h4
    obtain ⟨i, c, d, hi, hc, rfl, rfl, HD, H1, H2, H3, H4, HE⟩ := hrel
    by_cases hlt : i < 8
    · obtain ⟨x, hx⟩ : ∃ x, a.getD i 0 = x := ⟨_, rfl⟩
      obtain ⟨y, hy⟩ : ∃ y, b.getD i 0 = y := ⟨_, rfl⟩
      have hda := drop_getD a i (by rw [ha.out]; exact hlt)
      have hdb := drop_getD b i (by rw [hb.out]; exact hlt)
      rw [hx] at hda
      rw [hy] at hdb
      have c1 : ∀ u : Held (From wr.drew), u.w.cell? ⟨n, i, none⟩ = some (.int .u32 (x : Int)) := fun u => (H1.out.from u.h.of_drew).cellMid hda HD.out
      have c2 : ∀ u : Held (From wr.drew), u.w.cell? ⟨n + 1, i, none⟩ = some (.int .u32 (y : Int)) := fun u => hy ▸ (H2.out.from u.h.of_drew).cell i (by rw [hb.out]; exact hlt)
      replace hda := Kept.mk hda
      replace hdb := Kept.mk hdb
      have hxl : x < 4294967296 := hx ▸ getD_ltN hal.out i (by rw [ha.out]; exact hlt)
      have hyl : y < 4294967296 := hy ▸ getD_ltN hbl.out i (by rw [hb.out]; exact hlt)
      replace hx := Kept.mk hx
      replace hy := Kept.mk hy
      go_wp2
      refine wp_region_from (by kernel_rfl) (by kernel_rfl) ?_
      repeat (go_big_quiet_step (fail))
      refine wpQuiet_nil ?_
      intro w5 hw5
      have H15 := H1.out.from hw5.of_drew
      have H25 := H2.out.from hw5.of_drew
      have f5 := H15.frozen i
      have c5 := H15.cellMid hda.out HD.out
      have b5 := H4.out.trans (hw5.of_drew.mono H4.out.size)
      have h35 := (hw5.of_drew.block (n + 2) (Array.getElem?_eq_some_iff.1 H3.out).1).trans H3.out
      replace H15 := Kept.mk H15
      replace H25 := Kept.mk H25
      replace b5 := Kept.mk b5
      replace h35 := Kept.mk h35
      clear c1 c2
      go_wp2
      go_roundw
      case rel => exact ⟨i + 1, (x + y + c) / 4294967296, d ++ [(x + y + c) % 4294967296], by omega, by omega, val_eq (by omega), val_eq (by omega), ⟨by rw [List.length_append, HD.out]; rfl⟩, ⟨H15.out.step hda.out HD.out _ (by omega)⟩,
        ⟨H25.out.other (by omega) _ _⟩, ⟨(Below.heap_setCell w5 ⟨n, i, none⟩ _ (n + 2) (by simp)).trans h35.out⟩, ⟨b5.out.setCell (by simp [hn.out]) _⟩, ⟨by
          have h := HE.out
          rw [hda.out, hdb.out, addL] at h
          rw [List.append_assoc]
          exact h⟩⟩
      case measure => simp [RowKit.intOf]; omega
    · obtain rfl : i = 8 := by omega
      have hA8 : Arr wr n 118 .u32 d := by have h := H1.out; rw [List.drop_eq_nil_of_le (by rw [ha.out]; omega), List.append_nil] at h; exact h
      have hd : d = addL a b 0 := by have h := HE.out; rw [List.drop_eq_nil_of_le (by rw [ha.out]; omega), addL_nil, List.append_nil] at h; exact h
      replace hA8 := Kept.mk hA8
      replace hd := Kept.mk hd
      clear HE H1
      go_wp2_with (first
        | (refine wpList_load_row rfl 118 (.tmp 2) rfl n rfl 118 (numC .u32 d).toArray (0, 0) _ hA8.out.blk Tryz.underlying118 rfl ?_ ?_; (rw [infoN, List.size_toArray, numC_length, HD.out]))
        | (refine wpList_store_row rfl 118 (.tmp 4) (.tmp 29) rfl (n + 2) (numC .u32 d).toArray rfl rfl 118 Z H3.out ?_ ?_ (numC_one _ _) ?_; (rw [infoN, List.size_toArray, numC_length, HD.out]); (rw [hZ.out, List.size_toArray, numC_length, HD.out])))
      exact bodyPost_ret (results_cell_row (p := 4) (ty := 118) Tryz.results117 _ _ (n + 2) 118 (numC .u32 d).toArray (0, 0) _ rfl (setRow_heap _ _ _ _ _ _ H3.out) Tryz.underlying118 rfl (by rw [infoN, List.size_toArray, numC_length, HD.out])) rfl
        ⟨by rw [← hd.out]; rfl, below_setRow H4.out (by rw [hn.out]; omega) _⟩
end Go.Proofs.YtgnblaaldpniiaaGreatDoor
end
section
set_option maxRecDepth 100000
set_option linter.unusedVariables false
set_option linter.unusedSimpArgs false
namespace Go.Proofs.YtgnblaaldpniiaaGreatDoor
open Go.RowKit Go.Lib
def subL : List Nat → List Nat → Nat → List Nat
  | x :: xs, y :: ys, c => (x + 4294967296 - y - c) % 4294967296 :: subL xs ys (if x < y + c then 1 else 0)
  | _, _, _ => []
theorem subL_nil (ys : List Nat) (c : Nat) : subL [] ys c = [] := by cases ys <;> rfl
theorem under_hi (x y c : Nat) (hx : x < 4294967296) (hy : y < 4294967296) (hc : c ≤ 1) : IntKind.u64.wrap (IntKind.u64.wrap ((x : Int) - (y : Int)) - (c : Int)) / 9223372036854775808 = (((if x < y + c then 1 else 0 : Nat)) : Int) := by
  simp only [IntKind.wrap, IntKind.signed, IntKind.bits]
  by_cases h : x < y + c
  · rw [if_pos h]; simp; omega
  · rw [if_neg h]; simp; omega
theorem under_lo (x y c : Nat) (hx : x < 4294967296) (hy : y < 4294967296) (hc : c ≤ 1) : IntKind.u64.wrap (IntKind.u64.wrap ((x : Int) - (y : Int)) - (c : Int)) % 4294967296 = (((x + 4294967296 - y - c) % 4294967296 : Nat) : Int) := by
  simp only [IntKind.wrap, IntKind.signed, IntKind.bits]
  simp; omega
set_option maxHeartbeats 1000000 in
theorem diff_any (a b : List Nat) (ha : a.length = 8) (hb : b.length = 8) (hal : ∀ x ∈ a, x < 4294967296) (hbl : ∀ x ∈ b, x < 4294967296) (w : World) :
    Calls Tryz.prog 129 #[aggN .u32 a, aggN .u32 b] w (NumPost (subL a b 0) w) := by
  obtain ⟨Z, hZ, hz⟩ := zeroN
  replace hZ := Kept.mk hZ
  replace ha := Kept.mk ha
  replace hb := Kept.mk hb
  replace hal := Kept.mk hal
  replace hbl := Kept.mk hbl
  obtain ⟨A, hA⟩ : ∃ A, (numC .u32 a).toArray = A := ⟨_, rfl⟩
  obtain ⟨B, hB⟩ : ∃ B, (numC .u32 b).toArray = B := ⟨_, rfl⟩
  unfold aggN
  rw [hA, hB]
  go_enter Tryz.func129, Tryz.ntmps129
  go_wp2
  have h1 : Arr (((w.alloc (.cells A 118)).alloc (.cells B 118)).alloc (.cells Z 118)) w.heap.size 118 .u32 a := by
    have h := Arr.new w 118 .u32 a
    rw [hA] at h
    exact (h.from ((Below.refl _ _).alloc (Nat.le_refl _) _)).from ((Below.refl _ _).alloc (Nat.le_refl _) _)
  have h2 : Arr (((w.alloc (.cells A 118)).alloc (.cells B 118)).alloc (.cells Z 118)) (w.heap.size + 1) 118 .u32 b := by
    have h := Arr.new (w.alloc (.cells A 118)) 118 .u32 b
    rw [hB, World.size_alloc] at h
    exact h.from ((Below.refl _ _).alloc (Nat.le_refl _) _)
  have h3 : (((w.alloc (.cells A 118)).alloc (.cells B 118)).alloc (.cells Z 118)).heap[w.heap.size + 2]? = some (.cells Z 118 (0, 0)) := by
    have h := heap_alloc_new ((w.alloc (.cells A 118)).alloc (.cells B 118)) (.cells Z 118)
    simpa using h
  have h4 : Below w.heap.size w (((w.alloc (.cells A 118)).alloc (.cells B 118)).alloc (.cells Z 118)) :=
    (((Below.refl _ _).alloc (Nat.le_refl _) _).alloc (by simp) _).alloc (by simp; omega) _
  replace hA := Kept.mk hA
  replace hB := Kept.mk hB
  generalize ((w.alloc (.cells A 118)).alloc (.cells B 118)).alloc (.cells Z 118) = w0 at h1 h2 h3 h4 ⊢
  obtain ⟨n, hn⟩ : ∃ n, w.heap.size = n := ⟨_, rfl⟩
  rw [hn] at h1 h2 h3 ⊢
  replace h1 := Kept.mk h1
  replace h2 := Kept.mk h2
  replace h3 := Kept.mk h3
  replace h4 := Kept.mk h4
  replace hn := Kept.mk hn
  go_loopw [5, 8] (fun v5 v8 wr => ∃ (i c : Nat) (d : List Nat), i ≤ 8 ∧ c ≤ 1 ∧ v5 = .int .u64 (c : Int) ∧ v8 = .int .i64 (i : Int) ∧ Kept (d.length = i) ∧ Kept (Arr wr n 118 .u32 (d ++ a.drop i)) ∧ Kept (Arr wr (n + 1) 118 .u32 b) ∧
    Kept (wr.heap[n + 2]? = some (.cells Z 118 (0, 0))) ∧ Kept (Below w.heap.size w wr) ∧ Kept (d ++ subL (a.drop i) (b.drop i) c = subL a b 0)) (fun _ v8 _ => 8 - (RowKit.intOf v8).toNat)
  case atStart => exact ⟨0, 0, [], by omega, by omega, rfl, rfl, ⟨rfl⟩, h1, h2, h3, h4, ⟨rfl⟩⟩
  case round =>
    clear h1 h2 h3 h4
    obtain ⟨i, c, d, hi, hc, rfl, rfl, HD, H1, H2, H3, H4, HE⟩ := hrel
    by_cases hlt : i < 8
    · obtain ⟨x, hx⟩ : ∃ x, a.getD i 0 = x := ⟨_, rfl⟩
      obtain ⟨y, hy⟩ : ∃ y, b.getD i 0 = y := ⟨_, rfl⟩
      have hda := drop_getD a i (by rw [ha.out]; exact hlt)
      have hdb := drop_getD b i (by rw [hb.out]; exact hlt)
      rw [hx] at hda
      rw [hy] at hdb
      have c1 : ∀ u : Held (From wr.drew), u.w.cell? ⟨n, i, none⟩ = some (.int .u32 (x : Int)) := fun u => (H1.out.from u.h.of_drew).cellMid hda HD.out
      have c2 : ∀ u : Held (From wr.drew), u.w.cell? ⟨n + 1, i, none⟩ = some (.int .u32 (y : Int)) := fun u => hy ▸ (H2.out.from u.h.of_drew).cell i (by rw [hb.out]; exact hlt)
      replace hda := Kept.mk hda
      replace hdb := Kept.mk hdb
      have hxl : x < 4294967296 := hx ▸ getD_ltN hal.out i (by rw [ha.out]; exact hlt)
      have hyl : y < 4294967296 := hy ▸ getD_ltN hbl.out i (by rw [hb.out]; exact hlt)
      replace hx := Kept.mk hx
      replace hy := Kept.mk hy
      go_wp2
      refine wp_region_from (by kernel_rfl) (by kernel_rfl) ?_
      repeat (go_big_quiet_step (fail))
      refine wpQuiet_nil ?_
      intro w5 hw5
      have H15 := H1.out.from hw5.of_drew
      have H25 := H2.out.from hw5.of_drew
      have f5 := H15.frozen i
      have c5 := H15.cellMid hda.out HD.out
      have b5 := H4.out.trans (hw5.of_drew.mono H4.out.size)
      have h35 := (hw5.of_drew.block (n + 2) (Array.getElem?_eq_some_iff.1 H3.out).1).trans H3.out
      replace H15 := Kept.mk H15
      replace H25 := Kept.mk H25
      replace b5 := Kept.mk b5
      replace h35 := Kept.mk h35
      clear c1 c2
      go_wp2
      go_roundw
      case rel => exact ⟨i + 1, (if x < y + c then 1 else 0), d ++ [(x + 4294967296 - y - c) % 4294967296], by omega, by split <;> omega, val_eq (under_hi x y c hxl hyl hc), val_eq (by omega), ⟨by rw [List.length_append, HD.out]; rfl⟩, ⟨H15.out.step hda.out HD.out _ (under_lo x y c hxl hyl hc)⟩,
        ⟨H25.out.other (by omega) _ _⟩, ⟨(Below.heap_setCell w5 ⟨n, i, none⟩ _ (n + 2) (by simp)).trans h35.out⟩, ⟨b5.out.setCell (by simp [hn.out]) _⟩, ⟨by
          have h := HE.out
          rw [hda.out, hdb.out, subL] at h
          rw [List.append_assoc]
          exact h⟩⟩
      case measure => simp [RowKit.intOf]; omega
    · obtain rfl : i = 8 := by omega
      have hA8 : Arr wr n 118 .u32 d := by have h := H1.out; rw [List.drop_eq_nil_of_le (by rw [ha.out]; omega), List.append_nil] at h; exact h
      have hd : d = subL a b 0 := by have h := HE.out; rw [List.drop_eq_nil_of_le (by rw [ha.out]; omega), subL_nil, List.append_nil] at h; exact h
      replace hA8 := Kept.mk hA8
      replace hd := Kept.mk hd
      clear HE H1
      go_wp2_with (first
        | (refine wpList_load_row rfl 118 (.tmp 2) rfl n rfl 118 (numC .u32 d).toArray (0, 0) _ hA8.out.blk Tryz.underlying118 rfl ?_ ?_; (rw [infoN, List.size_toArray, numC_length, HD.out]))
        | (refine wpList_store_row rfl 118 (.tmp 4) (.tmp 29) rfl (n + 2) (numC .u32 d).toArray rfl rfl 118 Z H3.out ?_ ?_ (numC_one _ _) ?_; (rw [infoN, List.size_toArray, numC_length, HD.out]); (rw [hZ.out, List.size_toArray, numC_length, HD.out])))
      exact bodyPost_ret (results_cell_row (p := 4) (ty := 118) Tryz.results129 _ _ (n + 2) 118 (numC .u32 d).toArray (0, 0) _ rfl (setRow_heap _ _ _ _ _ _ H3.out) Tryz.underlying118 rfl (by rw [infoN, List.size_toArray, numC_length, HD.out])) rfl
        ⟨by rw [← hd.out]; rfl, below_setRow H4.out (by rw [hn.out]; omega) _⟩
end Go.Proofs.YtgnblaaldpniiaaGreatDoor
end
