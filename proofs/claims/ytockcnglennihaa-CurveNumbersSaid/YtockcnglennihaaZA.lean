/- The prime 2^255 - 19: that it is one, and what follows of it (Fermat, no divisors of nought). Numbers only, no program is spoken of.
Arrays of numbers in a block: rows that are read and written place by place.
Walks of package field: sums.
Walks of package field: differences.
Walks of package field: products.
Walks of package field: what is above 2^256 is folded down.
The values of sums, differences and products of limbs. No walk.
Package field: sum, difference, product, by numbers; p, its like. -/
import Derived.Test.YtockcnglennihaaZK
import Derived.Deep.WholeRow
import Derived.Laws.CopyOwn
import Derived.Laws.Tables
import Derived.Deep.LoopGhost
section
namespace Go.Proofs.Ytockcnglennihaa
/-- A prime. -/
def Pr (p : Nat) : Prop := 1 < p ∧ ∀ d, d ∣ p → d = 1 ∨ d = p
theorem Pr.cop {p k : Nat} (h : Pr p) (hk : ¬ p ∣ k) : Nat.gcd p k = 1 := by
  rcases h.2 (Nat.gcd p k) (Nat.gcd_dvd_left p k) with e | e
  · exact e
  · exact absurd (e ▸ Nat.gcd_dvd_right p k) hk
theorem Pr.dvd_mul {p a b : Nat} (h : Pr p) (hd : p ∣ a * b) : p ∣ a ∨ p ∣ b := by
  by_cases ha : p ∣ a
  · exact Or.inl ha
  · exact Or.inr (Nat.Coprime.dvd_of_dvd_mul_left (h.cop ha) hd)
/-- n over k. -/
def choose : Nat → Nat → Nat
  | _, 0 => 1
  | 0, _ + 1 => 0
  | n + 1, k + 1 => choose n k + choose n (k + 1)
theorem choose_zero (n : Nat) : choose n 0 = 1 := by cases n <;> rfl
theorem choose_gt : ∀ (n k : Nat), n < k → choose n k = 0
  | 0, k + 1, _ => rfl
  | n + 1, k + 1, h => by rw [choose, choose_gt n k (by omega), choose_gt n (k + 1) (by omega)]
theorem choose_self : ∀ n : Nat, choose n n = 1
  | 0 => rfl
  | n + 1 => by rw [choose, choose_self n, choose_gt n (n + 1) (by omega)]
theorem choose_mul : ∀ (n k : Nat), (n + 1) * choose n k = (k + 1) * choose (n + 1) (k + 1)
  | 0, 0 => rfl
  | 0, k + 1 => by simp [choose]
  | n + 1, 0 => by
    have h := choose_mul n 0
    rw [choose_zero] at h ⊢
    have e : choose (n + 1 + 1) (0 + 1) = choose (n + 1) 0 + choose (n + 1) (0 + 1) := rfl
    rw [choose_zero] at e
    omega
  | n + 1, k + 1 => by
    have h1 := choose_mul n k
    have h2 := choose_mul n (k + 1)
    have e1 : choose (n + 1 + 1) (k + 1 + 1) = choose (n + 1) (k + 1) + choose (n + 1) (k + 1 + 1) := rfl
    have e2 : choose (n + 1) (k + 1) = choose n k + choose n (k + 1) := rfl
    have e3 : (n + 1 + 1) * choose (n + 1) (k + 1) = (n + 1) * choose n k + (n + 1) * choose n (k + 1) + choose (n + 1) (k + 1) := by
      rw [Nat.add_mul, Nat.one_mul]; rw [show (n + 1) * choose (n + 1) (k + 1) = (n + 1) * choose n k + (n + 1) * choose n (k + 1) by rw [e2, Nat.mul_add]]
    rw [e3, e1, h1, h2, Nat.mul_add]
    rw [show (k + 1 + 1) * choose (n + 1) (k + 1) = (k + 1) * choose (n + 1) (k + 1) + choose (n + 1) (k + 1) by rw [Nat.add_mul, Nat.one_mul]]
    omega
/-- The first m terms of (1 + a)^n. -/
def bin (n a : Nat) : Nat → Nat
  | 0 => 0
  | m + 1 => bin n a m + choose n m * a ^ m
theorem bin_succ (n a : Nat) : ∀ m, bin (n + 1) a (m + 1) = bin n a (m + 1) + a * bin n a m
  | 0 => by simp [bin, choose_zero]
  | m + 1 => by
    rw [bin, bin_succ n a m]
    have e : bin n a (m + 1 + 1) = bin n a (m + 1) + choose n (m + 1) * a ^ (m + 1) := rfl
    have e2 : bin n a (m + 1) = bin n a m + choose n m * a ^ m := rfl
    have e3 : choose (n + 1) (m + 1) = choose n m + choose n (m + 1) := rfl
    rw [e, e3, Nat.add_mul]
    conv => rhs; rw [show a * bin n a (m + 1) = a * bin n a m + choose n m * a ^ (m + 1) by rw [e2, Nat.mul_add, Nat.pow_succ]; congr 1; rw [Nat.mul_left_comm, Nat.mul_comm a (a ^ m)]]
    omega
theorem bin_all (a : Nat) : ∀ n, bin n a (n + 1) = (1 + a) ^ n
  | 0 => by simp [bin, choose_zero]
  | n + 1 => by
    rw [bin_succ, Nat.pow_succ, Nat.mul_add, ← bin_all a n, Nat.mul_one, Nat.mul_comm a]
    have e : bin n a (n + 1 + 1) = bin n a (n + 1) := by
      show bin n a (n + 1) + choose n (n + 1) * a ^ (n + 1) = _
      rw [choose_gt n (n + 1) (by omega)]; omega
    rw [e]
theorem Pr.choose_dvd {p k : Nat} (h : Pr p) (h0 : 0 < k) (hk : k < p) : p ∣ choose p k := by
  obtain ⟨k, rfl⟩ : ∃ j, k = j + 1 := ⟨k - 1, by omega⟩
  obtain ⟨q, rfl⟩ : ∃ j, p = j + 1 := ⟨p - 1, by have := h.1; omega⟩
  have e := choose_mul q k
  rcases h.dvd_mul (show (q + 1) ∣ (k + 1) * choose (q + 1) (k + 1) from e ▸ Nat.dvd_mul_right _ _) with hd | hd
  · exact absurd (Nat.le_of_dvd (by omega) hd) (by omega)
  · exact hd
theorem Pr.bin_mod {p : Nat} (h : Pr p) (a : Nat) : ∀ m, 0 < m → m ≤ p → bin p a m % p = 1 % p
  | 1, _, _ => by simp [bin, choose_zero]
  | m + 1 + 1, _, hm => by
    show (bin p a (m + 1) + choose p (m + 1) * a ^ (m + 1)) % p = _
    obtain ⟨c, hc⟩ := h.choose_dvd (k := m + 1) (by omega) (by omega)
    rw [hc, Nat.mul_assoc, Nat.add_mul_mod_self_left]
    exact h.bin_mod a (m + 1) (by omega) (by omega)
theorem Pr.succ_pow {p : Nat} (h : Pr p) (a : Nat) : (1 + a) ^ p % p = (1 + a ^ p) % p := by
  rw [← bin_all]
  show (bin p a p + choose p p * a ^ p) % p = _
  rw [choose_self, Nat.one_mul, Nat.add_mod, h.bin_mod a p (by have := h.1; omega) (Nat.le_refl _), ← Nat.add_mod]
theorem Pr.fermat {p : Nat} (h : Pr p) : ∀ a, a ^ p % p = a % p
  | 0 => by rw [Nat.zero_pow (by have := h.1; omega)]
  | a + 1 => by
    rw [Nat.add_comm a 1, h.succ_pow, Nat.add_mod, h.fermat a, ← Nat.add_mod]
theorem Pr.dvd_sub_of_mod {p a b : Nat} (h : a % p = b % p) : p ∣ a - b := Nat.dvd_of_mod_eq_zero (Nat.sub_mod_eq_zero_of_mod_eq h)
theorem Pr.little {p a : Nat} (h : Pr p) (ha : ¬ p ∣ a) : a ^ (p - 1) % p = 1 := by
  have h1 := h.1
  have ha0 : 0 < a := Nat.pos_of_ne_zero fun e => ha (e ▸ Nat.dvd_zero p)
  have e : a ^ p = a * a ^ (p - 1) := by
    conv => lhs; rw [show p = p - 1 + 1 by omega, Nat.pow_succ, Nat.mul_comm]
  have hf := h.fermat a
  rw [e] at hf
  have hpos : 1 ≤ a ^ (p - 1) := Nat.pow_pos ha0
  have hd : p ∣ a * (a ^ (p - 1) - 1) := by
    rw [Nat.mul_sub, Nat.mul_one]
    exact Pr.dvd_sub_of_mod hf
  rcases h.dvd_mul hd with hd | ⟨c, hc⟩
  · exact absurd hd ha
  · rw [show a ^ (p - 1) = 1 + p * c by omega, Nat.add_mul_mod_self_left, Nat.mod_eq_of_lt h1]
theorem pow_mod' (a n r : Nat) : a ^ n % r = (a % r) ^ n % r := Nat.pow_mod a n r
theorem pow_one_mod {a r k : Nat} (n : Nat) (h : a ^ k % r = 1 % r) : a ^ (k * n) % r = 1 % r := by
  rw [Nat.pow_mul, Nat.pow_mod, h, ← Nat.pow_mod, Nat.one_pow]
theorem pow_gcd {b r : Nat} : ∀ (x y : Nat), b ^ x % r = 1 % r → b ^ y % r = 1 % r → b ^ Nat.gcd x y % r = 1 % r := by
  intro x y
  induction x, y using Nat.gcd.induction with
  | H0 y => intro _ h; rw [Nat.gcd_zero_left]; exact h
  | H1 x y hx ih =>
    intro h1 h2
    rw [Nat.gcd_rec]
    refine ih ?_ h1
    have e : b ^ y = b ^ (x * (y / x)) * b ^ (y % x) := by rw [← Nat.pow_add, Nat.div_add_mod]
    rw [e, Nat.mul_mod, pow_one_mod (y / x) h1, ← Nat.mul_mod, Nat.one_mul] at h2
    exact h2
theorem prime_divisor : ∀ n : Nat, 1 < n → ∃ r, Pr r ∧ r ∣ n := by
  intro n
  induction n using Nat.strongRecOn with
  | _ n ih =>
    intro hn
    by_cases h : Pr n
    · exact ⟨n, h, Nat.dvd_refl n⟩
    · have : ∃ d, d ∣ n ∧ d ≠ 1 ∧ d ≠ n := by
        apply Classical.byContradiction
        intro hc
        refine h ⟨hn, fun d hd => ?_⟩
        by_cases h1 : d = 1
        · exact Or.inl h1
        · by_cases h2 : d = n
          · exact Or.inr h2
          · exact absurd ⟨d, hd, h1, h2⟩ hc
      obtain ⟨d, hd, h1, h2⟩ := this
      have hle := Nat.le_of_dvd (by omega) hd
      have hp := Nat.pos_of_dvd_of_pos hd (by omega)
      obtain ⟨r, hr, hrd⟩ := ih d (by omega) (by omega)
      exact ⟨r, hr, Nat.dvd_trans hrd hd⟩
/-- A number that no prime up to its root divides is one. -/
theorem prime_of_none {n : Nat} (hn : 1 < n) (h : ∀ r, Pr r → r ∣ n → n < r * r) : Pr n := by
  refine ⟨hn, fun d hd => ?_⟩
  obtain ⟨c, rfl⟩ := hd
  by_cases h1 : d = 1
  · exact Or.inl h1
  · by_cases h2 : c = 1
    · subst h2; right; omega
    · have hd0 : 0 < d := Nat.pos_of_ne_zero fun e => by subst e; simp at hn
      have hc0 : 0 < c := Nat.pos_of_ne_zero fun e => by subst e; simp at hn
      obtain ⟨r, hr, hrd⟩ := prime_divisor d (by omega)
      obtain ⟨t, ht, htc⟩ := prime_divisor c (by omega)
      have a1 := h r hr (Nat.dvd_trans hrd (Nat.dvd_mul_right d c))
      have a2 := h t ht (Nat.dvd_trans htc (Nat.dvd_mul_left c d))
      have b1 := Nat.le_of_dvd hd0 hrd
      have b2 := Nat.le_of_dvd hc0 htc
      exfalso
      by_cases hrt : r ≤ t
      · have c1 : r * t ≤ d * c := Nat.mul_le_mul b1 b2
        have c2 : d * c < r * r := a1
        have c3 : r * r ≤ r * t := Nat.mul_le_mul_left r hrt
        omega
      · have c1 : r * t ≤ d * c := Nat.mul_le_mul b1 b2
        have c3 : t * t ≤ r * t := Nat.mul_le_mul_right t (by omega)
        omega
/-- Pocklington's step: q divides what each prime divisor has less one. -/
theorem pock {n q m a r : Nat} (hq : Pr q) (hn : n = q * m + 1) (h1 : a ^ (q * m) % n = 1 % n) {A : Nat} (hA : A % n = a ^ m % n) (h2 : Nat.gcd (A - 1) n = 1) (hr : Pr r) (hd : r ∣ n) : q ∣ r - 1 := by
  apply Classical.byContradiction
  intro hc
  have hg := hq.cop hc
  have hr1 := hr.1
  have h1r : a ^ (q * m) % r = 1 % r := by
    rw [← Nat.mod_mod_of_dvd _ hd, h1, Nat.mod_mod_of_dvd _ hd]
  have hra : ¬ r ∣ a := by
    intro ha
    have : 0 < q * m := by
      apply Nat.pos_of_ne_zero
      intro e
      rw [e] at hn
      subst hn
      exact absurd (Nat.le_of_dvd (by omega) hd) (by omega)
    have e2 : a ^ (q * m) % r = 0 := Nat.mod_eq_zero_of_dvd (Nat.dvd_trans ha ⟨a ^ (q * m - 1), by conv => lhs; rw [show q * m = q * m - 1 + 1 by omega, Nat.pow_succ, Nat.mul_comm]⟩)
    rw [e2, Nat.mod_eq_of_lt hr1] at h1r
    omega
  have hl := hr.little hra
  have g1 : (a ^ m) ^ q % r = 1 % r := by rw [← Nat.pow_mul, Nat.mul_comm]; exact h1r
  have g2 : (a ^ m) ^ (r - 1) % r = 1 % r := by
    rw [← Nat.pow_mul, Nat.mul_comm]
    exact pow_one_mod m (by rw [hl, Nat.mod_eq_of_lt hr1])
  have g3 := pow_gcd q (r - 1) g1 g2
  rw [hg, Nat.pow_one] at g3
  rw [← Nat.mod_mod_of_dvd _ hd, ← hA, Nat.mod_mod_of_dvd _ hd] at g3
  have hdv : r ∣ A - 1 := Pr.dvd_sub_of_mod g3
  have := Nat.dvd_gcd hdv hd
  rw [h2] at this
  exact absurd (Nat.le_of_dvd (by omega) this) (by omega)
/-- A power modulo n, by squares; the first number only bounds the steps. -/
def pm (n : Nat) : Nat → Nat → Nat → Nat
  | 0, _, _ => 1 % n
  | k + 1, a, e => bif e % 2 == 1 then a * pm n k (a * a % n) (e / 2) % n else pm n k (a * a % n) (e / 2)
theorem pm_eq (n : Nat) : ∀ (k a e : Nat), e < 2 ^ k → pm n k a e = a ^ e % n
  | 0, a, e, h => by
    have : e = 0 := by simpa using h
    subst this; rfl
  | k + 1, a, e, h => by
    have hlt : e / 2 < 2 ^ k := by rw [Nat.pow_succ] at h; omega
    have ih := pm_eq n k (a * a % n) (e / 2) hlt
    have e2 : (a * a % n) ^ (e / 2) % n = a ^ (2 * (e / 2)) % n := by
      rw [← Nat.pow_mod, Nat.pow_mul]
      rw [show a ^ 2 = a * a by rw [Nat.pow_succ, Nat.pow_one]]
    rw [pm, ih, e2]
    by_cases hb : e % 2 = 1
    · rw [show (e % 2 == 1) = true by simp [hb]]
      show a * _ % n = _
      rw [Nat.mul_mod, Nat.mod_mod, ← Nat.mul_mod]
      conv => rhs; rw [show e = 2 * (e / 2) + 1 by omega, Nat.pow_succ, Nat.mul_comm]
    · rw [show (e % 2 == 1) = false by simp [hb]]
      show a ^ (2 * (e / 2)) % n = _
      rw [show 2 * (e / 2) = e by omega]
/-- No number from 2 to k + 1 divides n. -/
def noDiv (n : Nat) : Nat → Bool
  | 0 => true
  | k + 1 => (n % (k + 2) != 0) && noDiv n k
theorem noDiv_spec {n : Nat} : ∀ k, noDiv n k = true → ∀ r, 2 ≤ r → r ≤ k + 1 → ¬ r ∣ n
  | 0, _, r, h1, h2, _ => by omega
  | k + 1, h, r, h1, h2, hd => by
    rw [noDiv, Bool.and_eq_true] at h
    by_cases e : r = k + 2
    · subst e
      have := Nat.mod_eq_zero_of_dvd hd
      simp [this] at h
    · exact noDiv_spec k h.2 r h1 (by omega) hd
theorem prime_small {n : Nat} (k : Nat) (hn : 1 < n) (hk : n < (k + 2) * (k + 2)) (h : noDiv n k = true) : Pr n := by
  refine prime_of_none hn fun r hr hd => ?_
  have h1 := hr.1
  have : ¬ r ≤ k + 1 := fun hle => noDiv_spec k h r h1 hle hd
  exact Nat.lt_of_lt_of_le hk (Nat.mul_le_mul (by omega) (by omega))
/-- From two primes whose product is above the root. -/
theorem pock2 {n q m q' m' a : Nat} (hq : Pr q) (hq' : Pr q') (hne : q ≠ q') (hn : n = q * m + 1) (hn' : n = q' * m' + 1) (hsz : n < (q * q' + 1) * (q * q' + 1))
    (h1 : pm n 256 a (q * m) = 1 % n) (h2 : Nat.gcd (pm n 256 a m - 1) n = 1) (h1' : pm n 256 a (q' * m') = 1 % n) (h2' : Nat.gcd (pm n 256 a m' - 1) n = 1) (hb : n < 2 ^ 256) (hn1 : 1 < n) : Pr n := by
  have hqm : q * m < 2 ^ 256 := by omega
  have hqm' : q' * m' < 2 ^ 256 := by omega
  have hml : m < 2 ^ 256 := Nat.lt_of_le_of_lt (Nat.le_mul_of_pos_left m (by have := hq.1; omega)) hqm
  have hml' : m' < 2 ^ 256 := Nat.lt_of_le_of_lt (Nat.le_mul_of_pos_left m' (by have := hq'.1; omega)) hqm'
  rw [pm_eq n 256 a _ hqm] at h1
  rw [pm_eq n 256 a _ hqm'] at h1'
  refine prime_of_none hn1 fun r hr hd => ?_
  have d1 := pock hq hn h1 (A := pm n 256 a m) (by rw [pm_eq n 256 a _ hml, Nat.mod_mod]) h2 hr hd
  have d2 := pock hq' hn' h1' (A := pm n 256 a m') (by rw [pm_eq n 256 a _ hml', Nat.mod_mod]) h2' hr hd
  have hc : Nat.gcd q q' = 1 := hq.cop fun hdq => by
    rcases hq'.2 q hdq with e | e
    · have := hq.1; omega
    · exact hne e
  have d3 : q * q' ∣ r - 1 := Nat.Coprime.mul_dvd_of_dvd_of_dvd hc d1 d2
  have hr1 := hr.1
  have hle := Nat.le_of_dvd (by omega) d3
  exact Nat.lt_of_lt_of_le hsz (Nat.mul_le_mul (by omega) (by omega))
/-- From one prime above the root. -/
theorem pock1 {n q m a : Nat} (hq : Pr q) (hn : n = q * m + 1) (hsz : n < (q + 1) * (q + 1))
    (h1 : pm n 256 a (q * m) = 1 % n) (h2 : Nat.gcd (pm n 256 a m - 1) n = 1) (hb : n < 2 ^ 256) (hn1 : 1 < n) : Pr n := by
  have hqm : q * m < 2 ^ 256 := by omega
  have hml : m < 2 ^ 256 := Nat.lt_of_le_of_lt (Nat.le_mul_of_pos_left m (by have := hq.1; omega)) hqm
  rw [pm_eq n 256 a _ hqm] at h1
  refine prime_of_none hn1 fun r hr hd => ?_
  have d1 := pock hq hn h1 (A := pm n 256 a m) (by rw [pm_eq n 256 a _ hml, Nat.mod_mod]) h2 hr hd
  have hr1 := hr.1
  have hle := Nat.le_of_dvd (by omega) d1
  exact Nat.lt_of_lt_of_le hsz (Nat.mul_le_mul (by omega) (by omega))
theorem pr_75707 : Pr 75707 := prime_small 275 (by decide) (by decide) (by decide +kernel)
theorem pr_8574133 : Pr 8574133 := prime_small 2929 (by decide) (by decide) (by decide +kernel)
theorem pr_127 : Pr 127 := prime_small 11 (by decide) (by decide) (by decide +kernel)
theorem pr_4153 : Pr 4153 := prime_small 64 (by decide) (by decide) (by decide +kernel)
theorem pr_430751 : Pr 430751 := prime_small 656 (by decide) (by decide) (by decide +kernel)
theorem pr_q3 : Pr 1919519569386763 := pock2 (m := 1919519569386762 / 8574133) (m' := 1919519569386762 / 127) (a := 2) pr_8574133 pr_127 (by decide) (by decide +kernel) (by decide +kernel) (by decide +kernel) (by decide +kernel) (by decide +kernel) (by decide +kernel) (by decide +kernel) (by decide +kernel) (by decide +kernel)
theorem pr_q2 : Pr 31757755568855353 := pock2 (m := 31757755568855352 / 430751) (m' := 31757755568855352 / 4153) (a := 2) pr_430751 pr_4153 (by decide) (by decide +kernel) (by decide +kernel) (by decide +kernel) (by decide +kernel) (by decide +kernel) (by decide +kernel) (by decide +kernel) (by decide +kernel) (by decide +kernel)
theorem pr_q1 : Pr 75445702479781427272750846543864801 := pock2 (m := 75445702479781427272750846543864800 / 1919519569386763) (m' := 75445702479781427272750846543864800 / 75707) (a := 2) pr_q3 pr_75707 (by decide) (by decide +kernel) (by decide +kernel) (by decide +kernel) (by decide +kernel) (by decide +kernel) (by decide +kernel) (by decide +kernel) (by decide +kernel) (by decide +kernel)
theorem pr_q : Pr 74058212732561358302231226437062788676166966415465897661863160754340907 := pock2 (m := 74058212732561358302231226437062788676166966415465897661863160754340906 / 75445702479781427272750846543864801) (m' := 74058212732561358302231226437062788676166966415465897661863160754340906 / 31757755568855353) (a := 2) pr_q1 pr_q2 (by decide +kernel) (by decide +kernel) (by decide +kernel) (by decide +kernel) (by decide +kernel) (by decide +kernel) (by decide +kernel) (by decide +kernel) (by decide +kernel) (by decide +kernel)
/-- 2^255 - 19. -/
def pF : Nat := 57896044618658097711785492504343953926634992332820282019728792003956564819949
theorem pF_eq : pF = 2 ^ 255 - 19 := by decide +kernel
theorem pr_p : Pr pF := pock1 (q := 74058212732561358302231226437062788676166966415465897661863160754340907) (m := 781764) (a := 2) pr_q (by decide +kernel) (by decide +kernel) (by decide +kernel) (by decide +kernel) (by decide +kernel) (by decide +kernel)
end Go.Proofs.Ytockcnglennihaa
end
section
namespace Go.Proofs.Ytockcnglennihaa
open Go.RowKit Go.Lib
def numC (k : IntKind) (l : List Nat) : List Value := l.map fun (x : Nat) => .int k (x : Int)
theorem numC_length (k : IntKind) (l : List Nat) : (numC k l).length = l.length := by simp [numC]
theorem numC_one (k : IntKind) (l : List Nat) : (numC k l).toArray.all (·.oneCell') = true := by simp [numC, Value.oneCell']
/-- An array of numbers as a value. -/
def aggN (k : IntKind) (l : List Nat) : Value := .agg (numC k l).toArray
/-- An array of numbers in block g. -/
structure Arr (w : World) (g : Nat) (t : TypeId) (k : IntKind) (l : List Nat) : Prop where
  blk : w.heap[g]? = some (.cells (numC k l).toArray t (0, 0))
section
variable {w w' : World} {g : Nat} {t : TypeId} {k : IntKind} {l : List Nat}
theorem Arr.lt (h : Arr w g t k l) : g < w.heap.size := (Array.getElem?_eq_some_iff.1 h.blk).1
theorem Arr.cell (h : Arr w g t k l) (i : Nat) (hi : i < l.length) : w.cell? ⟨g, i, none⟩ = some (.int k (l.getD i 0 : Nat)) := by
  rw [cell_of_row w g _ _ _ _ h.blk, List.getElem?_toArray]
  simp [numC, hi]
theorem Arr.frozen (h : Arr w g t k l) (i : Nat) : w.frozen? ⟨g, i, none⟩ = false := frozen_of_row w g i _ _ h.blk
theorem Arr.of_heap (h : Arr w g t k l) (e : w'.heap[g]? = w.heap[g]?) : Arr w' g t k l := ⟨e.trans h.blk⟩
theorem Arr.below {B : Nat} (h : Arr w g t k l) (hb : Below B w w') (hg : g < B) : Arr w' g t k l := h.of_heap (hb.block g hg)
theorem Arr.from (h : Arr w g t k l) (hb : Below w.heap.size w w') : Arr w' g t k l := h.below hb h.lt
theorem Arr.set (h : Arr w g t k l) (i x : Nat) : Arr (w.setCell ⟨g, i, none⟩ (.int k (x : Int))) g t k (l.set i x) := by
  refine ⟨(heap_setCell_same _ _ _ _ _ _ h.blk).trans ?_⟩
  rw [List.setIfInBounds_toArray]
  simp [numC, List.map_set]
theorem Arr.other (h : Arr w g t k l) {g' : Nat} (hne : g ≠ g') (i : Nat) (v : Value) : Arr (w.setCell ⟨g', i, none⟩ v) g t k l :=
  h.of_heap (Below.heap_setCell w ⟨g', i, none⟩ v g hne)
theorem Arr.new (w : World) (t : TypeId) (k : IntKind) (l : List Nat) : Arr (w.alloc (.cells (numC k l).toArray t)) w.heap.size t k l := ⟨heap_alloc_new w _⟩
theorem Arr.drewN (h : Arr w g t k l) (n : Nat) : Arr (w.drewN n) g t k l := ⟨h.blk⟩
end
theorem below_drewN {B : Nat} {w w' : World} (h : Below B w w') : ∀ (n : Nat), Below B w (w'.drewN n)
  | 0 => h
  | n + 1 => (below_drewN h n).drew
theorem set_mid (d r : List Nat) (x y : Nat) : (d ++ x :: r).set d.length y = (d ++ [y]) ++ r := by simp
theorem drop_getD (l : List Nat) (i : Nat) (h : i < l.length) : l.drop i = l.getD i 0 :: l.drop (i + 1) := by
  rw [List.drop_eq_getElem_cons h]; simp [h]
theorem Arr.step {w : World} {g i : Nat} {t : TypeId} {k : IntKind} {d r r' : List Nat} {x : Nat} (h : Arr w g t k (d ++ r)) (hr : r = x :: r') (hd : d.length = i) {v : Int} (y : Nat) (hv : v = (y : Int)) :
    Arr (w.setCell ⟨g, i, none⟩ (.int k v)) g t k ((d ++ [y]) ++ r') := by
  have h2 := h.set i y
  rw [hr, ← hd, set_mid] at h2
  rw [hv, ← hd]
  exact h2
theorem Arr.cellMid {w : World} {g i : Nat} {t : TypeId} {k : IntKind} {d r r' : List Nat} {x : Nat} (h : Arr w g t k (d ++ r)) (hr : r = x :: r') (hd : d.length = i) : w.cell? ⟨g, i, none⟩ = some (.int k (x : Int)) := by
  rw [hr] at h
  have h2 := h.cell i (by rw [← hd]; simp)
  rw [h2]
  have : (d ++ x :: r').getD i 0 = x := by rw [← hd]; simp
  rw [this]
theorem val_eq {k : IntKind} {a b : Int} (h : a = b) : Value.int k a = .int k b := by rw [h]
theorem getD_ltN {l : List Nat} {B : Nat} (h : ∀ x ∈ l, x < B) (i : Nat) (hi : i < l.length) : l.getD i 0 < B := by
  refine h _ ?_
  rw [List.getD_eq_getElem?_getD, List.getElem?_eq_getElem hi]
  simp
/-- The value of limbs, the lowest first. -/
def valB (B : Nat) : List Nat → Nat
  | [] => 0
  | x :: r => x + B * valB B r
/-- The k lowest limbs of a number. -/
def limbs (B : Nat) : Nat → Nat → List Nat
  | 0, _ => []
  | k + 1, x => x % B :: limbs B k (x / B)
theorem limbs_len (B : Nat) : ∀ (k x : Nat), (limbs B k x).length = k
  | 0, _ => rfl
  | k + 1, x => by rw [limbs, List.length_cons, limbs_len B k]
theorem limbs_lt {B : Nat} (hB : 0 < B) : ∀ (k x : Nat), ∀ y ∈ limbs B k x, y < B
  | 0, _, y, h => by simp [limbs] at h
  | k + 1, x, y, h => by
    rw [limbs, List.mem_cons] at h
    rcases h with rfl | h
    · exact Nat.mod_lt _ hB
    · exact limbs_lt hB k _ y h
theorem limbs_val {B : Nat} (hB : 0 < B) : ∀ (l : List Nat), (∀ x ∈ l, x < B) → limbs B l.length (valB B l) = l
  | [], _ => rfl
  | x :: r, h => by
    have hx := h x (by simp)
    rw [List.length_cons, limbs, valB, Nat.add_mul_mod_self_left, Nat.mod_eq_of_lt hx, Nat.add_mul_div_left _ _ hB, Nat.div_eq_of_lt hx, Nat.zero_add, limbs_val hB r fun y hy => h y (by simp [hy])]
theorem val_limbs {B : Nat} : ∀ (k x : Nat), valB B (limbs B k x) = x % B ^ k
  | 0, x => by rw [Nat.pow_zero, Nat.mod_one]; rfl
  | k + 1, x => by rw [limbs, valB, val_limbs k, Nat.pow_succ, Nat.mul_comm (B ^ k) B, Nat.mod_mul]
theorem valB_lt {B : Nat} (hB : 0 < B) : ∀ (l : List Nat), (∀ x ∈ l, x < B) → valB B l < B ^ l.length
  | [], _ => by simp [valB]
  | x :: r, h => by
    have hx := h x (by simp)
    have ih := valB_lt hB r fun y hy => h y (by simp [hy])
    rw [valB, List.length_cons, Nat.pow_succ, Nat.mul_comm _ B]
    have : B * (valB B r + 1) ≤ B * B ^ r.length := Nat.mul_le_mul_left B ih
    rw [Nat.mul_add] at this
    omega
theorem limbs_eq {B : Nat} (hB : 0 < B) (l : List Nat) (k n : Nat) (hk : l.length = k) (h : ∀ x ∈ l, x < B) (hv : valB B l = n) : l = limbs B k n := by
  subst hk; subst hv; exact (limbs_val hB l h).symm
end Go.Proofs.Ytockcnglennihaa
end
section
namespace Go.Proofs.Ytockcnglennihaa
open Go.RowKit Go.Lib
def addL : List Nat → List Nat → Nat → List Nat
  | x :: xs, y :: ys, c => (x + y + c) % 4294967296 :: addL xs ys ((x + y + c) / 4294967296)
  | _, _, _ => []
theorem addL_nil (ys : List Nat) (c : Nat) : addL [] ys c = [] := by cases ys <;> rfl
theorem infoN : (Try.prog.info? 78).map (·.size) = some 8 := by kernel_rfl
theorem zeroN : ∃ Z : Array Value, Z.size = 8 ∧ ∀ w, (zeroValue 78).run Try.prog w = .ok (.agg Z) w :=
  ⟨(numC .u32 (List.replicate 8 0)).toArray, by kernel_rfl, (zero_of_info (n := 8) (by kernel_rfl)).1⟩
def NumPost (l : List Nat) (w : World) (e : Ending) (w' : World) : Prop := e = .returned (aggN .u32 l) ∧ Below w.heap.size w w'
set_option maxHeartbeats 1000000 in
theorem sum_any (a b : List Nat) (ha : a.length = 8) (hb : b.length = 8) (hal : ∀ x ∈ a, x < 4294967296) (hbl : ∀ x ∈ b, x < 4294967296) (w : World) :
    Calls Try.prog 79 #[aggN .u32 a, aggN .u32 b] w (NumPost (addL a b 0) w) := by
  obtain ⟨Z, hZ, hz⟩ := zeroN
  replace hZ := Kept.mk hZ
  replace ha := Kept.mk ha
  replace hb := Kept.mk hb
  replace hal := Kept.mk hal
  replace hbl := Kept.mk hbl
  obtain ⟨A, hA⟩ : ∃ A, (numC .u32 a).toArray = A := ⟨_, rfl⟩
  obtain ⟨B, hB⟩ : ∃ B, (numC .u32 b).toArray = B := ⟨_, rfl⟩
  unfold aggN
  rw [hA, hB]
  go_enter Try.func79, Try.ntmps79
  go_wp2
  have h1 : Arr (((w.alloc (.cells A 78)).alloc (.cells B 78)).alloc (.cells Z 78)) w.heap.size 78 .u32 a := by
    have h := Arr.new w 78 .u32 a
    rw [hA] at h
    exact (h.from ((Below.refl _ _).alloc (Nat.le_refl _) _)).from ((Below.refl _ _).alloc (Nat.le_refl _) _)
  have h2 : Arr (((w.alloc (.cells A 78)).alloc (.cells B 78)).alloc (.cells Z 78)) (w.heap.size + 1) 78 .u32 b := by
    have h := Arr.new (w.alloc (.cells A 78)) 78 .u32 b
    rw [hB, World.size_alloc] at h
    exact h.from ((Below.refl _ _).alloc (Nat.le_refl _) _)
  have h3 : (((w.alloc (.cells A 78)).alloc (.cells B 78)).alloc (.cells Z 78)).heap[w.heap.size + 2]? = some (.cells Z 78 (0, 0)) := by
    have h := heap_alloc_new ((w.alloc (.cells A 78)).alloc (.cells B 78)) (.cells Z 78)
    simpa using h
  have h4 : Below w.heap.size w (((w.alloc (.cells A 78)).alloc (.cells B 78)).alloc (.cells Z 78)) :=
    (((Below.refl _ _).alloc (Nat.le_refl _) _).alloc (by simp) _).alloc (by simp; omega) _
  replace hA := Kept.mk hA
  replace hB := Kept.mk hB
  generalize ((w.alloc (.cells A 78)).alloc (.cells B 78)).alloc (.cells Z 78) = w0 at h1 h2 h3 h4 ⊢
  obtain ⟨n, hn⟩ : ∃ n, w.heap.size = n := ⟨_, rfl⟩
  rw [hn] at h1 h2 h3 ⊢
  replace h1 := Kept.mk h1
  replace h2 := Kept.mk h2
  replace h3 := Kept.mk h3
  replace h4 := Kept.mk h4
  replace hn := Kept.mk hn
  go_loopw [5, 8] (fun v5 v8 wr => ∃ (i c : Nat) (d : List Nat), i ≤ 8 ∧ c ≤ 1 ∧ v5 = .int .u64 (c : Int) ∧ v8 = .int .i64 (i : Int) ∧ Kept (d.length = i) ∧ Kept (Arr wr n 78 .u32 (d ++ a.drop i)) ∧ Kept (Arr wr (n + 1) 78 .u32 b) ∧
    Kept (wr.heap[n + 2]? = some (.cells Z 78 (0, 0))) ∧ Kept (Below w.heap.size w wr) ∧ Kept (d ++ addL (a.drop i) (b.drop i) c = addL a b 0)) (fun _ v8 _ => 8 - (RowKit.intOf v8).toNat)
  case atStart => exact ⟨0, 0, [], by omega, by omega, rfl, rfl, ⟨rfl⟩, h1, h2, h3, h4, ⟨rfl⟩⟩
  case round =>
    clear h1 h2 h3 h4
    obtain ⟨i, c, d, hi, hc, rfl, rfl, HD, H1, H2, H3, H4, HE⟩ := hrel
    by_cases hlt : i < 8
    · obtain ⟨x, hx⟩ : ∃ x, a.getD i 0 = x := ⟨_, rfl⟩
      obtain ⟨y, hy⟩ : ∃ y, b.getD i 0 = y := ⟨_, rfl⟩
      have hda := drop_getD a i (by rw [ha.out]; exact hlt)
      have hdb := drop_getD b i (by rw [hb.out]; exact hlt)
      rw [hx] at hda
      rw [hy] at hdb
      have c1 : ∀ u : Held (From wr.drew), u.w.cell? ⟨n, i, none⟩ = some (.int .u32 (x : Int)) := fun u => (H1.out.from u.h.of_drew).cellMid hda HD.out
      have c2 : ∀ u : Held (From wr.drew), u.w.cell? ⟨n + 1, i, none⟩ = some (.int .u32 (y : Int)) := fun u => hy ▸ (H2.out.from u.h.of_drew).cell i (by rw [hb.out]; exact hlt)
      replace hda := Kept.mk hda
      replace hdb := Kept.mk hdb
      have hxl : x < 4294967296 := hx ▸ getD_ltN hal.out i (by rw [ha.out]; exact hlt)
      have hyl : y < 4294967296 := hy ▸ getD_ltN hbl.out i (by rw [hb.out]; exact hlt)
      replace hx := Kept.mk hx
      replace hy := Kept.mk hy
      go_wp2
      refine wp_region_from (by kernel_rfl) (by kernel_rfl) ?_
      repeat (go_big_quiet_step (fail))
      refine wpQuiet_nil ?_
      intro w5 hw5
      have H15 := H1.out.from hw5.of_drew
      have H25 := H2.out.from hw5.of_drew
      have f5 := H15.frozen i
      have c5 := H15.cellMid hda.out HD.out
      have b5 := H4.out.trans (hw5.of_drew.mono H4.out.size)
      have h35 := (hw5.of_drew.block (n + 2) (Array.getElem?_eq_some_iff.1 H3.out).1).trans H3.out
      replace H15 := Kept.mk H15
      replace H25 := Kept.mk H25
      replace b5 := Kept.mk b5
      replace h35 := Kept.mk h35
      clear c1 c2
      go_wp2
      go_roundw
      case rel => exact ⟨i + 1, (x + y + c) / 4294967296, d ++ [(x + y + c) % 4294967296], by omega, by omega, val_eq (by omega), val_eq (by omega), ⟨by rw [List.length_append, HD.out]; rfl⟩, ⟨H15.out.step hda.out HD.out _ (by omega)⟩,
        ⟨H25.out.other (by omega) _ _⟩, ⟨(Below.heap_setCell w5 ⟨n, i, none⟩ _ (n + 2) (by simp)).trans h35.out⟩, ⟨b5.out.setCell (by simp [hn.out]) _⟩, ⟨by
          have h := HE.out
          rw [hda.out, hdb.out, addL] at h
          rw [List.append_assoc]
          exact h⟩⟩
      case measure => simp [RowKit.intOf]; omega
    · obtain rfl : i = 8 := by omega
      have hA8 : Arr wr n 78 .u32 d := by have h := H1.out; rw [List.drop_eq_nil_of_le (by rw [ha.out]; omega), List.append_nil] at h; exact h
      have hd : d = addL a b 0 := by have h := HE.out; rw [List.drop_eq_nil_of_le (by rw [ha.out]; omega), addL_nil, List.append_nil] at h; exact h
      replace hA8 := Kept.mk hA8
      replace hd := Kept.mk hd
      clear HE H1
      go_wp2_with (first
        | (refine wpList_load_row rfl 78 (.tmp 2) rfl n rfl 78 (numC .u32 d).toArray (0, 0) _ hA8.out.blk Try.underlying78 rfl ?_ ?_; (rw [infoN, List.size_toArray, numC_length, HD.out]))
        | (refine wpList_store_row rfl 78 (.tmp 4) (.tmp 29) rfl (n + 2) (numC .u32 d).toArray rfl rfl 78 Z H3.out ?_ ?_ (numC_one _ _) ?_; (rw [infoN, List.size_toArray, numC_length, HD.out]); (rw [hZ.out, List.size_toArray, numC_length, HD.out])))
      exact bodyPost_ret (results_cell_row (p := 4) (ty := 78) Try.results79 _ _ (n + 2) 78 (numC .u32 d).toArray (0, 0) _ rfl (setRow_heap _ _ _ _ _ _ H3.out) Try.underlying78 rfl (by rw [infoN, List.size_toArray, numC_length, HD.out])) rfl
        ⟨by rw [← hd.out]; rfl, below_setRow H4.out (by rw [hn.out]; omega) _⟩
end Go.Proofs.Ytockcnglennihaa
end
section
namespace Go.Proofs.Ytockcnglennihaa
open Go.RowKit Go.Lib
def subL : List Nat → List Nat → Nat → List Nat
  | x :: xs, y :: ys, c => (x + 4294967296 - y - c) % 4294967296 :: subL xs ys (if x < y + c then 1 else 0)
  | _, _, _ => []
theorem subL_nil (ys : List Nat) (c : Nat) : subL [] ys c = [] := by cases ys <;> rfl
theorem under_hi (x y c : Nat) (hx : x < 4294967296) (hy : y < 4294967296) (hc : c ≤ 1) : IntKind.u64.wrap (IntKind.u64.wrap ((x : Int) - (y : Int)) - (c : Int)) / 9223372036854775808 = (((if x < y + c then 1 else 0 : Nat)) : Int) := by
  simp only [IntKind.wrap, IntKind.signed, IntKind.bits]
  by_cases h : x < y + c
  · rw [if_pos h]; simp; omega
  · rw [if_neg h]; simp; omega
theorem under_lo (x y c : Nat) (hx : x < 4294967296) (hy : y < 4294967296) (hc : c ≤ 1) : IntKind.u64.wrap (IntKind.u64.wrap ((x : Int) - (y : Int)) - (c : Int)) % 4294967296 = (((x + 4294967296 - y - c) % 4294967296 : Nat) : Int) := by
  simp only [IntKind.wrap, IntKind.signed, IntKind.bits]
  simp; omega
set_option maxHeartbeats 1000000 in
theorem diff_any (a b : List Nat) (ha : a.length = 8) (hb : b.length = 8) (hal : ∀ x ∈ a, x < 4294967296) (hbl : ∀ x ∈ b, x < 4294967296) (w : World) :
    Calls Try.prog 85 #[aggN .u32 a, aggN .u32 b] w (NumPost (subL a b 0) w) := by
  obtain ⟨Z, hZ, hz⟩ := zeroN
  replace hZ := Kept.mk hZ
  replace ha := Kept.mk ha
  replace hb := Kept.mk hb
  replace hal := Kept.mk hal
  replace hbl := Kept.mk hbl
  obtain ⟨A, hA⟩ : ∃ A, (numC .u32 a).toArray = A := ⟨_, rfl⟩
  obtain ⟨B, hB⟩ : ∃ B, (numC .u32 b).toArray = B := ⟨_, rfl⟩
  unfold aggN
  rw [hA, hB]
  go_enter Try.func85, Try.ntmps85
  go_wp2
  have h1 : Arr (((w.alloc (.cells A 78)).alloc (.cells B 78)).alloc (.cells Z 78)) w.heap.size 78 .u32 a := by
    have h := Arr.new w 78 .u32 a
    rw [hA] at h
    exact (h.from ((Below.refl _ _).alloc (Nat.le_refl _) _)).from ((Below.refl _ _).alloc (Nat.le_refl _) _)
  have h2 : Arr (((w.alloc (.cells A 78)).alloc (.cells B 78)).alloc (.cells Z 78)) (w.heap.size + 1) 78 .u32 b := by
    have h := Arr.new (w.alloc (.cells A 78)) 78 .u32 b
    rw [hB, World.size_alloc] at h
    exact h.from ((Below.refl _ _).alloc (Nat.le_refl _) _)
  have h3 : (((w.alloc (.cells A 78)).alloc (.cells B 78)).alloc (.cells Z 78)).heap[w.heap.size + 2]? = some (.cells Z 78 (0, 0)) := by
    have h := heap_alloc_new ((w.alloc (.cells A 78)).alloc (.cells B 78)) (.cells Z 78)
    simpa using h
  have h4 : Below w.heap.size w (((w.alloc (.cells A 78)).alloc (.cells B 78)).alloc (.cells Z 78)) :=
    (((Below.refl _ _).alloc (Nat.le_refl _) _).alloc (by simp) _).alloc (by simp; omega) _
  replace hA := Kept.mk hA
  replace hB := Kept.mk hB
  generalize ((w.alloc (.cells A 78)).alloc (.cells B 78)).alloc (.cells Z 78) = w0 at h1 h2 h3 h4 ⊢
  obtain ⟨n, hn⟩ : ∃ n, w.heap.size = n := ⟨_, rfl⟩
  rw [hn] at h1 h2 h3 ⊢
  replace h1 := Kept.mk h1
  replace h2 := Kept.mk h2
  replace h3 := Kept.mk h3
  replace h4 := Kept.mk h4
  replace hn := Kept.mk hn
  go_loopw [5, 8] (fun v5 v8 wr => ∃ (i c : Nat) (d : List Nat), i ≤ 8 ∧ c ≤ 1 ∧ v5 = .int .u64 (c : Int) ∧ v8 = .int .i64 (i : Int) ∧ Kept (d.length = i) ∧ Kept (Arr wr n 78 .u32 (d ++ a.drop i)) ∧ Kept (Arr wr (n + 1) 78 .u32 b) ∧
    Kept (wr.heap[n + 2]? = some (.cells Z 78 (0, 0))) ∧ Kept (Below w.heap.size w wr) ∧ Kept (d ++ subL (a.drop i) (b.drop i) c = subL a b 0)) (fun _ v8 _ => 8 - (RowKit.intOf v8).toNat)
  case atStart => exact ⟨0, 0, [], by omega, by omega, rfl, rfl, ⟨rfl⟩, h1, h2, h3, h4, ⟨rfl⟩⟩
  case round =>
    clear h1 h2 h3 h4
    obtain ⟨i, c, d, hi, hc, rfl, rfl, HD, H1, H2, H3, H4, HE⟩ := hrel
    by_cases hlt : i < 8
    · obtain ⟨x, hx⟩ : ∃ x, a.getD i 0 = x := ⟨_, rfl⟩
      obtain ⟨y, hy⟩ : ∃ y, b.getD i 0 = y := ⟨_, rfl⟩
      have hda := drop_getD a i (by rw [ha.out]; exact hlt)
      have hdb := drop_getD b i (by rw [hb.out]; exact hlt)
      rw [hx] at hda
      rw [hy] at hdb
      have c1 : ∀ u : Held (From wr.drew), u.w.cell? ⟨n, i, none⟩ = some (.int .u32 (x : Int)) := fun u => (H1.out.from u.h.of_drew).cellMid hda HD.out
      have c2 : ∀ u : Held (From wr.drew), u.w.cell? ⟨n + 1, i, none⟩ = some (.int .u32 (y : Int)) := fun u => hy ▸ (H2.out.from u.h.of_drew).cell i (by rw [hb.out]; exact hlt)
      replace hda := Kept.mk hda
      replace hdb := Kept.mk hdb
      have hxl : x < 4294967296 := hx ▸ getD_ltN hal.out i (by rw [ha.out]; exact hlt)
      have hyl : y < 4294967296 := hy ▸ getD_ltN hbl.out i (by rw [hb.out]; exact hlt)
      replace hx := Kept.mk hx
      replace hy := Kept.mk hy
      go_wp2
      refine wp_region_from (by kernel_rfl) (by kernel_rfl) ?_
      repeat (go_big_quiet_step (fail))
      refine wpQuiet_nil ?_
      intro w5 hw5
      have H15 := H1.out.from hw5.of_drew
      have H25 := H2.out.from hw5.of_drew
      have f5 := H15.frozen i
      have c5 := H15.cellMid hda.out HD.out
      have b5 := H4.out.trans (hw5.of_drew.mono H4.out.size)
      have h35 := (hw5.of_drew.block (n + 2) (Array.getElem?_eq_some_iff.1 H3.out).1).trans H3.out
      replace H15 := Kept.mk H15
      replace H25 := Kept.mk H25
      replace b5 := Kept.mk b5
      replace h35 := Kept.mk h35
      clear c1 c2
      go_wp2
      go_roundw
      case rel => exact ⟨i + 1, (if x < y + c then 1 else 0), d ++ [(x + 4294967296 - y - c) % 4294967296], by omega, by split <;> omega, val_eq (under_hi x y c hxl hyl hc), val_eq (by omega), ⟨by rw [List.length_append, HD.out]; rfl⟩, ⟨H15.out.step hda.out HD.out _ (under_lo x y c hxl hyl hc)⟩,
        ⟨H25.out.other (by omega) _ _⟩, ⟨(Below.heap_setCell w5 ⟨n, i, none⟩ _ (n + 2) (by simp)).trans h35.out⟩, ⟨b5.out.setCell (by simp [hn.out]) _⟩, ⟨by
          have h := HE.out
          rw [hda.out, hdb.out, subL] at h
          rw [List.append_assoc]
          exact h⟩⟩
      case measure => simp [RowKit.intOf]; omega
    · obtain rfl : i = 8 := by omega
      have hA8 : Arr wr n 78 .u32 d := by have h := H1.out; rw [List.drop_eq_nil_of_le (by rw [ha.out]; omega), List.append_nil] at h; exact h
      have hd : d = subL a b 0 := by have h := HE.out; rw [List.drop_eq_nil_of_le (by rw [ha.out]; omega), subL_nil, List.append_nil] at h; exact h
      replace hA8 := Kept.mk hA8
      replace hd := Kept.mk hd
      clear HE H1
      go_wp2_with (first
        | (refine wpList_load_row rfl 78 (.tmp 2) rfl n rfl 78 (numC .u32 d).toArray (0, 0) _ hA8.out.blk Try.underlying78 rfl ?_ ?_; (rw [infoN, List.size_toArray, numC_length, HD.out]))
        | (refine wpList_store_row rfl 78 (.tmp 4) (.tmp 29) rfl (n + 2) (numC .u32 d).toArray rfl rfl 78 Z H3.out ?_ ?_ (numC_one _ _) ?_; (rw [infoN, List.size_toArray, numC_length, HD.out]); (rw [hZ.out, List.size_toArray, numC_length, HD.out])))
      exact bodyPost_ret (results_cell_row (p := 4) (ty := 78) Try.results85 _ _ (n + 2) 78 (numC .u32 d).toArray (0, 0) _ rfl (setRow_heap _ _ _ _ _ _ H3.out) Try.underlying78 rfl (by rw [infoN, List.size_toArray, numC_length, HD.out])) rfl
        ⟨by rw [← hd.out]; rfl, below_setRow H4.out (by rw [hn.out]; omega) _⟩
end Go.Proofs.Ytockcnglennihaa
end
section
namespace Go.Proofs.Ytockcnglennihaa
open Go.RowKit Go.Lib
/-- A row of a product goes onto words. -/
def macL : Nat → List Nat → List Nat → Nat → List Nat
  | x, y :: ys, v :: vs, c => (x * y + v + c) % 4294967296 :: macL x ys vs ((x * y + v + c) / 4294967296)
  | _, [], _ :: vs, c => c :: vs
  | _, _, [], _ => []
def mulL : List Nat → List Nat → List Nat → List Nat
  | [], _, ws => ws
  | x :: xs, ys, ws => (macL x ys ws 0).headD 0 :: mulL xs ys (macL x ys ws 0).tail
theorem infoW : (Try.prog.info? 93).map (·.size) = some 16 := by kernel_rfl
theorem zeroW : ∀ w, (zeroValue 93).run Try.prog w = .ok (aggN .u32 (List.replicate 16 0)) w :=
  (zero_of_info (n := 16) (by kernel_rfl)).1
theorem macL_len : ∀ (x : Nat) (ys ws : List Nat) (c : Nat), (macL x ys ws c).length = ws.length
  | _, _ :: ys, _ :: vs, c => by rw [macL, List.length_cons, List.length_cons, macL_len _ ys vs]
  | _, [], _ :: vs, c => rfl
  | _, [], [], _ => rfl
  | _, _ :: _, [], _ => rfl
theorem macL_lt : ∀ (x : Nat) (ys ws : List Nat) (c : Nat), x < 4294967296 → (∀ y ∈ ys, y < 4294967296) → (∀ y ∈ ws, y < 4294967296) → c < 4294967296 → ∀ z ∈ macL x ys ws c, z < 4294967296
  | x, y :: ys, v :: vs, c, hx, hy, hw, hc, z, hz => by
    rw [macL, List.mem_cons] at hz
    have hy0 := hy y (by simp)
    have hv0 := hw v (by simp)
    rcases hz with rfl | hz
    · omega
    · have hp : x * y ≤ 4294967295 * 4294967295 := Nat.mul_le_mul (by omega) (by omega)
      exact macL_lt x ys vs _ hx (fun y h => hy y (by simp [h])) (fun y h => hw y (by simp [h])) (by omega) z hz
  | _, [], v :: vs, c, _, _, hw, hc, z, hz => by
    rw [macL, List.mem_cons] at hz
    rcases hz with rfl | hz
    · exact hc
    · exact hw z (by simp [hz])
  | _, [], [], _, _, _, _, _, z, hz => by simp [macL] at hz
  | _, _ :: _, [], _, _, _, _, _, z, hz => by simp [macL] at hz
def FoldC (F : List Nat → List Nat) : Prop := ∀ (l : List Nat) (w : World), l.length = 16 → (∀ x ∈ l, x < 4294967296) → Calls Try.prog 84 #[aggN .u32 l] w (NumPost (F l) w)
set_option maxHeartbeats 1000000 in
theorem product_of (F : List Nat → List Nat) (hF : FoldC F) (hFl : ∀ l, l.length = 16 → (F l).length = 8) (a b : List Nat) (ha : a.length = 8) (hb : b.length = 8) (hal : ∀ x ∈ a, x < 4294967296) (hbl : ∀ x ∈ b, x < 4294967296) (w : World) :
    Calls Try.prog 76 #[aggN .u32 a, aggN .u32 b] w (NumPost (F (mulL a b (List.replicate 16 0))) w) := by
  obtain ⟨Z, hZ, hz⟩ := zeroN
  obtain ⟨z16, hz16⟩ : ∃ z, List.replicate 16 0 = z := ⟨_, rfl⟩
  have hzl : z16.length = 16 := by rw [← hz16]; rfl
  have hzz : ∀ x ∈ z16, x < 4294967296 := by rw [← hz16]; intro x hx; rw [List.eq_of_mem_replicate hx]; decide
  have hzw := zeroW
  rw [hz16] at hzw ⊢
  obtain ⟨ZW, hZW⟩ : ∃ A, (numC .u32 z16).toArray = A := ⟨_, rfl⟩
  unfold aggN at hzw
  rw [hZW] at hzw
  obtain ⟨M, hM⟩ : ∃ M, mulL a b z16 = M := ⟨_, rfl⟩
  rw [hM]
  replace hF := Kept.mk hF
  replace hFl := Kept.mk hFl
  replace hM := Kept.mk hM
  replace hz16 := Kept.mk hz16
  replace hzl := Kept.mk hzl
  replace hzz := Kept.mk hzz
  replace hZ := Kept.mk hZ
  replace ha := Kept.mk ha
  replace hb := Kept.mk hb
  replace hal := Kept.mk hal
  replace hbl := Kept.mk hbl
  obtain ⟨A, hA⟩ : ∃ A, (numC .u32 a).toArray = A := ⟨_, rfl⟩
  obtain ⟨B, hB⟩ : ∃ B, (numC .u32 b).toArray = B := ⟨_, rfl⟩
  unfold aggN
  rw [hA, hB]
  go_enter Try.func76, Try.ntmps76
  go_wp2
  have h1 : Arr ((((w.alloc (.cells A 78)).alloc (.cells B 78)).alloc (.cells Z 78)).alloc (.cells ZW 93)) w.heap.size 78 .u32 a := by
    have h := Arr.new w 78 .u32 a
    rw [hA] at h
    exact ((h.from ((Below.refl _ _).alloc (Nat.le_refl _) _)).from ((Below.refl _ _).alloc (Nat.le_refl _) _)).from ((Below.refl _ _).alloc (Nat.le_refl _) _)
  have h2 : Arr ((((w.alloc (.cells A 78)).alloc (.cells B 78)).alloc (.cells Z 78)).alloc (.cells ZW 93)) (w.heap.size + 1) 78 .u32 b := by
    have h := Arr.new (w.alloc (.cells A 78)) 78 .u32 b
    rw [hB, World.size_alloc] at h
    exact (h.from ((Below.refl _ _).alloc (Nat.le_refl _) _)).from ((Below.refl _ _).alloc (Nat.le_refl _) _)
  have h3 : ((((w.alloc (.cells A 78)).alloc (.cells B 78)).alloc (.cells Z 78)).alloc (.cells ZW 93)).heap[w.heap.size + 2]? = some (.cells Z 78 (0, 0)) := by
    have h := heap_alloc_new ((w.alloc (.cells A 78)).alloc (.cells B 78)) (.cells Z 78)
    rw [← h]
    simpa using (Below.alloc (Below.refl _ (((w.alloc (.cells A 78)).alloc (.cells B 78)).alloc (.cells Z 78))) (Nat.le_refl _) (.cells ZW 93)).block (w.heap.size + 2) (by simp)
  have h5 : Arr ((((w.alloc (.cells A 78)).alloc (.cells B 78)).alloc (.cells Z 78)).alloc (.cells ZW 93)) (w.heap.size + 3) 93 .u32 z16 := by
    have h := Arr.new (((w.alloc (.cells A 78)).alloc (.cells B 78)).alloc (.cells Z 78)) 93 .u32 z16
    rw [hZW] at h
    simpa using h
  have h4 : Below w.heap.size w ((((w.alloc (.cells A 78)).alloc (.cells B 78)).alloc (.cells Z 78)).alloc (.cells ZW 93)) :=
    ((((Below.refl _ _).alloc (Nat.le_refl _) _).alloc (by simp) _).alloc (by simp; omega) _).alloc (by simp; omega) _
  replace hA := Kept.mk hA
  replace hB := Kept.mk hB
  replace hZW := Kept.mk hZW
  generalize (((w.alloc (.cells A 78)).alloc (.cells B 78)).alloc (.cells Z 78)).alloc (.cells ZW 93) = w0 at h1 h2 h3 h4 h5 ⊢
  obtain ⟨n, hn⟩ : ∃ n, w.heap.size = n := ⟨_, rfl⟩
  rw [hn] at h1 h2 h3 h5 ⊢
  replace h1 := Kept.mk h1
  replace h2 := Kept.mk h2
  replace h3 := Kept.mk h3
  replace h4 := Kept.mk h4
  replace h5 := Kept.mk h5
  replace hn := Kept.mk hn
  go_loopw [10] (fun v10 wr => ∃ (i : Nat) (d r : List Nat), i ≤ 8 ∧ v10 = .int .i64 (i : Int) ∧ Kept (d.length = i) ∧ Kept (r.length = 16 - i) ∧ Kept (∀ x ∈ d ++ r, x < 4294967296) ∧ Kept (Arr wr n 78 .u32 a) ∧ Kept (Arr wr (n + 1) 78 .u32 b) ∧
    Kept (wr.heap[n + 2]? = some (.cells Z 78 (0, 0))) ∧ Kept (Arr wr (n + 3) 93 .u32 (d ++ r)) ∧ Kept (Below w.heap.size w wr) ∧ Kept (d ++ mulL (a.drop i) b r = M)) (fun v10 _ => 8 - (RowKit.intOf v10).toNat)
  case atStart => exact ⟨0, [], z16, by omega, rfl, ⟨rfl⟩, hzl, hzz, h1, h2, h3, h5, h4, hM⟩
  case round =>
    clear h1 h2 h3 h4 h5
    obtain ⟨i, d, r, hi, rfl, HD, HRl, HRW, H1, H2, H3, H5, H4, HE⟩ := hrel
    obtain ⟨wo, rfl⟩ : ∃ wo : World, wo = wr := ⟨_, rfl⟩
    by_cases hlt : i < 8
    · obtain ⟨x, hx⟩ : ∃ x, a.getD i 0 = x := ⟨_, rfl⟩
      have hda := drop_getD a i (by rw [ha.out]; exact hlt)
      rw [hx] at hda
      have hxl : x < 4294967296 := hx ▸ getD_ltN hal.out i (by rw [ha.out]; exact hlt)
      replace hx := Kept.mk hx
      replace hda := Kept.mk hda
      have hlti : (i : Int) < 8 := by omega
      go_wp2
      go_loopw [7, 13] (fun v7 v13 wr => ∃ (j c : Nat) (e : List Nat), j ≤ 8 ∧ c < 4294967296 ∧ v7 = .int .u64 (c : Int) ∧ v13 = .int .i64 (j : Int) ∧ Kept (e.length = j) ∧ Kept (Arr wr n 78 .u32 a) ∧ Kept (Arr wr (n + 1) 78 .u32 b) ∧
        Kept (wr.heap[n + 2]? = some (.cells Z 78 (0, 0))) ∧ Kept (Arr wr (n + 3) 93 .u32 (d ++ e ++ r.drop j)) ∧ Kept (Below w.heap.size w wr) ∧ Kept (e ++ macL x (b.drop j) (r.drop j) c = macL x b r 0)) (fun _ v13 _ => 8 - (RowKit.intOf v13).toNat)
      case atStart => exact ⟨0, 0, [], by omega, by omega, rfl, rfl, ⟨rfl⟩, H1, H2, H3, ⟨by rw [List.append_nil]; exact H5.out⟩, H4, ⟨rfl⟩⟩
      case round =>
        clear H1 H2 H3 H4 H5
        obtain ⟨j, c, e, hj, hc, rfl, rfl, HEl, H1, H2, H3, H5, H4, HI⟩ := hrel
        by_cases hjt : j < 8
        · obtain ⟨y, hy⟩ : ∃ y, b.getD j 0 = y := ⟨_, rfl⟩
          obtain ⟨v, hv⟩ : ∃ v, r.getD j 0 = v := ⟨_, rfl⟩
          have hdb := drop_getD b j (by rw [hb.out]; exact hjt)
          have hdr := drop_getD r j (by rw [HRl.out]; omega)
          rw [hy] at hdb
          rw [hv] at hdr
          have hyl : y < 4294967296 := hy ▸ getD_ltN hbl.out j (by rw [hb.out]; exact hjt)
          have hvl : v < 4294967296 := hv ▸ getD_ltN (fun x hx => HRW.out x (List.mem_append_right _ hx)) j (by rw [HRl.out]; omega)
          have hdel : (d ++ e).length = i + j := by rw [List.length_append, HD.out, HEl.out]
          have hx := hx.out
          have c1 : ∀ u : Held (From wr.drew), u.w.cell? ⟨n, i, none⟩ = some (.int .u32 (x : Int)) := fun u => hx ▸ (H1.out.from u.h.of_drew).cell i (by rw [ha.out]; exact hlt)
          have c2 : ∀ u : Held (From wr.drew), u.w.cell? ⟨n + 1, j, none⟩ = some (.int .u32 (y : Int)) := fun u => hy ▸ (H2.out.from u.h.of_drew).cell j (by rw [hb.out]; exact hjt)
          have c3 : ∀ u : Held (From wr.drew), u.w.cell? ⟨n + 3, i + j, none⟩ = some (.int .u32 (v : Int)) := fun u => (H5.out.from u.h.of_drew).cellMid hdr hdel
          obtain ⟨p, hp⟩ : ∃ p, x * y = p := ⟨_, rfl⟩
          have hpl : p ≤ 4294967295 * 4294967295 := hp ▸ Nat.mul_le_mul (by omega) (by omega)
          have k1 : IntKind.u64.wrap ((x : Int) * (y : Int)) = (p : Int) := by
            rw [← hp, ← Int.natCast_mul, hp]
            simp [IntKind.wrap, IntKind.signed, IntKind.bits]; omega
          have k2 : IntKind.i64.wrap ((i : Int) + (j : Int)) = (i : Int) + (j : Int) := by simp [IntKind.wrap, IntKind.signed, IntKind.bits]; omega
          have k3 : ((i : Int) + (j : Int)).toNat = i + j := by omega
          replace hx := Kept.mk hx
          replace hy := Kept.mk hy
          replace hv := Kept.mk hv
          replace hp := Kept.mk hp
          replace hda := Kept.mk hda
          replace hdb := Kept.mk hdb
          replace hdr := Kept.mk hdr
          replace hdel := Kept.mk hdel
          go_wp2
          refine wp_region_from (by kernel_rfl) (by kernel_rfl) ?_
          repeat (go_big_quiet_step (fail))
          refine wpQuiet_nil ?_
          intro w5 hw5
          have b5 := hw5.of_drew
          have H15 := H1.out.from b5
          have H25 := H2.out.from b5
          have H55 := H5.out.from b5
          have f5 := H55.frozen (i + j)
          have c5 := H55.cellMid hdr.out hdel.out
          have h35 := (b5.block (n + 2) (Array.getElem?_eq_some_iff.1 H3.out).1).trans H3.out
          replace b5 := H4.out.trans (b5.mono H4.out.size)
          replace H15 := Kept.mk H15
          replace H25 := Kept.mk H25
          replace H55 := Kept.mk H55
          replace b5 := Kept.mk b5
          replace h35 := Kept.mk h35
          clear c1 c2 c3
          go_wp2
          go_roundw
          case rel => exact ⟨j + 1, (p + v + c) / 4294967296, e ++ [(p + v + c) % 4294967296], by omega, by omega, val_eq (by omega), val_eq (by omega), ⟨by rw [List.length_append, HEl.out]; rfl⟩, ⟨H15.out.other (by omega) _ _⟩, ⟨H25.out.other (by omega) _ _⟩,
            ⟨(Below.heap_setCell w5 ⟨n + 3, i + j, none⟩ _ (n + 2) (by simp)).trans h35.out⟩, ⟨by have h := H55.out.step hdr.out hdel.out ((p + v + c) % 4294967296) (v := (↑p + ↑v + ↑c) % 4294967296) (by omega); rw [← List.append_assoc]; exact h⟩, ⟨b5.out.setCell (by show w.heap.size ≤ n + 3; rw [hn.out]; omega) _⟩, ⟨by
              have h := HI.out
              rw [hdb.out, hdr.out, macL, hp.out] at h
              rw [List.append_assoc]
              exact h⟩⟩
          case measure => simp [RowKit.intOf]; omega
        · obtain rfl : j = 8 := by omega
          obtain ⟨v, hv⟩ : ∃ v, r.getD 8 0 = v := ⟨_, rfl⟩
          have hdr := drop_getD r 8 (by rw [HRl.out]; omega)
          rw [hv] at hdr
          have hdel : (d ++ e).length = i + 8 := by rw [List.length_append, HD.out, HEl.out]
          have hmac : e ++ c :: r.drop 9 = macL x b r 0 := by
            have h := HI.out
            rw [List.drop_eq_nil_of_le (show b.length ≤ 8 by rw [hb.out]; omega), hdr] at h
            exact h
          have f5 := H5.out.frozen (i + 8)
          have c5 := H5.out.cellMid hdr hdel
          have k4 : IntKind.i64.wrap ((i : Int) + 8) = (i : Int) + 8 := by simp [IntKind.wrap, IntKind.signed, IntKind.bits]; omega
          have k5 : ((i : Int) + 8).toNat = i + 8 := by omega
          have hcW : (c : Int) % 4294967296 = (c : Int) := by omega
          replace hv := Kept.mk hv
          replace hdr := Kept.mk hdr
          replace hdel := Kept.mk hdel
          replace hmac := Kept.mk hmac
          go_wp2
          have hml : (macL x b r 0).length = 16 - i := by rw [macL_len, HRl.out]
          have hmlt : ∀ z ∈ macL x b r 0, z < 4294967296 := macL_lt x b r 0 hxl hbl.out (fun z hz => HRW.out z (List.mem_append_right _ hz)) (by omega)
          have hstep := H5.out.step hdr.out hdel.out c (v := (c : Int)) rfl
          have hEq : d ++ e ++ [c] ++ r.drop 9 = d ++ macL x b r 0 := by rw [← hmac.out]; simp
          rw [hEq] at hstep
          have hME := HE.out
          rw [hda.out, mulL] at hME
          obtain ⟨q, qs, hq⟩ : ∃ q qs, macL x b r 0 = q :: qs := by
            match hm : macL x b r 0 with
            | [] => rw [hm] at hml; simp at hml; omega
            | q :: qs => exact ⟨q, qs, rfl⟩
          rw [hq] at hml hmlt hstep hME
          replace hml := Kept.mk hml
          replace hmlt := Kept.mk hmlt
          replace hstep := Kept.mk hstep
          replace hME := Kept.mk hME
          replace hq := Kept.mk hq
          replace hEq := Kept.mk hEq
          go_roundw
          case rel => exact ⟨i + 1, d ++ [q], qs, by omega, val_eq (by omega), ⟨by rw [List.length_append, HD.out]; rfl⟩, ⟨by have h := hml.out; rw [List.length_cons] at h; omega⟩,
            ⟨fun z hz => by
              rw [List.append_assoc] at hz
              rcases List.mem_append.1 hz with hz | hz
              · exact HRW.out z (List.mem_append_left _ hz)
              · exact hmlt.out z hz⟩, ⟨H1.out.other (by omega) _ _⟩, ⟨H2.out.other (by omega) _ _⟩,
            ⟨(Below.heap_setCell wr ⟨n + 3, i + 8, none⟩ _ (n + 2) (by simp)).trans H3.out⟩, ⟨by have h := hstep.out; rw [List.append_assoc]; exact h⟩, ⟨H4.out.setCell (by show w.heap.size ≤ n + 3; rw [hn.out]; omega) _⟩,
            ⟨by have h := hME.out; rw [List.append_assoc]; exact h⟩⟩
          case measure => simp [RowKit.intOf]; omega
    · obtain rfl : i = 8 := by omega
      have hdr : d ++ r = M := by
        have h := HE.out
        rw [List.drop_eq_nil_of_le (by rw [ha.out]; omega)] at h
        exact h
      have hMl : M.length = 16 := by rw [← hdr, List.length_append, HD.out, HRl.out]
      have hMW : ∀ x ∈ M, x < 4294967296 := hdr ▸ HRW.out
      have hA8 : Arr wo (n + 3) 93 .u32 M := hdr ▸ H5.out
      replace hdr := Kept.mk hdr
      replace hMl := Kept.mk hMl
      replace hMW := Kept.mk hMW
      replace hA8 := Kept.mk hA8
      clear HE H5
      go_wp2_with (first
        | (refine wpList_load_row rfl 93 (.tmp 5) rfl (n + 3) rfl 93 (numC .u32 M).toArray (0, 0) _ hA8.out.blk Try.underlying93 rfl ?_ ?_; (rw [infoW, List.size_toArray, numC_length, hMl.out]))
        | (go_at_call 84; refine (hF.out M _ hMl.out hMW.out).mono ?_; rintro e w1 ⟨rfl, hb1⟩; replace hb1 := Kept.mk hb1; unfold aggN)
        | (refine wpList_store_row rfl 78 (.tmp 4) (.tmp 50) rfl (n + 2) (numC .u32 (F M)).toArray rfl rfl 78 Z ((hb1.out.block (n + 2) (Array.getElem?_eq_some_iff.1 H3.out).1).trans H3.out) ?_ ?_ (numC_one _ _) ?_; (rw [infoN, List.size_toArray, numC_length, hFl.out M hMl.out]); (rw [hZ.out, List.size_toArray, numC_length, hFl.out M hMl.out])))
      exact bodyPost_ret (results_cell_row (p := 4) (ty := 78) Try.results76 _ _ (n + 2) 78 (numC .u32 (F M)).toArray (0, 0) _ rfl (setRow_heap _ _ _ _ _ _ ((hb1.out.block (n + 2) (Array.getElem?_eq_some_iff.1 H3.out).1).trans H3.out)) Try.underlying78 rfl (by rw [infoN, List.size_toArray, numC_length, hFl.out M hMl.out])) rfl
        ⟨rfl, below_setRow (H4.out.trans (hb1.out.mono H4.out.size)) (by rw [hn.out]; omega) _⟩
end Go.Proofs.Ytockcnglennihaa
end
section
namespace Go.Proofs.Ytockcnglennihaa
open Go.RowKit Go.Lib
def foldA : List Nat → List Nat → Nat → List Nat
  | x :: xs, y :: ys, c => (x + 38 * y + c) % 4294967296 :: foldA xs ys ((x + 38 * y + c) / 4294967296)
  | _, _, _ => []
def foldK : List Nat → List Nat → Nat → Nat
  | x :: xs, y :: ys, c => foldK xs ys ((x + 38 * y + c) / 4294967296)
  | _, _, c => c
def carA : List Nat → Nat → List Nat
  | x :: xs, c => (x + c) % 4294967296 :: carA xs ((x + c) / 4294967296)
  | [], _ => []
def carK : List Nat → Nat → Nat
  | x :: xs, c => carK xs ((x + c) / 4294967296)
  | [], c => c
/-- Passes with what was carried out, so many at most. -/
def passL : Nat → List Nat → Nat → List Nat
  | 0, l, _ => l
  | f + 1, l, c => if c = 0 then l else passL f (carA l (38 * c)) (carK l (38 * c))
def passC : Nat → List Nat → Nat → Nat
  | 0, _, c => c
  | f + 1, l, c => if c = 0 then 0 else passC f (carA l (38 * c)) (carK l (38 * c))
theorem foldA_nil (xs : List Nat) (c : Nat) : foldA xs [] c = [] := by cases xs <;> rfl
theorem foldK_nil (xs : List Nat) (c : Nat) : foldK xs [] c = c := by cases xs <;> rfl
def foldedL (l : List Nat) : List Nat := passL 2 (foldA l (l.drop 8) 0) (foldK l (l.drop 8) 0)
theorem carA_len : ∀ (l : List Nat) (c : Nat), (carA l c).length = l.length
  | [], _ => rfl
  | x :: xs, c => by rw [carA, List.length_cons, List.length_cons, carA_len xs]
theorem carA_lt : ∀ (l : List Nat) (c : Nat), ∀ x ∈ carA l c, x < 4294967296
  | [], _, x, h => by simp [carA] at h
  | y :: ys, c, x, h => by
    rw [carA, List.mem_cons] at h
    rcases h with rfl | h
    · exact Nat.mod_lt _ (by decide)
    · exact carA_lt ys _ x h
theorem carK_le : ∀ (l : List Nat) (c : Nat), (∀ x ∈ l, x < 4294967296) → c ≤ 1444 → l ≠ [] → carK l c ≤ 1
  | [], _, _, _, h => absurd rfl h
  | [x], c, hx, hc, _ => by
    have := hx x (by simp)
    rw [carK, carK]; omega
  | x :: y :: ys, c, hx, hc, _ => by
    have := hx x (by simp)
    rw [carK]
    exact carK_le (y :: ys) _ (fun z hz => hx z (by simp at hz ⊢; right; exact hz)) (by omega) (by simp)
theorem foldA_len : ∀ (l h : List Nat) (c : Nat), h.length ≤ l.length → (foldA l h c).length = h.length
  | _, [], _, _ => by rw [foldA_nil]
  | [], y :: ys, _, h => by simp at h
  | x :: xs, y :: ys, c, h => by rw [foldA, List.length_cons, List.length_cons, foldA_len xs ys _ (by simpa using h)]
theorem foldA_lt : ∀ (l h : List Nat) (c : Nat), ∀ x ∈ foldA l h c, x < 4294967296
  | _, [], _, x, h => by rw [foldA_nil] at h; simp at h
  | [], y :: ys, _, x, h => by simp [foldA] at h
  | x :: xs, y :: ys, c, z, h => by
    rw [foldA, List.mem_cons] at h
    rcases h with rfl | h
    · exact Nat.mod_lt _ (by decide)
    · exact foldA_lt xs ys _ z h
theorem foldK_le : ∀ (l h : List Nat) (c : Nat), (∀ x ∈ l, x < 4294967296) → (∀ x ∈ h, x < 4294967296) → c ≤ 38 → foldK l h c ≤ 38
  | _, [], _, _, _, hc => by rw [foldK_nil]; exact hc
  | [], y :: ys, _, _, _, hc => hc
  | x :: xs, y :: ys, c, hx, hy, hc => by
    have h1 := hx x (by simp)
    have h2 := hy y (by simp)
    rw [foldK]
    exact foldK_le xs ys _ (fun z hz => hx z (by simp [hz])) (fun z hz => hy z (by simp [hz])) (by omega)
theorem passL_len : ∀ (f : Nat) (l : List Nat) (c : Nat), (passL f l c).length = l.length
  | 0, _, _ => rfl
  | f + 1, l, c => by
    rw [passL]
    split
    · rfl
    · rw [passL_len f, carA_len]
theorem foldedL_len (l : List Nat) (h : l.length = 16) : (foldedL l).length = 8 := by
  unfold foldedL
  rw [passL_len, foldA_len _ _ _ (by simp), List.length_drop, h]
set_option maxHeartbeats 2000000 in
theorem folded_of (l : List Nat) (hl : l.length = 16) (hlW : ∀ x ∈ l, x < 4294967296) (hfin : passC 2 (foldA l (l.drop 8) 0) (foldK l (l.drop 8) 0) = 0) (w : World) :
    Calls Try.prog 84 #[aggN .u32 l] w (NumPost (foldedL l) w) := by
  obtain ⟨z8, hz8⟩ : ∃ z, List.replicate 8 0 = z := ⟨_, rfl⟩
  have hzl : z8.length = 8 := by rw [← hz8]; rfl
  have hz : ∀ w, (zeroValue 78).run Try.prog w = .ok (aggN .u32 z8) w := by rw [← hz8]; exact (zero_of_info (n := 8) (by kernel_rfl)).1
  obtain ⟨Z, hZ⟩ : ∃ A, (numC .u32 z8).toArray = A := ⟨_, rfl⟩
  unfold aggN at hz
  rw [hZ] at hz
  have hZl : Z.size = 8 := by rw [← hZ, List.size_toArray, numC_length, hzl]
  replace hz8 := Kept.mk hz8
  replace hzl := Kept.mk hzl
  replace hZl := Kept.mk hZl
  replace hl := Kept.mk hl
  replace hlW := Kept.mk hlW
  replace hfin := Kept.mk hfin
  obtain ⟨A, hA⟩ : ∃ A, (numC .u32 l).toArray = A := ⟨_, rfl⟩
  unfold aggN
  rw [hA]
  go_enter Try.func84, Try.ntmps84
  go_wp2
  have h1 : Arr (((w.alloc (.cells A 93)).alloc (.cells Z 78)).alloc (.cells Z 78)) w.heap.size 93 .u32 l := by
    have h := Arr.new w 93 .u32 l
    rw [hA] at h
    exact (h.from ((Below.refl _ _).alloc (Nat.le_refl _) _)).from ((Below.refl _ _).alloc (Nat.le_refl _) _)
  have h3 : (((w.alloc (.cells A 93)).alloc (.cells Z 78)).alloc (.cells Z 78)).heap[w.heap.size + 1]? = some (.cells Z 78 (0, 0)) := by
    have h := heap_alloc_new (w.alloc (.cells A 93)) (.cells Z 78)
    rw [World.size_alloc] at h
    rw [← h]
    exact (Below.alloc (Below.refl _ ((w.alloc (.cells A 93)).alloc (.cells Z 78))) (Nat.le_refl _) (.cells Z 78)).block (w.heap.size + 1) (by simp)
  have h5 : Arr (((w.alloc (.cells A 93)).alloc (.cells Z 78)).alloc (.cells Z 78)) (w.heap.size + 2) 78 .u32 z8 := by
    have h := Arr.new ((w.alloc (.cells A 93)).alloc (.cells Z 78)) 78 .u32 z8
    rw [hZ] at h
    simpa using h
  have h4 : Below w.heap.size w (((w.alloc (.cells A 93)).alloc (.cells Z 78)).alloc (.cells Z 78)) :=
    (((Below.refl _ _).alloc (Nat.le_refl _) _).alloc (by simp) _).alloc (by simp; omega) _
  replace hA := Kept.mk hA
  replace hZ := Kept.mk hZ
  generalize ((w.alloc (.cells A 93)).alloc (.cells Z 78)).alloc (.cells Z 78) = w0 at h1 h3 h4 h5 ⊢
  obtain ⟨n, hn⟩ : ∃ n, w.heap.size = n := ⟨_, rfl⟩
  rw [hn] at h1 h3 h5 ⊢
  replace h1 := Kept.mk h1
  replace h3 := Kept.mk h3
  replace h4 := Kept.mk h4
  replace h5 := Kept.mk h5
  replace hn := Kept.mk hn
  go_loopw [4, 9] (fun v4 v9 wr => ∃ (i c : Nat) (d : List Nat), i ≤ 8 ∧ c ≤ 38 ∧ v4 = .int .u64 (c : Int) ∧ v9 = .int .i64 (i : Int) ∧ Kept (d.length = i) ∧ Kept (Arr wr n 93 .u32 l) ∧
    Kept (wr.heap[n + 1]? = some (.cells Z 78 (0, 0))) ∧ Kept (Arr wr (n + 2) 78 .u32 (d ++ z8.drop i)) ∧ Kept (Below w.heap.size w wr) ∧ Kept (d ++ foldA (l.drop i) (l.drop (8 + i)) c = foldA l (l.drop 8) 0) ∧ Kept (foldK (l.drop i) (l.drop (8 + i)) c = foldK l (l.drop 8) 0)) (fun _ v9 _ => 8 - (RowKit.intOf v9).toNat)
  case atStart => exact ⟨0, 0, [], by omega, by omega, rfl, rfl, ⟨rfl⟩, h1, h3, h5, h4, ⟨rfl⟩, ⟨rfl⟩⟩
  case round =>
    clear h1 h3 h4 h5
    obtain ⟨i, c, d, hi, hc, rfl, rfl, HD, H1, H3, H5, H4, HE, HK⟩ := hrel
    by_cases hlt : i < 8
    · obtain ⟨x, hx⟩ : ∃ x, l.getD i 0 = x := ⟨_, rfl⟩
      obtain ⟨y, hy⟩ : ∃ y, l.getD (8 + i) 0 = y := ⟨_, rfl⟩
      have hda := drop_getD l i (by rw [hl.out]; omega)
      have hdb := drop_getD l (8 + i) (by rw [hl.out]; omega)
      have hdz := drop_getD z8 i (by rw [hzl.out]; omega)
      rw [hx] at hda
      rw [hy] at hdb
      have hxl : x < 4294967296 := hx ▸ getD_ltN hlW.out i (by rw [hl.out]; omega)
      have hyl : y < 4294967296 := hy ▸ getD_ltN hlW.out (8 + i) (by rw [hl.out]; omega)
      have c1 : ∀ u : Held (From wr.drew), u.w.cell? ⟨n, i, none⟩ = some (.int .u32 (x : Int)) := fun u => hx ▸ (H1.out.from u.h.of_drew).cell i (by rw [hl.out]; omega)
      have c2 : ∀ u : Held (From wr.drew), u.w.cell? ⟨n, i + 8, none⟩ = some (.int .u32 (y : Int)) := fun u => by rw [Nat.add_comm i 8, ← hy]; exact (H1.out.from u.h.of_drew).cell (8 + i) (by rw [hl.out]; omega)
      have k2 : IntKind.i64.wrap ((i : Int) + 8) = (i : Int) + 8 := by simp [IntKind.wrap, IntKind.signed, IntKind.bits]; omega
      have k3 : ((i : Int) + 8).toNat = i + 8 := by omega
      have k1 : IntKind.u64.wrap (38 * (y : Int)) = 38 * (y : Int) := by simp [IntKind.wrap, IntKind.signed, IntKind.bits]; omega
      replace hx := Kept.mk hx
      replace hy := Kept.mk hy
      replace hda := Kept.mk hda
      replace hdb := Kept.mk hdb
      replace hdz := Kept.mk hdz
      go_wp2
      refine wp_region_from (by kernel_rfl) (by kernel_rfl) ?_
      repeat (go_big_quiet_step (fail))
      refine wpQuiet_nil ?_
      intro w5 hw5
      have b5 := hw5.of_drew
      have H15 := H1.out.from b5
      have H55 := H5.out.from b5
      have f5 := H55.frozen i
      have c5 := H55.cellMid hdz.out HD.out
      have h35 := (b5.block (n + 1) (Array.getElem?_eq_some_iff.1 H3.out).1).trans H3.out
      replace b5 := H4.out.trans (b5.mono H4.out.size)
      replace H15 := Kept.mk H15
      replace H55 := Kept.mk H55
      replace b5 := Kept.mk b5
      replace h35 := Kept.mk h35
      clear c1 c2
      go_wp2
      go_roundw
      case rel => exact ⟨i + 1, (x + 38 * y + c) / 4294967296, d ++ [(x + 38 * y + c) % 4294967296], by omega, by omega, val_eq (by omega), val_eq (by omega), ⟨by rw [List.length_append, HD.out]; rfl⟩, ⟨H15.out.other (by omega) _ _⟩,
            ⟨(Below.heap_setCell w5 ⟨n + 2, i, none⟩ _ (n + 1) (by simp)).trans h35.out⟩, ⟨H55.out.step hdz.out HD.out ((x + 38 * y + c) % 4294967296) (by omega)⟩, ⟨b5.out.setCell (by show w.heap.size ≤ n + 2; rw [hn.out]; omega) _⟩,
            ⟨by
              have h := HE.out
              rw [hda.out, hdb.out, foldA] at h
              rw [List.append_assoc]
              exact h⟩, ⟨by
              have h := HK.out
              rw [hda.out, hdb.out, foldK] at h
              exact h⟩⟩
      case measure => simp [RowKit.intOf]; omega
    · obtain rfl : i = 8 := by omega
      have hdE : d = foldA l (l.drop 8) 0 := by
        have h := HE.out
        rw [List.drop_eq_nil_of_le (show l.length ≤ 8 + 8 by rw [hl.out]; omega), foldA_nil, List.append_nil] at h
        exact h
      have hcE : c = foldK l (l.drop 8) 0 := by
        have h := HK.out
        rw [List.drop_eq_nil_of_le (show l.length ≤ 8 + 8 by rw [hl.out]; omega), foldK_nil] at h
        exact h
      have hfin2 := hfin.out
      rw [← hdE, ← hcE] at hfin2
      have hres : foldedL l = passL 2 d c := by rw [hdE, hcE]; rfl
      have hdW : ∀ x ∈ d, x < 4294967296 := hdE ▸ foldA_lt _ _ _
      have H8 : Arr wr (n + 2) 78 .u32 d := by
        have h := H5.out
        rw [List.drop_eq_nil_of_le (show z8.length ≤ 8 by rw [hzl.out]; omega), List.append_nil] at h
        exact h
      obtain ⟨M, hM⟩ : ∃ M, passL 2 d c = M := ⟨_, rfl⟩
      rw [hM] at hres
      replace hfin2 := Kept.mk hfin2
      replace hres := Kept.mk hres
      replace hdW := Kept.mk hdW
      replace hdE := Kept.mk hdE
      replace hcE := Kept.mk hcE
      replace H8 := Kept.mk H8
      replace hM := Kept.mk hM
      clear HE HK H5
      go_wp2
      go_loopg [4] 2 (fun k v4 wr => ∃ (c : Nat) (d : List Nat), c ≤ 38 ∧ v4 = .int .u64 (c : Int) ∧ Kept (d.length = 8) ∧ Kept (∀ x ∈ d, x < 4294967296) ∧ Kept (Arr wr (n + 2) 78 .u32 d) ∧
        Kept (wr.heap[n + 1]? = some (.cells Z 78 (0, 0))) ∧ Kept (Below w.heap.size w wr) ∧ Kept (passC k d c = 0) ∧ Kept (passL k d c = M))
      case atStart => exact ⟨c, d, hc, rfl, HD, hdW, H8, H3, H4, hfin2, hM⟩
      case round =>
        clear HD hdW H8 H3 H4 hfin2 hM hdE hcE H1
        rename_i c0 d0 _ _ _
        obtain ⟨c, d, hc, rfl, HD, HW, H8, H3, H4, HF, HM⟩ := hrel
        by_cases hc0 : c = 0
        · subst hc0
          rw [show ((0 : Nat) : Int) = 0 from rfl]
          have hdM : d = M := by
            have h := HM.out
            cases gk with
            | zero => exact h
            | succ f => rw [passL, if_pos rfl] at h; exact h
          replace hdM := Kept.mk hdM
          go_wp2_with (first
            | (refine wpList_load_row rfl 78 (.tmp 3) rfl (n + 2) rfl 78 (numC .u32 d).toArray (0, 0) _ H8.out.blk Try.underlying78 rfl ?_ ?_; (rw [infoN, List.size_toArray, numC_length, HD.out]))
            | (refine wpList_store_row rfl 78 (.tmp 2) (.tmp 52) rfl (n + 1) (numC .u32 d).toArray rfl rfl 78 Z H3.out ?_ ?_ (numC_one _ _) ?_; (rw [infoN, List.size_toArray, numC_length, HD.out]); (rw [hZl.out, List.size_toArray, numC_length, HD.out])))
          exact bodyPost_ret (results_cell_row (p := 2) (ty := 78) Try.results84 _ _ (n + 1) 78 (numC .u32 d).toArray (0, 0) _ rfl (setRow_heap _ _ _ _ _ _ H3.out) Try.underlying78 rfl (by rw [infoN, List.size_toArray, numC_length, HD.out])) rfl
            ⟨by rw [hres.out, ← hdM.out]; rfl, below_setRow H4.out (by rw [hn.out]; omega) _⟩
        · obtain ⟨f, rfl⟩ : ∃ f, gk = f + 1 := by
            cases gk with
            | zero => exact absurd HF.out hc0
            | succ f => exact ⟨f, rfl⟩
          have hF2 := HF.out
          have hM2 := HM.out
          rw [passC, if_neg hc0] at hF2
          rw [passL, if_neg hc0] at hM2
          have hcI : ((c : Int) == 0) = false := by simp; omega
          have hcN : ((c : Int) != 0) = true := by simp; omega
          have k1 : IntKind.u64.wrap ((c : Int) * 38) = (c : Int) * 38 := by simp [IntKind.wrap, IntKind.signed, IntKind.bits]; omega
          replace hF2 := Kept.mk hF2
          replace hM2 := Kept.mk hM2
          go_wp2
          clear k1 hcI hcN
          obtain ⟨wo, rfl⟩ : ∃ wo : World, wo = wr := ⟨_, rfl⟩
          go_loopw [4, 36] (fun v4 v36 wr => ∃ (i k : Nat) (e : List Nat), i ≤ 8 ∧ k ≤ 1444 ∧ v4 = .int .u64 (k : Int) ∧ v36 = .int .i64 (i : Int) ∧ Kept (e.length = i) ∧
            Kept (wr.heap[n + 1]? = some (.cells Z 78 (0, 0))) ∧ Kept (Arr wr (n + 2) 78 .u32 (e ++ d.drop i)) ∧ Kept (Below w.heap.size w wr) ∧ Kept (e ++ carA (d.drop i) k = carA d (38 * c)) ∧ Kept (carK (d.drop i) k = carK d (38 * c))) (fun _ v36 _ => 8 - (RowKit.intOf v36).toNat)
          case atStart => exact ⟨0, 38 * c, [], by omega, by omega, val_eq (by omega), rfl, ⟨rfl⟩, H3, H8, H4, ⟨rfl⟩, ⟨rfl⟩⟩
          case round =>
            clear H8 H3 H4
            obtain ⟨i, k, e, hi, hk, rfl, rfl, HEl, H3, H8, H4, HE, HK⟩ := hrel
            by_cases hlt : i < 8
            · obtain ⟨x, hx⟩ : ∃ x, d.getD i 0 = x := ⟨_, rfl⟩
              have hdd := drop_getD d i (by rw [HD.out]; omega)
              rw [hx] at hdd
              have hxl : x < 4294967296 := hx ▸ getD_ltN HW.out i (by rw [HD.out]; omega)
              have c1 := H8.out.cellMid hdd HEl.out
              have f1 := H8.out.frozen i
              replace hx := Kept.mk hx
              replace hdd := Kept.mk hdd
              go_wp2
              go_roundw
              case rel => exact ⟨i + 1, (x + k) / 4294967296, e ++ [(x + k) % 4294967296], by omega, by omega, val_eq (by omega), val_eq (by omega), ⟨by rw [List.length_append, HEl.out]; rfl⟩,
                ⟨(Below.heap_setCell wr ⟨n + 2, i, none⟩ _ (n + 1) (by simp)).trans H3.out⟩, ⟨H8.out.step hdd.out HEl.out ((x + k) % 4294967296) (by omega)⟩, ⟨H4.out.setCell (by show w.heap.size ≤ n + 2; rw [hn.out]; omega) _⟩,
                ⟨by
                  have h := HE.out
                  rw [hdd.out, carA] at h
                  rw [List.append_assoc]
                  exact h⟩, ⟨by
                  have h := HK.out
                  rw [hdd.out, carK] at h
                  exact h⟩⟩
              case measure => simp [RowKit.intOf]; omega
            · obtain rfl : i = 8 := by omega
              have hn8 : d.drop 8 = [] := List.drop_eq_nil_of_le (by rw [HD.out]; omega)
              have hE := HE.out
              have hK := HK.out
              have hA := H8.out
              rw [hn8, carA, List.append_nil] at hE
              rw [hn8, carK] at hK
              rw [hn8, List.append_nil] at hA
              have hk1 : k ≤ 1 := by rw [hK]; exact carK_le d (38 * c) HW.out (by omega) (fun h => by have := HD.out; rw [h] at this; simp at this)
              have hF3 := hF2.out
              have hM3 := hM2.out
              rw [← hE, ← hK] at hF3 hM3
              have hW2 : ∀ x ∈ e, x < 4294967296 := hE ▸ carA_lt d (38 * c)
              replace hE := Kept.mk hE
              replace hK := Kept.mk hK
              replace hA := Kept.mk hA
              replace hF3 := Kept.mk hF3
              replace hM3 := Kept.mk hM3
              replace hW2 := Kept.mk hW2
              go_wp2
              go_roundg f
              case rel => exact ⟨k, e, by omega, rfl, HEl, hW2, hA, H3, H4, hF3, hM3⟩
              case measure => omega
end Go.Proofs.Ytockcnglennihaa
end
section
namespace Go.Proofs.Ytockcnglennihaa
open Go.RowKit Go.Lib
theorem addL_len : ∀ (xs ys : List Nat) (c : Nat), xs.length = ys.length → (addL xs ys c).length = xs.length
  | [], _, _, _ => by rw [addL_nil]
  | x :: xs, [], _, h => by simp at h
  | x :: xs, y :: ys, c, h => by rw [addL, List.length_cons, List.length_cons, addL_len xs ys _ (by simpa using h)]
theorem addL_lt : ∀ (xs ys : List Nat) (c : Nat), ∀ z ∈ addL xs ys c, z < 4294967296
  | [], _, _, z, h => by rw [addL_nil] at h; simp at h
  | x :: xs, [], _, z, h => by simp [addL] at h
  | x :: xs, y :: ys, c, z, h => by
    rw [addL, List.mem_cons] at h
    rcases h with rfl | h
    · exact Nat.mod_lt _ (by decide)
    · exact addL_lt xs ys _ z h
theorem addL_val : ∀ (xs ys : List Nat) (c : Nat), xs.length = ys.length → valB 4294967296 (addL xs ys c) = (valB 4294967296 xs + valB 4294967296 ys + c) % 4294967296 ^ xs.length
  | [], [], _, _ => by rw [List.length_nil, Nat.pow_zero, Nat.mod_one]; rfl
  | [], y :: ys, _, h => by simp at h
  | x :: xs, [], _, h => by simp at h
  | x :: xs, y :: ys, c, h => by
    rw [addL, valB, addL_val xs ys _ (by simpa using h), List.length_cons, Nat.pow_succ, Nat.mul_comm (4294967296 ^ xs.length), Nat.mod_mul, valB, valB]
    have e1 : (x + 4294967296 * valB 4294967296 xs + (y + 4294967296 * valB 4294967296 ys) + c) % 4294967296 = (x + y + c) % 4294967296 := by omega
    have e2 : (x + 4294967296 * valB 4294967296 xs + (y + 4294967296 * valB 4294967296 ys) + c) / 4294967296 = valB 4294967296 xs + valB 4294967296 ys + (x + y + c) / 4294967296 := by omega
    rw [e1, e2]
theorem subL_len : ∀ (xs ys : List Nat) (c : Nat), xs.length = ys.length → (subL xs ys c).length = xs.length
  | [], _, _, _ => by rw [subL_nil]
  | x :: xs, [], _, h => by simp at h
  | x :: xs, y :: ys, c, h => by rw [subL, List.length_cons, List.length_cons, subL_len xs ys _ (by simpa using h)]
theorem subL_lt : ∀ (xs ys : List Nat) (c : Nat), ∀ z ∈ subL xs ys c, z < 4294967296
  | [], _, _, z, h => by rw [subL_nil] at h; simp at h
  | x :: xs, [], _, z, h => by simp [subL] at h
  | x :: xs, y :: ys, c, z, h => by
    rw [subL, List.mem_cons] at h
    rcases h with rfl | h
    · exact Nat.mod_lt _ (by decide)
    · exact subL_lt xs ys _ z h
theorem subL_val : ∀ (xs ys : List Nat) (c : Nat), xs.length = ys.length → (∀ x ∈ xs, x < 4294967296) → (∀ x ∈ ys, x < 4294967296) → c ≤ 1 → valB 4294967296 ys + c ≤ valB 4294967296 xs →
    valB 4294967296 (subL xs ys c) + valB 4294967296 ys + c = valB 4294967296 xs
  | [], [], c, _, _, _, _, hle => by simp [valB, subL] at hle ⊢; omega
  | [], y :: ys, _, h, _, _, _, _ => by simp at h
  | x :: xs, [], _, h, _, _, _, _ => by simp at h
  | x :: xs, y :: ys, c, h, hx, hy, hc, hle => by
    have h1 := hx x (by simp)
    have h2 := hy y (by simp)
    simp only [valB] at hle
    by_cases hb : x < y + c
    · have ih := subL_val xs ys 1 (by simpa using h) (fun z hz => hx z (by simp [hz])) (fun z hz => hy z (by simp [hz])) (by omega) (by omega)
      rw [subL, if_pos hb]
      simp only [valB]
      omega
    · have ih := subL_val xs ys 0 (by simpa using h) (fun z hz => hx z (by simp [hz])) (fun z hz => hy z (by simp [hz])) (by omega) (by omega)
      rw [subL, if_neg hb]
      simp only [valB]
      omega
theorem macL_val : ∀ (x : Nat) (ys ws : List Nat) (c : Nat), ys.length < ws.length → ws.getD ys.length 0 = 0 → valB 4294967296 (macL x ys ws c) = valB 4294967296 ws + x * valB 4294967296 ys + c
  | x, [], [], _, h, _ => by simp at h
  | x, [], v :: vs, c, _, h => by
    have : v = 0 := by simpa using h
    subst this
    simp [macL, valB]; omega
  | x, y :: ys, [], _, h, _ => by simp at h
  | x, y :: ys, v :: vs, c, h, h0 => by
    rw [macL, valB, macL_val x ys vs _ (by simpa using h) (by simpa using h0), valB, valB, Nat.mul_add x y]
    have e : x * (4294967296 * valB 4294967296 ys) = 4294967296 * (x * valB 4294967296 ys) := Nat.mul_left_comm _ _ _
    rw [e]
    generalize x * valB 4294967296 ys = p
    generalize x * y = q
    omega
theorem macL_beyond : ∀ (x : Nat) (ys ws : List Nat) (c j : Nat), ys.length < j → (macL x ys ws c).getD j 0 = ws.getD j 0
  | x, [], [], _, _, _ => rfl
  | x, [], v :: vs, c, j, h => by
    obtain ⟨j, rfl⟩ : ∃ i, j = i + 1 := ⟨j - 1, by simp at h; omega⟩
    simp [macL]
  | x, y :: ys, [], _, _, _ => rfl
  | x, y :: ys, v :: vs, c, j, h => by
    obtain ⟨j, rfl⟩ : ∃ i, j = i + 1 := ⟨j - 1, by simp at h; omega⟩
    rw [macL]
    have := macL_beyond x ys vs ((x * y + v + c) / 4294967296) j (by simpa using h)
    simpa using this
theorem mulL_val : ∀ (xs ys ws : List Nat), xs.length + ys.length ≤ ws.length → (∀ j, ys.length ≤ j → ws.getD j 0 = 0) → valB 4294967296 (mulL xs ys ws) = valB 4294967296 ws + valB 4294967296 xs * valB 4294967296 ys
  | [], ys, ws, _, _ => by simp [mulL, valB]
  | x :: xs, ys, ws, h, h0 => by
    simp only [List.length_cons] at h
    have hm := macL_val x ys ws 0 (by omega) (h0 _ (Nat.le_refl _))
    have hl := macL_len x ys ws 0
    have hb := macL_beyond x ys ws 0
    rw [mulL]
    match hq : macL x ys ws 0 with
    | [] => rw [hq] at hl; simp at hl; omega
    | q :: qs =>
      rw [hq] at hm hl hb
      show valB 4294967296 (q :: mulL xs ys qs) = _
      have hz : ∀ j, ys.length ≤ j → qs.getD j 0 = 0 := fun j hj => by
        have := hb (j + 1) (by omega)
        rw [h0 (j + 1) (by omega)] at this
        simpa using this
      rw [valB, mulL_val xs ys qs (by simp at hl; omega) hz, valB, Nat.add_mul, Nat.mul_assoc]
      rw [valB] at hm
      generalize valB 4294967296 xs * valB 4294967296 ys = p at hm ⊢
      generalize x * valB 4294967296 ys = r at hm ⊢
      omega
theorem mulL_len : ∀ (xs ys ws : List Nat), xs.length ≤ ws.length → (mulL xs ys ws).length = ws.length
  | [], _, _, _ => rfl
  | x :: xs, ys, ws, h => by
    have hl := macL_len x ys ws 0
    rw [List.length_cons] at h
    rw [mulL, List.length_cons, mulL_len xs ys _ (by rw [List.length_tail]; omega), List.length_tail]
    omega
theorem mulL_lt : ∀ (xs ys ws : List Nat), (∀ x ∈ xs, x < 4294967296) → (∀ x ∈ ys, x < 4294967296) → (∀ x ∈ ws, x < 4294967296) → ∀ z ∈ mulL xs ys ws, z < 4294967296
  | [], _, ws, _, _, hw, z, hz => hw z hz
  | x :: xs, ys, ws, hx, hy, hw, z, hz => by
    have hm := macL_lt x ys ws 0 (hx x (by simp)) hy hw (by decide)
    rw [mulL, List.mem_cons] at hz
    rcases hz with rfl | hz
    · match hq : macL x ys ws 0 with
      | [] => decide
      | q :: qs => rw [hq] at hm; exact hm q (by simp)
    · exact mulL_lt xs ys _ (fun z hz => hx z (by simp [hz])) hy (fun z hz => hm z (List.mem_of_mem_tail hz)) z hz
theorem fold_val : ∀ (xs ys : List Nat) (c : Nat), ys.length ≤ xs.length → valB 4294967296 (foldA xs ys c) + 4294967296 ^ ys.length * foldK xs ys c = valB 4294967296 (xs.take ys.length) + 38 * valB 4294967296 ys + c
  | _, [], c, _ => by rw [foldA_nil, foldK_nil]; simp [valB]
  | [], y :: ys, _, h => by simp at h
  | x :: xs, y :: ys, c, h => by
    have ih := fold_val xs ys ((x + 38 * y + c) / 4294967296) (by simpa using h)
    rw [foldA, foldK, List.length_cons, List.take_succ_cons]
    simp only [valB]
    rw [Nat.pow_succ, Nat.mul_comm (4294967296 ^ ys.length) 4294967296, Nat.mul_assoc]
    generalize 4294967296 ^ ys.length * foldK xs ys ((x + 38 * y + c) / 4294967296) = p at ih ⊢
    omega
theorem car_val : ∀ (xs : List Nat) (c : Nat), valB 4294967296 (carA xs c) + 4294967296 ^ xs.length * carK xs c = valB 4294967296 xs + c
  | [], c => by simp [carA, carK, valB]
  | x :: xs, c => by
    have ih := car_val xs ((x + c) / 4294967296)
    rw [carA, carK, List.length_cons]
    simp only [valB]
    rw [Nat.pow_succ, Nat.mul_comm (4294967296 ^ xs.length) 4294967296, Nat.mul_assoc]
    generalize 4294967296 ^ xs.length * carK xs ((x + c) / 4294967296) = p at ih ⊢
    omega
/-- 2^256. -/
def big : Nat := 115792089237316195423570985008687907853269984665640564039457584007913129639936
theorem big_eq : 4294967296 ^ 8 = big := by decide +kernel
theorem big_p : big = 2 * pF + 38 := by decide +kernel
theorem big_mod (z c : Nat) : (z + big * c) % pF = (z + 38 * c) % pF := by
  rw [big_p, show z + (2 * pF + 38) * c = z + 38 * c + pF * (2 * c) by rw [Nat.add_mul, Nat.mul_assoc, Nat.mul_left_comm 2 pF c]; omega, Nat.add_mul_mod_self_left]
theorem passL_mod : ∀ (f : Nat) (l : List Nat) (c : Nat), l.length = 8 → passC f l c = 0 → valB 4294967296 (passL f l c) % pF = (valB 4294967296 l + big * c) % pF
  | 0, l, c, _, h => by
    have : c = 0 := h
    subst this; rw [passL, Nat.mul_zero, Nat.add_zero]
  | f + 1, l, c, hl, h => by
    by_cases hc : c = 0
    · subst hc; rw [passL, if_pos rfl, Nat.mul_zero, Nat.add_zero]
    · rw [passC, if_neg hc] at h
      rw [passL, if_neg hc, passL_mod f _ _ (by rw [carA_len, hl]) h]
      have hv := car_val l (38 * c)
      rw [hl, big_eq] at hv
      rw [hv, big_mod]
theorem passC_zero (l : List Nat) (c : Nat) (hl : l.length = 8) (hlt : ∀ x ∈ l, x < 4294967296) (hc : c ≤ 38) : passC 2 l c = 0 := by
  by_cases h0 : c = 0
  · subst h0; rw [passC, if_pos rfl]
  · rw [passC, if_neg h0, passC]
    by_cases h1 : carK l (38 * c) = 0
    · rw [if_pos h1]
    · rw [if_neg h1, passC]
      have hne : l ≠ [] := fun h => by rw [h] at hl; simp at hl
      have hk := carK_le l (38 * c) hlt (by omega) hne
      have hk1 : carK l (38 * c) = 1 := by omega
      have hv := car_val l (38 * c)
      rw [hl, big_eq, hk1] at hv
      have hb := valB_lt (by decide) l hlt
      rw [hl, big_eq] at hb
      have hv2 := car_val (carA l (38 * c)) (38 * carK l (38 * c))
      rw [carA_len, hl, big_eq, hk1] at hv2
      rw [hk1]
      generalize carK (carA l (38 * c)) (38 * 1) = q at hv2 ⊢
      have hbig : 2000 < big := by decide +kernel
      cases q with
      | zero => rfl
      | succ q =>
        exfalso
        rw [Nat.mul_add] at hv2
        generalize big * q = z at hv2
        omega
theorem foldedL_fin (l : List Nat) (h : l.length = 16) (hlt : ∀ x ∈ l, x < 4294967296) : passC 2 (foldA l (l.drop 8) 0) (foldK l (l.drop 8) 0) = 0 :=
  passC_zero _ _ (by rw [foldA_len _ _ _ (by simp), List.length_drop, h]) (foldA_lt _ _ _) (foldK_le _ _ _ hlt (fun x hx => hlt x (List.mem_of_mem_drop hx)) (by omega))
theorem valB_split (l : List Nat) : ∀ k, k ≤ l.length → valB 4294967296 l = valB 4294967296 (l.take k) + 4294967296 ^ k * valB 4294967296 (l.drop k) := by
  intro k
  induction k generalizing l with
  | zero => intro _; simp [valB]
  | succ k ih =>
    intro h
    cases l with
    | nil => simp at h
    | cons x r =>
      rw [List.take_succ_cons, List.drop_succ_cons, valB, valB, ih r (by simpa using h), Nat.mul_add, Nat.pow_succ, Nat.mul_comm (4294967296 ^ k) 4294967296, Nat.mul_assoc]
      omega
theorem passL_lt : ∀ (f : Nat) (l : List Nat) (c : Nat), (∀ x ∈ l, x < 4294967296) → ∀ x ∈ passL f l c, x < 4294967296
  | 0, l, c, h => h
  | f + 1, l, c, h => by
    rw [passL]
    split
    · exact h
    · exact passL_lt f _ _ (carA_lt _ _)
theorem foldedL_mod (l : List Nat) (h : l.length = 16) (hlt : ∀ x ∈ l, x < 4294967296) : valB 4294967296 (foldedL l) % pF = valB 4294967296 l % pF := by
  have h8 : (l.drop 8).length = 8 := by rw [List.length_drop, h]
  unfold foldedL
  rw [passL_mod 2 _ _ (by rw [foldA_len _ _ _ (by simp), h8]) (foldedL_fin l h hlt)]
  have hv := fold_val l (l.drop 8) 0 (by simp)
  rw [h8, big_eq] at hv
  rw [hv, valB_split l 8 (by omega), big_eq, big_mod, Nat.add_zero]
/-- The limbs of a number. -/
def nL (x : Nat) : List Nat := limbs 4294967296 8 x
theorem nL_len (x : Nat) : (nL x).length = 8 := limbs_len _ _ _
theorem nL_lt (x : Nat) : ∀ y ∈ nL x, y < 4294967296 := limbs_lt (by decide) _ _
theorem nL_val (x : Nat) (h : x < big) : valB 4294967296 (nL x) = x := by
  unfold nL
  rw [val_limbs, big_eq, Nat.mod_eq_of_lt h]
theorem nL_of (l : List Nat) (n : Nat) (hk : l.length = 8) (h : ∀ x ∈ l, x < 4294967296) (hv : valB 4294967296 l = n) : l = nL n := limbs_eq (by decide) l 8 n hk h hv
/-- A number as a value. -/
def numV (x : Nat) : Value := aggN .u32 (nL x)
def prodN (x y : Nat) : Nat := valB 4294967296 (foldedL (mulL (nL x) (nL y) (List.replicate 16 0)))
theorem zeros_val : ∀ k, valB 4294967296 (List.replicate k 0) = 0
  | 0 => rfl
  | k + 1 => by rw [List.replicate_succ, valB, zeros_val k]
theorem zeros_getD (k j : Nat) : (List.replicate k 0).getD j 0 = 0 := by
  by_cases h : j < k
  · simp [h]
  · rw [List.getD_eq_getElem?_getD, List.getElem?_eq_none (by simp; omega)]; rfl
theorem mulL16_len (x y : Nat) : (mulL (nL x) (nL y) (List.replicate 16 0)).length = 16 := by rw [mulL_len _ _ _ (by rw [nL_len]; simp), List.length_replicate]
theorem mulL16_lt (x y : Nat) : ∀ z ∈ mulL (nL x) (nL y) (List.replicate 16 0), z < 4294967296 :=
  mulL_lt _ _ _ (nL_lt x) (nL_lt y) (fun z hz => by rw [List.eq_of_mem_replicate hz]; decide)
theorem foldedL_lt (l : List Nat) : ∀ x ∈ foldedL l, x < 4294967296 := passL_lt _ _ _ (foldA_lt _ _ _)
theorem prodN_mod (x y : Nat) (hx : x < big) (hy : y < big) : prodN x y % pF = x * y % pF := by
  unfold prodN
  rw [foldedL_mod _ (mulL16_len x y) (mulL16_lt x y), mulL_val _ _ _ (by rw [nL_len, nL_len, List.length_replicate]; omega) (fun j _ => zeros_getD 16 j), zeros_val, Nat.zero_add, nL_val x hx, nL_val y hy]
theorem prodN_lt (x y : Nat) : prodN x y < big := by
  have h := valB_lt (B := 4294967296) (by decide) _ (foldedL_lt (mulL (nL x) (nL y) (List.replicate 16 0)))
  rw [foldedL_len _ (mulL16_len x y), big_eq] at h
  exact h
theorem prodN_nL (x y : Nat) : foldedL (mulL (nL x) (nL y) (List.replicate 16 0)) = nL (prodN x y) := nL_of _ _ (foldedL_len _ (mulL16_len x y)) (foldedL_lt _) rfl
end Go.Proofs.Ytockcnglennihaa
end
section
namespace Go.Proofs.Ytockcnglennihaa
open Go.RowKit Go.Lib
def NP (x : Nat) (w : World) (e : Ending) (w' : World) : Prop := e = .returned (numV x) ∧ Below w.heap.size w w'
theorem sumN_any (x y : Nat) (hx : x < big) (hy : y < big) (hs : x + y < big) (w : World) : Calls Try.prog 79 #[numV x, numV y] w (NP (x + y) w) := by
  refine (sum_any (nL x) (nL y) (nL_len x) (nL_len y) (nL_lt x) (nL_lt y) w).mono ?_
  rintro e w' ⟨rfl, hb⟩
  refine ⟨?_, hb⟩
  rw [nL_of (addL (nL x) (nL y) 0) (x + y) (by rw [addL_len _ _ _ (by rw [nL_len, nL_len]), nL_len]) (addL_lt _ _ _) (by
    rw [addL_val _ _ _ (by rw [nL_len, nL_len]), nL_len, big_eq, nL_val x hx, nL_val y hy, Nat.add_zero, Nat.mod_eq_of_lt hs])]
  rfl
theorem diffN_any (x y : Nat) (hx : x < big) (hle : y ≤ x) (w : World) : Calls Try.prog 85 #[numV x, numV y] w (NP (x - y) w) := by
  refine (diff_any (nL x) (nL y) (nL_len x) (nL_len y) (nL_lt x) (nL_lt y) w).mono ?_
  rintro e w' ⟨rfl, hb⟩
  refine ⟨?_, hb⟩
  have hv := subL_val (nL x) (nL y) 0 (by rw [nL_len, nL_len]) (nL_lt x) (nL_lt y) (by omega) (by rw [nL_val x hx, nL_val y (by omega)]; exact hle)
  rw [nL_val x hx, nL_val y (by omega)] at hv
  rw [nL_of (subL (nL x) (nL y) 0) (x - y) (by rw [subL_len _ _ _ (by rw [nL_len, nL_len]), nL_len]) (subL_lt _ _ _) (by omega)]
  rfl
theorem prodN_any (x y : Nat) (w : World) : Calls Try.prog 76 #[numV x, numV y] w (NP (prodN x y) w) := by
  refine (product_of (fun l => foldedL l) (fun l w hl hW => folded_of l hl hW (foldedL_fin l hl hW) w) (fun l hl => foldedL_len l hl) (nL x) (nL y) (nL_len x) (nL_len y) (nL_lt x) (nL_lt y) w).mono ?_
  rintro e w' ⟨rfl, hb⟩
  refine ⟨?_, hb⟩
  rw [prodN_nL]
  rfl
theorem nL_p : nL pF = [4294967277, 4294967295, 4294967295, 4294967295, 4294967295, 4294967295, 4294967295, 2147483647] := by decide +kernel
/-- A root of p - 1. -/
def iF : Nat := 19681161376707505956807079304988542015446066515923890162744021073123829784752
theorem nL_i : nL iF = [1242472624, 3303938855, 2905597048, 792926214, 1039914919, 726466713, 1338105611, 730014848] := by decide +kernel
theorem prime_any (w : World) : Calls Try.prog 82 #[] w (NP pF w) := by
  go_enter Try.func82, Try.ntmps82
  go_wp2
  refine bodyPost_ret (v := numV pF) (by unfold numV; rw [nL_p]; simp [results, Try.results82, go_sem, aggN, numC]) rfl ⟨rfl, (Below.refl _ _).alloc (Nat.le_refl _) _⟩
theorem iroot_any (w : World) : Calls Try.prog 88 #[] w (NP iF w) := by
  go_enter Try.func88, Try.ntmps88
  go_wp2
  refine bodyPost_ret (v := numV iF) (by unfold numV; rw [nL_i]; simp [results, Try.results88, go_sem, aggN, numC]) rfl ⟨rfl, (Below.refl _ _).alloc (Nat.le_refl _) _⟩
theorem top_lt (a b : List Nat) (k : Nat) (hl : a.length = b.length) (hk : k < a.length) (ha : ∀ x ∈ a, x < 4294967296) (h : a.drop (k + 1) = b.drop (k + 1)) (hlt : a.getD k 0 < b.getD k 0) : valB 4294967296 a < valB 4294967296 b := by
  rw [valB_split a k (by omega), valB_split b k (by omega), drop_getD a k hk, drop_getD b k (by omega), valB, valB, h]
  have h1 := valB_lt (B := 4294967296) (by decide) (a.take k) fun x hx => ha x (List.mem_of_mem_take hx)
  rw [List.length_take, Nat.min_eq_left (by omega)] at h1
  generalize valB 4294967296 (b.drop (k + 1)) = v
  have h2 : 4294967296 ^ k * (a.getD k 0 + 4294967296 * v + 1) ≤ 4294967296 ^ k * (b.getD k 0 + 4294967296 * v) := Nat.mul_le_mul_left _ (by omega)
  rw [Nat.mul_add _ _ 1, Nat.mul_one] at h2
  omega
set_option maxHeartbeats 1000000 in
theorem isReduced_any (x : Nat) (hx : x < big) (w : World) : Calls Try.prog 73 #[numV x] w fun e w' => e = .returned (.bool (decide (x < pF))) ∧ Below w.heap.size w w' := by
  obtain ⟨Z, hZ, hz⟩ := zeroN
  obtain ⟨a, ha⟩ : ∃ a, nL x = a := ⟨_, rfl⟩
  obtain ⟨b, hb⟩ : ∃ b, nL pF = b := ⟨_, rfl⟩
  have hal : a.length = 8 := by rw [← ha, nL_len]
  have hbl : b.length = 8 := by rw [← hb, nL_len]
  have haW : ∀ x ∈ a, x < 4294967296 := ha ▸ nL_lt x
  have hbW : ∀ x ∈ b, x < 4294967296 := hb ▸ nL_lt pF
  have hav : valB 4294967296 a = x := by rw [← ha]; exact nL_val x hx
  have hbv : valB 4294967296 b = pF := by rw [← hb]; exact nL_val pF (by decide +kernel)
  have cp := fun w => prime_any w
  unfold NP numV aggN at cp
  rw [hb] at cp
  obtain ⟨A, hA⟩ : ∃ A, (numC .u32 a).toArray = A := ⟨_, rfl⟩
  obtain ⟨B, hB⟩ : ∃ B, (numC .u32 b).toArray = B := ⟨_, rfl⟩
  have hB8 : B.size = 8 := by rw [← hB, List.size_toArray, numC_length, hbl]
  have hB1 : B.all (·.oneCell') = true := by rw [← hB]; exact numC_one _ _
  rw [hB] at cp
  unfold numV aggN
  rw [ha, hA]
  replace cp := Kept.mk cp
  replace hZ := Kept.mk hZ
  replace ha := Kept.mk ha
  replace hb := Kept.mk hb
  replace hal := Kept.mk hal
  replace hbl := Kept.mk hbl
  replace haW := Kept.mk haW
  replace hbW := Kept.mk hbW
  replace hav := Kept.mk hav
  replace hbv := Kept.mk hbv
  replace hB8 := Kept.mk hB8
  replace hB1 := Kept.mk hB1
  clear hx
  go_enter Try.func73, Try.ntmps73
  go_wp2_with (first
    | (go_at_call 82; refine (cp.out _).mono ?_; rintro e w1 ⟨rfl, hb1⟩; replace hb1 := Kept.mk hb1)
    | (refine wpList_store_row rfl 78 (.tmp 3) (.tmp 5) rfl w1.heap.size B rfl rfl 78 Z (heap_alloc_new w1 _) ?_ ?_ hB1.out ?_; (rw [infoN, hB8.out]); (rw [hZ.out, hB8.out])))
  rw [World.setRow_alloc_new]
  have h1 : Arr (w1.alloc (.cells B 78)) w.heap.size 78 .u32 a := by
    have h := Arr.new w 78 .u32 a
    rw [hA] at h
    exact (h.from hb1.out).from ((Below.refl _ _).alloc (Nat.le_refl _) _)
  have h2 : Arr (w1.alloc (.cells B 78)) w1.heap.size 78 .u32 b := by
    have h := Arr.new w1 78 .u32 b
    rw [hB] at h
    exact h
  have h4 : Below w.heap.size w (w1.alloc (.cells B 78)) := (((Below.refl _ _).alloc (Nat.le_refl _) _).trans (hb1.out.mono (by simp))).alloc (by have := hb1.out.size; simp at this; omega) _
  replace hA := Kept.mk hA
  replace hB := Kept.mk hB
  clear hb1
  generalize w1.alloc (.cells B 78) = w0 at h1 h2 h4 ⊢
  generalize hn : w.heap.size = n at h1 ⊢
  generalize w1.heap.size = m at h2 ⊢
  replace h1 := Kept.mk h1
  replace h2 := Kept.mk h2
  replace h4 := Kept.mk h4
  replace hn := Kept.mk hn
  go_loopw [4] (fun v4 wr => ∃ (k : Nat), k ≤ 8 ∧ v4 = .int .i64 ((k : Int) - 1) ∧ Kept (a.drop k = b.drop k) ∧ Kept (Arr wr n 78 .u32 a) ∧ Kept (Arr wr m 78 .u32 b) ∧ Kept (Below w.heap.size w wr)) (fun v4 _ => (RowKit.intOf v4 + 1).toNat)
  case atStart => exact ⟨8, by omega, rfl, ⟨by rw [List.drop_eq_nil_of_le (by rw [hal.out]; omega), List.drop_eq_nil_of_le (by rw [hbl.out]; omega)]⟩, h1, h2, h4⟩
  case round =>
    clear h1 h2 h4
    obtain ⟨k, hk, rfl, HD, H1, H2, H4⟩ := hrel
    cases k with
    | zero =>
      rw [show ((0 : Nat) : Int) - 1 = -1 from rfl]
      go_wp2
      go_ret
      refine ⟨?_, H4.out⟩
      have hab : a = b := HD.out
      have : ¬ x < pF := by rw [← hav.out, ← hbv.out, hab]; omega
      rw [decide_eq_false this]
      rfl
    | succ k =>
      rw [show ((k + 1 : Nat) : Int) - 1 = (k : Int) by omega]
      obtain ⟨y, hy⟩ : ∃ y, a.getD k 0 = y := ⟨_, rfl⟩
      obtain ⟨z, hz⟩ : ∃ z, b.getD k 0 = z := ⟨_, rfl⟩
      have c1 : ∀ u : Held (From wr.drew), u.w.cell? ⟨n, k, none⟩ = some (.int .u32 (y : Int)) := fun u => hy ▸ (H1.out.from u.h.of_drew).cell k (by rw [hal.out]; omega)
      have c2 : ∀ u : Held (From wr.drew), u.w.cell? ⟨m, k, none⟩ = some (.int .u32 (z : Int)) := fun u => hz ▸ (H2.out.from u.h.of_drew).cell k (by rw [hbl.out]; omega)
      by_cases hyz : y = z
      · have e1 : ((y : Int) != (z : Int)) = false := by simp [hyz]
        have hdr : a.drop k = b.drop k := by rw [drop_getD a k (by rw [hal.out]; omega), drop_getD b k (by rw [hbl.out]; omega), hy, hz, hyz, HD.out]
        have hk1 : IntKind.i64.wrap ((k : Int) - 1) = (k : Int) - 1 := by simp [IntKind.wrap, IntKind.signed, IntKind.bits]; omega
        replace hyz := Kept.mk hyz
        replace hdr := Kept.mk hdr
        replace hy := Kept.mk hy
        replace hz := Kept.mk hz
        go_wp2
        refine wp_region_from (by kernel_rfl) (by kernel_rfl) ?_
        repeat (go_big_quiet_step (fail))
        refine wpQuiet_nil ?_
        intro w5 hw5
        have H15 := H1.out.from hw5.of_drew
        have H25 := H2.out.from hw5.of_drew
        have H45 := H4.out.trans (hw5.of_drew.mono H4.out.size)
        replace H15 := Kept.mk H15
        replace H25 := Kept.mk H25
        replace H45 := Kept.mk H45
        clear c1 c2
        go_wp2
        go_roundw
        case rel => exact ⟨k, by omega, rfl, hdr, H15, H25, H45⟩
        case measure => first | (simp [RowKit.intOf]; done) | (simp [RowKit.intOf]; omega)
      · have e1 : ((y : Int) != (z : Int)) = true := by simp; omega
        have hres : (x < pF) = (y < z) := by
          rw [← hav.out, ← hbv.out]
          have g1 := top_lt a b k (by rw [hal.out, hbl.out]) (by rw [hal.out]; omega) haW.out HD.out
          have g2 := top_lt b a k (by rw [hal.out, hbl.out]) (by rw [hbl.out]; omega) hbW.out HD.out.symm
          rw [hy, hz] at g1 g2
          apply propext
          constructor
          · intro h
            have : ¬ z < y := fun h2 => by have := g2 h2; omega
            omega
          · exact g1
        replace hyz := Kept.mk hyz
        replace hres := Kept.mk hres
        replace hy := Kept.mk hy
        replace hz := Kept.mk hz
        go_wp2
        refine wp_region_from (by kernel_rfl) (by kernel_rfl) ?_
        repeat (go_big_quiet_step (fail))
        refine wpQuiet_nil ?_
        intro w5 hw5
        have H15 := H1.out.from hw5.of_drew
        have H25 := H2.out.from hw5.of_drew
        have H45 := H4.out.trans (hw5.of_drew.mono H4.out.size)
        replace H45 := Kept.mk H45
        clear c1 c2
        have c1 : ∀ u : Held (From w5.drew), u.w.cell? ⟨n, k, none⟩ = some (.int .u32 (y : Int)) := fun u => hy.out ▸ (H15.from u.h.of_drew).cell k (by rw [hal.out]; omega)
        have c2 : ∀ u : Held (From w5.drew), u.w.cell? ⟨m, k, none⟩ = some (.int .u32 (z : Int)) := fun u => hz.out ▸ (H25.from u.h.of_drew).cell k (by rw [hbl.out]; omega)
        go_wp2
        refine wp_region_from (by kernel_rfl) (by kernel_rfl) ?_
        repeat (go_big_quiet_step (fail))
        refine wpQuiet_nil ?_
        intro w6 hw6
        have H46 := H45.out.trans (hw6.of_drew.mono H45.out.size)
        replace H46 := Kept.mk H46
        clear c1 c2
        go_wp2
        go_ret
        refine ⟨?_, H46.out⟩
        exact bool_ret (decide_eq_decide.2 (by rw [hres.out]))
end Go.Proofs.Ytockcnglennihaa
end
