/- The prime 2^255 - 19: that it is one, and what follows of it (Fermat, no divisors of nought). Numbers only, no program is spoken of. -/
namespace Go.Proofs.Ytbkaemekcjinaaa
/-- A prime. -/
def Pr (p : Nat) : Prop := 1 < p ∧ ∀ d, d ∣ p → d = 1 ∨ d = p
theorem Pr.cop {p k : Nat} (h : Pr p) (hk : ¬ p ∣ k) : Nat.gcd p k = 1 := by
  rcases h.2 (Nat.gcd p k) (Nat.gcd_dvd_left p k) with e | e
  · exact e
  · exact absurd (e ▸ Nat.gcd_dvd_right p k) hk
theorem Pr.dvd_mul {p a b : Nat} (h : Pr p) (hd : p ∣ a * b) : p ∣ a ∨ p ∣ b := by
  by_cases ha : p ∣ a
  · exact Or.inl ha
  · exact Or.inr (Nat.Coprime.dvd_of_dvd_mul_left (h.cop ha) hd)
/-- n over k. -/
def choose : Nat → Nat → Nat
  | _, 0 => 1
  | 0, _ + 1 => 0
  | n + 1, k + 1 => choose n k + choose n (k + 1)
theorem choose_zero (n : Nat) : choose n 0 = 1 := by cases n <;> rfl
theorem choose_gt : ∀ (n k : Nat), n < k → choose n k = 0
  | 0, k + 1, _ => rfl
  | n + 1, k + 1, h => by rw [choose, choose_gt n k (by omega), choose_gt n (k + 1) (by omega)]
theorem choose_self : ∀ n : Nat, choose n n = 1
  | 0 => rfl
  | n + 1 => by rw [choose, choose_self n, choose_gt n (n + 1) (by omega)]
theorem choose_mul : ∀ (n k : Nat), (n + 1) * choose n k = (k + 1) * choose (n + 1) (k + 1)
  | 0, 0 => rfl
  | 0, k + 1 => by simp [choose]
  | n + 1, 0 => by
    have h := choose_mul n 0
    rw [choose_zero] at h ⊢
    have e : choose (n + 1 + 1) (0 + 1) = choose (n + 1) 0 + choose (n + 1) (0 + 1) := rfl
    rw [choose_zero] at e
    omega
  | n + 1, k + 1 => by
    have h1 := choose_mul n k
    have h2 := choose_mul n (k + 1)
    have e1 : choose (n + 1 + 1) (k + 1 + 1) = choose (n + 1) (k + 1) + choose (n + 1) (k + 1 + 1) := rfl
    have e2 : choose (n + 1) (k + 1) = choose n k + choose n (k + 1) := rfl
    have e3 : (n + 1 + 1) * choose (n + 1) (k + 1) = (n + 1) * choose n k + (n + 1) * choose n (k + 1) + choose (n + 1) (k + 1) := by
      rw [Nat.add_mul, Nat.one_mul]; rw [show (n + 1) * choose (n + 1) (k + 1) = (n + 1) * choose n k + (n + 1) * choose n (k + 1) by rw [e2, Nat.mul_add]]
    rw [e3, e1, h1, h2, Nat.mul_add]
    rw [show (k + 1 + 1) * choose (n + 1) (k + 1) = (k + 1) * choose (n + 1) (k + 1) + choose (n + 1) (k + 1) by rw [Nat.add_mul, Nat.one_mul]]
    omega
/-- The first m terms of (1 + a)^n. -/
def bin (n a : Nat) : Nat → Nat
  | 0 => 0
  | m + 1 => bin n a m + choose n m * a ^ m
theorem bin_succ (n a : Nat) : ∀ m, bin (n + 1) a (m + 1) = bin n a (m + 1) + a * bin n a m
  | 0 => by simp [bin, choose_zero]
  | m + 1 => by
    rw [bin, bin_succ n a m]
    have e : bin n a (m + 1 + 1) = bin n a (m + 1) + choose n (m + 1) * a ^ (m + 1) := rfl
    have e2 : bin n a (m + 1) = bin n a m + choose n m * a ^ m := rfl
    have e3 : choose (n + 1) (m + 1) = choose n m + choose n (m + 1) := rfl
    rw [e, e3, Nat.add_mul]
    conv => rhs; rw [show a * bin n a (m + 1) = a * bin n a m + choose n m * a ^ (m + 1) by rw [e2, Nat.mul_add, Nat.pow_succ]; congr 1; rw [Nat.mul_left_comm, Nat.mul_comm a (a ^ m)]]
    omega
theorem bin_all (a : Nat) : ∀ n, bin n a (n + 1) = (1 + a) ^ n
  | 0 => by simp [bin, choose_zero]
  | n + 1 => by
    rw [bin_succ, Nat.pow_succ, Nat.mul_add, ← bin_all a n, Nat.mul_one, Nat.mul_comm a]
    have e : bin n a (n + 1 + 1) = bin n a (n + 1) := by
      show bin n a (n + 1) + choose n (n + 1) * a ^ (n + 1) = _
      rw [choose_gt n (n + 1) (by omega)]; omega
    rw [e]
theorem Pr.choose_dvd {p k : Nat} (h : Pr p) (h0 : 0 < k) (hk : k < p) : p ∣ choose p k := by
  obtain ⟨k, rfl⟩ : ∃ j, k = j + 1 := ⟨k - 1, by omega⟩
  obtain ⟨q, rfl⟩ : ∃ j, p = j + 1 := ⟨p - 1, by have := h.1; omega⟩
  have e := choose_mul q k
  rcases h.dvd_mul (show (q + 1) ∣ (k + 1) * choose (q + 1) (k + 1) from e ▸ Nat.dvd_mul_right _ _) with hd | hd
  · exact absurd (Nat.le_of_dvd (by omega) hd) (by omega)
  · exact hd
theorem Pr.bin_mod {p : Nat} (h : Pr p) (a : Nat) : ∀ m, 0 < m → m ≤ p → bin p a m % p = 1 % p
  | 1, _, _ => by simp [bin, choose_zero]
  | m + 1 + 1, _, hm => by
    show (bin p a (m + 1) + choose p (m + 1) * a ^ (m + 1)) % p = _
    obtain ⟨c, hc⟩ := h.choose_dvd (k := m + 1) (by omega) (by omega)
    rw [hc, Nat.mul_assoc, Nat.add_mul_mod_self_left]
    exact h.bin_mod a (m + 1) (by omega) (by omega)
theorem Pr.succ_pow {p : Nat} (h : Pr p) (a : Nat) : (1 + a) ^ p % p = (1 + a ^ p) % p := by
  rw [← bin_all]
  show (bin p a p + choose p p * a ^ p) % p = _
  rw [choose_self, Nat.one_mul, Nat.add_mod, h.bin_mod a p (by have := h.1; omega) (Nat.le_refl _), ← Nat.add_mod]
theorem Pr.fermat {p : Nat} (h : Pr p) : ∀ a, a ^ p % p = a % p
  | 0 => by rw [Nat.zero_pow (by have := h.1; omega)]
  | a + 1 => by
    rw [Nat.add_comm a 1, h.succ_pow, Nat.add_mod, h.fermat a, ← Nat.add_mod]
theorem Pr.dvd_sub_of_mod {p a b : Nat} (h : a % p = b % p) : p ∣ a - b := Nat.dvd_of_mod_eq_zero (Nat.sub_mod_eq_zero_of_mod_eq h)
theorem Pr.little {p a : Nat} (h : Pr p) (ha : ¬ p ∣ a) : a ^ (p - 1) % p = 1 := by
  have h1 := h.1
  have ha0 : 0 < a := Nat.pos_of_ne_zero fun e => ha (e ▸ Nat.dvd_zero p)
  have e : a ^ p = a * a ^ (p - 1) := by
    conv => lhs; rw [show p = p - 1 + 1 by omega, Nat.pow_succ, Nat.mul_comm]
  have hf := h.fermat a
  rw [e] at hf
  have hpos : 1 ≤ a ^ (p - 1) := Nat.pow_pos ha0
  have hd : p ∣ a * (a ^ (p - 1) - 1) := by
    rw [Nat.mul_sub, Nat.mul_one]
    exact Pr.dvd_sub_of_mod hf
  rcases h.dvd_mul hd with hd | ⟨c, hc⟩
  · exact absurd hd ha
  · rw [show a ^ (p - 1) = 1 + p * c by omega, Nat.add_mul_mod_self_left, Nat.mod_eq_of_lt h1]
theorem pow_mod' (a n r : Nat) : a ^ n % r = (a % r) ^ n % r := Nat.pow_mod a n r
theorem pow_one_mod {a r k : Nat} (n : Nat) (h : a ^ k % r = 1 % r) : a ^ (k * n) % r = 1 % r := by
  rw [Nat.pow_mul, Nat.pow_mod, h, ← Nat.pow_mod, Nat.one_pow]
theorem pow_gcd {b r : Nat} : ∀ (x y : Nat), b ^ x % r = 1 % r → b ^ y % r = 1 % r → b ^ Nat.gcd x y % r = 1 % r := by
  intro x y
  induction x, y using Nat.gcd.induction with
  | H0 y => intro _ h; rw [Nat.gcd_zero_left]; exact h
  | H1 x y hx ih =>
    intro h1 h2
    rw [Nat.gcd_rec]
    refine ih ?_ h1
    have e : b ^ y = b ^ (x * (y / x)) * b ^ (y % x) := by rw [← Nat.pow_add, Nat.div_add_mod]
    rw [e, Nat.mul_mod, pow_one_mod (y / x) h1, ← Nat.mul_mod, Nat.one_mul] at h2
    exact h2
theorem prime_divisor : ∀ n : Nat, 1 < n → ∃ r, Pr r ∧ r ∣ n := by
  intro n
  induction n using Nat.strongRecOn with
  | _ n ih =>
    intro hn
    by_cases h : Pr n
    · exact ⟨n, h, Nat.dvd_refl n⟩
    · have : ∃ d, d ∣ n ∧ d ≠ 1 ∧ d ≠ n := by
        apply Classical.byContradiction
        intro hc
        refine h ⟨hn, fun d hd => ?_⟩
        by_cases h1 : d = 1
        · exact Or.inl h1
        · by_cases h2 : d = n
          · exact Or.inr h2
          · exact absurd ⟨d, hd, h1, h2⟩ hc
      obtain ⟨d, hd, h1, h2⟩ := this
      have hle := Nat.le_of_dvd (by omega) hd
      have hp := Nat.pos_of_dvd_of_pos hd (by omega)
      obtain ⟨r, hr, hrd⟩ := ih d (by omega) (by omega)
      exact ⟨r, hr, Nat.dvd_trans hrd hd⟩
/-- A number that no prime up to its root divides is one. -/
theorem prime_of_none {n : Nat} (hn : 1 < n) (h : ∀ r, Pr r → r ∣ n → n < r * r) : Pr n := by
  refine ⟨hn, fun d hd => ?_⟩
  obtain ⟨c, rfl⟩ := hd
  by_cases h1 : d = 1
  · exact Or.inl h1
  · by_cases h2 : c = 1
    · subst h2; right; omega
    · have hd0 : 0 < d := Nat.pos_of_ne_zero fun e => by subst e; simp at hn
      have hc0 : 0 < c := Nat.pos_of_ne_zero fun e => by subst e; simp at hn
      obtain ⟨r, hr, hrd⟩ := prime_divisor d (by omega)
      obtain ⟨t, ht, htc⟩ := prime_divisor c (by omega)
      have a1 := h r hr (Nat.dvd_trans hrd (Nat.dvd_mul_right d c))
      have a2 := h t ht (Nat.dvd_trans htc (Nat.dvd_mul_left c d))
      have b1 := Nat.le_of_dvd hd0 hrd
      have b2 := Nat.le_of_dvd hc0 htc
      exfalso
      by_cases hrt : r ≤ t
      · have c1 : r * t ≤ d * c := Nat.mul_le_mul b1 b2
        have c2 : d * c < r * r := a1
        have c3 : r * r ≤ r * t := Nat.mul_le_mul_left r hrt
        omega
      · have c1 : r * t ≤ d * c := Nat.mul_le_mul b1 b2
        have c3 : t * t ≤ r * t := Nat.mul_le_mul_right t (by omega)
        omega
/-- Pocklington's step: q divides what each prime divisor has less one. -/
theorem pock {n q m a r : Nat} (hq : Pr q) (hn : n = q * m + 1) (h1 : a ^ (q * m) % n = 1 % n) {A : Nat} (hA : A % n = a ^ m % n) (h2 : Nat.gcd (A - 1) n = 1) (hr : Pr r) (hd : r ∣ n) : q ∣ r - 1 := by
  apply Classical.byContradiction
  intro hc
  have hg := hq.cop hc
  have hr1 := hr.1
  have h1r : a ^ (q * m) % r = 1 % r := by
    rw [← Nat.mod_mod_of_dvd _ hd, h1, Nat.mod_mod_of_dvd _ hd]
  have hra : ¬ r ∣ a := by
    intro ha
    have : 0 < q * m := by
      apply Nat.pos_of_ne_zero
      intro e
      rw [e] at hn
      subst hn
      exact absurd (Nat.le_of_dvd (by omega) hd) (by omega)
    have e2 : a ^ (q * m) % r = 0 := Nat.mod_eq_zero_of_dvd (Nat.dvd_trans ha ⟨a ^ (q * m - 1), by conv => lhs; rw [show q * m = q * m - 1 + 1 by omega, Nat.pow_succ, Nat.mul_comm]⟩)
    rw [e2, Nat.mod_eq_of_lt hr1] at h1r
    omega
  have hl := hr.little hra
  have g1 : (a ^ m) ^ q % r = 1 % r := by rw [← Nat.pow_mul, Nat.mul_comm]; exact h1r
  have g2 : (a ^ m) ^ (r - 1) % r = 1 % r := by
    rw [← Nat.pow_mul, Nat.mul_comm]
    exact pow_one_mod m (by rw [hl, Nat.mod_eq_of_lt hr1])
  have g3 := pow_gcd q (r - 1) g1 g2
  rw [hg, Nat.pow_one] at g3
  rw [← Nat.mod_mod_of_dvd _ hd, ← hA, Nat.mod_mod_of_dvd _ hd] at g3
  have hdv : r ∣ A - 1 := Pr.dvd_sub_of_mod g3
  have := Nat.dvd_gcd hdv hd
  rw [h2] at this
  exact absurd (Nat.le_of_dvd (by omega) this) (by omega)
/-- A power modulo n, by squares; the first number only bounds the steps. -/
def pm (n : Nat) : Nat → Nat → Nat → Nat
  | 0, _, _ => 1 % n
  | k + 1, a, e => bif e % 2 == 1 then a * pm n k (a * a % n) (e / 2) % n else pm n k (a * a % n) (e / 2)
theorem pm_eq (n : Nat) : ∀ (k a e : Nat), e < 2 ^ k → pm n k a e = a ^ e % n
  | 0, a, e, h => by
    have : e = 0 := by simpa using h
    subst this; rfl
  | k + 1, a, e, h => by
    have hlt : e / 2 < 2 ^ k := by rw [Nat.pow_succ] at h; omega
    have ih := pm_eq n k (a * a % n) (e / 2) hlt
    have e2 : (a * a % n) ^ (e / 2) % n = a ^ (2 * (e / 2)) % n := by
      rw [← Nat.pow_mod, Nat.pow_mul]
      rw [show a ^ 2 = a * a by rw [Nat.pow_succ, Nat.pow_one]]
    rw [pm, ih, e2]
    by_cases hb : e % 2 = 1
    · rw [show (e % 2 == 1) = true by simp [hb]]
      show a * _ % n = _
      rw [Nat.mul_mod, Nat.mod_mod, ← Nat.mul_mod]
      conv => rhs; rw [show e = 2 * (e / 2) + 1 by omega, Nat.pow_succ, Nat.mul_comm]
    · rw [show (e % 2 == 1) = false by simp [hb]]
      show a ^ (2 * (e / 2)) % n = _
      rw [show 2 * (e / 2) = e by omega]
/-- No number from 2 to k + 1 divides n. -/
def noDiv (n : Nat) : Nat → Bool
  | 0 => true
  | k + 1 => (n % (k + 2) != 0) && noDiv n k
theorem noDiv_spec {n : Nat} : ∀ k, noDiv n k = true → ∀ r, 2 ≤ r → r ≤ k + 1 → ¬ r ∣ n
  | 0, _, r, h1, h2, _ => by omega
  | k + 1, h, r, h1, h2, hd => by
    rw [noDiv, Bool.and_eq_true] at h
    by_cases e : r = k + 2
    · subst e
      have := Nat.mod_eq_zero_of_dvd hd
      simp [this] at h
    · exact noDiv_spec k h.2 r h1 (by omega) hd
theorem prime_small {n : Nat} (k : Nat) (hn : 1 < n) (hk : n < (k + 2) * (k + 2)) (h : noDiv n k = true) : Pr n := by
  refine prime_of_none hn fun r hr hd => ?_
  have h1 := hr.1
  have : ¬ r ≤ k + 1 := fun hle => noDiv_spec k h r h1 hle hd
  exact Nat.lt_of_lt_of_le hk (Nat.mul_le_mul (by omega) (by omega))
/-- From two primes whose product is above the root. -/
theorem pock2 {n q m q' m' a : Nat} (hq : Pr q) (hq' : Pr q') (hne : q ≠ q') (hn : n = q * m + 1) (hn' : n = q' * m' + 1) (hsz : n < (q * q' + 1) * (q * q' + 1))
    (h1 : pm n 256 a (q * m) = 1 % n) (h2 : Nat.gcd (pm n 256 a m - 1) n = 1) (h1' : pm n 256 a (q' * m') = 1 % n) (h2' : Nat.gcd (pm n 256 a m' - 1) n = 1) (hb : n < 2 ^ 256) (hn1 : 1 < n) : Pr n := by
  have hqm : q * m < 2 ^ 256 := by omega
  have hqm' : q' * m' < 2 ^ 256 := by omega
  have hml : m < 2 ^ 256 := Nat.lt_of_le_of_lt (Nat.le_mul_of_pos_left m (by have := hq.1; omega)) hqm
  have hml' : m' < 2 ^ 256 := Nat.lt_of_le_of_lt (Nat.le_mul_of_pos_left m' (by have := hq'.1; omega)) hqm'
  rw [pm_eq n 256 a _ hqm] at h1
  rw [pm_eq n 256 a _ hqm'] at h1'
  refine prime_of_none hn1 fun r hr hd => ?_
  have d1 := pock hq hn h1 (A := pm n 256 a m) (by rw [pm_eq n 256 a _ hml, Nat.mod_mod]) h2 hr hd
  have d2 := pock hq' hn' h1' (A := pm n 256 a m') (by rw [pm_eq n 256 a _ hml', Nat.mod_mod]) h2' hr hd
  have hc : Nat.gcd q q' = 1 := hq.cop fun hdq => by
    rcases hq'.2 q hdq with e | e
    · have := hq.1; omega
    · exact hne e
  have d3 : q * q' ∣ r - 1 := Nat.Coprime.mul_dvd_of_dvd_of_dvd hc d1 d2
  have hr1 := hr.1
  have hle := Nat.le_of_dvd (by omega) d3
  exact Nat.lt_of_lt_of_le hsz (Nat.mul_le_mul (by omega) (by omega))
/-- From one prime above the root. -/
theorem pock1 {n q m a : Nat} (hq : Pr q) (hn : n = q * m + 1) (hsz : n < (q + 1) * (q + 1))
    (h1 : pm n 256 a (q * m) = 1 % n) (h2 : Nat.gcd (pm n 256 a m - 1) n = 1) (hb : n < 2 ^ 256) (hn1 : 1 < n) : Pr n := by
  have hqm : q * m < 2 ^ 256 := by omega
  have hml : m < 2 ^ 256 := Nat.lt_of_le_of_lt (Nat.le_mul_of_pos_left m (by have := hq.1; omega)) hqm
  rw [pm_eq n 256 a _ hqm] at h1
  refine prime_of_none hn1 fun r hr hd => ?_
  have d1 := pock hq hn h1 (A := pm n 256 a m) (by rw [pm_eq n 256 a _ hml, Nat.mod_mod]) h2 hr hd
  have hr1 := hr.1
  have hle := Nat.le_of_dvd (by omega) d1
  exact Nat.lt_of_lt_of_le hsz (Nat.mul_le_mul (by omega) (by omega))
theorem pr_75707 : Pr 75707 := prime_small 275 (by decide) (by decide) (by decide +kernel)
theorem pr_8574133 : Pr 8574133 := prime_small 2929 (by decide) (by decide) (by decide +kernel)
theorem pr_127 : Pr 127 := prime_small 11 (by decide) (by decide) (by decide +kernel)
theorem pr_4153 : Pr 4153 := prime_small 64 (by decide) (by decide) (by decide +kernel)
theorem pr_430751 : Pr 430751 := prime_small 656 (by decide) (by decide) (by decide +kernel)
theorem pr_q3 : Pr 1919519569386763 := pock2 (m := 1919519569386762 / 8574133) (m' := 1919519569386762 / 127) (a := 2) pr_8574133 pr_127 (by decide) (by decide +kernel) (by decide +kernel) (by decide +kernel) (by decide +kernel) (by decide +kernel) (by decide +kernel) (by decide +kernel) (by decide +kernel) (by decide +kernel)
theorem pr_q2 : Pr 31757755568855353 := pock2 (m := 31757755568855352 / 430751) (m' := 31757755568855352 / 4153) (a := 2) pr_430751 pr_4153 (by decide) (by decide +kernel) (by decide +kernel) (by decide +kernel) (by decide +kernel) (by decide +kernel) (by decide +kernel) (by decide +kernel) (by decide +kernel) (by decide +kernel)
theorem pr_q1 : Pr 75445702479781427272750846543864801 := pock2 (m := 75445702479781427272750846543864800 / 1919519569386763) (m' := 75445702479781427272750846543864800 / 75707) (a := 2) pr_q3 pr_75707 (by decide) (by decide +kernel) (by decide +kernel) (by decide +kernel) (by decide +kernel) (by decide +kernel) (by decide +kernel) (by decide +kernel) (by decide +kernel) (by decide +kernel)
theorem pr_q : Pr 74058212732561358302231226437062788676166966415465897661863160754340907 := pock2 (m := 74058212732561358302231226437062788676166966415465897661863160754340906 / 75445702479781427272750846543864801) (m' := 74058212732561358302231226437062788676166966415465897661863160754340906 / 31757755568855353) (a := 2) pr_q1 pr_q2 (by decide +kernel) (by decide +kernel) (by decide +kernel) (by decide +kernel) (by decide +kernel) (by decide +kernel) (by decide +kernel) (by decide +kernel) (by decide +kernel) (by decide +kernel)
/-- 2^255 - 19. -/
def pF : Nat := 57896044618658097711785492504343953926634992332820282019728792003956564819949
theorem pF_eq : pF = 2 ^ 255 - 19 := by decide +kernel
theorem pr_p : Pr pF := pock1 (q := 74058212732561358302231226437062788676166966415465897661863160754340907) (m := 781764) (a := 2) pr_q (by decide +kernel) (by decide +kernel) (by decide +kernel) (by decide +kernel) (by decide +kernel) (by decide +kernel)
end Go.Proofs.Ytbkaemekcjinaaa
