/- Package field: squares, roots, inverses, modulo the prime. No walk. -/
import Derived.Test.YtbkaemekcjinaaaR7
set_option linter.unusedVariables false
namespace Go.Proofs.Ytbkaemekcjinaaa
open Go.RowKit
theorem twice_mod (a : Nat) : 2 * a % pF = (a + a) % pF := by rw [Nat.two_mul]
theorem neg_lt (a : Nat) : (0 + (pF - a)) % pF < pF := Nat.mod_lt _ p_pos
theorem neg_zero' : (0 + (pF - 0)) % pF = 0 := by rw [Nat.zero_add, Nat.sub_zero, Nat.mod_self]
theorem neg_pos' (a : Nat) (h0 : a ≠ 0) (h : a < pF) : (0 + (pF - a)) % pF = pF - a := by rw [Nat.zero_add, Nat.mod_eq_of_lt (by omega)]
theorem neg_neg' (a : Nat) (h : a < pF) : (0 + (pF - (0 + (pF - a)) % pF)) % pF = a := by
  by_cases h0 : a = 0
  · subst h0; rw [neg_zero', neg_zero']
  · rw [neg_pos' a h0 h, neg_pos' (pF - a) (by omega) (by omega)]; omega
theorem add_neg (a : Nat) (h : a < pF) : (a + (0 + (pF - a)) % pF) % pF = 0 := by
  rw [Nat.zero_add, Nat.add_mod_mod, Nat.add_sub_cancel' (Nat.le_of_lt h), Nat.mod_self]
theorem inv_mul (b : Nat) (h0 : b ≠ 0) (h : b < pF) : b * invF b % pF = 1 := by rw [Nat.mul_comm]; exact invF_mul b h0 h
theorem mul_ne (a b : Nat) (ha : a ≠ 0) (hb : b ≠ 0) (hal : a < pF) (hbl : b < pF) : a * b % pF ≠ 0 := by
  intro h
  rcases pr_p.dvd_mul (Nat.dvd_of_mod_eq_zero h) with hd | hd
  · exact absurd (Nat.le_of_dvd (Nat.pos_of_ne_zero ha) hd) (Nat.not_le.2 hal)
  · exact absurd (Nat.le_of_dvd (Nat.pos_of_ne_zero hb) hd) (Nat.not_le.2 hbl)
theorem invF_ne (b : Nat) (h0 : b ≠ 0) (h : b < pF) : invF b ≠ 0 := by
  intro e
  have := inv_mul b h0 h
  rw [e, Nat.mul_zero, Nat.zero_mod] at this
  omega
theorem quot (a b : Nat) (ha : a < pF) (h0 : b ≠ 0) (h : b < pF) : (a * b % pF) * invF b % pF = a := by
  rw [Nat.mod_mul_mod, Nat.mul_assoc, ← Nat.mul_mod_mod, inv_mul b h0 h, Nat.mul_one, Nat.mod_eq_of_lt ha]
theorem inv_inv (b : Nat) (h0 : b ≠ 0) (h : b < pF) : invF (invF b) = b := by
  have h1 := inv_mul (invF b) (invF_ne b h0 h) (invF_lt b)
  have h2 : b * (invF b * invF (invF b) % pF) % pF = b := by rw [h1, Nat.mul_one, Nat.mod_eq_of_lt h]
  rw [Nat.mul_mod_mod, ← Nat.mul_assoc, ← Nat.mod_mul_mod, inv_mul b h0 h, Nat.one_mul, Nat.mod_eq_of_lt (invF_lt _)] at h2
  exact h2
theorem sq_eq (r a : Nat) (hr : r < pF) (ha : a < pF) (h : r * r % pF = a * a % pF) : r = a ∨ r + a = pF := by
  have key : ∀ x y : Nat, x < pF → y < pF → y ≤ x → x * x % pF = y * y % pF → x = y ∨ x + y = pF := by
    intro x y hx hy hle h
    have hd : pF ∣ x * x - y * y := Pr.dvd_sub_of_mod h
    rw [show x * x - y * y = (x + y) * (x - y) from Nat.mul_self_sub_mul_self_eq x y] at hd
    rcases pr_p.dvd_mul hd with hd | hd
    · obtain ⟨c, hc⟩ := hd
      have hc2 : c < 2 := by
        apply Classical.byContradiction
        intro hn
        have : pF * 2 ≤ pF * c := Nat.mul_le_mul_left pF (by omega)
        omega
      have : c = 0 ∨ c = 1 := by omega
      rcases this with rfl | rfl
      · left; omega
      · right; omega
    · by_cases e : x - y = 0
      · left; omega
      · exact absurd (Nat.le_of_dvd (by omega) hd) (by omega)
  by_cases hle : a ≤ r
  · exact key r a hr ha hle h
  · rcases key a r ha hr (by omega) h.symm with e | e
    · exact Or.inl e.symm
    · right; omega
theorem i_sq : iF * iF % pF = pF - 1 := by decide +kernel
theorem m1_sq : (pF - 1) * (pF - 1) % pF = 1 := by decide +kernel
/-- (p - 1) / 2. -/
def hF : Nat := (pF - 1) / 2
theorem hF_two : hF + hF = pF - 1 := by decide +kernel
theorem eF_four : eF + eF + (eF + eF) = hF + 2 := by decide +kernel
theorem euler (a : Nat) (h0 : a ≠ 0) (h : a < pF) : powF a hF = 1 ∨ powF a hF = pF - 1 := by
  have hl := pr_p.little (a := a) (fun hd => absurd (Nat.le_of_dvd (Nat.pos_of_ne_zero h0) hd) (Nat.not_le.2 h))
  rw [← hF_two, Nat.pow_add, Nat.mul_mod] at hl
  have h1 : powF a hF * powF a hF % pF = 1 * 1 % pF := by
    unfold powF
    rw [hl]
    decide +kernel
  rcases sq_eq (powF a hF) 1 (powF_lt a hF) (small_lt 1 (by omega)) h1 with e | e
  · exact Or.inl e
  · right; omega
theorem sq_pow (a : Nat) : powF (a * a % pF) eF * powF (a * a % pF) eF % pF = powF a hF * (a * a) % pF := by
  unfold powF
  rw [← Nat.mul_mod, ← Nat.pow_add, ← Nat.pow_mod, ← Nat.pow_two, ← Nat.pow_mul, Nat.mod_mul_mod, ← Nat.pow_add]
  rw [show 2 * (eF + eF) = hF + 2 by rw [Nat.two_mul, eF_four]]
theorem cand_sq (a : Nat) (h : a < pF) : cand (a * a % pF) * cand (a * a % pF) % pF = a * a % pF := by
  unfold cand
  have hs := sq_pow a
  obtain ⟨w, hw⟩ : ∃ w, powF (a * a % pF) eF = w := ⟨_, rfl⟩
  rw [hw] at hs ⊢
  clear hw
  by_cases e : w * w % pF = a * a % pF
  · rw [if_pos e]; exact e
  · rw [if_neg e]
    have h0 : a ≠ 0 := by
      intro h0
      apply e
      have hz : a * a = 0 := by rw [h0]
      rw [hs, hz, Nat.mul_zero]
    rcases euler a h0 h with h1 | h1
    · rw [h1, Nat.one_mul] at hs
      exact absurd hs e
    · rw [h1] at hs
      have e2 : (w * iF % pF) * (w * iF % pF) % pF = (w * w % pF) * (iF * iF % pF) % pF := by
        rw [← Nat.mul_mod, ← Nat.mul_mod]
        congr 1
        rw [Nat.mul_assoc, Nat.mul_left_comm iF w iF, ← Nat.mul_assoc]
      rw [e2, hs, i_sq, Nat.mod_mul_mod, Nat.mul_assoc, Nat.mul_comm (a * a), ← Nat.mul_assoc, ← Nat.mod_mul_mod, m1_sq, Nat.one_mul]
theorem even_root (a : Nat) (h : a < pF) : evenN (cand (a * a % pF)) = a ∨ evenN (cand (a * a % pF)) = (0 + (pF - a)) % pF := by
  have hc := cand_lt (a * a % pF)
  have hsq := cand_sq a h
  generalize cand (a * a % pF) = r at hc hsq ⊢
  by_cases h0 : a = 0
  · subst h0
    rcases sq_eq r 0 hc p_pos hsq with e | e
    · subst e; left; rfl
    · omega
  · rw [neg_pos' a h0 h]
    unfold evenN
    rcases sq_eq r a hc h hsq with e | e
    · subst e
      split
      · exact Or.inr rfl
      · exact Or.inl rfl
    · split
      · left; omega
      · right; omega
theorem even_sq (r : Nat) (h : r < pF) : evenN r * evenN r % pF = r * r % pF := by
  unfold evenN
  split
  · have e : (pF - r) * (pF - r) + pF * (2 * r) = r * r + pF * pF := by
      obtain ⟨k, hk⟩ : ∃ k, pF = r + k := ⟨pF - r, by omega⟩
      rw [hk, Nat.add_sub_cancel_left, Nat.add_mul, Nat.add_mul, Nat.mul_add, Nat.mul_add]
      rw [show r * (2 * r) = r * r + r * r by rw [Nat.mul_left_comm, Nat.two_mul], show k * (2 * r) = r * k + k * r by rw [Nat.mul_left_comm, Nat.two_mul, Nat.mul_comm k r]]
      omega
    rw [← Nat.add_mul_mod_self_left _ pF (2 * r), e, Nat.add_mul_mod_self_left]
  · rfl
theorem even_lt (n : Nat) : evenN (cand n) < pF := evenN_lt _ (cand_lt n)
/-- Unlike elements have unlike bytes. -/
theorem E_ne {x y : Nat} (hx : x < pF) (hy : y < pF) (h : x ≠ y) : ((S (leB x)).toList == (S (leB y)).toList) = false := by
  rw [S_beq, decide_eq_false_iff_not]
  exact fun e => h (leB_inj (Nat.lt_trans hx p_big) (Nat.lt_trans hy p_big) e)
end Go.Proofs.Ytbkaemekcjinaaa
