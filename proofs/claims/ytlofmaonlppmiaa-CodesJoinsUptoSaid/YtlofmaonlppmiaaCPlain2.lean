/- Plain facts on numbers in bytes, the lowest first, and on digits of base sixteen: they go there and back. No program is spoken of. -/
set_option linter.unusedVariables false
namespace Go.Proofs.Ytlofmaonlppmiaa
/-! ### numbers -/
def getN : List UInt8 → Nat
  | [] => 0
  | b :: t => b.toNat + 256 * getN t
def leN : Nat → Nat → List UInt8
  | _, 0 => []
  | n, k + 1 => UInt8.ofNat (n % 256) :: leN (n / 256) k
theorem leN_len : ∀ k n, (leN n k).length = k
  | 0, _ => rfl
  | k + 1, n => by rw [leN, List.length_cons, leN_len k]
theorem byte_back (k : Nat) (h : k < 256) : (UInt8.ofNat k).toNat = k := by rw [UInt8.toNat_ofNat']; omega
theorem getN_lt : ∀ l : List UInt8, getN l < 256 ^ l.length
  | [] => by simp [getN]
  | b :: t => by
    have := getN_lt t
    have hb := b.toNat_lt
    rw [getN, List.length_cons, Nat.pow_succ]
    omega
theorem getN_leN : ∀ k n, n < 256 ^ k → getN (leN n k) = n
  | 0, n, h => by simp at h; subst h; rfl
  | k + 1, n, h => by
    rw [leN, getN, byte_back _ (by omega), getN_leN k (n / 256) (by rw [Nat.pow_succ] at h; omega)]
    omega
theorem leN_getN : ∀ l : List UInt8, leN (getN l) l.length = l
  | [] => rfl
  | b :: t => by
    have hb := b.toNat_lt
    rw [List.length_cons, leN, getN]
    have h1 : (b.toNat + 256 * getN t) % 256 = b.toNat := by omega
    have h2 : (b.toNat + 256 * getN t) / 256 = getN t := by omega
    rw [h1, h2, leN_getN t]
    simp
theorem getN_append (a b : List UInt8) : getN (a ++ b) = getN a + 256 ^ a.length * getN b := by
  induction a with
  | nil => simp [getN]
  | cons x t ih =>
    rw [List.cons_append, getN, ih, getN, List.length_cons, Nat.pow_succ, Nat.mul_add, ← Nat.add_assoc, ← Nat.mul_assoc, Nat.mul_comm 256 (256 ^ t.length)]
theorem getN_snoc (a : List UInt8) (x : UInt8) : getN (a ++ [x]) = getN a + 256 ^ a.length * x.toNat := by
  rw [getN_append]; simp [getN]
theorem leN_snoc : ∀ k n, leN n (k + 1) = leN n k ++ [UInt8.ofNat (n / 256 ^ k % 256)]
  | 0, n => by simp [leN]
  | k + 1, n => by
    rw [leN, leN_snoc k (n / 256)]
    conv => rhs; rw [leN]
    rw [Nat.div_div_eq_div_mul, Nat.pow_succ, Nat.mul_comm (256 ^ k) 256]
    rfl
theorem leN_inj {k n m : Nat} (hn : n < 256 ^ k) (hm : m < 256 ^ k) (h : leN n k = leN m k) : n = m := by
  rw [← getN_leN k n hn, h, getN_leN k m hm]

/-! ### digits -/
def hexD (n : Nat) : UInt8 := if n < 10 then UInt8.ofNat (48 + n) else UInt8.ofNat (87 + n)
def hex2 (b : UInt8) : List UInt8 := [hexD (b.toNat / 16), hexD (b.toNat % 16)]
def hexL (l : List UInt8) : List UInt8 := l.flatMap hex2
def isD (c : UInt8) : Bool := (decide (48 ≤ c.toNat) && decide (c.toNat ≤ 57)) || (decide (97 ≤ c.toNat) && decide (c.toNat ≤ 102))
def valD (c : UInt8) : Nat := if c.toNat ≤ 57 then c.toNat - 48 else c.toNat - 87
def unhexL : List UInt8 → Option (List UInt8)
  | [] => some []
  | [_] => none
  | a :: b :: t => if isD a = true ∧ isD b = true then (unhexL t).map (UInt8.ofNat (valD a * 16 + valD b) :: ·) else none
theorem hexD_facts : ∀ n : Fin 16, isD (hexD n.val) = true ∧ valD (hexD n.val) = n.val := by decide +kernel
theorem isD_iff (c : UInt8) : isD c = true ↔ (48 ≤ c.toNat ∧ c.toNat ≤ 57) ∨ (97 ≤ c.toNat ∧ c.toNat ≤ 102) := by unfold isD; simp
theorem hexD_back (c : UInt8) (h : isD c = true) : hexD (valD c) = c ∧ valD c < 16 := by
  rw [isD_iff] at h
  have key : ∀ n, c.toNat = n → c = UInt8.ofNat n := fun n hn => by subst hn; simp
  rcases h with h | h
  · have e : valD c = c.toNat - 48 := by unfold valD; rw [if_pos (by omega)]
    rw [e]
    unfold hexD
    rw [if_pos (by omega)]
    exact ⟨(key _ (by omega)).symm, by omega⟩
  · have e : valD c = c.toNat - 87 := by unfold valD; rw [if_neg (by omega)]
    rw [e]
    unfold hexD
    rw [if_neg (by omega)]
    exact ⟨(key _ (by omega)).symm, by omega⟩
theorem hexL_cons (b : UInt8) (t : List UInt8) : hexL (b :: t) = hexD (b.toNat / 16) :: hexD (b.toNat % 16) :: hexL t := rfl
theorem hexL_append (a b : List UInt8) : hexL (a ++ b) = hexL a ++ hexL b := by unfold hexL; rw [List.flatMap_append]
theorem hexL_len (l : List UInt8) : (hexL l).length = 2 * l.length := by
  induction l with
  | nil => rfl
  | cons b t ih => rw [hexL_cons, List.length_cons, List.length_cons, ih, List.length_cons]; omega
theorem unhex_hex (l : List UInt8) : unhexL (hexL l) = some l := by
  induction l with
  | nil => rfl
  | cons b t ih =>
    have hb := b.toNat_lt
    obtain ⟨a1, a2⟩ := hexD_facts ⟨b.toNat / 16, by omega⟩
    obtain ⟨b1, b2⟩ := hexD_facts ⟨b.toNat % 16, by omega⟩
    dsimp only at a1 a2 b1 b2
    rw [hexL_cons, unhexL, if_pos ⟨a1, b1⟩, ih, a2, b2]
    have : b.toNat / 16 * 16 + b.toNat % 16 = b.toNat := by omega
    rw [this]; simp
theorem hex_unhex : ∀ (s t : List UInt8), unhexL s = some t → hexL t = s
  | [], t, h => by injection h with h; subst h; rfl
  | [_], t, h => by cases h
  | a :: b :: s, t, h => by
    rw [unhexL] at h
    split at h
    · rename_i hd
      cases hs : unhexL s with
      | none => rw [hs] at h; cases h
      | some u =>
        rw [hs] at h
        injection h with h
        subst h
        obtain ⟨a1, a2⟩ := hexD_back a hd.1
        obtain ⟨b1, b2⟩ := hexD_back b hd.2
        rw [hexL_cons, hex_unhex s u hs, byte_back _ (by omega)]
        have e1 : (valD a * 16 + valD b) / 16 = valD a := by omega
        have e2 : (valD a * 16 + valD b) % 16 = valD b := by omega
        rw [e1, e2, a1, b1]
    · cases h
theorem unhex_iff (s t : List UInt8) : unhexL s = some t ↔ hexL t = s :=
  ⟨hex_unhex s t, fun h => by rw [← h]; exact unhex_hex t⟩
theorem hexL_inj {a b : List UInt8} (h : hexL a = hexL b) : a = b := by
  have := unhex_hex a
  rw [h, unhex_hex b] at this
  injection this with this; exact this.symm
/-- What is checked by its own digits is what the digits say. -/
theorem unhex_check (s cand : List UInt8) (h : ∀ t, unhexL s = some t → cand = t) : unhexL s = if hexL cand = s then some cand else none := by
  by_cases hc : hexL cand = s
  · rw [if_pos hc]; exact (unhex_iff s cand).2 hc
  · rw [if_neg hc]
    cases hs : unhexL s with
    | none => rfl
    | some t =>
      have := h t hs
      subst this
      exact absurd (hex_unhex s cand hs) hc
end Go.Proofs.Ytlofmaonlppmiaa
