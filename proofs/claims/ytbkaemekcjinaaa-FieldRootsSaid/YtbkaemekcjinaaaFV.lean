/- The values of sums, differences and products of limbs. No walk. -/
import Derived.Test.YtbkaemekcjinaaaF4
import Derived.Test.YtbkaemekcjinaaaFPrime
namespace Go.Proofs.Ytbkaemekcjinaaa
open Go.RowKit Go.Lib
theorem addL_len : ∀ (xs ys : List Nat) (c : Nat), xs.length = ys.length → (addL xs ys c).length = xs.length
  | [], _, _, _ => by rw [addL_nil]
  | x :: xs, [], _, h => by simp at h
  | x :: xs, y :: ys, c, h => by rw [addL, List.length_cons, List.length_cons, addL_len xs ys _ (by simpa using h)]
theorem addL_lt : ∀ (xs ys : List Nat) (c : Nat), ∀ z ∈ addL xs ys c, z < 4294967296
  | [], _, _, z, h => by rw [addL_nil] at h; simp at h
  | x :: xs, [], _, z, h => by simp [addL] at h
  | x :: xs, y :: ys, c, z, h => by
    rw [addL, List.mem_cons] at h
    rcases h with rfl | h
    · exact Nat.mod_lt _ (by decide)
    · exact addL_lt xs ys _ z h
theorem addL_val : ∀ (xs ys : List Nat) (c : Nat), xs.length = ys.length → valB 4294967296 (addL xs ys c) = (valB 4294967296 xs + valB 4294967296 ys + c) % 4294967296 ^ xs.length
  | [], [], _, _ => by rw [List.length_nil, Nat.pow_zero, Nat.mod_one]; rfl
  | [], y :: ys, _, h => by simp at h
  | x :: xs, [], _, h => by simp at h
  | x :: xs, y :: ys, c, h => by
    rw [addL, valB, addL_val xs ys _ (by simpa using h), List.length_cons, Nat.pow_succ, Nat.mul_comm (4294967296 ^ xs.length), Nat.mod_mul, valB, valB]
    have e1 : (x + 4294967296 * valB 4294967296 xs + (y + 4294967296 * valB 4294967296 ys) + c) % 4294967296 = (x + y + c) % 4294967296 := by omega
    have e2 : (x + 4294967296 * valB 4294967296 xs + (y + 4294967296 * valB 4294967296 ys) + c) / 4294967296 = valB 4294967296 xs + valB 4294967296 ys + (x + y + c) / 4294967296 := by omega
    rw [e1, e2]
theorem subL_len : ∀ (xs ys : List Nat) (c : Nat), xs.length = ys.length → (subL xs ys c).length = xs.length
  | [], _, _, _ => by rw [subL_nil]
  | x :: xs, [], _, h => by simp at h
  | x :: xs, y :: ys, c, h => by rw [subL, List.length_cons, List.length_cons, subL_len xs ys _ (by simpa using h)]
theorem subL_lt : ∀ (xs ys : List Nat) (c : Nat), ∀ z ∈ subL xs ys c, z < 4294967296
  | [], _, _, z, h => by rw [subL_nil] at h; simp at h
  | x :: xs, [], _, z, h => by simp [subL] at h
  | x :: xs, y :: ys, c, z, h => by
    rw [subL, List.mem_cons] at h
    rcases h with rfl | h
    · exact Nat.mod_lt _ (by decide)
    · exact subL_lt xs ys _ z h
theorem subL_val : ∀ (xs ys : List Nat) (c : Nat), xs.length = ys.length → (∀ x ∈ xs, x < 4294967296) → (∀ x ∈ ys, x < 4294967296) → c ≤ 1 → valB 4294967296 ys + c ≤ valB 4294967296 xs →
    valB 4294967296 (subL xs ys c) + valB 4294967296 ys + c = valB 4294967296 xs
  | [], [], c, _, _, _, _, hle => by simp [valB, subL] at hle ⊢; omega
  | [], y :: ys, _, h, _, _, _, _ => by simp at h
  | x :: xs, [], _, h, _, _, _, _ => by simp at h
  | x :: xs, y :: ys, c, h, hx, hy, hc, hle => by
    have h1 := hx x (by simp)
    have h2 := hy y (by simp)
    simp only [valB] at hle
    by_cases hb : x < y + c
    · have ih := subL_val xs ys 1 (by simpa using h) (fun z hz => hx z (by simp [hz])) (fun z hz => hy z (by simp [hz])) (by omega) (by omega)
      rw [subL, if_pos hb]
      simp only [valB]
      omega
    · have ih := subL_val xs ys 0 (by simpa using h) (fun z hz => hx z (by simp [hz])) (fun z hz => hy z (by simp [hz])) (by omega) (by omega)
      rw [subL, if_neg hb]
      simp only [valB]
      omega
theorem macL_val : ∀ (x : Nat) (ys ws : List Nat) (c : Nat), ys.length < ws.length → ws.getD ys.length 0 = 0 → valB 4294967296 (macL x ys ws c) = valB 4294967296 ws + x * valB 4294967296 ys + c
  | x, [], [], _, h, _ => by simp at h
  | x, [], v :: vs, c, _, h => by
    have : v = 0 := by simpa using h
    subst this
    simp [macL, valB]; omega
  | x, y :: ys, [], _, h, _ => by simp at h
  | x, y :: ys, v :: vs, c, h, h0 => by
    rw [macL, valB, macL_val x ys vs _ (by simpa using h) (by simpa using h0), valB, valB, Nat.mul_add x y]
    have e : x * (4294967296 * valB 4294967296 ys) = 4294967296 * (x * valB 4294967296 ys) := Nat.mul_left_comm _ _ _
    rw [e]
    generalize x * valB 4294967296 ys = p
    generalize x * y = q
    omega
theorem macL_beyond : ∀ (x : Nat) (ys ws : List Nat) (c j : Nat), ys.length < j → (macL x ys ws c).getD j 0 = ws.getD j 0
  | x, [], [], _, _, _ => rfl
  | x, [], v :: vs, c, j, h => by
    obtain ⟨j, rfl⟩ : ∃ i, j = i + 1 := ⟨j - 1, by simp at h; omega⟩
    simp [macL]
  | x, y :: ys, [], _, _, _ => rfl
  | x, y :: ys, v :: vs, c, j, h => by
    obtain ⟨j, rfl⟩ : ∃ i, j = i + 1 := ⟨j - 1, by simp at h; omega⟩
    rw [macL]
    have := macL_beyond x ys vs ((x * y + v + c) / 4294967296) j (by simpa using h)
    simpa using this
theorem mulL_val : ∀ (xs ys ws : List Nat), xs.length + ys.length ≤ ws.length → (∀ j, ys.length ≤ j → ws.getD j 0 = 0) → valB 4294967296 (mulL xs ys ws) = valB 4294967296 ws + valB 4294967296 xs * valB 4294967296 ys
  | [], ys, ws, _, _ => by simp [mulL, valB]
  | x :: xs, ys, ws, h, h0 => by
    simp only [List.length_cons] at h
    have hm := macL_val x ys ws 0 (by omega) (h0 _ (Nat.le_refl _))
    have hl := macL_len x ys ws 0
    have hb := macL_beyond x ys ws 0
    rw [mulL]
    match hq : macL x ys ws 0 with
    | [] => rw [hq] at hl; simp at hl; omega
    | q :: qs =>
      rw [hq] at hm hl hb
      show valB 4294967296 (q :: mulL xs ys qs) = _
      have hz : ∀ j, ys.length ≤ j → qs.getD j 0 = 0 := fun j hj => by
        have := hb (j + 1) (by omega)
        rw [h0 (j + 1) (by omega)] at this
        simpa using this
      rw [valB, mulL_val xs ys qs (by simp at hl; omega) hz, valB, Nat.add_mul, Nat.mul_assoc]
      rw [valB] at hm
      generalize valB 4294967296 xs * valB 4294967296 ys = p at hm ⊢
      generalize x * valB 4294967296 ys = r at hm ⊢
      omega
theorem mulL_len : ∀ (xs ys ws : List Nat), xs.length ≤ ws.length → (mulL xs ys ws).length = ws.length
  | [], _, _, _ => rfl
  | x :: xs, ys, ws, h => by
    have hl := macL_len x ys ws 0
    rw [List.length_cons] at h
    rw [mulL, List.length_cons, mulL_len xs ys _ (by rw [List.length_tail]; omega), List.length_tail]
    omega
theorem mulL_lt : ∀ (xs ys ws : List Nat), (∀ x ∈ xs, x < 4294967296) → (∀ x ∈ ys, x < 4294967296) → (∀ x ∈ ws, x < 4294967296) → ∀ z ∈ mulL xs ys ws, z < 4294967296
  | [], _, ws, _, _, hw, z, hz => hw z hz
  | x :: xs, ys, ws, hx, hy, hw, z, hz => by
    have hm := macL_lt x ys ws 0 (hx x (by simp)) hy hw (by decide)
    rw [mulL, List.mem_cons] at hz
    rcases hz with rfl | hz
    · match hq : macL x ys ws 0 with
      | [] => decide
      | q :: qs => rw [hq] at hm; exact hm q (by simp)
    · exact mulL_lt xs ys _ (fun z hz => hx z (by simp [hz])) hy (fun z hz => hm z (List.mem_of_mem_tail hz)) z hz
theorem fold_val : ∀ (xs ys : List Nat) (c : Nat), ys.length ≤ xs.length → valB 4294967296 (foldA xs ys c) + 4294967296 ^ ys.length * foldK xs ys c = valB 4294967296 (xs.take ys.length) + 38 * valB 4294967296 ys + c
  | _, [], c, _ => by rw [foldA_nil, foldK_nil]; simp [valB]
  | [], y :: ys, _, h => by simp at h
  | x :: xs, y :: ys, c, h => by
    have ih := fold_val xs ys ((x + 38 * y + c) / 4294967296) (by simpa using h)
    rw [foldA, foldK, List.length_cons, List.take_succ_cons]
    simp only [valB]
    rw [Nat.pow_succ, Nat.mul_comm (4294967296 ^ ys.length) 4294967296, Nat.mul_assoc]
    generalize 4294967296 ^ ys.length * foldK xs ys ((x + 38 * y + c) / 4294967296) = p at ih ⊢
    omega
theorem car_val : ∀ (xs : List Nat) (c : Nat), valB 4294967296 (carA xs c) + 4294967296 ^ xs.length * carK xs c = valB 4294967296 xs + c
  | [], c => by simp [carA, carK, valB]
  | x :: xs, c => by
    have ih := car_val xs ((x + c) / 4294967296)
    rw [carA, carK, List.length_cons]
    simp only [valB]
    rw [Nat.pow_succ, Nat.mul_comm (4294967296 ^ xs.length) 4294967296, Nat.mul_assoc]
    generalize 4294967296 ^ xs.length * carK xs ((x + c) / 4294967296) = p at ih ⊢
    omega
/-- 2^256. -/
def big : Nat := 115792089237316195423570985008687907853269984665640564039457584007913129639936
theorem big_eq : 4294967296 ^ 8 = big := by decide +kernel
theorem big_p : big = 2 * pF + 38 := by decide +kernel
theorem big_mod (z c : Nat) : (z + big * c) % pF = (z + 38 * c) % pF := by
  rw [big_p, show z + (2 * pF + 38) * c = z + 38 * c + pF * (2 * c) by rw [Nat.add_mul, Nat.mul_assoc, Nat.mul_left_comm 2 pF c]; omega, Nat.add_mul_mod_self_left]
theorem passL_mod : ∀ (f : Nat) (l : List Nat) (c : Nat), l.length = 8 → passC f l c = 0 → valB 4294967296 (passL f l c) % pF = (valB 4294967296 l + big * c) % pF
  | 0, l, c, _, h => by
    have : c = 0 := h
    subst this; rw [passL, Nat.mul_zero, Nat.add_zero]
  | f + 1, l, c, hl, h => by
    by_cases hc : c = 0
    · subst hc; rw [passL, if_pos rfl, Nat.mul_zero, Nat.add_zero]
    · rw [passC, if_neg hc] at h
      rw [passL, if_neg hc, passL_mod f _ _ (by rw [carA_len, hl]) h]
      have hv := car_val l (38 * c)
      rw [hl, big_eq] at hv
      rw [hv, big_mod]
theorem passC_zero (l : List Nat) (c : Nat) (hl : l.length = 8) (hlt : ∀ x ∈ l, x < 4294967296) (hc : c ≤ 38) : passC 2 l c = 0 := by
  by_cases h0 : c = 0
  · subst h0; rw [passC, if_pos rfl]
  · rw [passC, if_neg h0, passC]
    by_cases h1 : carK l (38 * c) = 0
    · rw [if_pos h1]
    · rw [if_neg h1, passC]
      have hne : l ≠ [] := fun h => by rw [h] at hl; simp at hl
      have hk := carK_le l (38 * c) hlt (by omega) hne
      have hk1 : carK l (38 * c) = 1 := by omega
      have hv := car_val l (38 * c)
      rw [hl, big_eq, hk1] at hv
      have hb := valB_lt (by decide) l hlt
      rw [hl, big_eq] at hb
      have hv2 := car_val (carA l (38 * c)) (38 * carK l (38 * c))
      rw [carA_len, hl, big_eq, hk1] at hv2
      rw [hk1]
      generalize carK (carA l (38 * c)) (38 * 1) = q at hv2 ⊢
      have hbig : 2000 < big := by decide +kernel
      cases q with
      | zero => rfl
      | succ q =>
        exfalso
        rw [Nat.mul_add] at hv2
        generalize big * q = z at hv2
        omega
theorem foldedL_fin (l : List Nat) (h : l.length = 16) (hlt : ∀ x ∈ l, x < 4294967296) : passC 2 (foldA l (l.drop 8) 0) (foldK l (l.drop 8) 0) = 0 :=
  passC_zero _ _ (by rw [foldA_len _ _ _ (by simp), List.length_drop, h]) (foldA_lt _ _ _) (foldK_le _ _ _ hlt (fun x hx => hlt x (List.mem_of_mem_drop hx)) (by omega))
theorem valB_split (l : List Nat) : ∀ k, k ≤ l.length → valB 4294967296 l = valB 4294967296 (l.take k) + 4294967296 ^ k * valB 4294967296 (l.drop k) := by
  intro k
  induction k generalizing l with
  | zero => intro _; simp [valB]
  | succ k ih =>
    intro h
    cases l with
    | nil => simp at h
    | cons x r =>
      rw [List.take_succ_cons, List.drop_succ_cons, valB, valB, ih r (by simpa using h), Nat.mul_add, Nat.pow_succ, Nat.mul_comm (4294967296 ^ k) 4294967296, Nat.mul_assoc]
      omega
theorem passL_lt : ∀ (f : Nat) (l : List Nat) (c : Nat), (∀ x ∈ l, x < 4294967296) → ∀ x ∈ passL f l c, x < 4294967296
  | 0, l, c, h => h
  | f + 1, l, c, h => by
    rw [passL]
    split
    · exact h
    · exact passL_lt f _ _ (carA_lt _ _)
theorem foldedL_mod (l : List Nat) (h : l.length = 16) (hlt : ∀ x ∈ l, x < 4294967296) : valB 4294967296 (foldedL l) % pF = valB 4294967296 l % pF := by
  have h8 : (l.drop 8).length = 8 := by rw [List.length_drop, h]
  unfold foldedL
  rw [passL_mod 2 _ _ (by rw [foldA_len _ _ _ (by simp), h8]) (foldedL_fin l h hlt)]
  have hv := fold_val l (l.drop 8) 0 (by simp)
  rw [h8, big_eq] at hv
  rw [hv, valB_split l 8 (by omega), big_eq, big_mod, Nat.add_zero]
/-- The limbs of a number. -/
def nL (x : Nat) : List Nat := limbs 4294967296 8 x
theorem nL_len (x : Nat) : (nL x).length = 8 := limbs_len _ _ _
theorem nL_lt (x : Nat) : ∀ y ∈ nL x, y < 4294967296 := limbs_lt (by decide) _ _
theorem nL_val (x : Nat) (h : x < big) : valB 4294967296 (nL x) = x := by
  unfold nL
  rw [val_limbs, big_eq, Nat.mod_eq_of_lt h]
theorem nL_of (l : List Nat) (n : Nat) (hk : l.length = 8) (h : ∀ x ∈ l, x < 4294967296) (hv : valB 4294967296 l = n) : l = nL n := limbs_eq (by decide) l 8 n hk h hv
/-- A number as a value. -/
def numV (x : Nat) : Value := aggN .u32 (nL x)
def prodN (x y : Nat) : Nat := valB 4294967296 (foldedL (mulL (nL x) (nL y) (List.replicate 16 0)))
theorem zeros_val : ∀ k, valB 4294967296 (List.replicate k 0) = 0
  | 0 => rfl
  | k + 1 => by rw [List.replicate_succ, valB, zeros_val k]
theorem zeros_getD (k j : Nat) : (List.replicate k 0).getD j 0 = 0 := by
  by_cases h : j < k
  · simp [h]
  · rw [List.getD_eq_getElem?_getD, List.getElem?_eq_none (by simp; omega)]; rfl
theorem mulL16_len (x y : Nat) : (mulL (nL x) (nL y) (List.replicate 16 0)).length = 16 := by rw [mulL_len _ _ _ (by rw [nL_len]; simp), List.length_replicate]
theorem mulL16_lt (x y : Nat) : ∀ z ∈ mulL (nL x) (nL y) (List.replicate 16 0), z < 4294967296 :=
  mulL_lt _ _ _ (nL_lt x) (nL_lt y) (fun z hz => by rw [List.eq_of_mem_replicate hz]; decide)
theorem foldedL_lt (l : List Nat) : ∀ x ∈ foldedL l, x < 4294967296 := passL_lt _ _ _ (foldA_lt _ _ _)
theorem prodN_mod (x y : Nat) (hx : x < big) (hy : y < big) : prodN x y % pF = x * y % pF := by
  unfold prodN
  rw [foldedL_mod _ (mulL16_len x y) (mulL16_lt x y), mulL_val _ _ _ (by rw [nL_len, nL_len, List.length_replicate]; omega) (fun j _ => zeros_getD 16 j), zeros_val, Nat.zero_add, nL_val x hx, nL_val y hy]
theorem prodN_lt (x y : Nat) : prodN x y < big := by
  have h := valB_lt (B := 4294967296) (by decide) _ (foldedL_lt (mulL (nL x) (nL y) (List.replicate 16 0)))
  rw [foldedL_len _ (mulL16_len x y), big_eq] at h
  exact h
theorem prodN_nL (x y : Nat) : foldedL (mulL (nL x) (nL y) (List.replicate 16 0)) = nL (prodN x y) := nL_of _ _ (foldedL_len _ (mulL16_len x y)) (foldedL_lt _) rfl
end Go.Proofs.Ytbkaemekcjinaaa
