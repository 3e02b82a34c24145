/- Package scalar: numbers of sixteen words; sums, differences, products by numbers; the order. -/
import Derived.Test.YthlkpdfdbdfbjaaP3
import Derived.Test.YthlkpdfdbdfbjaaO6
set_option linter.unusedSimpArgs false
set_option linter.unusedVariables false
namespace Go.Proofs.Ythlkpdfdbdfbjaa
open Go.RowKit Go.Lib
theorem addL_len : ∀ (xs ys : List Nat) (c : Nat), xs.length = ys.length → (addL xs ys c).length = xs.length
  | [], _, _, _ => by rw [addL_nil]
  | x :: xs, [], _, h => by simp at h
  | x :: xs, y :: ys, c, h => by rw [addL, List.length_cons, List.length_cons, addL_len xs ys _ (by simpa using h)]
theorem addL_lt : ∀ (xs ys : List Nat) (c : Nat), ∀ z ∈ addL xs ys c, z < 4294967296
  | [], _, _, z, h => by rw [addL_nil] at h; simp at h
  | x :: xs, [], _, z, h => by simp [addL] at h
  | x :: xs, y :: ys, c, z, h => by
    rw [addL, List.mem_cons] at h
    rcases h with rfl | h
    · exact Nat.mod_lt _ (by decide)
    · exact addL_lt xs ys _ z h
theorem addL_val : ∀ (xs ys : List Nat) (c : Nat), xs.length = ys.length → valB 4294967296 (addL xs ys c) = (valB 4294967296 xs + valB 4294967296 ys + c) % 4294967296 ^ xs.length
  | [], [], _, _ => by rw [List.length_nil, Nat.pow_zero, Nat.mod_one]; rfl
  | [], y :: ys, _, h => by simp at h
  | x :: xs, [], _, h => by simp at h
  | x :: xs, y :: ys, c, h => by
    rw [addL, valB, addL_val xs ys _ (by simpa using h), List.length_cons, Nat.pow_succ, Nat.mul_comm (4294967296 ^ xs.length), Nat.mod_mul, valB, valB]
    have e1 : (x + 4294967296 * valB 4294967296 xs + (y + 4294967296 * valB 4294967296 ys) + c) % 4294967296 = (x + y + c) % 4294967296 := by omega
    have e2 : (x + 4294967296 * valB 4294967296 xs + (y + 4294967296 * valB 4294967296 ys) + c) / 4294967296 = valB 4294967296 xs + valB 4294967296 ys + (x + y + c) / 4294967296 := by omega
    rw [e1, e2]
theorem subL_len : ∀ (xs ys : List Nat) (c : Nat), xs.length = ys.length → (subL xs ys c).length = xs.length
  | [], _, _, _ => by rw [subL_nil]
  | x :: xs, [], _, h => by simp at h
  | x :: xs, y :: ys, c, h => by rw [subL, List.length_cons, List.length_cons, subL_len xs ys _ (by simpa using h)]
theorem subL_lt : ∀ (xs ys : List Nat) (c : Nat), ∀ z ∈ subL xs ys c, z < 4294967296
  | [], _, _, z, h => by rw [subL_nil] at h; simp at h
  | x :: xs, [], _, z, h => by simp [subL] at h
  | x :: xs, y :: ys, c, z, h => by
    rw [subL, List.mem_cons] at h
    rcases h with rfl | h
    · exact Nat.mod_lt _ (by decide)
    · exact subL_lt xs ys _ z h
theorem macL_val : ∀ (x : Nat) (ys ws : List Nat) (c : Nat), ys.length < ws.length → ws.getD ys.length 0 = 0 → valB 4294967296 (macL x ys ws c) = valB 4294967296 ws + x * valB 4294967296 ys + c
  | x, [], [], _, h, _ => by simp at h
  | x, [], v :: vs, c, _, h => by
    have : v = 0 := by simpa using h
    subst this
    simp [macL, valB]; omega
  | x, y :: ys, [], _, h, _ => by simp at h
  | x, y :: ys, v :: vs, c, h, h0 => by
    rw [macL, valB, macL_val x ys vs _ (by simpa using h) (by simpa using h0), valB, valB, Nat.mul_add x y]
    have e : x * (4294967296 * valB 4294967296 ys) = 4294967296 * (x * valB 4294967296 ys) := Nat.mul_left_comm _ _ _
    rw [e]
    generalize x * valB 4294967296 ys = p
    generalize x * y = q
    omega
theorem macL_beyond : ∀ (x : Nat) (ys ws : List Nat) (c j : Nat), ys.length < j → (macL x ys ws c).getD j 0 = ws.getD j 0
  | x, [], [], _, _, _ => rfl
  | x, [], v :: vs, c, j, h => by
    obtain ⟨j, rfl⟩ : ∃ i, j = i + 1 := ⟨j - 1, by simp at h; omega⟩
    simp [macL]
  | x, y :: ys, [], _, _, _ => rfl
  | x, y :: ys, v :: vs, c, j, h => by
    obtain ⟨j, rfl⟩ : ∃ i, j = i + 1 := ⟨j - 1, by simp at h; omega⟩
    rw [macL]
    have := macL_beyond x ys vs ((x * y + v + c) / 4294967296) j (by simpa using h)
    simpa using this
theorem mulL_val : ∀ (xs ys ws : List Nat), xs.length + ys.length ≤ ws.length → (∀ j, ys.length ≤ j → ws.getD j 0 = 0) → valB 4294967296 (mulL xs ys ws) = valB 4294967296 ws + valB 4294967296 xs * valB 4294967296 ys
  | [], ys, ws, _, _ => by simp [mulL, valB]
  | x :: xs, ys, ws, h, h0 => by
    simp only [List.length_cons] at h
    have hm := macL_val x ys ws 0 (by omega) (h0 _ (Nat.le_refl _))
    have hl := macL_len x ys ws 0
    have hb := macL_beyond x ys ws 0
    rw [mulL]
    match hq : macL x ys ws 0 with
    | [] => rw [hq] at hl; simp at hl; omega
    | q :: qs =>
      rw [hq] at hm hl hb
      show valB 4294967296 (q :: mulL xs ys qs) = _
      have hz : ∀ j, ys.length ≤ j → qs.getD j 0 = 0 := fun j hj => by
        have := hb (j + 1) (by omega)
        rw [h0 (j + 1) (by omega)] at this
        simpa using this
      rw [valB, mulL_val xs ys qs (by simp at hl; omega) hz, valB, Nat.add_mul, Nat.mul_assoc]
      rw [valB] at hm
      generalize valB 4294967296 xs * valB 4294967296 ys = p at hm ⊢
      generalize x * valB 4294967296 ys = r at hm ⊢
      omega
theorem mulL_len : ∀ (xs ys ws : List Nat), xs.length ≤ ws.length → (mulL xs ys ws).length = ws.length
  | [], _, _, _ => rfl
  | x :: xs, ys, ws, h => by
    have hl := macL_len x ys ws 0
    rw [List.length_cons] at h
    rw [mulL, List.length_cons, mulL_len xs ys _ (by rw [List.length_tail]; omega), List.length_tail]
    omega
theorem mulL_lt : ∀ (xs ys ws : List Nat), (∀ x ∈ xs, x < 4294967296) → (∀ x ∈ ys, x < 4294967296) → (∀ x ∈ ws, x < 4294967296) → ∀ z ∈ mulL xs ys ws, z < 4294967296
  | [], _, ws, _, _, hw, z, hz => hw z hz
  | x :: xs, ys, ws, hx, hy, hw, z, hz => by
    have hm := macL_lt x ys ws 0 (hx x (by simp)) hy hw (by decide)
    rw [mulL, List.mem_cons] at hz
    rcases hz with rfl | hz
    · match hq : macL x ys ws 0 with
      | [] => decide
      | q :: qs => rw [hq] at hm; exact hm q (by simp)
    · exact mulL_lt xs ys _ (fun z hz => hx z (by simp [hz])) hy (fun z hz => hm z (List.mem_of_mem_tail hz)) z hz
theorem valB_split (l : List Nat) : ∀ k, k ≤ l.length → valB 4294967296 l = valB 4294967296 (l.take k) + 4294967296 ^ k * valB 4294967296 (l.drop k) := by
  intro k
  induction k generalizing l with
  | zero => intro _; simp [valB]
  | succ k ih =>
    intro h
    cases l with
    | nil => simp at h
    | cons x r =>
      rw [List.take_succ_cons, List.drop_succ_cons, valB, valB, ih r (by simpa using h), Nat.mul_add, Nat.pow_succ, Nat.mul_comm (4294967296 ^ k) 4294967296, Nat.mul_assoc]
      omega
theorem zeros_val : ∀ k, valB 4294967296 (List.replicate k 0) = 0
  | 0 => rfl
  | k + 1 => by rw [List.replicate_succ, valB, zeros_val k]
theorem zeros_getD (k j : Nat) : (List.replicate k 0).getD j 0 = 0 := by
  by_cases h : j < k
  · simp [h]
  · rw [List.getD_eq_getElem?_getD, List.getElem?_eq_none (by simp; omega)]; rfl
/-- 2^512, 2^256. -/
def big : Nat := 4294967296 ^ 16
def mid : Nat := 4294967296 ^ 8
theorem big_pos : 0 < big := by decide +kernel
theorem mid_big : mid * mid = big := by decide +kernel
theorem mid_pos : 0 < mid := by decide +kernel
theorem subL_full : ∀ (xs ys : List Nat) (c : Nat), xs.length = ys.length → (∀ x ∈ xs, x < 4294967296) → (∀ x ∈ ys, x < 4294967296) → c ≤ 1 →
    valB 4294967296 (subL xs ys c) + valB 4294967296 ys + c = valB 4294967296 xs + 4294967296 ^ xs.length * subU xs ys c
  | [], [], c, _, _, _, _ => by simp [valB, subL, subU]
  | [], y :: ys, _, h, _, _, _ => by simp at h
  | x :: xs, [], _, h, _, _, _ => by simp at h
  | x :: xs, y :: ys, c, h, hx, hy, hc => by
    have h1 := hx x (by simp)
    have h2 := hy y (by simp)
    have ih := subL_full xs ys (if x < y + c then 1 else 0) (by simpa using h) (fun z hz => hx z (by simp [hz])) (fun z hz => hy z (by simp [hz])) (by split <;> omega)
    rw [subL, subU, List.length_cons, Nat.pow_succ, Nat.mul_comm (4294967296 ^ xs.length) 4294967296, Nat.mul_assoc]
    simp only [valB]
    generalize 4294967296 ^ xs.length * subU xs ys (if x < y + c then 1 else 0) = p at ih ⊢
    by_cases hb : x < y + c
    · rw [if_pos hb] at ih ⊢
      omega
    · rw [if_neg hb] at ih ⊢
      omega
/-- The words of a number. -/
def nL (x : Nat) : List Nat := limbs 4294967296 16 x
theorem nL_len (x : Nat) : (nL x).length = 16 := limbs_len _ _ _
theorem nL_lt (x : Nat) : ∀ y ∈ nL x, y < 4294967296 := limbs_lt (by decide) _ _
theorem nL_val (x : Nat) (h : x < big) : valB 4294967296 (nL x) = x := by
  unfold nL
  rw [val_limbs]
  exact Nat.mod_eq_of_lt h
theorem nL_of (l : List Nat) (n : Nat) (hk : l.length = 16) (h : ∀ x ∈ l, x < 4294967296) (hv : valB 4294967296 l = n) : l = nL n := limbs_eq (by decide) l 16 n hk h hv
theorem limbs_take (B : Nat) : ∀ (j k x : Nat), j ≤ k → (limbs B k x).take j = limbs B j x
  | 0, _, _, _ => by rw [List.take_zero]; rfl
  | j + 1, 0, _, h => by omega
  | j + 1, k + 1, x, h => by rw [limbs, limbs, List.take_succ_cons, limbs_take B j k _ (by omega)]
theorem half_len (x : Nat) : ((nL x).take 8).length = 8 := by rw [List.length_take, nL_len]; rfl
theorem half_lt (x : Nat) : ∀ y ∈ (nL x).take 8, y < 4294967296 := fun y hy => nL_lt x y (List.mem_of_mem_take hy)
theorem half_val (x : Nat) (h : x < mid) : valB 4294967296 ((nL x).take 8) = x := by
  unfold nL
  rw [limbs_take _ _ _ _ (by decide), val_limbs]
  exact Nat.mod_eq_of_lt h
/-- A number as a value. -/
def numV (x : Nat) : Value := aggN .u32 (nL x)
def NP (x : Nat) (w : World) (e : Ending) (w' : World) : Prop := e = .returned (numV x) ∧ Below w.heap.size w w'
theorem sumN_any (x y : Nat) (hx : x < big) (hy : y < big) (w : World) : Calls Try.prog 28 #[numV x, numV y] w (NP ((x + y) % big) w) := by
  refine (sum_any (nL x) (nL y) (nL_len x) (nL_len y) (nL_lt x) (nL_lt y) w).mono ?_
  rintro e w' ⟨rfl, hb⟩
  refine ⟨?_, hb⟩
  rw [nL_of (addL (nL x) (nL y) 0) ((x + y) % big) (by rw [addL_len _ _ _ (by rw [nL_len, nL_len]), nL_len]) (addL_lt _ _ _) (by
    rw [addL_val _ _ _ (by rw [nL_len, nL_len]), nL_len, nL_val x hx, nL_val y hy, Nat.add_zero]; rfl)]
  rfl
theorem sub_parts {s x y u : Nat} (hs : s < big) (hx : x < big) (hy : y < big) (hu : u ≤ 1) (h : s + y + 0 = x + big * u) : s = (x + big - y) % big ∧ decide (u = 1) = decide (x < y) := by
  obtain rfl | rfl : u = 0 ∨ u = 1 := by omega
  · rw [Nat.mul_zero] at h
    refine ⟨?_, by rw [decide_eq_decide]; omega⟩
    rw [show x + big - y = s + big by omega, Nat.add_mod_right, Nat.mod_eq_of_lt hs]
  · rw [Nat.mul_one] at h
    refine ⟨?_, by rw [decide_eq_decide]; omega⟩
    rw [show x + big - y = s by omega, Nat.mod_eq_of_lt hs]
def DP (x : Nat) (b : Bool) (w : World) (e : Ending) (w' : World) : Prop := e = .returned (.tuple #[numV x, .bool b]) ∧ Below w.heap.size w w'
theorem diffN_any (x y : Nat) (hx : x < big) (hy : y < big) (w : World) : Calls Try.prog 34 #[numV x, numV y] w (DP ((x + big - y) % big) (decide (x < y)) w) := by
  refine (diff_any (nL x) (nL y) (nL_len x) (nL_len y) (nL_lt x) (nL_lt y) w).mono ?_
  rintro e w' ⟨rfl, hb⟩
  refine ⟨?_, hb⟩
  have hv := subL_full (nL x) (nL y) 0 (by rw [nL_len, nL_len]) (nL_lt x) (nL_lt y) (by omega)
  rw [nL_val x hx, nL_val y hy, nL_len] at hv
  have hb2 := valB_lt (B := 4294967296) (by decide) _ (subL_lt (nL x) (nL y) 0)
  rw [subL_len _ _ _ (by rw [nL_len, nL_len]), nL_len] at hb2
  obtain ⟨e1, e2⟩ := sub_parts hb2 hx hy (subU_le _ _ 0 (by omega)) hv
  rw [e2, nL_of (subL (nL x) (nL y) 0) ((x + big - y) % big) (by rw [subL_len _ _ _ (by rw [nL_len, nL_len]), nL_len]) (subL_lt _ _ _) e1]
  rfl
theorem prodN_any (x y : Nat) (hx : x < mid) (hy : y < mid) (w : World) : Calls Try.prog 29 #[numV x, numV y] w (NP (x * y) w) := by
  refine (product_any (nL x) (nL y) (nL_len x) (nL_len y) (nL_lt x) (nL_lt y) w).mono ?_
  rintro e w' ⟨rfl, hb⟩
  refine ⟨?_, hb⟩
  rw [nL_of (mulL ((nL x).take 8) ((nL y).take 8) (List.replicate 16 0)) (x * y) (by rw [mulL_len _ _ _ (by rw [half_len]; simp), List.length_replicate])
    (mulL_lt _ _ _ (half_lt x) (half_lt y) (fun z hz => by rw [List.eq_of_mem_replicate hz]; decide))
    (by rw [mulL_val _ _ _ (by rw [half_len, half_len, List.length_replicate]; omega) (fun j _ => zeros_getD 16 j), zeros_val, Nat.zero_add, half_val x hx, half_val y hy])]
  rfl
theorem nL_o : nL oN = [1559614445, 1477600026, 2734136534, 350157278, 0, 0, 0, 268435456, 0, 0, 0, 0, 0, 0, 0, 0] := by decide +kernel
end Go.Proofs.Ythlkpdfdbdfbjaa
