/- The values of sums, differences and products of limbs. No walk.
Package field: sum, difference, product, by numbers; p, its like.
Package field: numbers in blocks, as one state of the memory; laws of the walk over it.
Package field: what is negated, reduced, squared. -/
import Derived.Test.YtgnblaaldpniiaaGreatDoorZA2
import Derived.Test.YtgnblaaldpniiaaGreatDoorZA1
import Derived.Test.YtgnblaaldpniiaaGreatDoorZK1
import Derived.Great.Ranges
section
set_option maxRecDepth 100000
set_option linter.unusedVariables false
set_option linter.unusedSimpArgs false
namespace Go.Proofs.YtgnblaaldpniiaaGreatDoor
open Go.RowKit Go.Lib
theorem addL_len : ∀ (xs ys : List Nat) (c : Nat), xs.length = ys.length → (addL xs ys c).length = xs.length
  | [], _, _, _ => by rw [addL_nil]
  | x :: xs, [], _, h => by simp at h
  | x :: xs, y :: ys, c, h => by rw [addL, List.length_cons, List.length_cons, addL_len xs ys _ (by simpa using h)]
theorem addL_lt : ∀ (xs ys : List Nat) (c : Nat), ∀ z ∈ addL xs ys c, z < 4294967296
  | [], _, _, z, h => by rw [addL_nil] at h; simp at h
  | x :: xs, [], _, z, h => by simp [addL] at h
  | x :: xs, y :: ys, c, z, h => by
    rw [addL, List.mem_cons] at h
    rcases h with rfl | h
    · exact Nat.mod_lt _ (by decide)
    · exact addL_lt xs ys _ z h
theorem addL_val : ∀ (xs ys : List Nat) (c : Nat), xs.length = ys.length → valB 4294967296 (addL xs ys c) = (valB 4294967296 xs + valB 4294967296 ys + c) % 4294967296 ^ xs.length
  | [], [], _, _ => by rw [List.length_nil, Nat.pow_zero, Nat.mod_one]; rfl
  | [], y :: ys, _, h => by simp at h
  | x :: xs, [], _, h => by simp at h
  | x :: xs, y :: ys, c, h => by
    rw [addL, valB, addL_val xs ys _ (by simpa using h), List.length_cons, Nat.pow_succ, Nat.mul_comm (4294967296 ^ xs.length), Nat.mod_mul, valB, valB]
    have e1 : (x + 4294967296 * valB 4294967296 xs + (y + 4294967296 * valB 4294967296 ys) + c) % 4294967296 = (x + y + c) % 4294967296 := by omega
    have e2 : (x + 4294967296 * valB 4294967296 xs + (y + 4294967296 * valB 4294967296 ys) + c) / 4294967296 = valB 4294967296 xs + valB 4294967296 ys + (x + y + c) / 4294967296 := by omega
    rw [e1, e2]
theorem subL_len : ∀ (xs ys : List Nat) (c : Nat), xs.length = ys.length → (subL xs ys c).length = xs.length
  | [], _, _, _ => by rw [subL_nil]
  | x :: xs, [], _, h => by simp at h
  | x :: xs, y :: ys, c, h => by rw [subL, List.length_cons, List.length_cons, subL_len xs ys _ (by simpa using h)]
theorem subL_lt : ∀ (xs ys : List Nat) (c : Nat), ∀ z ∈ subL xs ys c, z < 4294967296
  | [], _, _, z, h => by rw [subL_nil] at h; simp at h
  | x :: xs, [], _, z, h => by simp [subL] at h
  | x :: xs, y :: ys, c, z, h => by
    rw [subL, List.mem_cons] at h
    rcases h with rfl | h
    · exact Nat.mod_lt _ (by decide)
    · exact subL_lt xs ys _ z h
theorem subL_val : ∀ (xs ys : List Nat) (c : Nat), xs.length = ys.length → (∀ x ∈ xs, x < 4294967296) → (∀ x ∈ ys, x < 4294967296) → c ≤ 1 → valB 4294967296 ys + c ≤ valB 4294967296 xs →
    valB 4294967296 (subL xs ys c) + valB 4294967296 ys + c = valB 4294967296 xs
  | [], [], c, _, _, _, _, hle => by simp [valB, subL] at hle ⊢; omega
  | [], y :: ys, _, h, _, _, _, _ => by simp at h
  | x :: xs, [], _, h, _, _, _, _ => by simp at h
  | x :: xs, y :: ys, c, h, hx, hy, hc, hle => by
    have h1 := hx x (by simp)
    have h2 := hy y (by simp)
    simp only [valB] at hle
    by_cases hb : x < y + c
    · have ih := subL_val xs ys 1 (by simpa using h) (fun z hz => hx z (by simp [hz])) (fun z hz => hy z (by simp [hz])) (by omega) (by omega)
      rw [subL, if_pos hb]
      simp only [valB]
      omega
    · have ih := subL_val xs ys 0 (by simpa using h) (fun z hz => hx z (by simp [hz])) (fun z hz => hy z (by simp [hz])) (by omega) (by omega)
      rw [subL, if_neg hb]
      simp only [valB]
      omega
theorem macL_val : ∀ (x : Nat) (ys ws : List Nat) (c : Nat), ys.length < ws.length → ws.getD ys.length 0 = 0 → valB 4294967296 (macL x ys ws c) = valB 4294967296 ws + x * valB 4294967296 ys + c
  | x, [], [], _, h, _ => by simp at h
  | x, [], v :: vs, c, _, h => by
    have : v = 0 := by simpa using h
    subst this
    simp [macL, valB]; omega
  | x, y :: ys, [], _, h, _ => by simp at h
  | x, y :: ys, v :: vs, c, h, h0 => by
    rw [macL, valB, macL_val x ys vs _ (by simpa using h) (by simpa using h0), valB, valB, Nat.mul_add x y]
    have e : x * (4294967296 * valB 4294967296 ys) = 4294967296 * (x * valB 4294967296 ys) := Nat.mul_left_comm _ _ _
    rw [e]
    generalize x * valB 4294967296 ys = p
    generalize x * y = q
    omega
theorem macL_beyond : ∀ (x : Nat) (ys ws : List Nat) (c j : Nat), ys.length < j → (macL x ys ws c).getD j 0 = ws.getD j 0
  | x, [], [], _, _, _ => rfl
  | x, [], v :: vs, c, j, h => by
    obtain ⟨j, rfl⟩ : ∃ i, j = i + 1 := ⟨j - 1, by simp at h; omega⟩
    simp [macL]
  | x, y :: ys, [], _, _, _ => rfl
  | x, y :: ys, v :: vs, c, j, h => by
    obtain ⟨j, rfl⟩ : ∃ i, j = i + 1 := ⟨j - 1, by simp at h; omega⟩
    rw [macL]
    have := macL_beyond x ys vs ((x * y + v + c) / 4294967296) j (by simpa using h)
    simpa using this
theorem mulL_val : ∀ (xs ys ws : List Nat), xs.length + ys.length ≤ ws.length → (∀ j, ys.length ≤ j → ws.getD j 0 = 0) → valB 4294967296 (mulL xs ys ws) = valB 4294967296 ws + valB 4294967296 xs * valB 4294967296 ys
  | [], ys, ws, _, _ => by simp [mulL, valB]
  | x :: xs, ys, ws, h, h0 => by
    simp only [List.length_cons] at h
    have hm := macL_val x ys ws 0 (by omega) (h0 _ (Nat.le_refl _))
    have hl := macL_len x ys ws 0
    have hb := macL_beyond x ys ws 0
    rw [mulL]
    match hq : macL x ys ws 0 with
    | [] => rw [hq] at hl; simp at hl; omega
    | q :: qs =>
      rw [hq] at hm hl hb
      show valB 4294967296 (q :: mulL xs ys qs) = _
      have hz : ∀ j, ys.length ≤ j → qs.getD j 0 = 0 := fun j hj => by
        have := hb (j + 1) (by omega)
        rw [h0 (j + 1) (by omega)] at this
        simpa using this
      rw [valB, mulL_val xs ys qs (by simp at hl; omega) hz, valB, Nat.add_mul, Nat.mul_assoc]
      rw [valB] at hm
      generalize valB 4294967296 xs * valB 4294967296 ys = p at hm ⊢
      generalize x * valB 4294967296 ys = r at hm ⊢
      omega
theorem mulL_len : ∀ (xs ys ws : List Nat), xs.length ≤ ws.length → (mulL xs ys ws).length = ws.length
  | [], _, _, _ => rfl
  | x :: xs, ys, ws, h => by
    have hl := macL_len x ys ws 0
    rw [List.length_cons] at h
    rw [mulL, List.length_cons, mulL_len xs ys _ (by rw [List.length_tail]; omega), List.length_tail]
    omega
theorem mulL_lt : ∀ (xs ys ws : List Nat), (∀ x ∈ xs, x < 4294967296) → (∀ x ∈ ys, x < 4294967296) → (∀ x ∈ ws, x < 4294967296) → ∀ z ∈ mulL xs ys ws, z < 4294967296
  | [], _, ws, _, _, hw, z, hz => hw z hz
  | x :: xs, ys, ws, hx, hy, hw, z, hz => by
    have hm := macL_lt x ys ws 0 (hx x (by simp)) hy hw (by decide)
    rw [mulL, List.mem_cons] at hz
    rcases hz with rfl | hz
    · match hq : macL x ys ws 0 with
      | [] => decide
      | q :: qs => rw [hq] at hm; exact hm q (by simp)
    · exact mulL_lt xs ys _ (fun z hz => hx z (by simp [hz])) hy (fun z hz => hm z (List.mem_of_mem_tail hz)) z hz
theorem fold_val : ∀ (xs ys : List Nat) (c : Nat), ys.length ≤ xs.length → valB 4294967296 (foldA xs ys c) + 4294967296 ^ ys.length * foldK xs ys c = valB 4294967296 (xs.take ys.length) + 38 * valB 4294967296 ys + c
  | _, [], c, _ => by rw [foldA_nil, foldK_nil]; simp [valB]
  | [], y :: ys, _, h => by simp at h
  | x :: xs, y :: ys, c, h => by
    have ih := fold_val xs ys ((x + 38 * y + c) / 4294967296) (by simpa using h)
    rw [foldA, foldK, List.length_cons, List.take_succ_cons]
    simp only [valB]
    rw [Nat.pow_succ, Nat.mul_comm (4294967296 ^ ys.length) 4294967296, Nat.mul_assoc]
    generalize 4294967296 ^ ys.length * foldK xs ys ((x + 38 * y + c) / 4294967296) = p at ih ⊢
    omega
theorem car_val : ∀ (xs : List Nat) (c : Nat), valB 4294967296 (carA xs c) + 4294967296 ^ xs.length * carK xs c = valB 4294967296 xs + c
  | [], c => by simp [carA, carK, valB]
  | x :: xs, c => by
    have ih := car_val xs ((x + c) / 4294967296)
    rw [carA, carK, List.length_cons]
    simp only [valB]
    rw [Nat.pow_succ, Nat.mul_comm (4294967296 ^ xs.length) 4294967296, Nat.mul_assoc]
    generalize 4294967296 ^ xs.length * carK xs ((x + c) / 4294967296) = p at ih ⊢
    omega
def big : Nat := 115792089237316195423570985008687907853269984665640564039457584007913129639936
theorem big_eq : 4294967296 ^ 8 = big := by decide +kernel
theorem big_p : big = 2 * pF + 38 := by decide +kernel
theorem big_mod (z c : Nat) : (z + big * c) % pF = (z + 38 * c) % pF := by
  rw [big_p, show z + (2 * pF + 38) * c = z + 38 * c + pF * (2 * c) by rw [Nat.add_mul, Nat.mul_assoc, Nat.mul_left_comm 2 pF c]; omega, Nat.add_mul_mod_self_left]
theorem passL_mod : ∀ (f : Nat) (l : List Nat) (c : Nat), l.length = 8 → passC f l c = 0 → valB 4294967296 (passL f l c) % pF = (valB 4294967296 l + big * c) % pF
  | 0, l, c, _, h => by
    have : c = 0 := h
    subst this; rw [passL, Nat.mul_zero, Nat.add_zero]
  | f + 1, l, c, hl, h => by
    by_cases hc : c = 0
    · subst hc; rw [passL, if_pos rfl, Nat.mul_zero, Nat.add_zero]
    · rw [passC, if_neg hc] at h
      rw [passL, if_neg hc, passL_mod f _ _ (by rw [carA_len, hl]) h]
      have hv := car_val l (38 * c)
      rw [hl, big_eq] at hv
      rw [hv, big_mod]
theorem passC_zero (l : List Nat) (c : Nat) (hl : l.length = 8) (hlt : ∀ x ∈ l, x < 4294967296) (hc : c ≤ 38) : passC 2 l c = 0 := by
  by_cases h0 : c = 0
  · subst h0; rw [passC, if_pos rfl]
  · rw [passC, if_neg h0, passC]
    by_cases h1 : carK l (38 * c) = 0
    · rw [if_pos h1]
    · rw [if_neg h1, passC]
      have hne : l ≠ [] := fun h => by rw [h] at hl; simp at hl
      have hk := carK_le l (38 * c) hlt (by omega) hne
      have hk1 : carK l (38 * c) = 1 := by omega
      have hv := car_val l (38 * c)
      rw [hl, big_eq, hk1] at hv
      have hb := valB_lt (by decide) l hlt
      rw [hl, big_eq] at hb
      have hv2 := car_val (carA l (38 * c)) (38 * carK l (38 * c))
      rw [carA_len, hl, big_eq, hk1] at hv2
      rw [hk1]
      generalize carK (carA l (38 * c)) (38 * 1) = q at hv2 ⊢
      have hbig : 2000 < big := by decide +kernel
      cases q with
      | zero => rfl
      | succ q =>
        exfalso
        rw [Nat.mul_add] at hv2
        generalize big * q = z at hv2
        omega
theorem foldedL_fin (l : List Nat) (h : l.length = 16) (hlt : ∀ x ∈ l, x < 4294967296) : passC 2 (foldA l (l.drop 8) 0) (foldK l (l.drop 8) 0) = 0 :=
  passC_zero _ _ (by rw [foldA_len _ _ _ (by simp), List.length_drop, h]) (foldA_lt _ _ _) (foldK_le _ _ _ hlt (fun x hx => hlt x (List.mem_of_mem_drop hx)) (by omega))
theorem valB_split (l : List Nat) : ∀ k, k ≤ l.length → valB 4294967296 l = valB 4294967296 (l.take k) + 4294967296 ^ k * valB 4294967296 (l.drop k) := by
  intro k
  induction k generalizing l with
  | zero => intro _; simp [valB]
  | succ k ih =>
    intro h
    cases l with
    | nil => simp at h
    | cons x r =>
      rw [List.take_succ_cons, List.drop_succ_cons, valB, valB, ih r (by simpa using h), Nat.mul_add, Nat.pow_succ, Nat.mul_comm (4294967296 ^ k) 4294967296, Nat.mul_assoc]
      omega
theorem passL_lt : ∀ (f : Nat) (l : List Nat) (c : Nat), (∀ x ∈ l, x < 4294967296) → ∀ x ∈ passL f l c, x < 4294967296
  | 0, l, c, h => h
  | f + 1, l, c, h => by
    rw [passL]
    split
    · exact h
    · exact passL_lt f _ _ (carA_lt _ _)
theorem foldedL_mod (l : List Nat) (h : l.length = 16) (hlt : ∀ x ∈ l, x < 4294967296) : valB 4294967296 (foldedL l) % pF = valB 4294967296 l % pF := by
  have h8 : (l.drop 8).length = 8 := by rw [List.length_drop, h]
  unfold foldedL
  rw [passL_mod 2 _ _ (by rw [foldA_len _ _ _ (by simp), h8]) (foldedL_fin l h hlt)]
  have hv := fold_val l (l.drop 8) 0 (by simp)
  rw [h8, big_eq] at hv
  rw [hv, valB_split l 8 (by omega), big_eq, big_mod, Nat.add_zero]
def nL (x : Nat) : List Nat := limbs 4294967296 8 x
theorem nL_len (x : Nat) : (nL x).length = 8 := limbs_len _ _ _
theorem nL_lt (x : Nat) : ∀ y ∈ nL x, y < 4294967296 := limbs_lt (by decide) _ _
theorem nL_val (x : Nat) (h : x < big) : valB 4294967296 (nL x) = x := by
  unfold nL
  rw [val_limbs, big_eq, Nat.mod_eq_of_lt h]
theorem nL_of (l : List Nat) (n : Nat) (hk : l.length = 8) (h : ∀ x ∈ l, x < 4294967296) (hv : valB 4294967296 l = n) : l = nL n := limbs_eq (by decide) l 8 n hk h hv
def numV (x : Nat) : Value := aggN .u32 (nL x)
def prodN (x y : Nat) : Nat := valB 4294967296 (foldedL (mulL (nL x) (nL y) (List.replicate 16 0)))
theorem zeros_val : ∀ k, valB 4294967296 (List.replicate k 0) = 0
  | 0 => rfl
  | k + 1 => by rw [List.replicate_succ, valB, zeros_val k]
theorem zeros_getD (k j : Nat) : (List.replicate k 0).getD j 0 = 0 := by
  by_cases h : j < k
  · simp [h]
  · rw [List.getD_eq_getElem?_getD, List.getElem?_eq_none (by simp; omega)]; rfl
theorem mulL16_len (x y : Nat) : (mulL (nL x) (nL y) (List.replicate 16 0)).length = 16 := by rw [mulL_len _ _ _ (by rw [nL_len]; simp), List.length_replicate]
theorem mulL16_lt (x y : Nat) : ∀ z ∈ mulL (nL x) (nL y) (List.replicate 16 0), z < 4294967296 :=
  mulL_lt _ _ _ (nL_lt x) (nL_lt y) (fun z hz => by rw [List.eq_of_mem_replicate hz]; decide)
theorem foldedL_lt (l : List Nat) : ∀ x ∈ foldedL l, x < 4294967296 := passL_lt _ _ _ (foldA_lt _ _ _)
theorem prodN_mod (x y : Nat) (hx : x < big) (hy : y < big) : prodN x y % pF = x * y % pF := by
  unfold prodN
  rw [foldedL_mod _ (mulL16_len x y) (mulL16_lt x y), mulL_val _ _ _ (by rw [nL_len, nL_len, List.length_replicate]; omega) (fun j _ => zeros_getD 16 j), zeros_val, Nat.zero_add, nL_val x hx, nL_val y hy]
theorem prodN_lt (x y : Nat) : prodN x y < big := by
  have h := valB_lt (B := 4294967296) (by decide) _ (foldedL_lt (mulL (nL x) (nL y) (List.replicate 16 0)))
  rw [foldedL_len _ (mulL16_len x y), big_eq] at h
  exact h
theorem prodN_nL (x y : Nat) : foldedL (mulL (nL x) (nL y) (List.replicate 16 0)) = nL (prodN x y) := nL_of _ _ (foldedL_len _ (mulL16_len x y)) (foldedL_lt _) rfl
end Go.Proofs.YtgnblaaldpniiaaGreatDoor
end
section
set_option maxRecDepth 100000
set_option linter.unusedVariables false
set_option linter.unusedSimpArgs false
namespace Go.Proofs.YtgnblaaldpniiaaGreatDoor
open Go.RowKit Go.Lib
def NP (x : Nat) (w : World) (e : Ending) (w' : World) : Prop := e = .returned (numV x) ∧ Below w.heap.size w w'
theorem sumN_any (x y : Nat) (hx : x < big) (hy : y < big) (hs : x + y < big) (w : World) : Calls Tryz.prog 117 #[numV x, numV y] w (NP (x + y) w) := by
  refine (sum_any (nL x) (nL y) (nL_len x) (nL_len y) (nL_lt x) (nL_lt y) w).mono ?_
  rintro e w' ⟨rfl, hb⟩
  refine ⟨?_, hb⟩
  rw [nL_of (addL (nL x) (nL y) 0) (x + y) (by rw [addL_len _ _ _ (by rw [nL_len, nL_len]), nL_len]) (addL_lt _ _ _) (by
    rw [addL_val _ _ _ (by rw [nL_len, nL_len]), nL_len, big_eq, nL_val x hx, nL_val y hy, Nat.add_zero, Nat.mod_eq_of_lt hs])]
  rfl
theorem diffN_any (x y : Nat) (hx : x < big) (hle : y ≤ x) (w : World) : Calls Tryz.prog 129 #[numV x, numV y] w (NP (x - y) w) := by
  refine (diff_any (nL x) (nL y) (nL_len x) (nL_len y) (nL_lt x) (nL_lt y) w).mono ?_
  rintro e w' ⟨rfl, hb⟩
  refine ⟨?_, hb⟩
  have hv := subL_val (nL x) (nL y) 0 (by rw [nL_len, nL_len]) (nL_lt x) (nL_lt y) (by omega) (by rw [nL_val x hx, nL_val y (by omega)]; exact hle)
  rw [nL_val x hx, nL_val y (by omega)] at hv
  rw [nL_of (subL (nL x) (nL y) 0) (x - y) (by rw [subL_len _ _ _ (by rw [nL_len, nL_len]), nL_len]) (subL_lt _ _ _) (by omega)]
  rfl
theorem prodN_any (x y : Nat) (w : World) : Calls Tryz.prog 122 #[numV x, numV y] w (NP (prodN x y) w) := by
  refine (product_of (fun l => foldedL l) (fun l w hl hW => folded_of l hl hW (foldedL_fin l hl hW) w) (fun l hl => foldedL_len l hl) (nL x) (nL y) (nL_len x) (nL_len y) (nL_lt x) (nL_lt y) w).mono ?_
  rintro e w' ⟨rfl, hb⟩
  refine ⟨?_, hb⟩
  rw [prodN_nL]
  rfl
theorem nL_p : nL pF = [4294967277, 4294967295, 4294967295, 4294967295, 4294967295, 4294967295, 4294967295, 2147483647] := by decide +kernel
def iF : Nat := 19681161376707505956807079304988542015446066515923890162744021073123829784752
theorem nL_i : nL iF = [1242472624, 3303938855, 2905597048, 792926214, 1039914919, 726466713, 1338105611, 730014848] := by decide +kernel
theorem prime_any (w : World) : Calls Tryz.prog 127 #[] w (NP pF w) := by
  go_enter Tryz.func127, Tryz.ntmps127
  go_wp2
  refine bodyPost_ret (v := numV pF) (by unfold numV; rw [nL_p]; simp [results, Tryz.results127, go_sem, aggN, numC]) rfl ⟨rfl, (Below.refl _ _).alloc (Nat.le_refl _) _⟩
theorem iroot_any (w : World) : Calls Tryz.prog 137 #[] w (NP iF w) := by
  go_enter Tryz.func137, Tryz.ntmps137
  go_wp2
  refine bodyPost_ret (v := numV iF) (by unfold numV; rw [nL_i]; simp [results, Tryz.results137, go_sem, aggN, numC]) rfl ⟨rfl, (Below.refl _ _).alloc (Nat.le_refl _) _⟩
theorem top_lt (a b : List Nat) (k : Nat) (hl : a.length = b.length) (hk : k < a.length) (ha : ∀ x ∈ a, x < 4294967296) (h : a.drop (k + 1) = b.drop (k + 1)) (hlt : a.getD k 0 < b.getD k 0) : valB 4294967296 a < valB 4294967296 b := by
  rw [valB_split a k (by omega), valB_split b k (by omega), drop_getD a k hk, drop_getD b k (by omega), valB, valB, h]
  have h1 := valB_lt (B := 4294967296) (by decide) (a.take k) fun x hx => ha x (List.mem_of_mem_take hx)
  rw [List.length_take, Nat.min_eq_left (by omega)] at h1
  generalize valB 4294967296 (b.drop (k + 1)) = v
  have h2 : 4294967296 ^ k * (a.getD k 0 + 4294967296 * v + 1) ≤ 4294967296 ^ k * (b.getD k 0 + 4294967296 * v) := Nat.mul_le_mul_left _ (by omega)
  rw [Nat.mul_add _ _ 1, Nat.mul_one] at h2
  omega
set_option maxHeartbeats 1000000 in
theorem isReduced_any (x : Nat) (hx : x < big) (w : World) : Calls Tryz.prog 114 #[numV x] w fun e w' => e = .returned (.bool (decide (x < pF))) ∧ Below w.heap.size w w' := by
  obtain ⟨Z, hZ, hz⟩ := zeroN
  obtain ⟨a, ha⟩ : ∃ a, nL x = a := ⟨_, rfl⟩
  obtain ⟨b, hb⟩ : ∃ b, nL pF = b := ⟨_, rfl⟩
  have hal : a.length = 8 := by rw [← ha, nL_len]
  have hbl : b.length = 8 := by rw [← hb, nL_len]
  have haW : ∀ x ∈ a, x < 4294967296 := ha ▸ nL_lt x
  have hbW : ∀ x ∈ b, x < 4294967296 := hb ▸ nL_lt pF
  have hav : valB 4294967296 a = x := by rw [← ha]; exact nL_val x hx
  have hbv : valB 4294967296 b = pF := by rw [← hb]; exact nL_val pF (by decide +kernel)
  have cp := fun w => prime_any w
  unfold NP numV aggN at cp
  rw [hb] at cp
  obtain ⟨A, hA⟩ : ∃ A, (numC .u32 a).toArray = A := ⟨_, rfl⟩
  obtain ⟨B, hB⟩ : ∃ B, (numC .u32 b).toArray = B := ⟨_, rfl⟩
  have hB8 : B.size = 8 := by rw [← hB, List.size_toArray, numC_length, hbl]
  have hB1 : B.all (·.oneCell') = true := by rw [← hB]; exact numC_one _ _
  rw [hB] at cp
  unfold numV aggN
  rw [ha, hA]
  replace cp := Kept.mk cp
  replace hZ := Kept.mk hZ
  replace ha := Kept.mk ha
  replace hb := Kept.mk hb
  replace hal := Kept.mk hal
  replace hbl := Kept.mk hbl
  replace haW := Kept.mk haW
  replace hbW := Kept.mk hbW
  replace hav := Kept.mk hav
  replace hbv := Kept.mk hbv
  replace hB8 := Kept.mk hB8
  replace hB1 := Kept.mk hB1
  clear hx
  go_enter Tryz.func114, Tryz.ntmps114
  go_wp2_with (first
    | (go_at_call 127; refine (cp.out _).mono ?_; rintro e w1 ⟨rfl, hb1⟩; replace hb1 := Kept.mk hb1)
    | (refine wpList_store_row rfl 118 (.tmp 3) (.tmp 5) rfl w1.heap.size B rfl rfl 118 Z (heap_alloc_new w1 _) ?_ ?_ hB1.out ?_; (rw [infoN, hB8.out]); (rw [hZ.out, hB8.out])))
  rw [World.setRow_alloc_new]
  have h1 : Arr (w1.alloc (.cells B 118)) w.heap.size 118 .u32 a := by
    have h := Arr.new w 118 .u32 a
    rw [hA] at h
    exact (h.from hb1.out).from ((Below.refl _ _).alloc (Nat.le_refl _) _)
  have h2 : Arr (w1.alloc (.cells B 118)) w1.heap.size 118 .u32 b := by
    have h := Arr.new w1 118 .u32 b
    rw [hB] at h
    exact h
  have h4 : Below w.heap.size w (w1.alloc (.cells B 118)) := (((Below.refl _ _).alloc (Nat.le_refl _) _).trans (hb1.out.mono (by simp))).alloc (by have := hb1.out.size; simp at this; omega) _
  replace hA := Kept.mk hA
  replace hB := Kept.mk hB
  clear hb1
  generalize w1.alloc (.cells B 118) = w0 at h1 h2 h4 ⊢
  generalize hn : w.heap.size = n at h1 ⊢
  generalize w1.heap.size = m at h2 ⊢
  replace h1 := Kept.mk h1
  replace h2 := Kept.mk h2
  replace h4 := Kept.mk h4
  replace hn := Kept.mk hn
  go_loopw [4] (fun v4 wr => ∃ (k : Nat), k ≤ 8 ∧ v4 = .int .i64 ((k : Int) - 1) ∧ Kept (a.drop k = b.drop k) ∧ Kept (Arr wr n 118 .u32 a) ∧ Kept (Arr wr m 118 .u32 b) ∧ Kept (Below w.heap.size w wr)) (fun v4 _ => (RowKit.intOf v4 + 1).toNat)
  case atStart => exact ⟨8, by omega, rfl, ⟨by rw [List.drop_eq_nil_of_le (by rw [hal.out]; omega), List.drop_eq_nil_of_le (by rw [hbl.out]; omega)]⟩, h1, h2, h4⟩
  case round =>
    clear h1 h2 h4
    obtain ⟨k, hk, rfl, HD, H1, H2, H4⟩ := hrel
    cases k with
    | zero =>
      rw [show ((0 : Nat) : Int) - 1 = -1 from rfl]
      go_wp2
      go_ret
      refine ⟨?_, H4.out⟩
      have hab : a = b := HD.out
      have : ¬ x < pF := by rw [← hav.out, ← hbv.out, hab]; omega
      rw [decide_eq_false this]
      rfl
    | succ k =>
      rw [show ((k + 1 : Nat) : Int) - 1 = (k : Int) by omega]
      obtain ⟨y, hy⟩ : ∃ y, a.getD k 0 = y := ⟨_, rfl⟩
      obtain ⟨z, hz⟩ : ∃ z, b.getD k 0 = z := ⟨_, rfl⟩
      have c1 : ∀ u : Held (From wr.drew), u.w.cell? ⟨n, k, none⟩ = some (.int .u32 (y : Int)) := fun u => hy ▸ (H1.out.from u.h.of_drew).cell k (by rw [hal.out]; omega)
      have c2 : ∀ u : Held (From wr.drew), u.w.cell? ⟨m, k, none⟩ = some (.int .u32 (z : Int)) := fun u => hz ▸ (H2.out.from u.h.of_drew).cell k (by rw [hbl.out]; omega)
      by_cases hyz : y = z
      · have e1 : ((y : Int) != (z : Int)) = false := by simp [hyz]
        have hdr : a.drop k = b.drop k := by rw [drop_getD a k (by rw [hal.out]; omega), drop_getD b k (by rw [hbl.out]; omega), hy, hz, hyz, HD.out]
        have hk1 : IntKind.i64.wrap ((k : Int) - 1) = (k : Int) - 1 := by simp [IntKind.wrap, IntKind.signed, IntKind.bits]; omega
        replace hyz := Kept.mk hyz
        replace hdr := Kept.mk hdr
        replace hy := Kept.mk hy
        replace hz := Kept.mk hz
        go_wp2
        refine wp_region_from (by kernel_rfl) (by kernel_rfl) ?_
        repeat (go_big_quiet_step (fail))
        refine wpQuiet_nil ?_
        intro w5 hw5
        have H15 := H1.out.from hw5.of_drew
        have H25 := H2.out.from hw5.of_drew
        have H45 := H4.out.trans (hw5.of_drew.mono H4.out.size)
        replace H15 := Kept.mk H15
        replace H25 := Kept.mk H25
        replace H45 := Kept.mk H45
        clear c1 c2
        go_wp2
        go_roundw
        case rel => exact ⟨k, by omega, rfl, hdr, H15, H25, H45⟩
        case measure => first | (simp [RowKit.intOf]; done) | (simp [RowKit.intOf]; omega)
      · have e1 : ((y : Int) != (z : Int)) = true := by simp; omega
        have hres : (x < pF) = (y < z) := by
          rw [← hav.out, ← hbv.out]
          have g1 := top_lt a b k (by rw [hal.out, hbl.out]) (by rw [hal.out]; omega) haW.out HD.out
          have g2 := top_lt b a k (by rw [hal.out, hbl.out]) (by rw [hbl.out]; omega) hbW.out HD.out.symm
          rw [hy, hz] at g1 g2
          apply propext
          constructor
          · intro h
            have : ¬ z < y := fun h2 => by have := g2 h2; omega
            omega
          · exact g1
        replace hyz := Kept.mk hyz
        replace hres := Kept.mk hres
        replace hy := Kept.mk hy
        replace hz := Kept.mk hz
        go_wp2
        refine wp_region_from (by kernel_rfl) (by kernel_rfl) ?_
        repeat (go_big_quiet_step (fail))
        refine wpQuiet_nil ?_
        intro w5 hw5
        have H15 := H1.out.from hw5.of_drew
        have H25 := H2.out.from hw5.of_drew
        have H45 := H4.out.trans (hw5.of_drew.mono H4.out.size)
        replace H45 := Kept.mk H45
        clear c1 c2
        have c1 : ∀ u : Held (From w5.drew), u.w.cell? ⟨n, k, none⟩ = some (.int .u32 (y : Int)) := fun u => hy.out ▸ (H15.from u.h.of_drew).cell k (by rw [hal.out]; omega)
        have c2 : ∀ u : Held (From w5.drew), u.w.cell? ⟨m, k, none⟩ = some (.int .u32 (z : Int)) := fun u => hz.out ▸ (H25.from u.h.of_drew).cell k (by rw [hbl.out]; omega)
        go_wp2
        refine wp_region_from (by kernel_rfl) (by kernel_rfl) ?_
        repeat (go_big_quiet_step (fail))
        refine wpQuiet_nil ?_
        intro w6 hw6
        have H46 := H45.out.trans (hw6.of_drew.mono H45.out.size)
        replace H46 := Kept.mk H46
        clear c1 c2
        go_wp2
        go_ret
        refine ⟨?_, H46.out⟩
        exact bool_ret (decide_eq_decide.2 (by rw [hres.out]))
end Go.Proofs.YtgnblaaldpniiaaGreatDoor
end
section
set_option maxRecDepth 100000
set_option linter.unusedVariables false
set_option linter.unusedSimpArgs false
namespace Go.Proofs.YtgnblaaldpniiaaGreatDoor
open Go.RowKit Go.Lib
def numA (x : Nat) : Array Value := (numC .u32 (nL x)).toArray
theorem numV_eq (x : Nat) : numV x = .agg (numA x) := rfl
theorem numA_size (x : Nat) : (numA x).size = 8 := by rw [numA, List.size_toArray, numC_length, nL_len]
theorem numA_one (x : Nat) : (numA x).all (·.oneCell') = true := numC_one _ _
theorem numA_info (x : Nat) : (Tryz.prog.info? 118).map (·.size) = some (numA x).size := by rw [infoN, numA_size]
theorem zero_num : ∀ w, (zeroValue 118).run Tryz.prog w = .ok (.agg (numA 0)) w := by
  have h : (numA 0) = (numC .u32 (List.replicate 8 0)).toArray := rfl
  rw [h]
  exact (zero_of_info (n := 8) (by kernel_rfl)).1
def NumAt (w : World) (g : Nat) (x : Nat) : Prop := w.heap[g]? = some (.cells (numA x) 118 (0, 0))
theorem NumAt.lt {w : World} {g x : Nat} (h : NumAt w g x) : g < w.heap.size := (Array.getElem?_eq_some_iff.1 h).1
structure Mem (w0 w : World) (L : List (Nat × Nat)) : Prop where
  below : Below w0.heap.size w0 w
  holds : ∀ g x, (g, x) ∈ L → NumAt w g x
  ours : ∀ g x, (g, x) ∈ L → w0.heap.size ≤ g
  apart : (L.map (·.1)).Nodup
section
variable {w0 w w' : World} {L : List (Nat × Nat)} {g x y : Nat}
theorem Mem.start (w : World) : Mem w w [] := ⟨Below.refl _ _, by simp, by simp, by simp⟩
theorem Mem.grow (H : Mem w0 w L) (hb : Below w.heap.size w w') : Mem w0 w' L :=
  ⟨H.below.trans (hb.mono H.below.size), fun g x h => (hb.block g (H.holds g x h).lt).trans (H.holds g x h), H.ours, H.apart⟩
theorem Mem.new (H : Mem w0 w L) (x : Nat) : Mem w0 (w.alloc (.cells (numA x) 118)) ((w.heap.size, x) :: L) := by
  have H2 := H.grow ((Below.refl _ w).alloc (Nat.le_refl _) (.cells (numA x) 118))
  refine ⟨H2.below, fun g y h => ?_, fun g y h => ?_, ?_⟩
  · rcases List.mem_cons.1 h with h | h
    · injection h with h1 h2; subst h1; subst h2; exact heap_alloc_new w _
    · exact H2.holds g y h
  · rcases List.mem_cons.1 h with h | h
    · injection h with h1 h2; subst h1; exact H.below.size
    · exact H.ours g y h
  · rw [List.map_cons, List.nodup_cons]
    refine ⟨fun h => ?_, H.apart⟩
    obtain ⟨⟨g, y⟩, hm, he⟩ := List.mem_map.1 h
    have := (H.holds g y hm).lt
    simp only at he
    omega
theorem Mem.extra (H : Mem w0 w L) (h : From w.drew w') (hF : Fresh w 118 (numA 0) g w') : Mem w0 w' ((g, 0) :: L) := by
  have H2 := H.grow h.of_drew
  refine ⟨H2.below, fun g' y h => ?_, fun g' y h => ?_, ?_⟩
  · rcases List.mem_cons.1 h with h | h
    · injection h with h1 h2; subst h1; subst h2; exact hF.1
    · exact H2.holds g' y h
  · rcases List.mem_cons.1 h with h | h
    · injection h with h1 h2; subst h1; exact Nat.le_trans H.below.size hF.2
    · exact H.ours g' y h
  · rw [List.map_cons, List.nodup_cons]
    refine ⟨fun h => ?_, H.apart⟩
    obtain ⟨⟨g', y⟩, hm, he⟩ := List.mem_map.1 h
    have h3 := (H.holds g' y hm).lt
    have h4 := hF.2
    simp only at he
    omega
def putN (g y : Nat) (L : List (Nat × Nat)) : List (Nat × Nat) := L.map fun p => if p.1 = g then (g, y) else p
theorem setRow_other (w : World) (g g' : Nat) (cs : Array Value) (h : g' ≠ g) : (w.setRow g cs).heap[g']? = w.heap[g']? := by
  show (w.heap.modify g _)[g']? = _
  rw [Array.getElem?_modify, if_neg (Ne.symm h)]
theorem Mem.put (H : Mem w0 w L) (h : (g, x) ∈ L) (y : Nat) : Mem w0 (w.setRow g (numA y)) (putN g y L) := by
  have hk : (putN g y L).map (·.1) = L.map (·.1) := by
    unfold putN
    rw [List.map_map]
    refine List.map_congr_left fun p _ => ?_
    simp only [Function.comp]
    split
    · rename_i e; exact e.symm
    · rfl
  refine ⟨below_setRow H.below (H.ours g x h) _, fun g' z h' => ?_, fun g' z h' => ?_, by rw [hk]; exact H.apart⟩
  · unfold putN at h'
    obtain ⟨⟨g2, z2⟩, hm, he⟩ := List.mem_map.1 h'
    by_cases e : g2 = g
    · rw [if_pos e] at he
      injection he with e1 e2
      subst e1; subst e2
      exact setRow_heap _ _ _ _ _ _ (H.holds g x h)
    · rw [if_neg e] at he
      injection he with e1 e2
      subst e1; subst e2
      exact (setRow_other w g g2 _ e).trans (H.holds g2 z2 hm)
  · have : g' ∈ L.map (·.1) := by rw [← hk]; exact List.mem_map.2 ⟨(g', z), h', rfl⟩
    obtain ⟨⟨g2, z2⟩, hm, he⟩ := List.mem_map.1 this
    simp only at he
    subst he
    exact H.ours g2 z2 hm
end
section
variable {ops : Array Oper} {rest : List Oper} {o : Oper} {a : Act} {w0 w : World} {Q : Exit → Act → World → Prop} {L : List (Nat × Nat)}
theorem mem_box (hg : o.guard = none) (x : Operand) (ho : o.op = .box 118 x) (y : Nat) (hx : a.eval x = .agg (numA y)) (H : Mem w0 w L)
    (h : ∀ g w', Mem w0 w' ((g, y) :: L) → wpList Tryz.prog ops Q rest (a.put o.dst (.pointer (some ⟨g, 0, none⟩))) w') : wpList Tryz.prog ops Q (o :: rest) a w :=
  Great.wpList_boxTo hg 118 x ho o.dst rfl w.heap.size rfl (numA y) (by rw [hx]; rfl) (h _ _ (H.new y))
theorem mem_alloc (hg : o.guard = none) (ho : o.op = .alloc 118) (H : Mem w0 w L)
    (h : ∀ g w', Mem w0 w' ((g, 0) :: L) → wpList Tryz.prog ops Q rest (a.put o.dst (.pointer (some ⟨g, 0, none⟩))) w') : wpList Tryz.prog ops Q (o :: rest) a w := by
  refine wpList_plain hg fun K hK => ?_
  unfold Oper.wp execOp
  simp only [ho, Instr.alloc, Sem.run_bind, zero_num, newVar, newRow, run_newObj_alloc, Sem.run_pure, Result.andThen_ok]
  exact hK _ _ (h _ _ (H.new 0))
theorem mem_load (hg : o.guard = none) (x : Operand) (ho : o.op = .load 118 x) (g y : Nat) (hx : a.eval x = .pointer (some ⟨g, 0, none⟩)) (H : Mem w0 w L) (hm : (g, y) ∈ L)
    (h : wpList Tryz.prog ops Q rest (a.put o.dst (.agg (numA y))) w) : wpList Tryz.prog ops Q (o :: rest) a w :=
  wpList_load_row hg 118 x ho g hx 118 (numA y) (0, 0) _ (H.holds g y hm) Tryz.underlying118 rfl (numA_info y) h
theorem mem_store (hg : o.guard = none) (x v : Operand) (ho : o.op = .store 118 x v) (g old y : Nat) (hx : a.eval x = .pointer (some ⟨g, 0, none⟩)) (hv : a.eval v = .agg (numA y)) (H : Mem w0 w L) (hm : (g, old) ∈ L)
    (h : ∀ w', Mem w0 w' (putN g y L) → wpList Tryz.prog ops Q rest (a.put o.dst undef) w') : wpList Tryz.prog ops Q (o :: rest) a w :=
  wpList_store_row hg 118 x v ho g (numA y) hx hv 118 (numA old) (H.holds g old hm) (numA_info y) (by rw [numA_size, numA_size]) (numA_one y) (h _ (H.put hm y))
theorem putN_none {g y : Nat} : ∀ (L : List (Nat × Nat)), g ∉ L.map (·.1) → putN g y L = L
  | [], _ => rfl
  | p :: r, h => by
    rw [List.map_cons, List.mem_cons, not_or] at h
    have := putN_none (y := y) r h.2
    unfold putN at this ⊢
    rw [List.map_cons, this, if_neg (Ne.symm h.1)]
theorem putN_mid {g y old : Nat} : ∀ (A B : List (Nat × Nat)), ((A ++ (g, old) :: B).map (·.1)).Nodup → putN g y (A ++ (g, old) :: B) = A ++ (g, y) :: B
  | [], B, h => by
    rw [List.nil_append, List.map_cons, List.nodup_cons] at h
    have := putN_none (y := y) B h.1
    unfold putN at this ⊢
    rw [List.nil_append, List.map_cons, this, if_pos rfl, List.nil_append]
  | p :: A, B, h => by
    rw [List.cons_append, List.map_cons, List.nodup_cons] at h
    have := putN_mid (y := y) A B h.2
    have hne : p.1 ≠ g := fun e => h.1 (List.mem_map.2 ⟨(g, old), by simp, e.symm⟩)
    unfold putN at this ⊢
    rw [List.cons_append, List.map_cons, this, if_neg hne, List.cons_append]
theorem mem_store_mid (hg : o.guard = none) (x v : Operand) (ho : o.op = .store 118 x v) (g old y : Nat) (hx : a.eval x = .pointer (some ⟨g, 0, none⟩)) (hv : a.eval v = .agg (numA y)) (A B : List (Nat × Nat)) (H : Mem w0 w (A ++ (g, old) :: B))
    (h : ∀ w', Mem w0 w' (A ++ (g, y) :: B) → wpList Tryz.prog ops Q rest (a.put o.dst undef) w') : wpList Tryz.prog ops Q (o :: rest) a w :=
  mem_store hg x v ho g old y hx hv H (by simp) fun w' H' => h w' (putN_mid A B H.apart ▸ H')
theorem mem_store0 (hg : o.guard = none) (x v : Operand) (ho : o.op = .store 118 x v) (g old y : Nat) (hx : a.eval x = .pointer (some ⟨g, 0, none⟩)) (hv : a.eval v = .agg (numA y)) (B : List (Nat × Nat)) (H : Mem w0 w ((g, old) :: B))
    (h : ∀ w', Mem w0 w' ((g, y) :: B) → wpList Tryz.prog ops Q rest (a.put o.dst undef) w') : wpList Tryz.prog ops Q (o :: rest) a w := mem_store_mid hg x v ho g old y hx hv [] B H h
theorem mem_store1 (hg : o.guard = none) (x v : Operand) (ho : o.op = .store 118 x v) (g old y : Nat) (hx : a.eval x = .pointer (some ⟨g, 0, none⟩)) (hv : a.eval v = .agg (numA y)) (p : Nat × Nat) (B : List (Nat × Nat)) (H : Mem w0 w (p :: (g, old) :: B))
    (h : ∀ w', Mem w0 w' (p :: (g, y) :: B) → wpList Tryz.prog ops Q rest (a.put o.dst undef) w') : wpList Tryz.prog ops Q (o :: rest) a w := mem_store_mid hg x v ho g old y hx hv [p] B H h
theorem mem_store2 (hg : o.guard = none) (x v : Operand) (ho : o.op = .store 118 x v) (g old y : Nat) (hx : a.eval x = .pointer (some ⟨g, 0, none⟩)) (hv : a.eval v = .agg (numA y)) (p q : Nat × Nat) (B : List (Nat × Nat)) (H : Mem w0 w (p :: q :: (g, old) :: B))
    (h : ∀ w', Mem w0 w' (p :: q :: (g, y) :: B) → wpList Tryz.prog ops Q rest (a.put o.dst undef) w') : wpList Tryz.prog ops Q (o :: rest) a w := mem_store_mid hg x v ho g old y hx hv [p, q] B H h
theorem mem_call {f : FuncId} {args : Array Value} {v : Value} {Q : Ending → World → Prop} (H : Mem w0 w L) (c : Calls Tryz.prog f args w fun e w' => e = .returned v ∧ Below w.heap.size w w')
    (h : ∀ w', Mem w0 w' L → Q (.returned v) w') : Calls Tryz.prog f args w Q :=
  c.mono fun _ w' ⟨he, hb⟩ => he ▸ h w' (H.grow hb)
theorem mem_from {w' : World} (H : Mem w0 w L) (h : From w.drew w') : Mem w0 w' L := H.grow h.of_drew
theorem mem_quiet_load {K : Act → Prop} (x : Operand) (ho : o.op = .load 118 x) (g y : Nat) (hx : a.eval x = .pointer (some ⟨g, 0, none⟩)) (H : Mem w0 w L) (hm : (g, y) ∈ L)
    (h : K (a.put o.dst (.agg (numA y)))) : o.quiet Tryz.prog a (fun w' => ∃ u : Held (From w.drew), w' = u.w) K :=
  quiet_load_row 118 x ho g hx 118 (numA y) _ (fun _ ⟨u, e⟩ => ⟨(0, 0), e ▸ (mem_from H u.h).holds g y hm⟩) Tryz.underlying118 rfl (numA_info y) h
theorem mem_quiet_load_u {K : Act → Prop} (x : Operand) (ho : o.op = .load 118 x) (g y : Nat) (hx : a.eval x = .pointer (some ⟨g, 0, none⟩)) (H : Mem w0 w L) (hm : (g, y) ∈ L)
    (h : K (a.put o.dst (.agg (numA y)))) : o.quiet Tryz.prog a (fun w' => ∃ u : Held (From w), w' = u.w) K :=
  quiet_load_row 118 x ho g hx 118 (numA y) _ (fun _ ⟨u, e⟩ => ⟨(0, 0), e ▸ (H.grow u.h.below).holds g y hm⟩) Tryz.underlying118 rfl (numA_info y) h
theorem mem_ret {fn : Func} {p : Tmp} {x : Nat} {g : Nat} (hr : fn.results = #[.cell p 118]) (a : Act) (hp : a.tmps.getD p undef = .pointer (some ⟨g, 0, none⟩)) (hd : a.defers = []) (H : Mem w0 w L) (hm : (g, x) ∈ L) :
    bodyPost Tryz.prog fn (NP x w0) .ret a w :=
  bodyPost_ret (results_cell_row hr _ _ g 118 (numA x) (0, 0) _ hp (H.holds g x hm) Tryz.underlying118 rfl (numA_info x)) hd ⟨rfl, H.below⟩
end
end Go.Proofs.YtgnblaaldpniiaaGreatDoor
end
section
set_option linter.unusedSimpArgs false
set_option linter.unusedVariables false
set_option maxRecDepth 100000
namespace Go.Proofs.YtgnblaaldpniiaaGreatDoor
open Go.RowKit
theorem p_big : pF < big := by decide +kernel
set_option maxHeartbeats 1000000 in
theorem negated_any (x : Nat) (hx : x ≤ pF) (w : World) : Calls Tryz.prog 118 #[numV x] w (NP (pF - x) w) := by
  have H := Mem.start w
  have cd := Kept.mk fun w => diffN_any pF x p_big hx w
  clear hx
  rw [numV_eq]
  go_enter Tryz.func118, Tryz.ntmps118
  go_wp2_with (first
    | (refine mem_box rfl _ rfl _ rfl (by assumption) ?_; intro g w H; try simp only [Act.put, yI, yC, yZ])
    | (refine mem_alloc rfl rfl (by assumption) ?_; intro g w H; try simp only [Act.put, yI, yC, yZ]))
  refine wp_region_from_tail 3 (by kernel_rfl) (by kernel_rfl) ?_
  simp only [List.take_succ_cons, List.take_zero, List.drop_succ_cons, List.drop_zero]
  repeat (first
    | (go_big_quiet_want; (refine mem_quiet_load _ rfl _ _ rfl (by assumption) (by (repeat (first | exact .head _ | refine .tail _ ?_))) ?_); try simp only [Act.put, yI, yC, yZ]; go_big_quiet_on)
    | go_big_quiet_step (((first | (go_at_call 127; exact held_call _ (prime_any _)) | (go_at_call 129; exact held_call _ (cd.out _))))))
  refine wpQuiet_nil ?_
  intro w5 hw5
  have H := mem_from H hw5
  clear hw5
  go_wp2_with (first
    | (refine mem_store0 rfl _ _ rfl _ _ _ rfl rfl _ (by assumption) ?_; intro w H; try simp only [Act.put, yI, yC, yZ]))
  exact mem_ret Tryz.results118 _ rfl rfl (by assumption) (by (repeat (first | exact .head _ | refine .tail _ ?_)))
def sqN (n : Nat) : Nat → Nat
  | 0 => n
  | k + 1 => prodN (sqN n k) (sqN n k)
set_option maxHeartbeats 1000000 in
theorem squared_any (n m : Nat) (hm : m < 100000) (wS : World) : Calls Tryz.prog 130 #[numV n, .int .i64 (m : Int)] wS (NP (sqN n m) wS) := by
  have H := Mem.start wS
  rw [numV_eq]
  go_enter Tryz.func130, Tryz.ntmps130
  go_wp2_with (first
    | (refine mem_box rfl _ rfl _ rfl (by assumption) ?_; intro g w H; try simp only [Act.put, yI, yC, yZ])
    | (refine mem_alloc rfl rfl (by assumption) ?_; intro g w H; try simp only [Act.put, yI, yC, yZ]))
  rename_i gb _ _ w1 _
  go_loopw [6] (fun v6 wr => ∃ (i : Nat), i ≤ m ∧ v6 = .int .i64 (i : Int) ∧ Mem wS wr [(g, 0), (gb, sqN n i)]) (fun v6 _ => m - (RowKit.intOf v6).toNat)
  case atStart => exact ⟨0, Nat.zero_le _, rfl, H⟩
  case round =>
    clear H
    obtain ⟨i, hi, rfl, H⟩ := hrel
    by_cases hlt : i < m
    · have hlti : (i : Int) < (m : Int) := by omega
      clear hi
      go_wp2_with (first
        | (refine mem_load rfl _ rfl _ _ rfl (by assumption) (by (repeat (first | exact .head _ | refine .tail _ ?_))) ?_; try simp only [Act.put, yI, yC, yZ])
        | (refine mem_store1 rfl _ _ rfl _ _ _ rfl rfl _ _ (by assumption) ?_; intro w H; try simp only [Act.put, yI, yC, yZ])
        | (go_at_call 122; refine mem_call (by assumption) (prodN_any _ _ _) ?_; intro w H))
      go_roundw
      case rel => exact ⟨i + 1, hlt, val_eq (by omega), H⟩
      case measure => simp [RowKit.intOf]; omega
    · obtain rfl : i = m := by omega
      go_wp2_with (first
        | (refine mem_load rfl _ rfl _ _ rfl (by assumption) (by (repeat (first | exact .head _ | refine .tail _ ?_))) ?_; try simp only [Act.put, yI, yC, yZ])
        | (refine mem_store0 rfl _ _ rfl _ _ _ rfl rfl _ (by assumption) ?_; intro w H; try simp only [Act.put, yI, yC, yZ]))
      exact mem_ret Tryz.results130 _ rfl rfl (by assumption) (by (repeat (first | exact .head _ | refine .tail _ ?_)))
end Go.Proofs.YtgnblaaldpniiaaGreatDoor
end
