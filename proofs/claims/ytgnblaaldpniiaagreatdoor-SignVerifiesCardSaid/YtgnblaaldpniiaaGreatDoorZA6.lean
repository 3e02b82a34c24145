/- Package field: its calls.
Package field: what its powers are, modulo p; what follows of p's being a prime. No walk.
The document's answer for package field: its numbers (16 digits) in blocks, as one state of the memory; laws of the walk over it.
Walks of the document's answer for package field: p, small numbers, which is below.
Walks of the document's answer for package field: small numbers; which is below; differences. -/
import Derived.Test.YtgnblaaldpniiaaGreatDoorZA5
import Derived.Test.YtgnblaaldpniiaaGreatDoorZA3
import Derived.Test.YtgnblaaldpniiaaGreatDoorZK1
import Derived.Great.Ranges
section
set_option linter.unusedSimpArgs false
set_option linter.unusedVariables false
set_option maxRecDepth 100000
namespace Go.Proofs.YtgnblaaldpniiaaGreatDoor
open Go.RowKit
def StrPost (l : List UInt8) (n : Int) (w : World) (e : Ending) (w' : World) : Prop := e = .returned (.tuple #[.string (S l), .int .i64 n]) ∧ Below w.heap.size w w'
theorem is_any (l : List UInt8) (wS : World) : Calls Tryz.prog 76 #[.string (S l)] wS fun e w' => e = .returned (.bool (isEl l)) ∧ Below wS.heap.size wS w' := by
  have H := Mem.start wS
  have cL := Kept.mk fun w => element_any l w
  obtain ⟨b, hb⟩ : ∃ b, isEl l = b := ⟨_, rfl⟩
  rw [hb] at cL ⊢
  clear hb
  go_enter Tryz.func76, Tryz.ntmps76
  go_wp2_with (first
    | (refine mem_alloc rfl rfl (by assumption) ?_; intro g w H; try simp only [Act.put, yI, yC, yZ])
    | (refine mem_store0 rfl _ _ rfl _ _ _ rfl rfl _ (by assumption) ?_; intro w H; try simp only [Act.put, yI, yC, yZ])
    | (go_at_call 98; refine mem_call (by assumption) (cL.out _) ?_; intro w H))
  go_ret
  exact ⟨rfl, H.below⟩
set_option maxHeartbeats 1000000 in
theorem add_ok (l m : List UInt8) (h : isEl l = true) (h' : isEl m = true) (wS : World) : Calls Tryz.prog 103 #[.string (S l), .string (S m)] wS (StrPost (leB ((numB l + numB m) % pF)) 0 wS) := by
  have H := Mem.start wS
  have cE := Kept.mk fun w => elements_any l m w
  rw [h, h', Bool.and_true, elN_eq h, elN_eq h'] at cE
  have hx := isEl_lt h
  have hy := isEl_lt h'
  have hxb := Nat.lt_trans hx p_big
  have hyb := Nat.lt_trans hy p_big
  have hp2 : pF + pF < big := by decide +kernel
  have cS := Kept.mk fun w => sumN_any (numB l) (numB m) hxb hyb (by omega) w
  have cR := Kept.mk fun w => reduced_any (numB l + numB m) (by omega) w
  have cB := Kept.mk fun w => bytes_any ((numB l + numB m) % pF) w
  clear hp2
  clear hx hy hxb hyb h h'
  go_enter Tryz.func103, Tryz.ntmps103
  go_wp2_with (first
    | (refine mem_alloc rfl rfl (by assumption) ?_; intro g w H; try simp only [Act.put, yI, yC, yZ])
    | (refine mem_load rfl _ rfl _ _ rfl (by assumption) (by (repeat (first | exact .head _ | refine .tail _ ?_))) ?_; try simp only [Act.put, yI, yC, yZ])
    | (refine mem_store0 rfl _ _ rfl _ _ _ rfl rfl _ (by assumption) ?_; intro w H; try simp only [Act.put, yI, yC, yZ])
    | (refine mem_store1 rfl _ _ rfl _ _ _ rfl rfl _ _ (by assumption) ?_; intro w H; try simp only [Act.put, yI, yC, yZ])
    | (go_at_call 116; refine mem_call (by assumption) (cE.out _) ?_; intro w H)
    | (go_at_call 117; refine mem_call (by assumption) (cS.out _) ?_; intro w H)
    | (go_at_call 119; refine mem_call (by assumption) (cR.out _) ?_; intro w H)
    | (go_at_call 120; refine mem_call (by assumption) (cB.out _) ?_; intro w H))
  go_ret2
  exact ⟨rfl, H.below⟩
set_option maxHeartbeats 1000000 in
theorem sub_ok (l m : List UInt8) (h : isEl l = true) (h' : isEl m = true) (wS : World) : Calls Tryz.prog 100 #[.string (S l), .string (S m)] wS (StrPost (leB ((numB l + (pF - numB m)) % pF)) 0 wS) := by
  have H := Mem.start wS
  have cE := Kept.mk fun w => elements_any l m w
  rw [h, h', Bool.and_true, elN_eq h, elN_eq h'] at cE
  have hx := isEl_lt h
  have hy := isEl_lt h'
  have hxb := Nat.lt_trans hx p_big
  have hyb := Nat.lt_trans hy p_big
  have hp2 : pF + pF < big := by decide +kernel
  have cN := Kept.mk fun w => negated_any (numB m) (Nat.le_of_lt hy) w
  have cS := Kept.mk fun w => sumN_any (numB l) (pF - numB m) hxb (by omega) (by omega) w
  have cR := Kept.mk fun w => reduced_any (numB l + (pF - numB m)) (by omega) w
  have cB := Kept.mk fun w => bytes_any ((numB l + (pF - numB m)) % pF) w
  clear hp2
  clear hx hy hxb hyb h h'
  go_enter Tryz.func100, Tryz.ntmps100
  go_wp2_with (first
    | (refine mem_alloc rfl rfl (by assumption) ?_; intro g w H; try simp only [Act.put, yI, yC, yZ])
    | (refine mem_store0 rfl _ _ rfl _ _ _ rfl rfl _ (by assumption) ?_; intro w H; try simp only [Act.put, yI, yC, yZ])
    | (refine mem_store1 rfl _ _ rfl _ _ _ rfl rfl _ _ (by assumption) ?_; intro w H; try simp only [Act.put, yI, yC, yZ])
    | (go_at_call 116; refine mem_call (by assumption) (cE.out _) ?_; intro w H))
  refine wp_region_from (by kernel_rfl) (by kernel_rfl) ?_
  repeat (first
    | (go_big_quiet_want; (refine mem_quiet_load _ rfl _ _ rfl (by assumption) (by (repeat (first | exact .head _ | refine .tail _ ?_))) ?_); try simp only [Act.put, yI, yC, yZ]; go_big_quiet_on)
    | go_big_quiet_step (((first | (go_at_call 118; exact held_call _ (cN.out _)) | (go_at_call 117; exact held_call _ (cS.out _)) | (go_at_call 119; exact held_call _ (cR.out _)) | (go_at_call 120; exact held_call _ (cB.out _))))))
  refine wpQuiet_nil ?_
  intro w5 hw5
  have H := mem_from H hw5
  clear hw5
  go_wp2
  go_ret2
  exact ⟨rfl, H.below⟩
set_option maxHeartbeats 1000000 in
theorem mul_ok (l m : List UInt8) (h : isEl l = true) (h' : isEl m = true) (wS : World) : Calls Tryz.prog 102 #[.string (S l), .string (S m)] wS (StrPost (leB (prodN (numB l) (numB m) % pF)) 0 wS) := by
  have H := Mem.start wS
  have cE := Kept.mk fun w => elements_any l m w
  rw [h, h', Bool.and_true, elN_eq h, elN_eq h'] at cE
  have hx := isEl_lt h
  have hy := isEl_lt h'
  have hxb := Nat.lt_trans hx p_big
  have hyb := Nat.lt_trans hy p_big
  have cS := Kept.mk fun w => prodN_any (numB l) (numB m) w
  have cR := Kept.mk fun w => reduced_any (prodN (numB l) (numB m)) (prodN_lt _ _) w
  have cB := Kept.mk fun w => bytes_any (prodN (numB l) (numB m) % pF) w
  clear hx hy hxb hyb h h'
  go_enter Tryz.func102, Tryz.ntmps102
  go_wp2_with (first
    | (refine mem_alloc rfl rfl (by assumption) ?_; intro g w H; try simp only [Act.put, yI, yC, yZ])
    | (refine mem_load rfl _ rfl _ _ rfl (by assumption) (by (repeat (first | exact .head _ | refine .tail _ ?_))) ?_; try simp only [Act.put, yI, yC, yZ])
    | (refine mem_store0 rfl _ _ rfl _ _ _ rfl rfl _ (by assumption) ?_; intro w H; try simp only [Act.put, yI, yC, yZ])
    | (refine mem_store1 rfl _ _ rfl _ _ _ rfl rfl _ _ (by assumption) ?_; intro w H; try simp only [Act.put, yI, yC, yZ])
    | (go_at_call 116; refine mem_call (by assumption) (cE.out _) ?_; intro w H)
    | (go_at_call 122; refine mem_call (by assumption) (cS.out _) ?_; intro w H)
    | (go_at_call 119; refine mem_call (by assumption) (cR.out _) ?_; intro w H)
    | (go_at_call 120; refine mem_call (by assumption) (cB.out _) ?_; intro w H))
  go_ret2
  exact ⟨rfl, H.below⟩
def invN (n : Nat) : Nat := prodN (sqN (onesN n 250) 5) (prodN (sqN (prodN (sqN n 2) n) 1) n)
theorem inv_ok (l : List UInt8) (h : isEl l = true) (wS : World) : Calls Tryz.prog 101 #[.string (S l)] wS (StrPost (leB (invN (numB l) % pF)) 0 wS) := by
  have H := Mem.start wS
  have cL := Kept.mk fun w => element_any l w
  rw [h, elN_eq h] at cL
  have cI := Kept.mk fun w => inverse_any (numB l) w
  rw [show prodN (sqN (onesN (numB l) 250) 5) (prodN (sqN (prodN (sqN (numB l) 2) (numB l)) 1) (numB l)) = invN (numB l) from rfl] at cI
  have cR := Kept.mk fun w => reduced_any (invN (numB l)) (prodN_lt _ _) w
  have cB := Kept.mk fun w => bytes_any (invN (numB l) % pF) w
  clear h
  go_enter Tryz.func101, Tryz.ntmps101
  go_wp2_with (first
    | (refine mem_alloc rfl rfl (by assumption) ?_; intro g w H; try simp only [Act.put, yI, yC, yZ])
    | (refine mem_load rfl _ rfl _ _ rfl (by assumption) (by (repeat (first | exact .head _ | refine .tail _ ?_))) ?_; try simp only [Act.put, yI, yC, yZ])
    | (refine mem_store0 rfl _ _ rfl _ _ _ rfl rfl _ (by assumption) ?_; intro w H; try simp only [Act.put, yI, yC, yZ])
    | (go_at_call 98; refine mem_call (by assumption) (cL.out _) ?_; intro w H)
    | (go_at_call 121; refine mem_call (by assumption) (cI.out _) ?_; intro w H)
    | (go_at_call 119; refine mem_call (by assumption) (cR.out _) ?_; intro w H)
    | (go_at_call 120; refine mem_call (by assumption) (cB.out _) ?_; intro w H))
  go_ret2
  exact ⟨rfl, H.below⟩
def RPost (l : List UInt8) (b : Bool) (n : Int) (w : World) (e : Ending) (w' : World) : Prop := e = .returned (.tuple #[.string (S l), .bool b, .int .i64 n]) ∧ Below w.heap.size w w'
theorem rootC_yes (l : List UInt8) (h : isEl l = true) (hq : sqN (r1N (numB l)) 1 % pF = numB l) (wS : World) : Calls Tryz.prog 115 #[.string (S l)] wS (RPost (leB (evenN (r1N (numB l) % pF))) true 0 wS) := by
  have H := Mem.start wS
  have cL := Kept.mk fun w => element_any l w
  rw [h, elN_eq h] at cL
  have cI := fun w => root_any (numB l) (isEl_lt h) w
  unfold RootPost at cI
  simp only [if_pos hq] at cI
  replace cI := Kept.mk cI
  have cB := Kept.mk fun w => bytes_any (evenN (r1N (numB l) % pF)) w
  clear h hq
  go_enter Tryz.func115, Tryz.ntmps115
  go_wp2_with (first
    | (refine mem_alloc rfl rfl (by assumption) ?_; intro g w H; try simp only [Act.put, yI, yC, yZ])
    | (refine mem_load rfl _ rfl _ _ rfl (by assumption) (by (repeat (first | exact .head _ | refine .tail _ ?_))) ?_; try simp only [Act.put, yI, yC, yZ])
    | (refine mem_store0 rfl _ _ rfl _ _ _ rfl rfl _ (by assumption) ?_; intro w H; try simp only [Act.put, yI, yC, yZ])
    | (go_at_call 98; refine mem_call (by assumption) (cL.out _) ?_; intro w H)
    | (go_at_call 128; refine mem_call (by assumption) (cI.out _) ?_; intro w H)
    | (go_at_call 120; refine mem_call (by assumption) (cB.out _) ?_; intro w H))
  go_ret3
  exact ⟨rfl, H.below⟩
theorem rootC_no (l : List UInt8) (h : isEl l = true) (hq : ¬ sqN (r1N (numB l)) 1 % pF = numB l) (wS : World) : Calls Tryz.prog 115 #[.string (S l)] wS (RPost [] false 0 wS) := by
  have H := Mem.start wS
  have cL := Kept.mk fun w => element_any l w
  rw [h, elN_eq h] at cL
  have cI := fun w => root_any (numB l) (isEl_lt h) w
  unfold RootPost at cI
  simp only [if_neg hq] at cI
  replace cI := Kept.mk cI
  clear h hq
  go_enter Tryz.func115, Tryz.ntmps115
  go_wp2_with (first
    | (refine mem_alloc rfl rfl (by assumption) ?_; intro g w H; try simp only [Act.put, yI, yC, yZ])
    | (refine mem_load rfl _ rfl _ _ rfl (by assumption) (by (repeat (first | exact .head _ | refine .tail _ ?_))) ?_; try simp only [Act.put, yI, yC, yZ])
    | (refine mem_store0 rfl _ _ rfl _ _ _ rfl rfl _ (by assumption) ?_; intro w H; try simp only [Act.put, yI, yC, yZ])
    | (go_at_call 98; refine mem_call (by assumption) (cL.out _) ?_; intro w H)
    | (go_at_call 128; refine mem_call (by assumption) (cI.out _) ?_; intro w H))
  go_ret3
  exact ⟨rfl, H.below⟩
end Go.Proofs.YtgnblaaldpniiaaGreatDoor
end
section
set_option linter.unusedVariables false
set_option maxRecDepth 100000
set_option linter.unusedSimpArgs false
namespace Go.Proofs.YtgnblaaldpniiaaGreatDoor
open Go.RowKit
theorem p_pos : 0 < pF := by decide +kernel
theorem sqN_big (n : Nat) (h : n < big) : ∀ m, sqN n m < big
  | 0 => h
  | m + 1 => prodN_lt _ _
def powF (x e : Nat) : Nat := x ^ e % pF
theorem powF_lt (x e : Nat) : powF x e < pF := Nat.mod_lt _ p_pos
theorem mulm (x y n e f : Nat) (hx : x % pF = n ^ e % pF) (hy : y % pF = n ^ f % pF) : x * y % pF = n ^ (e + f) % pF := by
  rw [Nat.mul_mod, hx, hy, ← Nat.mul_mod, ← Nat.pow_add]
theorem prod_pow (x y n e f g : Nat) (hxb : x < big) (hyb : y < big) (hx : x % pF = n ^ e % pF) (hy : y % pF = n ^ f % pF) (hg : e + f = g) : prodN x y % pF = n ^ g % pF := by
  rw [prodN_mod x y hxb hyb, mulm x y n e f hx hy, hg]
theorem sqN_pow (x n e : Nat) (hxb : x < big) (hx : x % pF = n ^ e % pF) : ∀ m, sqN x m % pF = n ^ (e * 2 ^ m) % pF
  | 0 => by rw [Nat.pow_zero, Nat.mul_one]; exact hx
  | m + 1 => prod_pow _ _ n _ _ _ (sqN_big x hxb m) (sqN_big x hxb m) (sqN_pow x n e hxb hx m) (sqN_pow x n e hxb hx m) (by rw [Nat.pow_succ, ← Nat.mul_assoc, Nat.mul_two])
theorem onesN_big (n : Nat) (h : n < big) (c : Nat) : onesN n c < big := by
  rw [onesN]
  split
  · exact h
  · cases c % 2 == 1
    · exact prodN_lt _ _
    · exact prodN_lt _ _
theorem one_lt_pow2 (k : Nat) : 1 ≤ 2 ^ k := Nat.pow_pos (by decide)
theorem onesN_pow (n : Nat) (h : n < big) : ∀ c, 1 ≤ c → onesN n c % pF = n ^ (2 ^ c - 1) % pF := by
  intro c
  induction c using Nat.strongRecOn with
  | _ c ih =>
    intro h1
    rw [onesN]
    by_cases hc : c ≤ 1
    · rw [dif_pos hc]
      obtain rfl : c = 1 := by omega
      rw [show 2 ^ 1 - 1 = 1 from rfl, Nat.pow_one]
    · rw [dif_neg hc]
      obtain ⟨k, hk⟩ : ∃ k, c / 2 = k := ⟨_, rfl⟩
      rw [hk]
      have ihk := ih k (by omega) (by omega)
      have hob := onesN_big n h k
      have hs := sqN_pow (onesN n k) n (2 ^ k - 1) hob ihk k
      have hp := prod_pow _ _ n _ _ ((2 ^ k - 1) * 2 ^ k + (2 ^ k - 1)) (sqN_big _ hob k) hob hs ihk rfl
      have e1 : (2 ^ k - 1) * 2 ^ k + (2 ^ k - 1) = 2 ^ (2 * k) - 1 := by
        have hq := one_lt_pow2 k
        rw [Nat.two_mul, Nat.pow_add, Nat.sub_mul, Nat.one_mul]
        have : 2 ^ k ≤ 2 ^ k * 2 ^ k := Nat.le_mul_of_pos_left _ hq
        omega
      rw [e1] at hp
      by_cases ho : c % 2 = 1
      · rw [show (c % 2 == 1) = true by simp [ho]]
        show prodN (sqN (prodN (sqN (onesN n k) k) (onesN n k)) 1) n % pF = _
        have hs2 := sqN_pow _ n _ (prodN_lt _ _) hp 1
        refine prod_pow _ _ n _ 1 _ (prodN_lt _ _) h hs2 (by rw [Nat.pow_one]) ?_
        have hq := one_lt_pow2 (2 * k)
        rw [show c = 2 * k + 1 by omega, Nat.pow_succ 2 (2 * k)]
        omega
      · rw [show (c % 2 == 1) = false by simp [ho]]
        show prodN (sqN (onesN n k) k) (onesN n k) % pF = _
        rw [hp, show 2 * k = c by omega]
theorem self_pow (n : Nat) : n % pF = n ^ 1 % pF := by rw [Nat.pow_one]
theorem invN_pow (n : Nat) (h : n < big) : invN n % pF = n ^ (pF - 2) % pF := by
  unfold invN
  have h2 := sqN_pow n n 1 h (self_pow n) 2
  have h5 := prod_pow _ _ n _ 1 5 (prodN_lt _ _) h h2 (self_pow n) (by decide)
  have h10 := sqN_pow _ n _ (prodN_lt _ _) h5 1
  have h11 := prod_pow _ _ n _ 1 11 (prodN_lt _ _) h h10 (self_pow n) (by decide)
  have h250 := onesN_pow n h 250 (by decide)
  have hs := sqN_pow _ n _ (onesN_big n h 250) h250 5
  exact prod_pow _ _ n _ 11 _ (prodN_lt _ _) (prodN_lt _ _) hs h11 (by decide +kernel)
def eF : Nat := 2 * (2 ^ 251 - 1)
theorem r0N_pow (n : Nat) (h : n < big) : r0N n % pF = powF n eF := by
  unfold r0N powF
  have h1 := sqN_pow _ n _ (onesN_big n h 251) (onesN_pow n h 251 (by decide)) 1
  rw [h1, show (2 ^ 251 - 1) * 2 ^ 1 = eF by decide +kernel]
def cand (n : Nat) : Nat := if powF n eF * powF n eF % pF = n then powF n eF else powF n eF * iF % pF
theorem i_big : iF < big := by decide +kernel
theorem sq1_mod (x : Nat) (h : x < big) : sqN x 1 % pF = x % pF * (x % pF) % pF := by
  show prodN x x % pF = _
  rw [prodN_mod x x h h, Nat.mul_mod]
theorem r1N_mod (n : Nat) (h : n < pF) : r1N n % pF = cand n := by
  have hb := Nat.lt_trans h p_big
  have h0 := r0N_pow n hb
  unfold r1N cand
  rw [sq1_mod _ (show r0N n < big from prodN_lt _ _), h0]
  split
  · exact h0
  · rw [prodN_mod _ _ (show r0N n < big from prodN_lt _ _) i_big, Nat.mul_mod, h0, Nat.mod_eq_of_lt (show iF < pF by decide +kernel)]
theorem r1N_sq (n : Nat) (h : n < pF) : (sqN (r1N n) 1 % pF = n) = (cand n * cand n % pF = n) := by
  rw [sq1_mod _ (r1_big n), r1N_mod n h]
theorem cand_lt (n : Nat) : cand n < pF := by
  unfold cand
  split
  · exact Nat.mod_lt _ p_pos
  · exact Nat.mod_lt _ p_pos
theorem evenN_lt (r : Nat) (h : r < pF) : evenN r < pF := by
  unfold evenN
  split
  · have : r ≠ 0 := fun e => by subst e; simp at *
    omega
  · exact h
def E (x : Nat) : Value := .string (S (leB x))
theorem el_E {x : Nat} (h : x < pF) : isEl (leB x) = true := by
  unfold isEl
  rw [leB_len, numB_leB x (Nat.lt_trans h p_big)]
  simp [h]
theorem num_E {x : Nat} (h : x < pF) : numB (leB x) = x := numB_leB x (Nat.lt_trans h p_big)
def EP (x : Nat) (w : World) (e : Ending) (w' : World) : Prop := e = .returned (.tuple #[E x, .int .i64 0]) ∧ Below w.heap.size w w'
theorem addE (x y : Nat) (hx : x < pF) (hy : y < pF) (w : World) : Calls Tryz.prog 103 #[E x, E y] w (EP ((x + y) % pF) w) := by
  have h := add_ok (leB x) (leB y) (el_E hx) (el_E hy) w
  rw [num_E hx, num_E hy] at h
  exact h
theorem subE (x y : Nat) (hx : x < pF) (hy : y < pF) (w : World) : Calls Tryz.prog 100 #[E x, E y] w (EP ((x + (pF - y)) % pF) w) := by
  have h := sub_ok (leB x) (leB y) (el_E hx) (el_E hy) w
  rw [num_E hx, num_E hy] at h
  exact h
theorem mulE (x y : Nat) (hx : x < pF) (hy : y < pF) (w : World) : Calls Tryz.prog 102 #[E x, E y] w (EP (x * y % pF) w) := by
  have h := mul_ok (leB x) (leB y) (el_E hx) (el_E hy) w
  rw [num_E hx, num_E hy, prodN_mod x y (Nat.lt_trans hx p_big) (Nat.lt_trans hy p_big)] at h
  exact h
def invF (x : Nat) : Nat := powF x (pF - 2)
theorem invE (x : Nat) (hx : x < pF) (w : World) : Calls Tryz.prog 101 #[E x] w (EP (invF x) w) := by
  have h := inv_ok (leB x) (el_E hx) w
  rw [num_E hx, invN_pow x (Nat.lt_trans hx p_big)] at h
  exact h
def RP (x : Nat) (w : World) (e : Ending) (w' : World) : Prop := e = .returned (.tuple #[E x, .bool true, .int .i64 0]) ∧ Below w.heap.size w w'
def RN (w : World) (e : Ending) (w' : World) : Prop := e = .returned (.tuple #[.string (S []), .bool false, .int .i64 0]) ∧ Below w.heap.size w w'
theorem rootE (x : Nat) (hx : x < pF) (hq : cand x * cand x % pF = x) (w : World) : Calls Tryz.prog 115 #[E x] w (RP (evenN (cand x)) w) := by
  have h := rootC_yes (leB x) (el_E hx) (by rw [num_E hx, r1N_sq x hx]; exact hq) w
  rw [num_E hx, r1N_mod x hx] at h
  exact h
theorem rootE_no (x : Nat) (hx : x < pF) (hq : ¬ cand x * cand x % pF = x) (w : World) : Calls Tryz.prog 115 #[E x] w (RN w) :=
  rootC_no (leB x) (el_E hx) (by rw [num_E hx, r1N_sq x hx]; exact hq) w
end Go.Proofs.YtgnblaaldpniiaaGreatDoor
end
section
set_option linter.unusedVariables false
set_option maxRecDepth 100000
set_option linter.unusedSimpArgs false
namespace Go.Proofs.YtgnblaaldpniiaaGreatDoor
open Go.RowKit
theorem infoR : (Tryz.prog.info? 40).map (·.size) = some 16 := by kernel_rfl
def arrA (l : List Nat) : Array Value := (numC .i64 l).toArray
def arrV (l : List Nat) : Value := .agg (arrA l)
def z16 : List Nat := List.replicate 16 0
theorem z16_len : z16.length = 16 := rfl
theorem arrA_size (l : List Nat) : (arrA l).size = l.length := by rw [arrA, List.size_toArray, numC_length]
theorem arrA_one (l : List Nat) : (arrA l).all (·.oneCell') = true := numC_one _ _
theorem arrA_info (l : List Nat) (h : l.length = 16) : (Tryz.prog.info? 40).map (·.size) = some (arrA l).size := by rw [infoR, arrA_size, h]
theorem zero_arr : ∀ w, (zeroValue 40).run Tryz.prog w = .ok (.agg (arrA z16)) w := by
  have h : (arrA z16) = (numC .i64 (List.replicate 16 0)).toArray := rfl
  rw [h]
  exact (zero_of_info (n := 16) (by kernel_rfl)).1
theorem built_arr : Tryz.prog.built 40 [] = some (arrA z16) := by kernel_rfl
def AtA (w : World) (g : Nat) (l : List Nat) : Prop := Arr w g 40 .i64 l
structure AMem (w0 w : World) (L : List (Nat × List Nat)) : Prop where
  below : Below w0.heap.size w0 w
  holds : ∀ g x, (g, x) ∈ L → AtA w g x
  len : ∀ g x, (g, x) ∈ L → x.length = 16
  ours : ∀ g x, (g, x) ∈ L → w0.heap.size ≤ g
  apart : (L.map (·.1)).Nodup
section
variable {w0 w w' : World} {L : List (Nat × List Nat)} {g : Nat} {x y : List Nat}
theorem AMem.start (w : World) : AMem w w [] := ⟨Below.refl _ _, by simp, by simp, by simp, by simp⟩
theorem AMem.grow (H : AMem w0 w L) (hb : Below w.heap.size w w') : AMem w0 w' L :=
  ⟨H.below.trans (hb.mono H.below.size), fun g x h => (H.holds g x h).from hb, H.len, H.ours, H.apart⟩
theorem AMem.new (H : AMem w0 w L) (x : List Nat) (hx : x.length = 16) : AMem w0 (w.alloc (.cells (arrA x) 40)) ((w.heap.size, x) :: L) := by
  have H2 := H.grow ((Below.refl _ w).alloc (Nat.le_refl _) (.cells (arrA x) 40))
  refine ⟨H2.below, fun g y h => ?_, fun g y h => ?_, fun g y h => ?_, ?_⟩
  · rcases List.mem_cons.1 h with h | h
    · injection h with h1 h2; subst h1; subst h2; exact Arr.new w _ _ _
    · exact H2.holds g y h
  · rcases List.mem_cons.1 h with h | h
    · injection h with h1 h2; subst h2; exact hx
    · exact H.len g y h
  · rcases List.mem_cons.1 h with h | h
    · injection h with h1 h2; subst h1; exact H.below.size
    · exact H.ours g y h
  · rw [List.map_cons, List.nodup_cons]
    refine ⟨fun h => ?_, H.apart⟩
    obtain ⟨⟨g, y⟩, hm, he⟩ := List.mem_map.1 h
    have := (H.holds g y hm).lt
    simp only at he
    omega
theorem nodup_mid {A B : List (Nat × List Nat)} (h : ((A ++ (g, x) :: B).map (·.1)).Nodup) : ∀ p ∈ A ++ B, p.1 ≠ g := by
  rw [List.map_append, List.map_cons] at h
  obtain ⟨h1, h2, h3⟩ := List.nodup_append.1 h
  rw [List.nodup_cons] at h2
  intro p hp e
  rcases List.mem_append.1 hp with hp | hp
  · exact h3 p.1 (List.mem_map.2 ⟨p, hp, rfl⟩) g (List.mem_cons_self ..) e
  · exact h2.1 (List.mem_map.2 ⟨p, hp, e⟩)
theorem AMem.change {A B : List (Nat × List Nat)} (H : AMem w0 w (A ++ (g, x) :: B)) (hb : Below w0.heap.size w0 w') (ho : ∀ g', g' ≠ g → w'.heap[g']? = w.heap[g']?) (hy : AtA w' g y) (hl : y.length = 16) : AMem w0 w' (A ++ (g, y) :: B) := by
  have hne := nodup_mid H.apart
  have hk : (A ++ (g, y) :: B).map (·.1) = (A ++ (g, x) :: B).map (·.1) := by simp
  have key : ∀ g' z, (g', z) ∈ A ++ (g, y) :: B → (g' = g ∧ z = y) ∨ ((g', z) ∈ A ++ (g, x) :: B ∧ g' ≠ g) := by
    intro g' z hm
    rcases List.mem_append.1 hm with h | h
    · exact .inr ⟨List.mem_append_left _ h, hne _ (List.mem_append_left _ h)⟩
    · rcases List.mem_cons.1 h with h | h
      · injection h with e1 e2; exact .inl ⟨e1, e2⟩
      · exact .inr ⟨List.mem_append_right _ (List.mem_cons_of_mem _ h), hne _ (List.mem_append_right _ h)⟩
  refine ⟨hb, fun g' z hm => ?_, fun g' z hm => ?_, fun g' z hm => ?_, by rw [hk]; exact H.apart⟩
  · rcases key g' z hm with ⟨rfl, rfl⟩ | ⟨h, hn⟩
    · exact hy
    · exact (H.holds g' z h).of_heap (ho g' hn)
  · rcases key g' z hm with ⟨rfl, rfl⟩ | ⟨h, hn⟩
    · exact hl
    · exact H.len g' z h
  · rcases key g' z hm with ⟨rfl, rfl⟩ | ⟨h, hn⟩
    · exact H.ours g' x (by simp)
    · exact H.ours g' z h
theorem setRow_otherR (w : World) (g g' : Nat) (cs : Array Value) (h : g' ≠ g) : (w.setRow g cs).heap[g']? = w.heap[g']? := by
  show (w.heap.modify g _)[g']? = _
  rw [Array.getElem?_modify, if_neg (Ne.symm h)]
theorem AMem.put {A B : List (Nat × List Nat)} (H : AMem w0 w (A ++ (g, x) :: B)) (y : List Nat) (hy : y.length = 16) : AMem w0 (w.setRow g (arrA y)) (A ++ (g, y) :: B) :=
  H.change (below_setRow H.below (H.ours g x (by simp)) _) (fun g' h => setRow_otherR w g g' _ h) ⟨setRow_heap _ _ _ _ _ _ (H.holds g x (by simp)).blk⟩ hy
theorem AMem.cellAt {A B : List (Nat × List Nat)} (H : AMem w0 w (A ++ (g, x) :: B)) (i v : Nat) : AMem w0 (w.setCell ⟨g, i, none⟩ (.int .i64 (v : Int))) (A ++ (g, x.set i v) :: B) :=
  H.change (H.below.setCell (H.ours g x (by simp)) _) (fun g' h => Below.heap_setCell w ⟨g, i, none⟩ _ g' h) ((H.holds g x (by simp)).set i v) (by rw [List.length_set]; exact H.len g x (by simp))
theorem AMem.cellAtI {A B : List (Nat × List Nat)} (H : AMem w0 w (A ++ (g, x) :: B)) (i v : Nat) (u : Int) (hu : u = (v : Int)) : AMem w0 (w.setCell ⟨g, i, none⟩ (.int .i64 u)) (A ++ (g, x.set i v) :: B) := by subst hu; exact H.cellAt i v
theorem AMem.cell0 {B : List (Nat × List Nat)} (H : AMem w0 w ((g, x) :: B)) (i v : Nat) (u : Int) (hu : u = (v : Int)) : AMem w0 (w.setCell ⟨g, i, none⟩ (.int .i64 u)) ((g, x.set i v) :: B) := AMem.cellAtI (A := []) H i v u hu
theorem AMem.cell1 {p : Nat × List Nat} {B : List (Nat × List Nat)} (H : AMem w0 w (p :: (g, x) :: B)) (i v : Nat) (u : Int) (hu : u = (v : Int)) : AMem w0 (w.setCell ⟨g, i, none⟩ (.int .i64 u)) (p :: (g, x.set i v) :: B) := AMem.cellAtI (A := [p]) H i v u hu
theorem AMem.cell2 {p q : Nat × List Nat} {B : List (Nat × List Nat)} (H : AMem w0 w (p :: q :: (g, x) :: B)) (i v : Nat) (u : Int) (hu : u = (v : Int)) : AMem w0 (w.setCell ⟨g, i, none⟩ (.int .i64 u)) (p :: q :: (g, x.set i v) :: B) := AMem.cellAtI (A := [p, q]) H i v u hu
theorem AMem.cell (H : AMem w0 w L) (hm : (g, x) ∈ L) (i : Nat) (hi : i < 16) : w.cell? ⟨g, i, none⟩ = some (.int .i64 (x.getD i 0 : Nat)) := (H.holds g x hm).cell i (by rw [H.len g x hm]; exact hi)
theorem AMem.frozen (H : AMem w0 w L) (hm : (g, x) ∈ L) (i : Nat) : w.frozen? ⟨g, i, none⟩ = false := (H.holds g x hm).frozen i
theorem AMem.from (H : AMem w0 w L) (h : From w.drew w') : AMem w0 w' L := H.grow h.of_drew
theorem AMem.hcell (H : AMem w0 w L) (hm : (g, x) ∈ L) (i v : Nat) (hi : i < 16) (hv : x.getD i 0 = v) : ∀ u : Held (From w.drew), u.w.cell? ⟨g, i, none⟩ = some (.int .i64 (v : Int)) := fun u => hv ▸ (H.from u.h).cell hm i hi
end
section
variable {ops : Array Oper} {rest : List Oper} {o : Oper} {a : Act} {w0 w : World} {Q : Exit → Act → World → Prop} {L : List (Nat × List Nat)}
theorem a_box (hg : o.guard = none) (x : Operand) (ho : o.op = .box 40 x) (y : List Nat) (hx : a.eval x = .agg (arrA y)) (H : AMem w0 w L) (hy : y.length = 16)
    (h : ∀ g w', AMem w0 w' ((g, y) :: L) → wpList Tryz.prog ops Q rest (a.put o.dst (.pointer (some ⟨g, 0, none⟩))) w') : wpList Tryz.prog ops Q (o :: rest) a w :=
  Great.wpList_boxTo hg 40 x ho o.dst rfl w.heap.size rfl (arrA y) (by rw [hx]; rfl) (h _ _ (H.new y hy))
theorem a_alloc (hg : o.guard = none) (ho : o.op = .alloc 40) (H : AMem w0 w L)
    (h : ∀ g w', AMem w0 w' ((g, z16) :: L) → wpList Tryz.prog ops Q rest (a.put o.dst (.pointer (some ⟨g, 0, none⟩))) w') : wpList Tryz.prog ops Q (o :: rest) a w := by
  refine wpList_plain hg fun K hK => ?_
  unfold Oper.wp execOp
  simp only [ho, Instr.alloc, Sem.run_bind, zero_arr, newVar, newRow, run_newObj_alloc, Sem.run_pure, Result.andThen_ok]
  exact hK _ _ (h _ _ (H.new z16 z16_len))
theorem a_load (hg : o.guard = none) (x : Operand) (ho : o.op = .load 40 x) (g : Nat) (y : List Nat) (hx : a.eval x = .pointer (some ⟨g, 0, none⟩)) (H : AMem w0 w L) (hm : (g, y) ∈ L)
    (h : wpList Tryz.prog ops Q rest (a.put o.dst (.agg (arrA y))) w) : wpList Tryz.prog ops Q (o :: rest) a w :=
  wpList_load_row hg 40 x ho g hx 40 (arrA y) (0, 0) _ (H.holds g y hm).blk Tryz.underlying40 rfl (arrA_info y (H.len g y hm)) h
theorem a_store (hg : o.guard = none) (x v : Operand) (ho : o.op = .store 40 x v) (g : Nat) (old y : List Nat) (hx : a.eval x = .pointer (some ⟨g, 0, none⟩)) (hv : a.eval v = .agg (arrA y)) (A B : List (Nat × List Nat)) (H : AMem w0 w (A ++ (g, old) :: B)) (hy : y.length = 16)
    (h : ∀ w', AMem w0 w' (A ++ (g, y) :: B) → wpList Tryz.prog ops Q rest (a.put o.dst undef) w') : wpList Tryz.prog ops Q (o :: rest) a w :=
  wpList_store_row hg 40 x v ho g (arrA y) hx hv 40 (arrA old) (H.holds g old (by simp)).blk (arrA_info y hy) (by rw [arrA_size, arrA_size, hy]; exact H.len g old (by simp)) (arrA_one y) (h _ (H.put y hy))
theorem a_store0 (hg : o.guard = none) (x v : Operand) (ho : o.op = .store 40 x v) (g : Nat) (old y : List Nat) (hx : a.eval x = .pointer (some ⟨g, 0, none⟩)) (hv : a.eval v = .agg (arrA y)) (B : List (Nat × List Nat)) (H : AMem w0 w ((g, old) :: B)) (hy : y.length = 16)
    (h : ∀ w', AMem w0 w' ((g, y) :: B) → wpList Tryz.prog ops Q rest (a.put o.dst undef) w') : wpList Tryz.prog ops Q (o :: rest) a w := a_store hg x v ho g old y hx hv [] B H hy h
theorem a_store1 (hg : o.guard = none) (x v : Operand) (ho : o.op = .store 40 x v) (g : Nat) (old y : List Nat) (hx : a.eval x = .pointer (some ⟨g, 0, none⟩)) (hv : a.eval v = .agg (arrA y)) (p : Nat × List Nat) (B : List (Nat × List Nat)) (H : AMem w0 w (p :: (g, old) :: B)) (hy : y.length = 16)
    (h : ∀ w', AMem w0 w' (p :: (g, y) :: B) → wpList Tryz.prog ops Q rest (a.put o.dst undef) w') : wpList Tryz.prog ops Q (o :: rest) a w := a_store hg x v ho g old y hx hv [p] B H hy h
theorem a_store2 (hg : o.guard = none) (x v : Operand) (ho : o.op = .store 40 x v) (g : Nat) (old y : List Nat) (hx : a.eval x = .pointer (some ⟨g, 0, none⟩)) (hv : a.eval v = .agg (arrA y)) (p q : Nat × List Nat) (B : List (Nat × List Nat)) (H : AMem w0 w (p :: q :: (g, old) :: B)) (hy : y.length = 16)
    (h : ∀ w', AMem w0 w' (p :: q :: (g, y) :: B) → wpList Tryz.prog ops Q rest (a.put o.dst undef) w') : wpList Tryz.prog ops Q (o :: rest) a w := a_store hg x v ho g old y hx hv [p, q] B H hy h
theorem a_build (hg : o.guard = none) (ho : o.op = .build 40 #[]) (h : wpList Tryz.prog ops Q rest (a.put o.dst (.agg (arrA z16))) w) : wpList Tryz.prog ops Q (o :: rest) a w :=
  wpList_build hg 40 #[] ho (by rw [Array.map_empty, built_arr]; rfl) (by rw [Array.map_empty, built_arr]; exact h)
theorem a_call {f : FuncId} {args : Array Value} {v : Value} {Q : Ending → World → Prop} (H : AMem w0 w L) (c : Calls Tryz.prog f args w fun e w' => e = .returned v ∧ Below w.heap.size w w')
    (h : ∀ w', AMem w0 w' L → Q (.returned v) w') : Calls Tryz.prog f args w Q :=
  c.mono fun _ w' ⟨he, hb⟩ => he ▸ h w' (H.grow hb)
theorem a_quiet_load {K : Act → Prop} (x : Operand) (ho : o.op = .load 40 x) (g : Nat) (y : List Nat) (hx : a.eval x = .pointer (some ⟨g, 0, none⟩)) (H : AMem w0 w L) (hm : (g, y) ∈ L)
    (h : K (a.put o.dst (.agg (arrA y)))) : o.quiet Tryz.prog a (fun w' => ∃ u : Held (From w.drew), w' = u.w) K :=
  quiet_load_row 40 x ho g hx 40 (arrA y) _ (fun _ ⟨u, e⟩ => ⟨(0, 0), e ▸ ((H.from u.h).holds g y hm).blk⟩) Tryz.underlying40 rfl (arrA_info y (H.len g y hm)) h
def AP (l : List Nat) (w : World) (e : Ending) (w' : World) : Prop := e = .returned (arrV l) ∧ Below w.heap.size w w'
theorem a_ret {fn : Func} {p : Tmp} {x y : List Nat} {g : Nat} (hr : fn.results = #[.cell p 40]) (a : Act) (hp : a.tmps.getD p undef = .pointer (some ⟨g, 0, none⟩)) (hd : a.defers = []) (H : AMem w0 w L) (hm : (g, x) ∈ L) (he : x = y) :
    bodyPost Tryz.prog fn (AP y w0) .ret a w := by
  subst he
  exact bodyPost_ret (results_cell_row hr _ _ g 40 (arrA x) (0, 0) _ hp (H.holds g x hm).blk Tryz.underlying40 rfl (arrA_info x (H.len g x hm))) hd ⟨rfl, H.below⟩
end
end Go.Proofs.YtgnblaaldpniiaaGreatDoor
end
section
set_option linter.unusedSimpArgs false
set_option linter.unusedVariables false
set_option maxRecDepth 100000
namespace Go.Proofs.YtgnblaaldpniiaaGreatDoor
open Go.RowKit
def Md (x : Nat) : List Nat := limbs 65536 16 x
theorem Md_len (x : Nat) : (Md x).length = 16 := limbs_len _ _ _
theorem Md_lt (x : Nat) : ∀ y ∈ Md x, y < 65536 := limbs_lt (by decide) _ _
theorem big16 : (65536 : Nat) ^ 16 = big := by decide +kernel
theorem Md_val (x : Nat) (h : x < big) : valB 65536 (Md x) = x := by
  unfold Md
  rw [val_limbs, big16, Nat.mod_eq_of_lt h]
theorem Md_of (l : List Nat) (n : Nat) (hk : l.length = 16) (h : ∀ x ∈ l, x < 65536) (hv : valB 65536 l = n) : l = Md n := limbs_eq (by decide) l 16 n hk h hv
theorem Md_p : Md pF = [65517, 65535, 65535, 65535, 65535, 65535, 65535, 65535, 65535, 65535, 65535, 65535, 65535, 65535, 65535, 32767] := by decide +kernel
def fillP (i : Nat) : List Nat := List.replicate i 65535 ++ List.replicate (16 - i) 0
theorem fillP_set (i : Nat) (h : i < 16) : (fillP i).set i 65535 = fillP (i + 1) := by
  unfold fillP
  rw [show 16 - i = (16 - (i + 1)) + 1 by omega, List.replicate_succ]
  have : (List.replicate i 65535 ++ 0 :: List.replicate (16 - (i + 1)) 0).set i 65535 = List.replicate i 65535 ++ 65535 :: List.replicate (16 - (i + 1)) 0 := by
    have e := set_mid (List.replicate i 65535) (List.replicate (16 - (i + 1)) 0) 0 65535
    rw [List.length_replicate] at e
    rw [e]; simp
  rw [this, List.replicate_succ']
  simp
set_option maxHeartbeats 1000000 in
theorem P_any (wS : World) : Calls Tryz.prog 68 #[] wS (AP (Md pF) wS) := by
  have H := AMem.start wS
  go_enter Tryz.func68, Tryz.ntmps68
  go_wp2_with (first
    | (refine a_alloc rfl rfl (by assumption) ?_; intro g w H; try simp only [Act.put, yI, yC, yZ])
    | (refine a_build rfl rfl ?_; try simp only [Act.put, yI, yC, yZ])
    | (refine a_store0 rfl _ _ rfl _ _ _ rfl rfl _ (by assumption) (by first | assumption | exact limbs_len _ _ _ | exact z16_len) ?_; intro w H; try simp only [Act.put, yI, yC, yZ]))
  rename_i gr _ _ _ _ K _
  go_loopw [2] (fun v2 wr => ∃ (i : Nat), i ≤ 16 ∧ v2 = .int .i64 (i : Int) ∧ AMem wS wr [(g, fillP i), (gr, z16)]) (fun v2 _ => 16 - (RowKit.intOf v2).toNat)
  case atStart => exact ⟨0, by omega, rfl, H⟩
  case round =>
    clear H
    obtain ⟨i, hi, rfl, H⟩ := hrel
    by_cases hlt : i < 16
    · have hlti : (i : Int) < 16 := by omega
      have c1 := H.cell (.head _) i hlt
      have f1 := H.frozen (.head _) i
      have Hn := H.cell0 i 65535 65535 rfl
      rw [fillP_set i hlt] at Hn
      clear hi
      go_wp2
      go_roundw
      case rel => exact ⟨i + 1, hlt, val_eq (by omega), Hn⟩
      case measure => simp [RowKit.intOf]; omega
    · obtain rfl : i = 16 := by omega
      have c1 := H.cell (.head _) 0 (by omega)
      have f1 := H.frozen (.head _) 0
      have c2 := H.cell (.head _) 15 (by omega)
      have f2 := H.frozen (.head _) 15
      have Hm := (H.cell0 0 65517 65517 rfl).cell0 15 32767 32767 rfl
      have hl : (((fillP 16).set 0 65517).set 15 32767).length = 16 := by simp [fillP]
      have he : ((fillP 16).set 0 65517).set 15 32767 = Md pF := by rw [Md_p]; rfl
      replace he := Kept.mk he
      go_wp2_with (first
        | (refine a_load rfl _ rfl _ _ rfl (by assumption) (by (repeat (first | exact .head _ | refine .tail _ ?_))) ?_; try simp only [Act.put, yI, yC, yZ])
        | (refine a_store1 rfl _ _ rfl _ _ _ rfl rfl _ _ (by assumption) (by first | assumption | exact limbs_len _ _ _ | exact z16_len) ?_; intro w H; try simp only [Act.put, yI, yC, yZ]))
      exact a_ret Tryz.results68 _ rfl rfl (by assumption) (by (repeat (first | exact .head _ | refine .tail _ ?_))) (he.out)
end Go.Proofs.YtgnblaaldpniiaaGreatDoor
end
section
set_option linter.unusedSimpArgs false
set_option linter.unusedVariables false
set_option maxRecDepth 100000
namespace Go.Proofs.YtgnblaaldpniiaaGreatDoor
open Go.RowKit
theorem small_list (n : Nat) (h : n < 4294967296) : ((z16.set 0 (n % 65536)).set 1 (n / 65536)) = Md n := by
  refine Md_of _ _ (by simp [z16_len]) ?_ ?_
  · intro x hx
    simp [z16, List.replicate] at hx
    rcases hx with rfl | rfl | rfl
    · omega
    · omega
    · omega
  · simp [z16, List.replicate, valB]
    omega
set_option maxHeartbeats 1000000 in
theorem Small_any (n : Nat) (h : n < 4294967296) (wS : World) : Calls Tryz.prog 38 #[.int .i64 (n : Int)] wS (AP (Md n) wS) := by
  have H := AMem.start wS
  have he := Kept.mk (small_list n h)
  have h0 : (0 : Int) ≤ (n : Int) := by omega
  have h1 : (n : Int) < 4294967296 := by omega
  clear h
  go_enter Tryz.func38, Tryz.ntmps38
  go_wp2_with (first
    | (refine a_alloc rfl rfl (by assumption) ?_; intro g w H; try simp only [Act.put, yI, yC, yZ])
    | (refine a_build rfl rfl ?_; try simp only [Act.put, yI, yC, yZ])
    | (refine a_load rfl _ rfl _ _ rfl (by assumption) (by (repeat (first | exact .head _ | refine .tail _ ?_))) ?_; try simp only [Act.put, yI, yC, yZ])
    | (refine a_store0 rfl _ _ rfl _ _ _ rfl rfl _ (by assumption) (by first | assumption | exact limbs_len _ _ _ | exact z16_len) ?_; intro w H; have c0 := H.cell (.head _) 0 (by omega); have f0 := H.frozen (.head _) 0; have c1 := H.cell (.head _) 1 (by omega); have f1 := H.frozen (.head _) 1; have Hm := (H.cell0 0 (n % 65536) ((n : Int) % 65536) (by omega)).cell0 1 (n / 65536) ((n : Int) / 65536) (by omega); have hl : ((z16.set 0 (n % 65536)).set 1 (n / 65536)).length = 16 := by simp [z16_len]; try simp only [Act.put, yI, yC, yZ])
    | (refine a_store1 rfl _ _ rfl _ _ _ rfl rfl _ _ (by assumption) (by first | assumption | exact limbs_len _ _ _ | exact z16_len) ?_; intro w H; try simp only [Act.put, yI, yC, yZ]))
  exact a_ret Tryz.results38 _ rfl rfl (by assumption) (by (repeat (first | exact .head _ | refine .tail _ ?_))) (he.out)
theorem top_ltB (B : Nat) (hB : 0 < B) (a b : List Nat) (k : Nat) (hl : a.length = b.length) (hk : k < a.length) (ha : ∀ x ∈ a, x < B) (h : a.drop (k + 1) = b.drop (k + 1)) (hlt : a.getD k 0 < b.getD k 0) : valB B a < valB B b := by
  have split : ∀ (l : List Nat) (k : Nat), k ≤ l.length → valB B l = valB B (l.take k) + B ^ k * valB B (l.drop k) := by
    intro l k
    induction k generalizing l with
    | zero => intro _; simp [valB]
    | succ k ih =>
      intro h
      cases l with
      | nil => simp at h
      | cons x r =>
        rw [List.take_succ_cons, List.drop_succ_cons, valB, valB, ih r (by simpa using h), Nat.mul_add, Nat.pow_succ, Nat.mul_comm (B ^ k) B, Nat.mul_assoc]
        omega
  rw [split a k (by omega), split b k (by omega), drop_getD a k hk, drop_getD b k (by omega), valB, valB, h]
  have h1 := valB_lt hB (a.take k) fun x hx => ha x (List.mem_of_mem_take hx)
  rw [List.length_take, Nat.min_eq_left (by omega)] at h1
  generalize B * valB B (b.drop (k + 1)) = v
  have h2 : B ^ k * (a.getD k 0 + v + 1) ≤ B ^ k * (b.getD k 0 + v) := Nat.mul_le_mul_left _ (by omega)
  rw [Nat.mul_add _ _ 1, Nat.mul_one] at h2
  omega
set_option maxHeartbeats 1000000 in
theorem Below_any (x y : Nat) (hx : x < big) (hy : y < big) (wS : World) : Calls Tryz.prog 93 #[arrV (Md x), arrV (Md y)] wS fun e w' => e = .returned (.bool (decide (x < y))) ∧ Below wS.heap.size wS w' := by
  have H := AMem.start wS
  obtain ⟨a, ha⟩ : ∃ a, Md x = a := ⟨_, rfl⟩
  obtain ⟨b, hb⟩ : ∃ b, Md y = b := ⟨_, rfl⟩
  have hal : a.length = 16 := by rw [← ha, Md_len]
  have hbl : b.length = 16 := by rw [← hb, Md_len]
  have haW : ∀ x ∈ a, x < 65536 := ha ▸ Md_lt x
  have hbW : ∀ x ∈ b, x < 65536 := hb ▸ Md_lt y
  have hav : valB 65536 a = x := by rw [← ha]; exact Md_val x hx
  have hbv : valB 65536 b = y := by rw [← hb]; exact Md_val y hy
  rw [ha, hb]
  have hlt1 : ∀ k, k < 16 → a.drop (k + 1) = b.drop (k + 1) → a.getD k 0 < b.getD k 0 → x < y := fun k hk h h2 => by
    rw [← hav, ← hbv]; exact top_ltB 65536 (by decide) a b k (by rw [hal, hbl]) (by rw [hal]; exact hk) haW h h2
  have hlt2 : ∀ k, k < 16 → a.drop (k + 1) = b.drop (k + 1) → b.getD k 0 < a.getD k 0 → y < x := fun k hk h h2 => by
    rw [← hav, ← hbv]; exact top_ltB 65536 (by decide) b a k (by rw [hal, hbl]) (by rw [hbl]; exact hk) hbW h.symm h2
  have hcc := Kept.mk (And.intro hlt1 hlt2)
  replace hav := Kept.mk hav
  replace hbv := Kept.mk hbv
  replace haW := Kept.mk haW
  replace hbW := Kept.mk hbW
  replace ha := Kept.mk ha
  replace hb := Kept.mk hb
  have hll := Kept.mk (And.intro hal hbl)
  clear hx hy hlt1 hlt2
  unfold arrV
  go_enter Tryz.func93, Tryz.ntmps93
  go_wp2_with (first
    | (refine a_box rfl _ rfl _ rfl (by assumption) (by first | assumption | exact limbs_len _ _ _ | exact z16_len) ?_; intro g w H; try simp only [Act.put, yI, yC, yZ]))
  clear hal hbl
  rename_i ga _ _ K _
  go_loopw [5] (fun v5 wr => ∃ (k : Nat), k ≤ 16 ∧ v5 = .int .i64 ((k : Int) - 1) ∧ Kept (a.drop k = b.drop k) ∧ AMem wS wr [(g, b), (ga, a)]) (fun v5 _ => (RowKit.intOf v5 + 1).toNat)
  case atStart => exact ⟨16, by omega, rfl, ⟨by rw [List.drop_eq_nil_of_le (by rw [hll.out.1]; omega), List.drop_eq_nil_of_le (by rw [hll.out.2]; omega)]⟩, H⟩
  case round =>
    clear H
    obtain ⟨k, hk, rfl, HD, H⟩ := hrel
    cases k with
    | zero =>
      rw [show ((0 : Nat) : Int) - 1 = -1 from rfl]
      go_wp2
      go_ret
      refine ⟨?_, H.below⟩
      have hab : a = b := HD.out
      have : ¬ x < y := by rw [← hav.out, ← hbv.out, hab]; omega
      rw [decide_eq_false this]
      rfl
    | succ k =>
      rw [show ((k + 1 : Nat) : Int) - 1 = (k : Int) by omega]
      obtain ⟨p, hp⟩ : ∃ p, a.getD k 0 = p := ⟨_, rfl⟩
      obtain ⟨q, hq⟩ : ∃ q, b.getD k 0 = q := ⟨_, rfl⟩
      have c1 := H.hcell (.tail _ (.head _)) k p (by omega) hp
      have c2 := H.hcell (.head _) k q (by omega) hq
      have hkI : (0 : Int) ≤ (k : Int) := by omega
      have hkJ : (k : Int) < 16 := by omega
      by_cases hyz : p = q
      · have e1 : ((p : Int) != (q : Int)) = false := by simp [hyz]
        have hdr : a.drop k = b.drop k := by rw [drop_getD a k (by rw [hll.out.1]; omega), drop_getD b k (by rw [hll.out.2]; omega), hp, hq, hyz, HD.out]
        replace hyz := Kept.mk hyz
        replace hdr := Kept.mk hdr
        replace hp := Kept.mk hp
        replace hq := Kept.mk hq
        go_wp2
        refine wp_region_from (by kernel_rfl) (by kernel_rfl) ?_
        repeat (first
          | (go_big_quiet_want; (refine a_quiet_load _ rfl _ _ rfl (by assumption) (by (repeat (first | exact .head _ | refine .tail _ ?_))) ?_); try simp only [Act.put, yI, yC, yZ]; go_big_quiet_on)
          | go_big_quiet_step ((fail)))
        refine wpQuiet_nil ?_
        intro w5 hw5
        have H := H.from hw5
        clear hw5
        clear c1 c2
        go_wp2
        go_roundw
        case rel => exact ⟨k, by omega, rfl, hdr, H⟩
        case measure => first | (simp [RowKit.intOf]; done) | (simp [RowKit.intOf]; omega)
      · have e1 : ((p : Int) != (q : Int)) = true := by simp; omega
        have hres : (x < y) = (p < q) := by
          have g1 := hcc.out.1 k (by omega) HD.out
          have g2 := hcc.out.2 k (by omega) HD.out
          rw [hp, hq] at g1 g2
          apply propext
          constructor
          · intro h
            have : ¬ q < p := fun h2 => by have := g2 h2; omega
            omega
          · exact g1
        replace hyz := Kept.mk hyz
        replace hres := Kept.mk hres
        have hp2 := Kept.mk hp
        have hq2 := Kept.mk hq
        clear hp hq
        go_wp2
        refine wp_region_from (by kernel_rfl) (by kernel_rfl) ?_
        repeat (first
          | (go_big_quiet_want; (refine a_quiet_load _ rfl _ _ rfl (by assumption) (by (repeat (first | exact .head _ | refine .tail _ ?_))) ?_); try simp only [Act.put, yI, yC, yZ]; go_big_quiet_on)
          | go_big_quiet_step ((fail)))
        refine wpQuiet_nil ?_
        intro w5 hw5
        have H := H.from hw5
        clear hw5
        clear c1 c2
        have c1 := H.hcell (.tail _ (.head _)) k p (by omega) hp2.out
        have c2 := H.hcell (.head _) k q (by omega) hq2.out
        go_wp2
        refine wp_region_from (by kernel_rfl) (by kernel_rfl) ?_
        repeat (first
          | (go_big_quiet_want; (refine a_quiet_load _ rfl _ _ rfl (by assumption) (by (repeat (first | exact .head _ | refine .tail _ ?_))) ?_); try simp only [Act.put, yI, yC, yZ]; go_big_quiet_on)
          | go_big_quiet_step ((fail)))
        refine wpQuiet_nil ?_
        intro w5 hw5
        have H := H.from hw5
        clear hw5
        clear c1 c2
        go_wp2
        go_ret
        refine ⟨?_, H.below⟩
        exact bool_ret (decide_eq_decide.2 (by rw [hres.out]))
end Go.Proofs.YtgnblaaldpniiaaGreatDoor
end
