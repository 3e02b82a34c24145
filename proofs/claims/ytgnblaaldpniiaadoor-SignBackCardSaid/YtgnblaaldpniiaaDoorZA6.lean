/- Package field: its calls.
Package field: what its powers are, modulo p; what follows of p's being a prime. No walk.
The document's answer for package field: its numbers (16 digits) in blocks, as one state of the memory; laws of the walk over it.
Walks of the document's answer for package field: differences.
Walks of the document's answer for package field: digits that are too great, modulo p.
Walks of the document's answer for package field: the bytes of a number.
The law package's own calls: small numbers' elements; the calls that the document fixes.
Package field: squares, roots, inverses, modulo the prime. No walk.
Walks of the document's answer for package field: the number of bytes; which are elements.
Walks of the document's answer for package field: products.
The document's answer for package field: its calls Inv, Root. -/
import Derived.Test.YtgnblaaldpniiaaDoorZA5
import Derived.Test.YtgnblaaldpniiaaDoorZA3
import Derived.Test.YtgnblaaldpniiaaDoorZK1
import Derived.Great.Ranges
import Derived.Deep.LoopGhost
import Derived.Deep.OwnRows
section
set_option linter.unusedSimpArgs false
set_option linter.unusedVariables false
set_option maxRecDepth 100000
namespace Go.Proofs.YtgnblaaldpniiaaDoor
open Go.RowKit
def StrPost (l : List UInt8) (n : Int) (w : World) (e : Ending) (w' : World) : Prop := e = .returned (.tuple #[.string (S l), .int .i64 n]) ∧ Below w.heap.size w w'
theorem is_any (l : List UInt8) (wS : World) : Calls Tryd.prog 39 #[.string (S l)] wS fun e w' => e = .returned (.bool (isEl l)) ∧ Below wS.heap.size wS w' := by
  have H := Mem.start wS
  have cL := Kept.mk fun w => element_any l w
  obtain ⟨b, hb⟩ : ∃ b, isEl l = b := ⟨_, rfl⟩
  rw [hb] at cL ⊢
  clear hb
  go_enter Tryd.func39, Tryd.ntmps39
  go_wp2_with (first
    | (refine mem_alloc rfl rfl (by assumption) ?_; intro g w H; try simp only [Act.put, yI, yC, yZ])
    | (refine mem_store0 rfl _ _ rfl _ _ _ rfl rfl _ (by assumption) ?_; intro w H; try simp only [Act.put, yI, yC, yZ])
    | (go_at_call 54; refine mem_call (by assumption) (cL.out _) ?_; intro w H))
  go_ret
  exact ⟨rfl, H.below⟩
set_option maxHeartbeats 1000000 in
theorem add_ok (l m : List UInt8) (h : isEl l = true) (h' : isEl m = true) (wS : World) : Calls Tryd.prog 57 #[.string (S l), .string (S m)] wS (StrPost (leB ((numB l + numB m) % pF)) 0 wS) := by
  have H := Mem.start wS
  have cE := Kept.mk fun w => elements_any l m w
  rw [h, h', Bool.and_true, elN_eq h, elN_eq h'] at cE
  have hx := isEl_lt h
  have hy := isEl_lt h'
  have hxb := Nat.lt_trans hx p_big
  have hyb := Nat.lt_trans hy p_big
  have hp2 : pF + pF < big := by decide +kernel
  have cS := Kept.mk fun w => sumN_any (numB l) (numB m) hxb hyb (by omega) w
  have cR := Kept.mk fun w => reduced_any (numB l + numB m) (by omega) w
  have cB := Kept.mk fun w => bytes_any ((numB l + numB m) % pF) w
  clear hp2
  clear hx hy hxb hyb h h'
  go_enter Tryd.func57, Tryd.ntmps57
  go_wp2_with (first
    | (refine mem_alloc rfl rfl (by assumption) ?_; intro g w H; try simp only [Act.put, yI, yC, yZ])
    | (refine mem_load rfl _ rfl _ _ rfl (by assumption) (by (repeat (first | exact .head _ | refine .tail _ ?_))) ?_; try simp only [Act.put, yI, yC, yZ])
    | (refine mem_store0 rfl _ _ rfl _ _ _ rfl rfl _ (by assumption) ?_; intro w H; try simp only [Act.put, yI, yC, yZ])
    | (refine mem_store1 rfl _ _ rfl _ _ _ rfl rfl _ _ (by assumption) ?_; intro w H; try simp only [Act.put, yI, yC, yZ])
    | (go_at_call 70; refine mem_call (by assumption) (cE.out _) ?_; intro w H)
    | (go_at_call 74; refine mem_call (by assumption) (cS.out _) ?_; intro w H)
    | (go_at_call 72; refine mem_call (by assumption) (cR.out _) ?_; intro w H)
    | (go_at_call 73; refine mem_call (by assumption) (cB.out _) ?_; intro w H))
  go_ret2
  exact ⟨rfl, H.below⟩
set_option maxHeartbeats 1000000 in
theorem sub_ok (l m : List UInt8) (h : isEl l = true) (h' : isEl m = true) (wS : World) : Calls Tryd.prog 58 #[.string (S l), .string (S m)] wS (StrPost (leB ((numB l + (pF - numB m)) % pF)) 0 wS) := by
  have H := Mem.start wS
  have cE := Kept.mk fun w => elements_any l m w
  rw [h, h', Bool.and_true, elN_eq h, elN_eq h'] at cE
  have hx := isEl_lt h
  have hy := isEl_lt h'
  have hxb := Nat.lt_trans hx p_big
  have hyb := Nat.lt_trans hy p_big
  have hp2 : pF + pF < big := by decide +kernel
  have cN := Kept.mk fun w => negated_any (numB m) (Nat.le_of_lt hy) w
  have cS := Kept.mk fun w => sumN_any (numB l) (pF - numB m) hxb (by omega) (by omega) w
  have cR := Kept.mk fun w => reduced_any (numB l + (pF - numB m)) (by omega) w
  have cB := Kept.mk fun w => bytes_any ((numB l + (pF - numB m)) % pF) w
  clear hp2
  clear hx hy hxb hyb h h'
  go_enter Tryd.func58, Tryd.ntmps58
  go_wp2_with (first
    | (refine mem_alloc rfl rfl (by assumption) ?_; intro g w H; try simp only [Act.put, yI, yC, yZ])
    | (refine mem_store0 rfl _ _ rfl _ _ _ rfl rfl _ (by assumption) ?_; intro w H; try simp only [Act.put, yI, yC, yZ])
    | (refine mem_store1 rfl _ _ rfl _ _ _ rfl rfl _ _ (by assumption) ?_; intro w H; try simp only [Act.put, yI, yC, yZ])
    | (go_at_call 70; refine mem_call (by assumption) (cE.out _) ?_; intro w H))
  refine wp_region_from (by kernel_rfl) (by kernel_rfl) ?_
  repeat (first
    | (go_big_quiet_want; (refine mem_quiet_load _ rfl _ _ rfl (by assumption) (by (repeat (first | exact .head _ | refine .tail _ ?_))) ?_); try simp only [Act.put, yI, yC, yZ]; go_big_quiet_on)
    | go_big_quiet_step (((first | (go_at_call 75; exact held_call _ (cN.out _)) | (go_at_call 74; exact held_call _ (cS.out _)) | (go_at_call 72; exact held_call _ (cR.out _)) | (go_at_call 73; exact held_call _ (cB.out _))))))
  refine wpQuiet_nil ?_
  intro w5 hw5
  have H := mem_from H hw5
  clear hw5
  go_wp2
  go_ret2
  exact ⟨rfl, H.below⟩
set_option maxHeartbeats 1000000 in
theorem mul_ok (l m : List UInt8) (h : isEl l = true) (h' : isEl m = true) (wS : World) : Calls Tryd.prog 56 #[.string (S l), .string (S m)] wS (StrPost (leB (prodN (numB l) (numB m) % pF)) 0 wS) := by
  have H := Mem.start wS
  have cE := Kept.mk fun w => elements_any l m w
  rw [h, h', Bool.and_true, elN_eq h, elN_eq h'] at cE
  have hx := isEl_lt h
  have hy := isEl_lt h'
  have hxb := Nat.lt_trans hx p_big
  have hyb := Nat.lt_trans hy p_big
  have cS := Kept.mk fun w => prodN_any (numB l) (numB m) w
  have cR := Kept.mk fun w => reduced_any (prodN (numB l) (numB m)) (prodN_lt _ _) w
  have cB := Kept.mk fun w => bytes_any (prodN (numB l) (numB m) % pF) w
  clear hx hy hxb hyb h h'
  go_enter Tryd.func56, Tryd.ntmps56
  go_wp2_with (first
    | (refine mem_alloc rfl rfl (by assumption) ?_; intro g w H; try simp only [Act.put, yI, yC, yZ])
    | (refine mem_load rfl _ rfl _ _ rfl (by assumption) (by (repeat (first | exact .head _ | refine .tail _ ?_))) ?_; try simp only [Act.put, yI, yC, yZ])
    | (refine mem_store0 rfl _ _ rfl _ _ _ rfl rfl _ (by assumption) ?_; intro w H; try simp only [Act.put, yI, yC, yZ])
    | (refine mem_store1 rfl _ _ rfl _ _ _ rfl rfl _ _ (by assumption) ?_; intro w H; try simp only [Act.put, yI, yC, yZ])
    | (go_at_call 70; refine mem_call (by assumption) (cE.out _) ?_; intro w H)
    | (go_at_call 71; refine mem_call (by assumption) (cS.out _) ?_; intro w H)
    | (go_at_call 72; refine mem_call (by assumption) (cR.out _) ?_; intro w H)
    | (go_at_call 73; refine mem_call (by assumption) (cB.out _) ?_; intro w H))
  go_ret2
  exact ⟨rfl, H.below⟩
def invN (n : Nat) : Nat := prodN (sqN (onesN n 250) 5) (prodN (sqN (prodN (sqN n 2) n) 1) n)
theorem inv_ok (l : List UInt8) (h : isEl l = true) (wS : World) : Calls Tryd.prog 59 #[.string (S l)] wS (StrPost (leB (invN (numB l) % pF)) 0 wS) := by
  have H := Mem.start wS
  have cL := Kept.mk fun w => element_any l w
  rw [h, elN_eq h] at cL
  have cI := Kept.mk fun w => inverse_any (numB l) w
  rw [show prodN (sqN (onesN (numB l) 250) 5) (prodN (sqN (prodN (sqN (numB l) 2) (numB l)) 1) (numB l)) = invN (numB l) from rfl] at cI
  have cR := Kept.mk fun w => reduced_any (invN (numB l)) (prodN_lt _ _) w
  have cB := Kept.mk fun w => bytes_any (invN (numB l) % pF) w
  clear h
  go_enter Tryd.func59, Tryd.ntmps59
  go_wp2_with (first
    | (refine mem_alloc rfl rfl (by assumption) ?_; intro g w H; try simp only [Act.put, yI, yC, yZ])
    | (refine mem_load rfl _ rfl _ _ rfl (by assumption) (by (repeat (first | exact .head _ | refine .tail _ ?_))) ?_; try simp only [Act.put, yI, yC, yZ])
    | (refine mem_store0 rfl _ _ rfl _ _ _ rfl rfl _ (by assumption) ?_; intro w H; try simp only [Act.put, yI, yC, yZ])
    | (go_at_call 54; refine mem_call (by assumption) (cL.out _) ?_; intro w H)
    | (go_at_call 76; refine mem_call (by assumption) (cI.out _) ?_; intro w H)
    | (go_at_call 72; refine mem_call (by assumption) (cR.out _) ?_; intro w H)
    | (go_at_call 73; refine mem_call (by assumption) (cB.out _) ?_; intro w H))
  go_ret2
  exact ⟨rfl, H.below⟩
def RPost (l : List UInt8) (b : Bool) (n : Int) (w : World) (e : Ending) (w' : World) : Prop := e = .returned (.tuple #[.string (S l), .bool b, .int .i64 n]) ∧ Below w.heap.size w w'
theorem rootC_yes (l : List UInt8) (h : isEl l = true) (hq : sqN (r1N (numB l)) 1 % pF = numB l) (wS : World) : Calls Tryd.prog 69 #[.string (S l)] wS (RPost (leB (evenN (r1N (numB l) % pF))) true 0 wS) := by
  have H := Mem.start wS
  have cL := Kept.mk fun w => element_any l w
  rw [h, elN_eq h] at cL
  have cI := fun w => root_any (numB l) (isEl_lt h) w
  unfold RootPost at cI
  simp only [if_pos hq] at cI
  replace cI := Kept.mk cI
  have cB := Kept.mk fun w => bytes_any (evenN (r1N (numB l) % pF)) w
  clear h hq
  go_enter Tryd.func69, Tryd.ntmps69
  go_wp2_with (first
    | (refine mem_alloc rfl rfl (by assumption) ?_; intro g w H; try simp only [Act.put, yI, yC, yZ])
    | (refine mem_load rfl _ rfl _ _ rfl (by assumption) (by (repeat (first | exact .head _ | refine .tail _ ?_))) ?_; try simp only [Act.put, yI, yC, yZ])
    | (refine mem_store0 rfl _ _ rfl _ _ _ rfl rfl _ (by assumption) ?_; intro w H; try simp only [Act.put, yI, yC, yZ])
    | (go_at_call 54; refine mem_call (by assumption) (cL.out _) ?_; intro w H)
    | (go_at_call 82; refine mem_call (by assumption) (cI.out _) ?_; intro w H)
    | (go_at_call 73; refine mem_call (by assumption) (cB.out _) ?_; intro w H))
  go_ret3
  exact ⟨rfl, H.below⟩
theorem rootC_no (l : List UInt8) (h : isEl l = true) (hq : ¬ sqN (r1N (numB l)) 1 % pF = numB l) (wS : World) : Calls Tryd.prog 69 #[.string (S l)] wS (RPost [] false 0 wS) := by
  have H := Mem.start wS
  have cL := Kept.mk fun w => element_any l w
  rw [h, elN_eq h] at cL
  have cI := fun w => root_any (numB l) (isEl_lt h) w
  unfold RootPost at cI
  simp only [if_neg hq] at cI
  replace cI := Kept.mk cI
  clear h hq
  go_enter Tryd.func69, Tryd.ntmps69
  go_wp2_with (first
    | (refine mem_alloc rfl rfl (by assumption) ?_; intro g w H; try simp only [Act.put, yI, yC, yZ])
    | (refine mem_load rfl _ rfl _ _ rfl (by assumption) (by (repeat (first | exact .head _ | refine .tail _ ?_))) ?_; try simp only [Act.put, yI, yC, yZ])
    | (refine mem_store0 rfl _ _ rfl _ _ _ rfl rfl _ (by assumption) ?_; intro w H; try simp only [Act.put, yI, yC, yZ])
    | (go_at_call 54; refine mem_call (by assumption) (cL.out _) ?_; intro w H)
    | (go_at_call 82; refine mem_call (by assumption) (cI.out _) ?_; intro w H))
  go_ret3
  exact ⟨rfl, H.below⟩
end Go.Proofs.YtgnblaaldpniiaaDoor
end
section
set_option linter.unusedVariables false
set_option maxRecDepth 100000
set_option linter.unusedSimpArgs false
namespace Go.Proofs.YtgnblaaldpniiaaDoor
open Go.RowKit
theorem p_pos : 0 < pF := by decide +kernel
theorem sqN_big (n : Nat) (h : n < big) : ∀ m, sqN n m < big
  | 0 => h
  | m + 1 => prodN_lt _ _
def powF (x e : Nat) : Nat := x ^ e % pF
theorem powF_lt (x e : Nat) : powF x e < pF := Nat.mod_lt _ p_pos
theorem mulm (x y n e f : Nat) (hx : x % pF = n ^ e % pF) (hy : y % pF = n ^ f % pF) : x * y % pF = n ^ (e + f) % pF := by
  rw [Nat.mul_mod, hx, hy, ← Nat.mul_mod, ← Nat.pow_add]
theorem prod_pow (x y n e f g : Nat) (hxb : x < big) (hyb : y < big) (hx : x % pF = n ^ e % pF) (hy : y % pF = n ^ f % pF) (hg : e + f = g) : prodN x y % pF = n ^ g % pF := by
  rw [prodN_mod x y hxb hyb, mulm x y n e f hx hy, hg]
theorem sqN_pow (x n e : Nat) (hxb : x < big) (hx : x % pF = n ^ e % pF) : ∀ m, sqN x m % pF = n ^ (e * 2 ^ m) % pF
  | 0 => by rw [Nat.pow_zero, Nat.mul_one]; exact hx
  | m + 1 => prod_pow _ _ n _ _ _ (sqN_big x hxb m) (sqN_big x hxb m) (sqN_pow x n e hxb hx m) (sqN_pow x n e hxb hx m) (by rw [Nat.pow_succ, ← Nat.mul_assoc, Nat.mul_two])
theorem onesN_big (n : Nat) (h : n < big) (c : Nat) : onesN n c < big := by
  rw [onesN]
  split
  · exact h
  · cases c % 2 == 1
    · exact prodN_lt _ _
    · exact prodN_lt _ _
theorem one_lt_pow2 (k : Nat) : 1 ≤ 2 ^ k := Nat.pow_pos (by decide)
theorem onesN_pow (n : Nat) (h : n < big) : ∀ c, 1 ≤ c → onesN n c % pF = n ^ (2 ^ c - 1) % pF := by
  intro c
  induction c using Nat.strongRecOn with
  | _ c ih =>
    intro h1
    rw [onesN]
    by_cases hc : c ≤ 1
    · rw [dif_pos hc]
      obtain rfl : c = 1 := by omega
      rw [show 2 ^ 1 - 1 = 1 from rfl, Nat.pow_one]
    · rw [dif_neg hc]
      obtain ⟨k, hk⟩ : ∃ k, c / 2 = k := ⟨_, rfl⟩
      rw [hk]
      have ihk := ih k (by omega) (by omega)
      have hob := onesN_big n h k
      have hs := sqN_pow (onesN n k) n (2 ^ k - 1) hob ihk k
      have hp := prod_pow _ _ n _ _ ((2 ^ k - 1) * 2 ^ k + (2 ^ k - 1)) (sqN_big _ hob k) hob hs ihk rfl
      have e1 : (2 ^ k - 1) * 2 ^ k + (2 ^ k - 1) = 2 ^ (2 * k) - 1 := by
        have hq := one_lt_pow2 k
        rw [Nat.two_mul, Nat.pow_add, Nat.sub_mul, Nat.one_mul]
        have : 2 ^ k ≤ 2 ^ k * 2 ^ k := Nat.le_mul_of_pos_left _ hq
        omega
      rw [e1] at hp
      by_cases ho : c % 2 = 1
      · rw [show (c % 2 == 1) = true by simp [ho]]
        show prodN (sqN (prodN (sqN (onesN n k) k) (onesN n k)) 1) n % pF = _
        have hs2 := sqN_pow _ n _ (prodN_lt _ _) hp 1
        refine prod_pow _ _ n _ 1 _ (prodN_lt _ _) h hs2 (by rw [Nat.pow_one]) ?_
        have hq := one_lt_pow2 (2 * k)
        rw [show c = 2 * k + 1 by omega, Nat.pow_succ 2 (2 * k)]
        omega
      · rw [show (c % 2 == 1) = false by simp [ho]]
        show prodN (sqN (onesN n k) k) (onesN n k) % pF = _
        rw [hp, show 2 * k = c by omega]
theorem self_pow (n : Nat) : n % pF = n ^ 1 % pF := by rw [Nat.pow_one]
theorem invN_pow (n : Nat) (h : n < big) : invN n % pF = n ^ (pF - 2) % pF := by
  unfold invN
  have h2 := sqN_pow n n 1 h (self_pow n) 2
  have h5 := prod_pow _ _ n _ 1 5 (prodN_lt _ _) h h2 (self_pow n) (by decide)
  have h10 := sqN_pow _ n _ (prodN_lt _ _) h5 1
  have h11 := prod_pow _ _ n _ 1 11 (prodN_lt _ _) h h10 (self_pow n) (by decide)
  have h250 := onesN_pow n h 250 (by decide)
  have hs := sqN_pow _ n _ (onesN_big n h 250) h250 5
  exact prod_pow _ _ n _ 11 _ (prodN_lt _ _) (prodN_lt _ _) hs h11 (by decide +kernel)
def eF : Nat := 2 * (2 ^ 251 - 1)
theorem r0N_pow (n : Nat) (h : n < big) : r0N n % pF = powF n eF := by
  unfold r0N powF
  have h1 := sqN_pow _ n _ (onesN_big n h 251) (onesN_pow n h 251 (by decide)) 1
  rw [h1, show (2 ^ 251 - 1) * 2 ^ 1 = eF by decide +kernel]
def cand (n : Nat) : Nat := if powF n eF * powF n eF % pF = n then powF n eF else powF n eF * iF % pF
theorem i_big : iF < big := by decide +kernel
theorem sq1_mod (x : Nat) (h : x < big) : sqN x 1 % pF = x % pF * (x % pF) % pF := by
  show prodN x x % pF = _
  rw [prodN_mod x x h h, Nat.mul_mod]
theorem r1N_mod (n : Nat) (h : n < pF) : r1N n % pF = cand n := by
  have hb := Nat.lt_trans h p_big
  have h0 := r0N_pow n hb
  unfold r1N cand
  rw [sq1_mod _ (show r0N n < big from prodN_lt _ _), h0]
  split
  · exact h0
  · rw [prodN_mod _ _ (show r0N n < big from prodN_lt _ _) i_big, Nat.mul_mod, h0, Nat.mod_eq_of_lt (show iF < pF by decide +kernel)]
theorem r1N_sq (n : Nat) (h : n < pF) : (sqN (r1N n) 1 % pF = n) = (cand n * cand n % pF = n) := by
  rw [sq1_mod _ (r1_big n), r1N_mod n h]
theorem cand_lt (n : Nat) : cand n < pF := by
  unfold cand
  split
  · exact Nat.mod_lt _ p_pos
  · exact Nat.mod_lt _ p_pos
theorem evenN_lt (r : Nat) (h : r < pF) : evenN r < pF := by
  unfold evenN
  split
  · have : r ≠ 0 := fun e => by subst e; simp at *
    omega
  · exact h
def E (x : Nat) : Value := .string (S (leB x))
theorem el_E {x : Nat} (h : x < pF) : isEl (leB x) = true := by
  unfold isEl
  rw [leB_len, numB_leB x (Nat.lt_trans h p_big)]
  simp [h]
theorem num_E {x : Nat} (h : x < pF) : numB (leB x) = x := numB_leB x (Nat.lt_trans h p_big)
def EP (x : Nat) (w : World) (e : Ending) (w' : World) : Prop := e = .returned (.tuple #[E x, .int .i64 0]) ∧ Below w.heap.size w w'
theorem addE (x y : Nat) (hx : x < pF) (hy : y < pF) (w : World) : Calls Tryd.prog 57 #[E x, E y] w (EP ((x + y) % pF) w) := by
  have h := add_ok (leB x) (leB y) (el_E hx) (el_E hy) w
  rw [num_E hx, num_E hy] at h
  exact h
theorem subE (x y : Nat) (hx : x < pF) (hy : y < pF) (w : World) : Calls Tryd.prog 58 #[E x, E y] w (EP ((x + (pF - y)) % pF) w) := by
  have h := sub_ok (leB x) (leB y) (el_E hx) (el_E hy) w
  rw [num_E hx, num_E hy] at h
  exact h
theorem mulE (x y : Nat) (hx : x < pF) (hy : y < pF) (w : World) : Calls Tryd.prog 56 #[E x, E y] w (EP (x * y % pF) w) := by
  have h := mul_ok (leB x) (leB y) (el_E hx) (el_E hy) w
  rw [num_E hx, num_E hy, prodN_mod x y (Nat.lt_trans hx p_big) (Nat.lt_trans hy p_big)] at h
  exact h
def invF (x : Nat) : Nat := powF x (pF - 2)
theorem invE (x : Nat) (hx : x < pF) (w : World) : Calls Tryd.prog 59 #[E x] w (EP (invF x) w) := by
  have h := inv_ok (leB x) (el_E hx) w
  rw [num_E hx, invN_pow x (Nat.lt_trans hx p_big)] at h
  exact h
def RP (x : Nat) (w : World) (e : Ending) (w' : World) : Prop := e = .returned (.tuple #[E x, .bool true, .int .i64 0]) ∧ Below w.heap.size w w'
def RN (w : World) (e : Ending) (w' : World) : Prop := e = .returned (.tuple #[.string (S []), .bool false, .int .i64 0]) ∧ Below w.heap.size w w'
theorem rootE (x : Nat) (hx : x < pF) (hq : cand x * cand x % pF = x) (w : World) : Calls Tryd.prog 69 #[E x] w (RP (evenN (cand x)) w) := by
  have h := rootC_yes (leB x) (el_E hx) (by rw [num_E hx, r1N_sq x hx]; exact hq) w
  rw [num_E hx, r1N_mod x hx] at h
  exact h
theorem rootE_no (x : Nat) (hx : x < pF) (hq : ¬ cand x * cand x % pF = x) (w : World) : Calls Tryd.prog 69 #[E x] w (RN w) :=
  rootC_no (leB x) (el_E hx) (by rw [num_E hx, r1N_sq x hx]; exact hq) w
end Go.Proofs.YtgnblaaldpniiaaDoor
end
section
set_option linter.unusedVariables false
set_option maxRecDepth 100000
set_option linter.unusedSimpArgs false
namespace Go.Proofs.YtgnblaaldpniiaaDoor
open Go.RowKit
def z16 : List Nat := List.replicate 16 0
section
variable {w0 w w' : World} {L : List (Nat × List Nat)} {g : Nat} {x y : List Nat}
end
section
variable {ops : Array Oper} {rest : List Oper} {o : Oper} {a : Act} {w0 w : World} {Q : Exit → Act → World → Prop} {L : List (Nat × List Nat)}
end
end Go.Proofs.YtgnblaaldpniiaaDoor
end
section
set_option linter.unusedSimpArgs false
set_option linter.unusedVariables false
set_option maxRecDepth 100000
namespace Go.Proofs.YtgnblaaldpniiaaDoor
open Go.RowKit
def lessL : List Nat → List Nat → Nat → List Nat
  | x :: xs, y :: ys, c => (if x < y + c then x + 65536 - y - c else x - y - c) :: lessL xs ys (if x < y + c then 1 else 0)
  | _, _, _ => []
theorem step_set {d l r : List Nat} {i x : Nat} (hd : d.length = i) (hl : l = x :: r) (v : Nat) : (d ++ l).set i v = (d ++ [v]) ++ r := by
  rw [hl, ← hd, set_mid]
theorem step_get {d l r : List Nat} {i x : Nat} (hd : d.length = i) (hl : l = x :: r) : (d ++ l).getD i 0 = x := by
  rw [hl, ← hd]; simp
end Go.Proofs.YtgnblaaldpniiaaDoor
end
section
set_option linter.unusedSimpArgs false
set_option linter.unusedVariables false
set_option maxRecDepth 100000
namespace Go.Proofs.YtgnblaaldpniiaaDoor
open Go.RowKit
def dK : List Nat → Nat → Nat
  | x :: xs, c => dK xs ((x + c) / 65536)
  | [], c => c
end Go.Proofs.YtgnblaaldpniiaaDoor
end
section
set_option linter.unusedSimpArgs false
set_option linter.unusedVariables false
set_option maxRecDepth 100000
namespace Go.Proofs.YtgnblaaldpniiaaDoor
open Go.RowKit
def b2 (y : Nat) : List Nat := [y % 256, y / 256]
def z32 : List Nat := List.replicate 32 0
theorem made32 : madeCells #[Value.int .u8 0] 32 = (numC .u8 z32).toArray := by kernel_rfl
end Go.Proofs.YtgnblaaldpniiaaDoor
end
section
set_option linter.unusedSimpArgs false
set_option linter.unusedVariables false
set_option maxRecDepth 100000
namespace Go.Proofs.YtgnblaaldpniiaaDoor
open Go.RowKit
theorem small_lt (n : Nat) (h : n < 1000) : n < pF := Nat.lt_trans h (by decide +kernel)
end Go.Proofs.YtgnblaaldpniiaaDoor
end
section
set_option linter.unusedVariables false
set_option maxRecDepth 100000
set_option linter.unusedSimpArgs false
namespace Go.Proofs.YtgnblaaldpniiaaDoor
open Go.RowKit
theorem neg_zero' : (0 + (pF - 0)) % pF = 0 := by rw [Nat.zero_add, Nat.sub_zero, Nat.mod_self]
theorem neg_pos' (a : Nat) (h0 : a ≠ 0) (h : a < pF) : (0 + (pF - a)) % pF = pF - a := by rw [Nat.zero_add, Nat.mod_eq_of_lt (by omega)]
theorem sq_eq (r a : Nat) (hr : r < pF) (ha : a < pF) (h : r * r % pF = a * a % pF) : r = a ∨ r + a = pF := by
  have key : ∀ x y : Nat, x < pF → y < pF → y ≤ x → x * x % pF = y * y % pF → x = y ∨ x + y = pF := by
    intro x y hx hy hle h
    have hd : pF ∣ x * x - y * y := Pr.dvd_sub_of_mod h
    rw [show x * x - y * y = (x + y) * (x - y) from Nat.mul_self_sub_mul_self_eq x y] at hd
    rcases pr_p.dvd_mul hd with hd | hd
    · obtain ⟨c, hc⟩ := hd
      have hc2 : c < 2 := by
        apply Classical.byContradiction
        intro hn
        have : pF * 2 ≤ pF * c := Nat.mul_le_mul_left pF (by omega)
        omega
      have : c = 0 ∨ c = 1 := by omega
      rcases this with rfl | rfl
      · left; omega
      · right; omega
    · by_cases e : x - y = 0
      · left; omega
      · exact absurd (Nat.le_of_dvd (by omega) hd) (by omega)
  by_cases hle : a ≤ r
  · exact key r a hr ha hle h
  · rcases key a r ha hr (by omega) h.symm with e | e
    · exact Or.inl e.symm
    · right; omega
theorem i_sq : iF * iF % pF = pF - 1 := by decide +kernel
theorem m1_sq : (pF - 1) * (pF - 1) % pF = 1 := by decide +kernel
def hF : Nat := (pF - 1) / 2
theorem hF_two : hF + hF = pF - 1 := by decide +kernel
theorem eF_four : eF + eF + (eF + eF) = hF + 2 := by decide +kernel
theorem euler (a : Nat) (h0 : a ≠ 0) (h : a < pF) : powF a hF = 1 ∨ powF a hF = pF - 1 := by
  have hl := pr_p.little (a := a) (fun hd => absurd (Nat.le_of_dvd (Nat.pos_of_ne_zero h0) hd) (Nat.not_le.2 h))
  rw [← hF_two, Nat.pow_add, Nat.mul_mod] at hl
  have h1 : powF a hF * powF a hF % pF = 1 * 1 % pF := by
    unfold powF
    rw [hl]
    decide +kernel
  rcases sq_eq (powF a hF) 1 (powF_lt a hF) (small_lt 1 (by omega)) h1 with e | e
  · exact Or.inl e
  · right; omega
theorem sq_pow (a : Nat) : powF (a * a % pF) eF * powF (a * a % pF) eF % pF = powF a hF * (a * a) % pF := by
  unfold powF
  rw [← Nat.mul_mod, ← Nat.pow_add, ← Nat.pow_mod, ← Nat.pow_two, ← Nat.pow_mul, Nat.mod_mul_mod, ← Nat.pow_add]
  rw [show 2 * (eF + eF) = hF + 2 by rw [Nat.two_mul, eF_four]]
theorem cand_sq (a : Nat) (h : a < pF) : cand (a * a % pF) * cand (a * a % pF) % pF = a * a % pF := by
  unfold cand
  have hs := sq_pow a
  obtain ⟨w, hw⟩ : ∃ w, powF (a * a % pF) eF = w := ⟨_, rfl⟩
  rw [hw] at hs ⊢
  clear hw
  by_cases e : w * w % pF = a * a % pF
  · rw [if_pos e]; exact e
  · rw [if_neg e]
    have h0 : a ≠ 0 := by
      intro h0
      apply e
      have hz : a * a = 0 := by rw [h0]
      rw [hs, hz, Nat.mul_zero]
    rcases euler a h0 h with h1 | h1
    · rw [h1, Nat.one_mul] at hs
      exact absurd hs e
    · rw [h1] at hs
      have e2 : (w * iF % pF) * (w * iF % pF) % pF = (w * w % pF) * (iF * iF % pF) % pF := by
        rw [← Nat.mul_mod, ← Nat.mul_mod]
        congr 1
        rw [Nat.mul_assoc, Nat.mul_left_comm iF w iF, ← Nat.mul_assoc]
      rw [e2, hs, i_sq, Nat.mod_mul_mod, Nat.mul_assoc, Nat.mul_comm (a * a), ← Nat.mul_assoc, ← Nat.mod_mul_mod, m1_sq, Nat.one_mul]
theorem even_root (a : Nat) (h : a < pF) : evenN (cand (a * a % pF)) = a ∨ evenN (cand (a * a % pF)) = (0 + (pF - a)) % pF := by
  have hc := cand_lt (a * a % pF)
  have hsq := cand_sq a h
  generalize cand (a * a % pF) = r at hc hsq ⊢
  by_cases h0 : a = 0
  · subst h0
    rcases sq_eq r 0 hc p_pos hsq with e | e
    · subst e; left; rfl
    · omega
  · rw [neg_pos' a h0 h]
    unfold evenN
    rcases sq_eq r a hc h hsq with e | e
    · subst e
      split
      · exact Or.inr rfl
      · exact Or.inl rfl
    · split
      · left; omega
      · right; omega
theorem even_sq (r : Nat) (h : r < pF) : evenN r * evenN r % pF = r * r % pF := by
  unfold evenN
  split
  · have e : (pF - r) * (pF - r) + pF * (2 * r) = r * r + pF * pF := by
      obtain ⟨k, hk⟩ : ∃ k, pF = r + k := ⟨pF - r, by omega⟩
      rw [hk, Nat.add_sub_cancel_left, Nat.add_mul, Nat.add_mul, Nat.mul_add, Nat.mul_add]
      rw [show r * (2 * r) = r * r + r * r by rw [Nat.mul_left_comm, Nat.two_mul], show k * (2 * r) = r * k + k * r by rw [Nat.mul_left_comm, Nat.two_mul, Nat.mul_comm k r]]
      omega
    rw [← Nat.add_mul_mod_self_left _ pF (2 * r), e, Nat.add_mul_mod_self_left]
  · rfl
theorem even_lt (n : Nat) : evenN (cand n) < pF := evenN_lt _ (cand_lt n)
end Go.Proofs.YtgnblaaldpniiaaDoor
end
section
set_option linter.unusedSimpArgs false
set_option linter.unusedVariables false
set_option maxRecDepth 100000
namespace Go.Proofs.YtgnblaaldpniiaaDoor
open Go.RowKit
def w2 (l : List UInt8) (i : Nat) : Nat := (l.getD (2 * i) 0).toNat + 256 * (l.getD (2 * i + 1) 0).toNat
end Go.Proofs.YtgnblaaldpniiaaDoor
end
section
set_option linter.unusedSimpArgs false
set_option linter.unusedVariables false
set_option maxRecDepth 100000
namespace Go.Proofs.YtgnblaaldpniiaaDoor
open Go.RowKit
theorem take_val (B : Nat) (l : List Nat) : ∀ k, k < l.length → valB B (l.take (k + 1)) = valB B (l.take k) + l.getD k 0 * B ^ k := by
  intro k
  induction k generalizing l with
  | zero =>
    intro h
    cases l with
    | nil => simp at h
    | cons x r => simp [valB]
  | succ k ih =>
    intro h
    cases l with
    | nil => simp at h
    | cons x r =>
      rw [List.take_succ_cons, List.take_succ_cons, valB, valB, ih r (by simpa using h), List.getD_cons_succ, Nat.mul_add, Nat.pow_succ, ← Nat.add_assoc]
      congr 1
      rw [Nat.mul_left_comm, Nat.mul_comm B (B ^ k)]
end Go.Proofs.YtgnblaaldpniiaaDoor
end
section
set_option linter.unusedSimpArgs false
set_option linter.unusedVariables false
set_option maxRecDepth 100000
namespace Go.Proofs.YtgnblaaldpniiaaDoor
open Go.RowKit
def e4 : Nat := (pF - 1) / 2 ^ 2
def e8 : Nat := (pF - 5) / 2 ^ 3
def rN (x : Nat) : Nat → Nat
  | 0 => powF x eF
  | k + 1 => rN x k * iF % pF
def bF (l : List Nat) : ByteArray := S (leB (valB 65536 l))
end Go.Proofs.YtgnblaaldpniiaaDoor
end
