/- The document's sum and the program's: the constants; both sums are the same. No walk. -/
import Derived.Test.YtbkaemekcjinaaaDoorE7
import Derived.Test.YtbkaemekcjinaaaDoorE8
import Derived.Test.YtbkaemekcjinaaaDoorE9
set_option linter.unusedVariables false
namespace Go.Proofs.YtbkaemekcjinaaaDoor
open Go.RowKit Go.Lib
/-- The primes of a kind. -/
def prO (o : Bool) : List Nat := if o = true then plN 410 else plN 312
theorem prO_t : prO true = plN 410 := by unfold prO; rw [if_pos rfl]
theorem prO_f : prO false = plN 312 := by unfold prO; rw [if_neg (by decide)]
theorem prO_len (o : Bool) : (prO o).length = rnds o := by
  cases o
  · rw [prO_f, pl64]; rfl
  · rw [prO_t, pl80]; rfl
theorem take_getD (l : List Nat) (n t : Nat) (h : t < n) : (l.take n).getD t 0 = l.getD t 0 := by
  simp [List.getD, h]
theorem map_getD (f : Nat → Nat) (l : List Nat) (t : Nat) (h : t < l.length) : (l.map f).getD t 0 = f (l.getD t 0) := by
  simp [List.getD, h]
theorem map_getDI (f : Nat → Int) (l : List Nat) (t : Nat) (h : t < l.length) : (l.map f).getD t 0 = f (l.getD t 0) := by
  simp [List.getD, h]
theorem prO_get (o : Bool) (t : Nat) (h : t < rnds o) : (prO o).getD t 0 = (plN 410).getD t 0 := by
  cases o
  · rw [prO_f, ← pl_pre]
    exact take_getD _ 64 t h
  · rw [prO_t]
theorem rootN_lt (n p : Nat) : rootN n p < 18446744073709551616 := Nat.mod_lt _ (by decide)
theorem cubes_get (t : Nat) (h : t < 80) : cubesL.getD t 0 = ((rootN ((plN 410).getD t 0) 3 : Nat) : Int) := by
  rw [← cubes_all]
  exact map_getDI _ _ t (by rw [pl80]; exact h)
theorem constK_get (o : Bool) (t : Nat) (h : t < rnds o) : (constK o (prO o)).getD t 0 = rootN ((plN 410).getD t 0) 3 / 2 ^ (64 - wd o) := by
  rw [← prO_get o t h]
  exact map_getD _ _ t (by rw [prO_len]; exact h)
theorem kc_same (o : Bool) (t : Nat) (h : t < rnds o) : kcI o t = (((constK o (prO o)).getD t 0 : Nat) : Int) := by
  rw [constK_get o t h]
  unfold kcI
  cases o
  · have h2 : t < 64 := h
    rw [if_neg (by decide), cubes_get t (by omega)]
    have hr := rootN_lt ((plN 410).getD t 0) 3
    generalize rootN ((plN 410).getD t 0) 3 = r at hr ⊢
    show IntKind.u32.wrap ((r : Int) / 4294967296) = ((r / 4294967296 : Nat) : Int)
    simp [IntKind.wrap, IntKind.signed, IntKind.bits]
    omega
  · have h2 : t < 80 := h
    rw [if_pos rfl, cubes_get t h2]
    show _ = ((rootN ((plN 410).getD t 0) 3 / 1 : Nat) : Int)
    rw [Nat.div_one]
theorem take8 (o : Bool) : (prO o).take 8 = (plN 410).take 8 := by
  cases o
  · rw [prO_f, ← pl_pre, List.take_take]
    rfl
  · rw [prO_t]
theorem initI_eq (o : Bool) : initI o = squaresL.map fun x => if o = true then x else x / 4294967296 := by cases o <;> kernel_rfl
theorem init_same (o : Bool) : initI o = (constH o (prO o)).map (fun x : Nat => (x : Int)) := by
  rw [initI_eq, ← squares_all]
  unfold constH
  rw [take8, List.map_map, List.map_map]
  refine List.map_congr_left fun p _ => ?_
  simp only [Function.comp]
  unfold constR
  cases o
  · rw [if_neg (by decide)]
    show ((rootN p 2 : Nat) : Int) / 4294967296 = ((rootN p 2 / 4294967296 : Nat) : Int)
    omega
  · rw [if_pos rfl]
    show _ = ((rootN p 2 / 1 : Nat) : Int)
    rw [Nat.div_one]
theorem constK_len (o : Bool) : (constK o (prO o)).length = rnds o := by unfold constK; rw [List.length_map, prO_len]
theorem constH_len (o : Bool) : (constH o (prO o)).length = 8 := by
  unfold constH
  rw [List.length_map, List.length_take, prO_len]
  cases o <;> rfl
theorem constR_lt (o : Bool) (p n : Nat) : constR o p n < 2 ^ wd o := by
  have h := rootN_lt n p
  unfold constR
  cases o
  · show rootN n p / 4294967296 < 4294967296
    omega
  · show rootN n p / 1 < 18446744073709551616
    rw [Nat.div_one]; exact h
theorem constR_ltW (o : Bool) (p n : Nat) : constR o p n < 18446744073709551616 := Nat.lt_of_lt_of_le (constR_lt o p n) (by cases o <;> decide)
/-- The document's sum and the program's are the same. -/
theorem doc_same (o : Bool) (s : List UInt8) (hs : s.length ≤ 2000) : shaL o s = docSum o (constK o (prO o)) (constH o (prO o)) s :=
  sums_same o _ _ s (constK_len o) (fun t ht => kc_same o t ht) (init_same o) (constH_len o) (fun x hx => by obtain ⟨n, _, rfl⟩ := List.mem_map.1 hx; exact constR_lt o 2 n) (pad_same o s hs)
theorem pr_lt (o : Bool) : ∀ p ∈ prO o, p < 1000000 := by
  intro p hp
  cases o
  · rw [prO_f] at hp; exact Nat.lt_trans (plN_lt 312 p hp) (by decide)
  · rw [prO_t] at hp; exact Nat.lt_trans (plN_lt 410 p hp) (by decide)
/-- The document's answer tells the program's sum. -/
theorem ref_one (o : Bool) (s : List UInt8) (hs : s.length ≤ 2000) (w : World) : Calls Tryd.prog 8 #[.int .i64 (kd o), .string (S s)] w (OneH o s w) := by
  unfold OneH
  rw [doc_same o s hs]
  cases o
  · exact docOne0_any _ _ s (constK_len false) (constH_len false) (fun x hx => by obtain ⟨n, _, rfl⟩ := List.mem_map.1 hx; exact constR_ltW false 3 n) (fun x hx => by obtain ⟨n, _, rfl⟩ := List.mem_map.1 hx; exact constR_ltW false 2 n) hs
      (fun w => of0_any _ prO_f.symm (prO_len false) (pr_lt false) w) w
  · exact docOne1_any _ _ s (constK_len true) (constH_len true) (fun x hx => by obtain ⟨n, _, rfl⟩ := List.mem_map.1 hx; exact constR_ltW true 3 n) (fun x hx => by obtain ⟨n, _, rfl⟩ := List.mem_map.1 hx; exact constR_ltW true 2 n) hs
      (fun w => of1_any _ prO_t.symm (prO_len true) (pr_lt true) w) w
theorem ref_bad (k : Int) (s : ByteArray) (w : World) (h0 : k ≠ 0) (h1 : k ≠ 1) :
    Calls Tryd.prog 8 #[.int .i64 k, .string s] w fun e w' => e = .returned (.tuple #[.string (S []), .int .i64 30]) ∧ w = w' := by
  have e0 : ((k : Int) != 0) = true := by simp; exact h0
  have e1 : ((k : Int) != 1) = true := by simp; exact h1
  have e2 : ((k : Int) == 0) = false := by simp; exact h0
  have e3 : ((k : Int) == 1) = false := by simp; exact h1
  clear h0 h1
  go_enter Tryd.func8, Tryd.ntmps8
  go_wp2
  go_ret2
  exact ⟨rfl, rfl⟩
end Go.Proofs.YtbkaemekcjinaaaDoor
