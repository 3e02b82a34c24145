/- Package scalar: its calls. -/
import Derived.Test.YtgnblaaldpniiaaGreatDoorZO4
set_option linter.unusedSimpArgs false
set_option linter.unusedVariables false
set_option maxRecDepth 100000
namespace Go.Proofs.YtgnblaaldpniiaaGreatDoor.Sc
open Go.RowKit
theorem pow_512 : 256 ^ 64 = big := by decide +kernel
theorem pow_256 : 256 ^ 32 = mid := by decide +kernel
theorem numB_big (l : List UInt8) (h : l.length ≤ 64) : numB l < big := by
  refine Nat.lt_of_lt_of_le (numB_lt l) ?_
  rw [← pow_512]
  exact Nat.pow_le_pow_right (by decide) h
theorem numB_mid (l : List UInt8) (h : l.length = 32) : numB l < mid := by
  have h2 := numB_lt l
  rw [h, pow_256] at h2
  exact h2
theorem mid_two : mid + mid < big := by decide +kernel
theorem Reduce_ok (l : List UInt8) (hl : l.length ≤ 64) (wS : World) : Calls Tryz.prog 40 #[.string (S l)] wS (StrPost (scB (numB l)) 0 wS) := by
  have H := Mem.start wS
  have hsz : ¬ (64 : Int) < ((S l).size : Int) := by rw [S_size]; omega
  have cP := Kept.mk fun w => parse_any l hl w
  have cR := Kept.mk fun w => reduced_any (numB l) (numB_big l hl) w
  have cB := Kept.mk fun w => bytes_any (numB l % oN) w
  rw [leB_scB] at cB
  unfold StrPost
  generalize scB (numB l) = r at cB ⊢
  clear hl
  go_enter Tryz.func40, Tryz.ntmps40
  go_wp2_with (first
    | (go_at_call 69; refine mem_call (by assumption) (cP.out _) ?_; intro w H)
    | (go_at_call 70; refine mem_call (by assumption) (cR.out _) ?_; intro w H)
    | (go_at_call 71; refine mem_call (by assumption) (cB.out _) ?_; intro w H))
  go_ret2
  exact ⟨rfl, H.below⟩
theorem Reduce_bad (l : List UInt8) (hl : 64 < l.length) (wS : World) : Calls Tryz.prog 40 #[.string (S l)] wS (StrPost [] 50 wS) := by
  have H := Mem.start wS
  have hsz : (64 : Int) < ((S l).size : Int) := by rw [S_size]; omega
  clear hl
  unfold StrPost
  go_enter Tryz.func40, Tryz.ntmps40
  go_wp2_with (first
    | (refine mem_box rfl _ rfl _ rfl (by assumption) ?_; intro g w H; try simp only [Act.put, yI, yC, yZ]))
  go_ret2
  exact ⟨rfl, H.below⟩
theorem is_eq (l : List UInt8) : ((S (scB (numB l))).toList == (S l).toList) = isSc l := by
  rw [S_beq]
  by_cases hi : isSc l = true
  · rw [hi, decide_eq_true]
    exact scB_self l hi
  · rw [Bool.not_eq_true] at hi
    rw [hi, decide_eq_false]
    intro e
    rw [← e, scB_is] at hi
    cases hi
theorem is_nil (l : List UInt8) (h : 64 < l.length) : ((S []).toList == (S l).toList) = false := by
  rw [S_beq]
  refine decide_eq_false fun e => ?_
  rw [← e] at h
  simp at h
theorem Is_any (l : List UInt8) (wS : World) : Calls Tryz.prog 24 #[.string (S l)] wS fun e w' => e = .returned (.bool (isSc l)) ∧ Below wS.heap.size wS w' := by
  have H := Mem.start wS
  by_cases hl : l.length ≤ 64
  · have cR := Kept.mk fun w => Reduce_ok l hl w
    have hs := is_eq l
    generalize isSc l = b at hs ⊢
    unfold StrPost at cR
    generalize scB (numB l) = r at hs cR
    clear hl
    go_enter Tryz.func24, Tryz.ntmps24
    go_wp2_with (first
      | (go_at_call 40; refine mem_call (by assumption) (cR.out _) ?_; intro w H))
    go_ret
    exact ⟨rfl, H.below⟩
  · have cR := Kept.mk fun w => Reduce_bad l (by omega) w
    have e : isSc l = false := by unfold isSc; simp; omega
    have hs := is_nil l (by omega)
    rw [e]
    unfold StrPost at cR
    clear hl e
    generalize ([] : List UInt8) = r at hs cR
    go_enter Tryz.func24, Tryz.ntmps24
    go_wp2_with (first
      | (refine mem_box rfl _ rfl _ rfl (by assumption) ?_; intro g w H; try simp only [Act.put, yI, yC, yZ])
      | (refine mem_alloc rfl rfl (by assumption) ?_; intro g w H; try simp only [Act.put, yI, yC, yZ])
      | (go_at_call 40; refine mem_call (by assumption) (cR.out _) ?_; intro w H))
    go_ret
    exact ⟨rfl, H.below⟩
set_option maxHeartbeats 1000000 in
theorem Add_ok (l m : List UInt8) (hl : l.length = 32) (hm : m.length = 32) (wS : World) : Calls Tryz.prog 42 #[.string (S l), .string (S m)] wS (StrPost (scB (numB l + numB m)) 0 wS) := by
  have H := Mem.start wS
  have hsl : (S l).size = 32 := by rw [S_size, hl]
  have hsm : (S m).size = 32 := by rw [S_size, hm]
  have c1 := Kept.mk fun w => parse_any l (by omega) w
  have c2 := Kept.mk fun w => parse_any m (by omega) w
  have hx := numB_mid l hl
  have hy := numB_mid m hm
  have hb := mid_two
  have cS := Kept.mk fun w => sumN_any (numB l) (numB m) (by omega) (by omega) w
  rw [Nat.mod_eq_of_lt (by omega : numB l + numB m < big)] at cS
  have cR := Kept.mk fun w => reduced_any (numB l + numB m) (by omega) w
  clear hb
  have cB := Kept.mk fun w => bytes_any ((numB l + numB m) % oN) w
  rw [leB_scB] at cB
  unfold StrPost
  generalize scB (numB l + numB m) = r at cB ⊢
  clear hl hm hx hy
  go_enter Tryz.func42, Tryz.ntmps42
  go_wp2_with (first
    | (go_at_call_of 69 (Value.string (S l)); refine mem_call (by assumption) (c1.out _) ?_; intro w H)
    | (go_at_call_of 69 (Value.string (S m)); refine mem_call (by assumption) (c2.out _) ?_; intro w H)
    | (go_at_call 73; refine mem_call (by assumption) (cS.out _) ?_; intro w H)
    | (go_at_call 70; refine mem_call (by assumption) (cR.out _) ?_; intro w H)
    | (go_at_call 71; refine mem_call (by assumption) (cB.out _) ?_; intro w H))
  go_ret2
  exact ⟨rfl, H.below⟩
set_option maxHeartbeats 1000000 in
theorem Mul_ok (l m : List UInt8) (hl : l.length = 32) (hm : m.length = 32) (wS : World) : Calls Tryz.prog 41 #[.string (S l), .string (S m)] wS (StrPost (scB (numB l * numB m)) 0 wS) := by
  have H := Mem.start wS
  have hsl : (S l).size = 32 := by rw [S_size, hl]
  have hsm : (S m).size = 32 := by rw [S_size, hm]
  have c1 := Kept.mk fun w => parse_any l (by omega) w
  have c2 := Kept.mk fun w => parse_any m (by omega) w
  have hx := numB_mid l hl
  have hy := numB_mid m hm
  have hb : numB l * numB m < big := by rw [← mid_big]; exact Nat.mul_lt_mul'' hx hy
  have cS := Kept.mk fun w => prodN_any (numB l) (numB m) hx hy w
  have cR := Kept.mk fun w => reduced_any (numB l * numB m) hb w
  clear hb
  have cB := Kept.mk fun w => bytes_any ((numB l * numB m) % oN) w
  rw [leB_scB] at cB
  unfold StrPost
  generalize scB (numB l * numB m) = r at cB ⊢
  clear hl hm hx hy
  go_enter Tryz.func41, Tryz.ntmps41
  go_wp2_with (first
    | (go_at_call_of 69 (Value.string (S l)); refine mem_call (by assumption) (c1.out _) ?_; intro w H)
    | (go_at_call_of 69 (Value.string (S m)); refine mem_call (by assumption) (c2.out _) ?_; intro w H)
    | (go_at_call 72; refine mem_call (by assumption) (cS.out _) ?_; intro w H)
    | (go_at_call 70; refine mem_call (by assumption) (cR.out _) ?_; intro w H)
    | (go_at_call 71; refine mem_call (by assumption) (cB.out _) ?_; intro w H))
  go_ret2
  exact ⟨rfl, H.below⟩
end Go.Proofs.YtgnblaaldpniiaaGreatDoor.Sc
