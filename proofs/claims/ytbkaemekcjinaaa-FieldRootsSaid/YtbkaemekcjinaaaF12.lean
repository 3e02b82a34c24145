/- Package field: its calls. -/
import Derived.Test.YtbkaemekcjinaaaF11
set_option linter.unusedSimpArgs false
set_option linter.unusedVariables false
namespace Go.Proofs.Ytbkaemekcjinaaa
open Go.RowKit
def StrPost (l : List UInt8) (n : Int) (w : World) (e : Ending) (w' : World) : Prop := e = .returned (.tuple #[.string (S l), .int .i64 n]) ∧ Below w.heap.size w w'
theorem is_any (l : List UInt8) (wS : World) : Calls Try.prog 13 #[.string (S l)] wS fun e w' => e = .returned (.bool (isEl l)) ∧ Below wS.heap.size wS w' := by
  have H := Mem.start wS
  have cL := Kept.mk fun w => element_any l w
  obtain ⟨b, hb⟩ : ∃ b, isEl l = b := ⟨_, rfl⟩
  rw [hb] at cL ⊢
  clear hb
  go_enter Try.func13, Try.ntmps13
  go_wp2_with (first
    | (refine mem_box rfl _ rfl _ rfl (by assumption) ?_; intro g w H; try simp only [Act.put, List.setIfInBounds_toArray, List.set_cons_succ, List.set_cons_zero])
    | (refine mem_alloc rfl rfl (by assumption) ?_; intro g w H; try simp only [Act.put, List.setIfInBounds_toArray, List.set_cons_succ, List.set_cons_zero])
    | (refine mem_load rfl _ rfl _ _ rfl (by assumption) (by (first | exact .head _ | exact .tail _ (.head _) | exact .tail _ (.tail _ (.head _)) | exact .tail _ (.tail _ (.tail _ (.head _))) | exact .tail _ (.tail _ (.tail _ (.tail _ (.head _)))))) ?_; try simp only [Act.put, List.setIfInBounds_toArray, List.set_cons_succ, List.set_cons_zero])
    | (refine mem_store0 rfl _ _ rfl _ _ _ rfl rfl _ (by assumption) ?_; intro w H; try simp only [Act.put, List.setIfInBounds_toArray, List.set_cons_succ, List.set_cons_zero])
    | (refine mem_store1 rfl _ _ rfl _ _ _ rfl rfl _ _ (by assumption) ?_; intro w H; try simp only [Act.put, List.setIfInBounds_toArray, List.set_cons_succ, List.set_cons_zero])
    | (refine mem_store2 rfl _ _ rfl _ _ _ rfl rfl _ _ _ (by assumption) ?_; intro w H; try simp only [Act.put, List.setIfInBounds_toArray, List.set_cons_succ, List.set_cons_zero])
    | (refine mem_store3 rfl _ _ rfl _ _ _ rfl rfl _ _ _ _ (by assumption) ?_; intro w H; try simp only [Act.put, List.setIfInBounds_toArray, List.set_cons_succ, List.set_cons_zero])
    | (go_at_call 34; refine mem_call (by assumption) (cL.out _) ?_; intro w H))
  go_ret
  exact ⟨rfl, H.below⟩
theorem reduce_ok (l : List UInt8) (hl : l.length = 32) (wS : World) : Calls Try.prog 10 #[.string (S l)] wS (StrPost (leB (numB l % pF)) 0 wS) := by
  have H := Mem.start wS
  have hsz : (S l).size = 32 := by rw [S_size, hl]
  have cP := Kept.mk fun w => parse_any l hl w
  have cR := Kept.mk fun w => reduced_any (numB l) (numB_lt l hl) w
  have cB := Kept.mk fun w => bytes_any (numB l % pF) w
  clear hl
  go_enter Try.func10, Try.ntmps10
  go_wp2_with (first
    | (refine mem_box rfl _ rfl _ rfl (by assumption) ?_; intro g w H; try simp only [Act.put, List.setIfInBounds_toArray, List.set_cons_succ, List.set_cons_zero])
    | (refine mem_alloc rfl rfl (by assumption) ?_; intro g w H; try simp only [Act.put, List.setIfInBounds_toArray, List.set_cons_succ, List.set_cons_zero])
    | (refine mem_load rfl _ rfl _ _ rfl (by assumption) (by (first | exact .head _ | exact .tail _ (.head _) | exact .tail _ (.tail _ (.head _)) | exact .tail _ (.tail _ (.tail _ (.head _))) | exact .tail _ (.tail _ (.tail _ (.tail _ (.head _)))))) ?_; try simp only [Act.put, List.setIfInBounds_toArray, List.set_cons_succ, List.set_cons_zero])
    | (refine mem_store0 rfl _ _ rfl _ _ _ rfl rfl _ (by assumption) ?_; intro w H; try simp only [Act.put, List.setIfInBounds_toArray, List.set_cons_succ, List.set_cons_zero])
    | (refine mem_store1 rfl _ _ rfl _ _ _ rfl rfl _ _ (by assumption) ?_; intro w H; try simp only [Act.put, List.setIfInBounds_toArray, List.set_cons_succ, List.set_cons_zero])
    | (refine mem_store2 rfl _ _ rfl _ _ _ rfl rfl _ _ _ (by assumption) ?_; intro w H; try simp only [Act.put, List.setIfInBounds_toArray, List.set_cons_succ, List.set_cons_zero])
    | (refine mem_store3 rfl _ _ rfl _ _ _ rfl rfl _ _ _ _ (by assumption) ?_; intro w H; try simp only [Act.put, List.setIfInBounds_toArray, List.set_cons_succ, List.set_cons_zero])
    | (go_at_call 26; refine mem_call (by assumption) (cP.out _) ?_; intro w H)
    | (go_at_call 27; refine mem_call (by assumption) (cR.out _) ?_; intro w H)
    | (go_at_call 28; refine mem_call (by assumption) (cB.out _) ?_; intro w H))
  go_ret2
  exact ⟨rfl, H.below⟩
theorem reduce_bad (l : List UInt8) (hl : l.length ≠ 32) (wS : World) : Calls Try.prog 10 #[.string (S l)] wS (StrPost [] 40 wS) := by
  have H := Mem.start wS
  have hsz : (((S l).size : Int) != 32) = true := by rw [S_size]; simp; omega
  clear hl
  go_enter Try.func10, Try.ntmps10
  go_wp2_with (first
    | (refine mem_box rfl _ rfl _ rfl (by assumption) ?_; intro g w H; try simp only [Act.put, List.setIfInBounds_toArray, List.set_cons_succ, List.set_cons_zero])
    | (refine mem_alloc rfl rfl (by assumption) ?_; intro g w H; try simp only [Act.put, List.setIfInBounds_toArray, List.set_cons_succ, List.set_cons_zero])
    | (refine mem_load rfl _ rfl _ _ rfl (by assumption) (by (first | exact .head _ | exact .tail _ (.head _) | exact .tail _ (.tail _ (.head _)) | exact .tail _ (.tail _ (.tail _ (.head _))) | exact .tail _ (.tail _ (.tail _ (.tail _ (.head _)))))) ?_; try simp only [Act.put, List.setIfInBounds_toArray, List.set_cons_succ, List.set_cons_zero])
    | (refine mem_store0 rfl _ _ rfl _ _ _ rfl rfl _ (by assumption) ?_; intro w H; try simp only [Act.put, List.setIfInBounds_toArray, List.set_cons_succ, List.set_cons_zero])
    | (refine mem_store1 rfl _ _ rfl _ _ _ rfl rfl _ _ (by assumption) ?_; intro w H; try simp only [Act.put, List.setIfInBounds_toArray, List.set_cons_succ, List.set_cons_zero])
    | (refine mem_store2 rfl _ _ rfl _ _ _ rfl rfl _ _ _ (by assumption) ?_; intro w H; try simp only [Act.put, List.setIfInBounds_toArray, List.set_cons_succ, List.set_cons_zero])
    | (refine mem_store3 rfl _ _ rfl _ _ _ rfl rfl _ _ _ _ (by assumption) ?_; intro w H; try simp only [Act.put, List.setIfInBounds_toArray, List.set_cons_succ, List.set_cons_zero]))
  go_ret2
  exact ⟨rfl, H.below⟩
set_option maxHeartbeats 1000000 in
theorem add_ok (l m : List UInt8) (h : isEl l = true) (h' : isEl m = true) (wS : World) : Calls Try.prog 15 #[.string (S l), .string (S m)] wS (StrPost (leB ((numB l + numB m) % pF)) 0 wS) := by
  have H := Mem.start wS
  have cE := Kept.mk fun w => elements_any l m w
  rw [h, h', Bool.and_true, elN_eq h, elN_eq h'] at cE
  have hx := isEl_lt h
  have hy := isEl_lt h'
  have hxb := Nat.lt_trans hx p_big
  have hyb := Nat.lt_trans hy p_big
  have hp2 : pF + pF < big := by decide +kernel
  have cS := Kept.mk fun w => sumN_any (numB l) (numB m) hxb hyb (by omega) w
  have cR := Kept.mk fun w => reduced_any (numB l + numB m) (by omega) w
  have cB := Kept.mk fun w => bytes_any ((numB l + numB m) % pF) w
  clear hp2
  clear hx hy hxb hyb h h'
  go_enter Try.func15, Try.ntmps15
  go_wp2_with (first
    | (refine mem_box rfl _ rfl _ rfl (by assumption) ?_; intro g w H; try simp only [Act.put, List.setIfInBounds_toArray, List.set_cons_succ, List.set_cons_zero])
    | (refine mem_alloc rfl rfl (by assumption) ?_; intro g w H; try simp only [Act.put, List.setIfInBounds_toArray, List.set_cons_succ, List.set_cons_zero])
    | (refine mem_load rfl _ rfl _ _ rfl (by assumption) (by (first | exact .head _ | exact .tail _ (.head _) | exact .tail _ (.tail _ (.head _)) | exact .tail _ (.tail _ (.tail _ (.head _))) | exact .tail _ (.tail _ (.tail _ (.tail _ (.head _)))))) ?_; try simp only [Act.put, List.setIfInBounds_toArray, List.set_cons_succ, List.set_cons_zero])
    | (refine mem_store0 rfl _ _ rfl _ _ _ rfl rfl _ (by assumption) ?_; intro w H; try simp only [Act.put, List.setIfInBounds_toArray, List.set_cons_succ, List.set_cons_zero])
    | (refine mem_store1 rfl _ _ rfl _ _ _ rfl rfl _ _ (by assumption) ?_; intro w H; try simp only [Act.put, List.setIfInBounds_toArray, List.set_cons_succ, List.set_cons_zero])
    | (refine mem_store2 rfl _ _ rfl _ _ _ rfl rfl _ _ _ (by assumption) ?_; intro w H; try simp only [Act.put, List.setIfInBounds_toArray, List.set_cons_succ, List.set_cons_zero])
    | (refine mem_store3 rfl _ _ rfl _ _ _ rfl rfl _ _ _ _ (by assumption) ?_; intro w H; try simp only [Act.put, List.setIfInBounds_toArray, List.set_cons_succ, List.set_cons_zero])
    | (go_at_call 37; refine mem_call (by assumption) (cE.out _) ?_; intro w H)
    | (go_at_call 38; refine mem_call (by assumption) (cS.out _) ?_; intro w H)
    | (go_at_call 27; refine mem_call (by assumption) (cR.out _) ?_; intro w H)
    | (go_at_call 28; refine mem_call (by assumption) (cB.out _) ?_; intro w H))
  go_ret2
  exact ⟨rfl, H.below⟩
set_option maxHeartbeats 1000000 in
theorem add_bad (l m : List UInt8) (h : (isEl l && isEl m) = false) (wS : World) : Calls Try.prog 15 #[.string (S l), .string (S m)] wS (StrPost [] 40 wS) := by
  have H := Mem.start wS
  have cE := Kept.mk fun w => elements_any l m w
  rw [h] at cE
  clear h
  go_enter Try.func15, Try.ntmps15
  go_wp2_with (first
    | (refine mem_box rfl _ rfl _ rfl (by assumption) ?_; intro g w H; try simp only [Act.put, List.setIfInBounds_toArray, List.set_cons_succ, List.set_cons_zero])
    | (refine mem_alloc rfl rfl (by assumption) ?_; intro g w H; try simp only [Act.put, List.setIfInBounds_toArray, List.set_cons_succ, List.set_cons_zero])
    | (refine mem_load rfl _ rfl _ _ rfl (by assumption) (by (first | exact .head _ | exact .tail _ (.head _) | exact .tail _ (.tail _ (.head _)) | exact .tail _ (.tail _ (.tail _ (.head _))) | exact .tail _ (.tail _ (.tail _ (.tail _ (.head _)))))) ?_; try simp only [Act.put, List.setIfInBounds_toArray, List.set_cons_succ, List.set_cons_zero])
    | (refine mem_store0 rfl _ _ rfl _ _ _ rfl rfl _ (by assumption) ?_; intro w H; try simp only [Act.put, List.setIfInBounds_toArray, List.set_cons_succ, List.set_cons_zero])
    | (refine mem_store1 rfl _ _ rfl _ _ _ rfl rfl _ _ (by assumption) ?_; intro w H; try simp only [Act.put, List.setIfInBounds_toArray, List.set_cons_succ, List.set_cons_zero])
    | (refine mem_store2 rfl _ _ rfl _ _ _ rfl rfl _ _ _ (by assumption) ?_; intro w H; try simp only [Act.put, List.setIfInBounds_toArray, List.set_cons_succ, List.set_cons_zero])
    | (refine mem_store3 rfl _ _ rfl _ _ _ rfl rfl _ _ _ _ (by assumption) ?_; intro w H; try simp only [Act.put, List.setIfInBounds_toArray, List.set_cons_succ, List.set_cons_zero])
    | (go_at_call 37; refine mem_call (by assumption) (cE.out _) ?_; intro w H))
  go_ret2
  exact ⟨rfl, H.below⟩
set_option maxHeartbeats 1000000 in
theorem sub_ok (l m : List UInt8) (h : isEl l = true) (h' : isEl m = true) (wS : World) : Calls Try.prog 17 #[.string (S l), .string (S m)] wS (StrPost (leB ((numB l + (pF - numB m)) % pF)) 0 wS) := by
  have H := Mem.start wS
  have cE := Kept.mk fun w => elements_any l m w
  rw [h, h', Bool.and_true, elN_eq h, elN_eq h'] at cE
  have hx := isEl_lt h
  have hy := isEl_lt h'
  have hxb := Nat.lt_trans hx p_big
  have hyb := Nat.lt_trans hy p_big
  have hp2 : pF + pF < big := by decide +kernel
  have cN := Kept.mk fun w => negated_any (numB m) (Nat.le_of_lt hy) w
  have cS := Kept.mk fun w => sumN_any (numB l) (pF - numB m) hxb (by omega) (by omega) w
  have cR := Kept.mk fun w => reduced_any (numB l + (pF - numB m)) (by omega) w
  have cB := Kept.mk fun w => bytes_any ((numB l + (pF - numB m)) % pF) w
  clear hp2
  clear hx hy hxb hyb h h'
  go_enter Try.func17, Try.ntmps17
  go_wp2_with (first
    | (refine mem_box rfl _ rfl _ rfl (by assumption) ?_; intro g w H; try simp only [Act.put, List.setIfInBounds_toArray, List.set_cons_succ, List.set_cons_zero])
    | (refine mem_alloc rfl rfl (by assumption) ?_; intro g w H; try simp only [Act.put, List.setIfInBounds_toArray, List.set_cons_succ, List.set_cons_zero])
    | (refine mem_load rfl _ rfl _ _ rfl (by assumption) (by (first | exact .head _ | exact .tail _ (.head _) | exact .tail _ (.tail _ (.head _)) | exact .tail _ (.tail _ (.tail _ (.head _))) | exact .tail _ (.tail _ (.tail _ (.tail _ (.head _)))))) ?_; try simp only [Act.put, List.setIfInBounds_toArray, List.set_cons_succ, List.set_cons_zero])
    | (refine mem_store0 rfl _ _ rfl _ _ _ rfl rfl _ (by assumption) ?_; intro w H; try simp only [Act.put, List.setIfInBounds_toArray, List.set_cons_succ, List.set_cons_zero])
    | (refine mem_store1 rfl _ _ rfl _ _ _ rfl rfl _ _ (by assumption) ?_; intro w H; try simp only [Act.put, List.setIfInBounds_toArray, List.set_cons_succ, List.set_cons_zero])
    | (refine mem_store2 rfl _ _ rfl _ _ _ rfl rfl _ _ _ (by assumption) ?_; intro w H; try simp only [Act.put, List.setIfInBounds_toArray, List.set_cons_succ, List.set_cons_zero])
    | (refine mem_store3 rfl _ _ rfl _ _ _ rfl rfl _ _ _ _ (by assumption) ?_; intro w H; try simp only [Act.put, List.setIfInBounds_toArray, List.set_cons_succ, List.set_cons_zero])
    | (go_at_call 37; refine mem_call (by assumption) (cE.out _) ?_; intro w H)
    | (go_at_call 41; refine mem_call (by assumption) (cN.out _) ?_; intro w H)
    | (go_at_call 38; refine mem_call (by assumption) (cS.out _) ?_; intro w H)
    | (go_at_call 27; refine mem_call (by assumption) (cR.out _) ?_; intro w H)
    | (go_at_call 28; refine mem_call (by assumption) (cB.out _) ?_; intro w H))
  refine wp_region_from (by kernel_rfl) (by kernel_rfl) ?_
  repeat (first
    | (go_big_quiet_want; (refine mem_quiet_load _ rfl _ _ rfl (by assumption) (by (first | exact .head _ | exact .tail _ (.head _) | exact .tail _ (.tail _ (.head _)) | exact .tail _ (.tail _ (.tail _ (.head _))) | exact .tail _ (.tail _ (.tail _ (.tail _ (.head _)))))) ?_); try simp only [Act.put, List.setIfInBounds_toArray, List.set_cons_succ, List.set_cons_zero]; go_big_quiet_on)
    | go_big_quiet_step (((first | (go_at_call 41; exact held_call _ (cN.out _)) | (go_at_call 38; exact held_call _ (cS.out _)) | (go_at_call 27; exact held_call _ (cR.out _)) | (go_at_call 28; exact held_call _ (cB.out _))))))
  refine wpQuiet_nil ?_
  intro w5 hw5
  have H := mem_from H hw5
  clear hw5
  go_wp2
  go_ret2
  exact ⟨rfl, H.below⟩
set_option maxHeartbeats 1000000 in
theorem sub_bad (l m : List UInt8) (h : (isEl l && isEl m) = false) (wS : World) : Calls Try.prog 17 #[.string (S l), .string (S m)] wS (StrPost [] 40 wS) := by
  have H := Mem.start wS
  have cE := Kept.mk fun w => elements_any l m w
  rw [h] at cE
  clear h
  go_enter Try.func17, Try.ntmps17
  go_wp2_with (first
    | (refine mem_box rfl _ rfl _ rfl (by assumption) ?_; intro g w H; try simp only [Act.put, List.setIfInBounds_toArray, List.set_cons_succ, List.set_cons_zero])
    | (refine mem_alloc rfl rfl (by assumption) ?_; intro g w H; try simp only [Act.put, List.setIfInBounds_toArray, List.set_cons_succ, List.set_cons_zero])
    | (refine mem_load rfl _ rfl _ _ rfl (by assumption) (by (first | exact .head _ | exact .tail _ (.head _) | exact .tail _ (.tail _ (.head _)) | exact .tail _ (.tail _ (.tail _ (.head _))) | exact .tail _ (.tail _ (.tail _ (.tail _ (.head _)))))) ?_; try simp only [Act.put, List.setIfInBounds_toArray, List.set_cons_succ, List.set_cons_zero])
    | (refine mem_store0 rfl _ _ rfl _ _ _ rfl rfl _ (by assumption) ?_; intro w H; try simp only [Act.put, List.setIfInBounds_toArray, List.set_cons_succ, List.set_cons_zero])
    | (refine mem_store1 rfl _ _ rfl _ _ _ rfl rfl _ _ (by assumption) ?_; intro w H; try simp only [Act.put, List.setIfInBounds_toArray, List.set_cons_succ, List.set_cons_zero])
    | (refine mem_store2 rfl _ _ rfl _ _ _ rfl rfl _ _ _ (by assumption) ?_; intro w H; try simp only [Act.put, List.setIfInBounds_toArray, List.set_cons_succ, List.set_cons_zero])
    | (refine mem_store3 rfl _ _ rfl _ _ _ rfl rfl _ _ _ _ (by assumption) ?_; intro w H; try simp only [Act.put, List.setIfInBounds_toArray, List.set_cons_succ, List.set_cons_zero])
    | (go_at_call 37; refine mem_call (by assumption) (cE.out _) ?_; intro w H))
  go_ret2
  exact ⟨rfl, H.below⟩
set_option maxHeartbeats 1000000 in
theorem mul_ok (l m : List UInt8) (h : isEl l = true) (h' : isEl m = true) (wS : World) : Calls Try.prog 19 #[.string (S l), .string (S m)] wS (StrPost (leB (prodN (numB l) (numB m) % pF)) 0 wS) := by
  have H := Mem.start wS
  have cE := Kept.mk fun w => elements_any l m w
  rw [h, h', Bool.and_true, elN_eq h, elN_eq h'] at cE
  have hx := isEl_lt h
  have hy := isEl_lt h'
  have hxb := Nat.lt_trans hx p_big
  have hyb := Nat.lt_trans hy p_big
  have cS := Kept.mk fun w => prodN_any (numB l) (numB m) w
  have cR := Kept.mk fun w => reduced_any (prodN (numB l) (numB m)) (prodN_lt _ _) w
  have cB := Kept.mk fun w => bytes_any (prodN (numB l) (numB m) % pF) w
  clear hx hy hxb hyb h h'
  go_enter Try.func19, Try.ntmps19
  go_wp2_with (first
    | (refine mem_box rfl _ rfl _ rfl (by assumption) ?_; intro g w H; try simp only [Act.put, List.setIfInBounds_toArray, List.set_cons_succ, List.set_cons_zero])
    | (refine mem_alloc rfl rfl (by assumption) ?_; intro g w H; try simp only [Act.put, List.setIfInBounds_toArray, List.set_cons_succ, List.set_cons_zero])
    | (refine mem_load rfl _ rfl _ _ rfl (by assumption) (by (first | exact .head _ | exact .tail _ (.head _) | exact .tail _ (.tail _ (.head _)) | exact .tail _ (.tail _ (.tail _ (.head _))) | exact .tail _ (.tail _ (.tail _ (.tail _ (.head _)))))) ?_; try simp only [Act.put, List.setIfInBounds_toArray, List.set_cons_succ, List.set_cons_zero])
    | (refine mem_store0 rfl _ _ rfl _ _ _ rfl rfl _ (by assumption) ?_; intro w H; try simp only [Act.put, List.setIfInBounds_toArray, List.set_cons_succ, List.set_cons_zero])
    | (refine mem_store1 rfl _ _ rfl _ _ _ rfl rfl _ _ (by assumption) ?_; intro w H; try simp only [Act.put, List.setIfInBounds_toArray, List.set_cons_succ, List.set_cons_zero])
    | (refine mem_store2 rfl _ _ rfl _ _ _ rfl rfl _ _ _ (by assumption) ?_; intro w H; try simp only [Act.put, List.setIfInBounds_toArray, List.set_cons_succ, List.set_cons_zero])
    | (refine mem_store3 rfl _ _ rfl _ _ _ rfl rfl _ _ _ _ (by assumption) ?_; intro w H; try simp only [Act.put, List.setIfInBounds_toArray, List.set_cons_succ, List.set_cons_zero])
    | (go_at_call 37; refine mem_call (by assumption) (cE.out _) ?_; intro w H)
    | (go_at_call 42; refine mem_call (by assumption) (cS.out _) ?_; intro w H)
    | (go_at_call 27; refine mem_call (by assumption) (cR.out _) ?_; intro w H)
    | (go_at_call 28; refine mem_call (by assumption) (cB.out _) ?_; intro w H))
  go_ret2
  exact ⟨rfl, H.below⟩
set_option maxHeartbeats 1000000 in
theorem mul_bad (l m : List UInt8) (h : (isEl l && isEl m) = false) (wS : World) : Calls Try.prog 19 #[.string (S l), .string (S m)] wS (StrPost [] 40 wS) := by
  have H := Mem.start wS
  have cE := Kept.mk fun w => elements_any l m w
  rw [h] at cE
  clear h
  go_enter Try.func19, Try.ntmps19
  go_wp2_with (first
    | (refine mem_box rfl _ rfl _ rfl (by assumption) ?_; intro g w H; try simp only [Act.put, List.setIfInBounds_toArray, List.set_cons_succ, List.set_cons_zero])
    | (refine mem_alloc rfl rfl (by assumption) ?_; intro g w H; try simp only [Act.put, List.setIfInBounds_toArray, List.set_cons_succ, List.set_cons_zero])
    | (refine mem_load rfl _ rfl _ _ rfl (by assumption) (by (first | exact .head _ | exact .tail _ (.head _) | exact .tail _ (.tail _ (.head _)) | exact .tail _ (.tail _ (.tail _ (.head _))) | exact .tail _ (.tail _ (.tail _ (.tail _ (.head _)))))) ?_; try simp only [Act.put, List.setIfInBounds_toArray, List.set_cons_succ, List.set_cons_zero])
    | (refine mem_store0 rfl _ _ rfl _ _ _ rfl rfl _ (by assumption) ?_; intro w H; try simp only [Act.put, List.setIfInBounds_toArray, List.set_cons_succ, List.set_cons_zero])
    | (refine mem_store1 rfl _ _ rfl _ _ _ rfl rfl _ _ (by assumption) ?_; intro w H; try simp only [Act.put, List.setIfInBounds_toArray, List.set_cons_succ, List.set_cons_zero])
    | (refine mem_store2 rfl _ _ rfl _ _ _ rfl rfl _ _ _ (by assumption) ?_; intro w H; try simp only [Act.put, List.setIfInBounds_toArray, List.set_cons_succ, List.set_cons_zero])
    | (refine mem_store3 rfl _ _ rfl _ _ _ rfl rfl _ _ _ _ (by assumption) ?_; intro w H; try simp only [Act.put, List.setIfInBounds_toArray, List.set_cons_succ, List.set_cons_zero])
    | (go_at_call 37; refine mem_call (by assumption) (cE.out _) ?_; intro w H))
  go_ret2
  exact ⟨rfl, H.below⟩
def invN (n : Nat) : Nat := prodN (sqN (onesN n 250) 5) (prodN (sqN (prodN (sqN n 2) n) 1) n)
theorem inv_ok (l : List UInt8) (h : isEl l = true) (wS : World) : Calls Try.prog 21 #[.string (S l)] wS (StrPost (leB (invN (numB l) % pF)) 0 wS) := by
  have H := Mem.start wS
  have cL := Kept.mk fun w => element_any l w
  rw [h, elN_eq h] at cL
  have cI := Kept.mk fun w => inverse_any (numB l) w
  rw [show prodN (sqN (onesN (numB l) 250) 5) (prodN (sqN (prodN (sqN (numB l) 2) (numB l)) 1) (numB l)) = invN (numB l) from rfl] at cI
  have cR := Kept.mk fun w => reduced_any (invN (numB l)) (prodN_lt _ _) w
  have cB := Kept.mk fun w => bytes_any (invN (numB l) % pF) w
  clear h
  go_enter Try.func21, Try.ntmps21
  go_wp2_with (first
    | (refine mem_box rfl _ rfl _ rfl (by assumption) ?_; intro g w H; try simp only [Act.put, List.setIfInBounds_toArray, List.set_cons_succ, List.set_cons_zero])
    | (refine mem_alloc rfl rfl (by assumption) ?_; intro g w H; try simp only [Act.put, List.setIfInBounds_toArray, List.set_cons_succ, List.set_cons_zero])
    | (refine mem_load rfl _ rfl _ _ rfl (by assumption) (by (first | exact .head _ | exact .tail _ (.head _) | exact .tail _ (.tail _ (.head _)) | exact .tail _ (.tail _ (.tail _ (.head _))) | exact .tail _ (.tail _ (.tail _ (.tail _ (.head _)))))) ?_; try simp only [Act.put, List.setIfInBounds_toArray, List.set_cons_succ, List.set_cons_zero])
    | (refine mem_store0 rfl _ _ rfl _ _ _ rfl rfl _ (by assumption) ?_; intro w H; try simp only [Act.put, List.setIfInBounds_toArray, List.set_cons_succ, List.set_cons_zero])
    | (refine mem_store1 rfl _ _ rfl _ _ _ rfl rfl _ _ (by assumption) ?_; intro w H; try simp only [Act.put, List.setIfInBounds_toArray, List.set_cons_succ, List.set_cons_zero])
    | (refine mem_store2 rfl _ _ rfl _ _ _ rfl rfl _ _ _ (by assumption) ?_; intro w H; try simp only [Act.put, List.setIfInBounds_toArray, List.set_cons_succ, List.set_cons_zero])
    | (refine mem_store3 rfl _ _ rfl _ _ _ rfl rfl _ _ _ _ (by assumption) ?_; intro w H; try simp only [Act.put, List.setIfInBounds_toArray, List.set_cons_succ, List.set_cons_zero])
    | (go_at_call 34; refine mem_call (by assumption) (cL.out _) ?_; intro w H)
    | (go_at_call 44; refine mem_call (by assumption) (cI.out _) ?_; intro w H)
    | (go_at_call 27; refine mem_call (by assumption) (cR.out _) ?_; intro w H)
    | (go_at_call 28; refine mem_call (by assumption) (cB.out _) ?_; intro w H))
  go_ret2
  exact ⟨rfl, H.below⟩
theorem inv_bad (l : List UInt8) (h : isEl l = false) (wS : World) : Calls Try.prog 21 #[.string (S l)] wS (StrPost [] 40 wS) := by
  have H := Mem.start wS
  have cL := Kept.mk fun w => element_any l w
  rw [h] at cL
  clear h
  go_enter Try.func21, Try.ntmps21
  go_wp2_with (first
    | (refine mem_box rfl _ rfl _ rfl (by assumption) ?_; intro g w H; try simp only [Act.put, List.setIfInBounds_toArray, List.set_cons_succ, List.set_cons_zero])
    | (refine mem_alloc rfl rfl (by assumption) ?_; intro g w H; try simp only [Act.put, List.setIfInBounds_toArray, List.set_cons_succ, List.set_cons_zero])
    | (refine mem_load rfl _ rfl _ _ rfl (by assumption) (by (first | exact .head _ | exact .tail _ (.head _) | exact .tail _ (.tail _ (.head _)) | exact .tail _ (.tail _ (.tail _ (.head _))) | exact .tail _ (.tail _ (.tail _ (.tail _ (.head _)))))) ?_; try simp only [Act.put, List.setIfInBounds_toArray, List.set_cons_succ, List.set_cons_zero])
    | (refine mem_store0 rfl _ _ rfl _ _ _ rfl rfl _ (by assumption) ?_; intro w H; try simp only [Act.put, List.setIfInBounds_toArray, List.set_cons_succ, List.set_cons_zero])
    | (refine mem_store1 rfl _ _ rfl _ _ _ rfl rfl _ _ (by assumption) ?_; intro w H; try simp only [Act.put, List.setIfInBounds_toArray, List.set_cons_succ, List.set_cons_zero])
    | (refine mem_store2 rfl _ _ rfl _ _ _ rfl rfl _ _ _ (by assumption) ?_; intro w H; try simp only [Act.put, List.setIfInBounds_toArray, List.set_cons_succ, List.set_cons_zero])
    | (refine mem_store3 rfl _ _ rfl _ _ _ rfl rfl _ _ _ _ (by assumption) ?_; intro w H; try simp only [Act.put, List.setIfInBounds_toArray, List.set_cons_succ, List.set_cons_zero])
    | (go_at_call 34; refine mem_call (by assumption) (cL.out _) ?_; intro w H))
  go_ret2
  exact ⟨rfl, H.below⟩
def RPost (l : List UInt8) (b : Bool) (n : Int) (w : World) (e : Ending) (w' : World) : Prop := e = .returned (.tuple #[.string (S l), .bool b, .int .i64 n]) ∧ Below w.heap.size w w'
theorem rootC_yes (l : List UInt8) (h : isEl l = true) (hq : sqN (r1N (numB l)) 1 % pF = numB l) (wS : World) : Calls Try.prog 23 #[.string (S l)] wS (RPost (leB (evenN (r1N (numB l) % pF))) true 0 wS) := by
  have H := Mem.start wS
  have cL := Kept.mk fun w => element_any l w
  rw [h, elN_eq h] at cL
  have cI := fun w => root_any (numB l) (isEl_lt h) w
  unfold RootPost at cI
  simp only [if_pos hq] at cI
  replace cI := Kept.mk cI
  have cB := Kept.mk fun w => bytes_any (evenN (r1N (numB l) % pF)) w
  clear h hq
  go_enter Try.func23, Try.ntmps23
  go_wp2_with (first
    | (refine mem_box rfl _ rfl _ rfl (by assumption) ?_; intro g w H; try simp only [Act.put, List.setIfInBounds_toArray, List.set_cons_succ, List.set_cons_zero])
    | (refine mem_alloc rfl rfl (by assumption) ?_; intro g w H; try simp only [Act.put, List.setIfInBounds_toArray, List.set_cons_succ, List.set_cons_zero])
    | (refine mem_load rfl _ rfl _ _ rfl (by assumption) (by (first | exact .head _ | exact .tail _ (.head _) | exact .tail _ (.tail _ (.head _)) | exact .tail _ (.tail _ (.tail _ (.head _))) | exact .tail _ (.tail _ (.tail _ (.tail _ (.head _)))))) ?_; try simp only [Act.put, List.setIfInBounds_toArray, List.set_cons_succ, List.set_cons_zero])
    | (refine mem_store0 rfl _ _ rfl _ _ _ rfl rfl _ (by assumption) ?_; intro w H; try simp only [Act.put, List.setIfInBounds_toArray, List.set_cons_succ, List.set_cons_zero])
    | (refine mem_store1 rfl _ _ rfl _ _ _ rfl rfl _ _ (by assumption) ?_; intro w H; try simp only [Act.put, List.setIfInBounds_toArray, List.set_cons_succ, List.set_cons_zero])
    | (refine mem_store2 rfl _ _ rfl _ _ _ rfl rfl _ _ _ (by assumption) ?_; intro w H; try simp only [Act.put, List.setIfInBounds_toArray, List.set_cons_succ, List.set_cons_zero])
    | (refine mem_store3 rfl _ _ rfl _ _ _ rfl rfl _ _ _ _ (by assumption) ?_; intro w H; try simp only [Act.put, List.setIfInBounds_toArray, List.set_cons_succ, List.set_cons_zero])
    | (go_at_call 34; refine mem_call (by assumption) (cL.out _) ?_; intro w H)
    | (go_at_call 46; refine mem_call (by assumption) (cI.out _) ?_; intro w H)
    | (go_at_call 28; refine mem_call (by assumption) (cB.out _) ?_; intro w H))
  go_ret3
  exact ⟨rfl, H.below⟩
theorem rootC_no (l : List UInt8) (h : isEl l = true) (hq : ¬ sqN (r1N (numB l)) 1 % pF = numB l) (wS : World) : Calls Try.prog 23 #[.string (S l)] wS (RPost [] false 0 wS) := by
  have H := Mem.start wS
  have cL := Kept.mk fun w => element_any l w
  rw [h, elN_eq h] at cL
  have cI := fun w => root_any (numB l) (isEl_lt h) w
  unfold RootPost at cI
  simp only [if_neg hq] at cI
  replace cI := Kept.mk cI
  clear h hq
  go_enter Try.func23, Try.ntmps23
  go_wp2_with (first
    | (refine mem_box rfl _ rfl _ rfl (by assumption) ?_; intro g w H; try simp only [Act.put, List.setIfInBounds_toArray, List.set_cons_succ, List.set_cons_zero])
    | (refine mem_alloc rfl rfl (by assumption) ?_; intro g w H; try simp only [Act.put, List.setIfInBounds_toArray, List.set_cons_succ, List.set_cons_zero])
    | (refine mem_load rfl _ rfl _ _ rfl (by assumption) (by (first | exact .head _ | exact .tail _ (.head _) | exact .tail _ (.tail _ (.head _)) | exact .tail _ (.tail _ (.tail _ (.head _))) | exact .tail _ (.tail _ (.tail _ (.tail _ (.head _)))))) ?_; try simp only [Act.put, List.setIfInBounds_toArray, List.set_cons_succ, List.set_cons_zero])
    | (refine mem_store0 rfl _ _ rfl _ _ _ rfl rfl _ (by assumption) ?_; intro w H; try simp only [Act.put, List.setIfInBounds_toArray, List.set_cons_succ, List.set_cons_zero])
    | (refine mem_store1 rfl _ _ rfl _ _ _ rfl rfl _ _ (by assumption) ?_; intro w H; try simp only [Act.put, List.setIfInBounds_toArray, List.set_cons_succ, List.set_cons_zero])
    | (refine mem_store2 rfl _ _ rfl _ _ _ rfl rfl _ _ _ (by assumption) ?_; intro w H; try simp only [Act.put, List.setIfInBounds_toArray, List.set_cons_succ, List.set_cons_zero])
    | (refine mem_store3 rfl _ _ rfl _ _ _ rfl rfl _ _ _ _ (by assumption) ?_; intro w H; try simp only [Act.put, List.setIfInBounds_toArray, List.set_cons_succ, List.set_cons_zero])
    | (go_at_call 34; refine mem_call (by assumption) (cL.out _) ?_; intro w H)
    | (go_at_call 46; refine mem_call (by assumption) (cI.out _) ?_; intro w H))
  go_ret3
  exact ⟨rfl, H.below⟩
theorem rootC_bad (l : List UInt8) (h : isEl l = false) (wS : World) : Calls Try.prog 23 #[.string (S l)] wS (RPost [] false 40 wS) := by
  have H := Mem.start wS
  have cL := Kept.mk fun w => element_any l w
  rw [h] at cL
  clear h
  go_enter Try.func23, Try.ntmps23
  go_wp2_with (first
    | (refine mem_box rfl _ rfl _ rfl (by assumption) ?_; intro g w H; try simp only [Act.put, List.setIfInBounds_toArray, List.set_cons_succ, List.set_cons_zero])
    | (refine mem_alloc rfl rfl (by assumption) ?_; intro g w H; try simp only [Act.put, List.setIfInBounds_toArray, List.set_cons_succ, List.set_cons_zero])
    | (refine mem_load rfl _ rfl _ _ rfl (by assumption) (by (first | exact .head _ | exact .tail _ (.head _) | exact .tail _ (.tail _ (.head _)) | exact .tail _ (.tail _ (.tail _ (.head _))) | exact .tail _ (.tail _ (.tail _ (.tail _ (.head _)))))) ?_; try simp only [Act.put, List.setIfInBounds_toArray, List.set_cons_succ, List.set_cons_zero])
    | (refine mem_store0 rfl _ _ rfl _ _ _ rfl rfl _ (by assumption) ?_; intro w H; try simp only [Act.put, List.setIfInBounds_toArray, List.set_cons_succ, List.set_cons_zero])
    | (refine mem_store1 rfl _ _ rfl _ _ _ rfl rfl _ _ (by assumption) ?_; intro w H; try simp only [Act.put, List.setIfInBounds_toArray, List.set_cons_succ, List.set_cons_zero])
    | (refine mem_store2 rfl _ _ rfl _ _ _ rfl rfl _ _ _ (by assumption) ?_; intro w H; try simp only [Act.put, List.setIfInBounds_toArray, List.set_cons_succ, List.set_cons_zero])
    | (refine mem_store3 rfl _ _ rfl _ _ _ rfl rfl _ _ _ _ (by assumption) ?_; intro w H; try simp only [Act.put, List.setIfInBounds_toArray, List.set_cons_succ, List.set_cons_zero])
    | (go_at_call 34; refine mem_call (by assumption) (cL.out _) ?_; intro w H))
  go_ret3
  exact ⟨rfl, H.below⟩
end Go.Proofs.Ytbkaemekcjinaaa
