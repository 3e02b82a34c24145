/- The law package's fixed calls for package scalar. -/
import Derived.Test.YthlkpdfdbdfbjaaP10
set_option linter.unusedSimpArgs false
set_option linter.unusedVariables false
namespace Go.Proofs.Ythlkpdfdbdfbjaa
open Go.RowKit
def BoolPost (b : Bool) (w : World) (e : Ending) (w' : World) : Prop := e = .returned (.bool b) ∧ Below w.heap.size w w'
theorem conv_at {w : World} {g : Nat} (l : List UInt8) (h : Arr w g 5 .u8 (digs l)) (n : Nat) (hn : l.length = n) : (convert 31 9 (.slice (some ⟨g, 0, none⟩) n n)).run Try.prog w = .ok (.string (S l)) w := by
  subst hn
  refine run_convert_bytes_back w 31 9 5 ⟨g, 0, none⟩ l.length l Try.underlying31 Try.underlying5 Try.underlying9 (fun j hj => ?_)
  have h2 := h.cell j (by rw [digs_len]; exact hj)
  rw [add0, h2]
  simp [digs, hj]
def z65 : List UInt8 := List.replicate 65 0
theorem made65 : madeCells #[Value.int .u8 0] 65 = (numC .u8 (digs z65)).toArray := by kernel_rfl
theorem conv65 {w0 w : World} {L : List (Nat × List Nat)} (H : SM w0 w L) : (convert 31 9 (.slice (some ⟨w.heap.size, 0, none⟩) 65 65)).run Try.prog (w.alloc (.cells (numC .u8 (digs z65)).toArray 5)) = .ok (.string (S z65)) (w.alloc (.cells (numC .u8 (digs z65)).toArray 5)) :=
  conv_at z65 (Arr.new w 5 .u8 (digs z65)) 65 rfl
set_option maxRecDepth 100000 in
set_option maxHeartbeats 6400000 in
theorem fixed_core (z0 z1 z2 z5 s236 s237 s242 zz s65 : ByteArray) (h65 : S z65 = s65) (cO0 : ∀ w, Calls Try.prog 20 #[.int .i64 0] w fun e w' => e = .returned (.string s237) ∧ Below w.heap.size w w') (cO5 : ∀ w, Calls Try.prog 20 #[.int .i64 5] w fun e w' => e = .returned (.string s242) ∧ Below w.heap.size w w') (cOm : ∀ w, Calls Try.prog 20 #[.int .i64 (-1)] w fun e w' => e = .returned (.string s236) ∧ Below w.heap.size w w') (n0 : ∀ w, Calls Try.prog 19 #[.int .u8 0] w fun e w' => e = .returned (.string z0) ∧ Below w.heap.size w w') (n1 : ∀ w, Calls Try.prog 19 #[.int .u8 1] w fun e w' => e = .returned (.string z1) ∧ Below w.heap.size w w') (n2 : ∀ w, Calls Try.prog 19 #[.int .u8 2] w fun e w' => e = .returned (.string z2) ∧ Below w.heap.size w w') (n5 : ∀ w, Calls Try.prog 19 #[.int .u8 5] w fun e w' => e = .returned (.string z5) ∧ Below w.heap.size w w') (cR0 : ∀ w, Calls Try.prog 10 #[.string s237] w fun e w' => e = .returned (.tuple #[.string z0, .int .i64 0]) ∧ Below w.heap.size w w') (cR5 : ∀ w, Calls Try.prog 10 #[.string s242] w fun e w' => e = .returned (.tuple #[.string z5, .int .i64 0]) ∧ Below w.heap.size w w') (cA : ∀ w, Calls Try.prog 15 #[.string s236, .string z2] w fun e w' => e = .returned (.tuple #[.string z1, .int .i64 0]) ∧ Below w.heap.size w w') (cM : ∀ w, Calls Try.prog 17 #[.string s236, .string s236] w fun e w' => e = .returned (.tuple #[.string z1, .int .i64 0]) ∧ Below w.heap.size w w') (cMb : ∀ w, Calls Try.prog 17 #[.string ⟨#[]⟩, .string z1] w fun e w' => e = .returned (.tuple #[.string zz, .int .i64 50]) ∧ Below w.heap.size w w') (cRb : ∀ w, Calls Try.prog 10 #[.string s65] w fun e w' => e = .returned (.tuple #[.string zz, .int .i64 50]) ∧ Below w.heap.size w w') (cI1 : ∀ w, Calls Try.prog 13 #[.string s236] w fun e w' => e = .returned (.bool true) ∧ Below w.heap.size w w') (cI2 : ∀ w, Calls Try.prog 13 #[.string s237] w fun e w' => e = .returned (.bool false) ∧ Below w.heap.size w w') (wS : World) : Calls Try.prog 12 #[] wS (BoolPost true wS) := by
  have H := SM.start wS
  obtain ⟨i1, hi1, hy0, hy1, hy2⟩ := info_parts info5
  replace h65 := Kept.mk h65
  replace cO0 := Kept.mk cO0
  replace cO5 := Kept.mk cO5
  replace cOm := Kept.mk cOm
  replace n0 := Kept.mk n0
  replace n1 := Kept.mk n1
  replace n2 := Kept.mk n2
  replace n5 := Kept.mk n5
  replace cR0 := Kept.mk cR0
  replace cR5 := Kept.mk cR5
  replace cA := Kept.mk cA
  replace cM := Kept.mk cM
  replace cMb := Kept.mk cMb
  replace cRb := Kept.mk cRb
  replace cI1 := Kept.mk cI1
  replace cI2 := Kept.mk cI2
  go_enter Try.func12, Try.ntmps12
  go_wp2_with (first
    | (refine wpList_make_row _ rfl _ _ 31 rfl 5 i1 (.int .u8 0) Try.underlying31 hi1 hy0 hy1 rfl .i64 .i64 65 rfl rfl (by rw [hy2]; omega) (by omega) ?_; rw [made65]; have hcv := conv65 H; rw [h65.out] at hcv; have H := H.grow ((Below.refl _ _).alloc (Nat.le_refl _) (.cells (numC .u8 (digs z65)).toArray 5)); generalize World.alloc _ (.cells (numC .u8 (digs z65)).toArray 5) = w65 at hcv H ⊢)
    | (go_at_call 20; with_reducible refine s_call (by assumption) (cO0.out _) ?_; intro w H)
    | (go_at_call 20; with_reducible refine s_call (by assumption) (cO5.out _) ?_; intro w H)
    | (go_at_call 20; with_reducible refine s_call (by assumption) (cOm.out _) ?_; intro w H)
    | (go_at_call 19; with_reducible refine s_call (by assumption) (n0.out _) ?_; intro w H)
    | (go_at_call 19; with_reducible refine s_call (by assumption) (n1.out _) ?_; intro w H)
    | (go_at_call 19; with_reducible refine s_call (by assumption) (n2.out _) ?_; intro w H)
    | (go_at_call 19; with_reducible refine s_call (by assumption) (n5.out _) ?_; intro w H)
    | (go_at_call 10; with_reducible refine s_call (by assumption) (cR0.out _) ?_; intro w H)
    | (go_at_call 10; with_reducible refine s_call (by assumption) (cR5.out _) ?_; intro w H)
    | (go_at_call 15; with_reducible refine s_call (by assumption) (cA.out _) ?_; intro w H)
    | (go_at_call 17; with_reducible refine s_call (by assumption) (cM.out _) ?_; intro w H)
    | (go_at_call 17; with_reducible refine s_call (by assumption) (cMb.out _) ?_; intro w H)
    | (go_at_call 10; with_reducible refine s_call (by assumption) (cRb.out _) ?_; intro w H)
    | (go_at_call 13; with_reducible refine s_call (by assumption) (cI1.out _) ?_; intro w H)
    | (go_at_call 13; with_reducible refine s_call (by assumption) (cI2.out _) ?_; intro w H))
  go_ret
  exact ⟨rfl, H.below⟩
theorem scB_eq {n m : Nat} (h : n % oN = m % oN) : scB n = scB m := by unfold scB; rw [h]
theorem num_at (n : Nat) (hn : n < 256) (z : Int) (hz : (n : Int) = z) (w : World) : Calls Try.prog 19 #[.int .u8 z] w fun e w' => e = .returned (.string (S (scB n))) ∧ Below w.heap.size w w' := by
  subst hz
  exact num_any n hn w
theorem fixed_any (wS : World) : Calls Try.prog 12 #[] wS (BoolPost true wS) := by
  have l6 := orB_len 236
  have l7 := orB_len 237
  have l2 := orB_len 242
  have e6 := orB_num 236 (by omega)
  have e7 := orB_num 237 (by omega)
  have e2 := orB_num 242 (by omega)
  have hop := o_pos
  have p7 : scB (numB (orB 237)) = scB 0 := scB_eq (by rw [show numB (orB 237) = oN by omega, Nat.mod_self]; rfl)
  have p2 : scB (numB (orB 242)) = scB 5 := scB_eq (by rw [show numB (orB 242) = oN + 5 by omega, Nat.add_mod_left])
  have pA : scB (numB (orB 236) + numB (scB 2)) = scB 1 := scB_eq (by rw [scB_num, show numB (orB 236) = oN - 1 by omega]; decide +kernel)
  have pM : scB (numB (orB 236) * numB (orB 236)) = scB 1 := scB_eq (by rw [show numB (orB 236) = oN - 1 by omega]; decide +kernel)
  have i6 : isSc (orB 236) = true := by unfold isSc; rw [l6, show numB (orB 236) = oN - 1 by omega]; decide +kernel
  have i7 : isSc (orB 237) = false := by unfold isSc; rw [l7, show numB (orB 237) = oN by omega]; decide +kernel
  refine fixed_core (S (scB 0)) (S (scB 1)) (S (scB 2)) (S (scB 5)) (S (orB 236)) (S (orB 237)) (S (orB 242)) (S []) (S z65) rfl (fun w => order_any 0 237 (by omega) (by omega) w) (fun w => order_any 5 242 (by omega) (by omega) w) (fun w => order_any (-1) 236 (by omega) (by omega) w)
    (fun w => num_at 0 (by omega) 0 (by omega) w) (fun w => num_at 1 (by omega) 1 (by omega) w) (fun w => num_at 2 (by omega) 2 (by omega) w) (fun w => num_at 5 (by omega) 5 (by omega) w) ?_ ?_ ?_ ?_ ?_ ?_ ?_ ?_ wS
  · intro w; have h := Reduce_ok (orB 237) (by omega) w; rw [p7] at h; exact h
  · intro w; have h := Reduce_ok (orB 242) (by omega) w; rw [p2] at h; exact h
  · intro w; have h := Add_ok (orB 236) (scB 2) l6 (scB_len 2) w; rw [pA] at h; exact h
  · intro w; have h := Mul_ok (orB 236) (orB 236) l6 l6 w; rw [pM] at h; exact h
  · intro w; exact Mul_bad [] (scB 1) (.inl (by decide)) w
  · intro w; exact Reduce_bad z65 (by decide +kernel) w
  · intro w; have h := Is_any (orB 236) w; rw [i6] at h; exact h
  · intro w; have h := Is_any (orB 237) w; rw [i7] at h; exact h
end Go.Proofs.Ythlkpdfdbdfbjaa
