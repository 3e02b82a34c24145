/- ScalarBack, for every input that can be read: the law answers true: a scalar is reduced to itself; with 0 and with 1 nothing is another one; what is reduced is a scalar. -/
import Derived.Test.YthlkpdfdbdfbjaaRows
import Derived.Test.YthlkpdfdbdfbjaaP11
import Derived.Test.YthlkpdfdbdfbjaaRow
import Derived.ProofKit
import Derived.OpenShut
import Derived.SizedLaws
import Derived.JoinedOf
import Derived.JoinedAt
import Derived.JoinedCond
namespace Go.Proofs.Ythlkpdfdbdfbjaa.scalarBack
open Go.ChangeShapes Go.WideShapes Go.ChangeAt Go.RowKit
set_option linter.unusedSimpArgs false
set_option linter.unusedVariables false
open Go.ChangeMaps (open_string shut_string)
set_option maxRecDepth 100000 in
set_option maxHeartbeats 6400000 in
theorem core_bad (s : ByteArray) (hs : (64 : Int) < (s.size : Int)) (k1 : ∀ w, Calls Try.prog 10 #[.string s] w fun e w' => e = .returned (.tuple #[.string ⟨#[]⟩, .int .i64 50]) ∧ Below w.heap.size w w') (wS : World) : Calls Try.prog 6 #[.string s] wS (BoolPost true wS) := by
  have H := SM.start wS
  replace k1 := Kept.mk k1
  go_enter Try.func6, Try.ntmps6
  go_wp2_with (first
    | (go_at_call 12; with_reducible refine s_call (by assumption) (fixed_any _) ?_; intro w H)
    | (go_at_call 10; with_reducible refine s_call (by assumption) (k1.out _) ?_; intro w H))
  go_ret
  exact ⟨rfl, H.below⟩
set_option maxRecDepth 100000 in
set_option maxHeartbeats 6400000 in
theorem core_sc (s z0 z1 : ByteArray) (k1 : ∀ w, Calls Try.prog 10 #[.string s] w fun e w' => e = .returned (.tuple #[.string s, .int .i64 0]) ∧ Below w.heap.size w w') (n0 : ∀ w, Calls Try.prog 19 #[.int .u8 0] w fun e w' => e = .returned (.string z0) ∧ Below w.heap.size w w') (n1 : ∀ w, Calls Try.prog 19 #[.int .u8 1] w fun e w' => e = .returned (.string z1) ∧ Below w.heap.size w w') (k2 : ∀ w, Calls Try.prog 15 #[.string s, .string z0] w fun e w' => e = .returned (.tuple #[.string s, .int .i64 0]) ∧ Below w.heap.size w w') (k3 : ∀ w, Calls Try.prog 17 #[.string s, .string z1] w fun e w' => e = .returned (.tuple #[.string s, .int .i64 0]) ∧ Below w.heap.size w w') (i1 : ∀ w, Calls Try.prog 13 #[.string s] w fun e w' => e = .returned (.bool true) ∧ Below w.heap.size w w') (wS : World) : Calls Try.prog 6 #[.string s] wS (BoolPost true wS) := by
  have H := SM.start wS
  replace k1 := Kept.mk k1
  replace n0 := Kept.mk n0
  replace n1 := Kept.mk n1
  replace k2 := Kept.mk k2
  replace k3 := Kept.mk k3
  replace i1 := Kept.mk i1
  go_enter Try.func6, Try.ntmps6
  go_wp2_with (first
    | (go_at_call 12; with_reducible refine s_call (by assumption) (fixed_any _) ?_; intro w H)
    | (go_at_call 10; with_reducible refine s_call (by assumption) (k1.out _) ?_; intro w H)
    | (go_at_call 19; with_reducible refine s_call (by assumption) (n0.out _) ?_; intro w H)
    | (go_at_call 19; with_reducible refine s_call (by assumption) (n1.out _) ?_; intro w H)
    | (go_at_call 15; with_reducible refine s_call (by assumption) (k2.out _) ?_; intro w H)
    | (go_at_call 17; with_reducible refine s_call (by assumption) (k3.out _) ?_; intro w H)
    | (go_at_call 13; with_reducible refine s_call (by assumption) (i1.out _) ?_; intro w H))
  go_ret
  exact ⟨rfl, H.below⟩
set_option maxRecDepth 100000 in
set_option maxHeartbeats 6400000 in
theorem core_no (s r z0 z1 : ByteArray) (k1 : ∀ w, Calls Try.prog 10 #[.string s] w fun e w' => e = .returned (.tuple #[.string r, .int .i64 0]) ∧ Below w.heap.size w w') (k0 : ∀ w, Calls Try.prog 10 #[.string r] w fun e w' => e = .returned (.tuple #[.string r, .int .i64 0]) ∧ Below w.heap.size w w') (n0 : ∀ w, Calls Try.prog 19 #[.int .u8 0] w fun e w' => e = .returned (.string z0) ∧ Below w.heap.size w w') (n1 : ∀ w, Calls Try.prog 19 #[.int .u8 1] w fun e w' => e = .returned (.string z1) ∧ Below w.heap.size w w') (k2 : ∀ w, Calls Try.prog 15 #[.string r, .string z0] w fun e w' => e = .returned (.tuple #[.string r, .int .i64 0]) ∧ Below w.heap.size w w') (k3 : ∀ w, Calls Try.prog 17 #[.string r, .string z1] w fun e w' => e = .returned (.tuple #[.string r, .int .i64 0]) ∧ Below w.heap.size w w') (i1 : ∀ w, Calls Try.prog 13 #[.string r] w fun e w' => e = .returned (.bool true) ∧ Below w.heap.size w w') (i2 : ∀ w, Calls Try.prog 13 #[.string s] w fun e w' => e = .returned (.bool false) ∧ Below w.heap.size w w') (wS : World) : Calls Try.prog 6 #[.string s] wS (BoolPost true wS) := by
  have H := SM.start wS
  replace k1 := Kept.mk k1
  replace k0 := Kept.mk k0
  replace n0 := Kept.mk n0
  replace n1 := Kept.mk n1
  replace k2 := Kept.mk k2
  replace k3 := Kept.mk k3
  replace i1 := Kept.mk i1
  replace i2 := Kept.mk i2
  go_enter Try.func6, Try.ntmps6
  go_wp2_with (first
    | (go_at_call 12; with_reducible refine s_call (by assumption) (fixed_any _) ?_; intro w H)
    | (go_at_call 10; with_reducible refine s_call (by assumption) (k1.out _) ?_; intro w H)
    | (go_at_call 10; with_reducible refine s_call (by assumption) (k0.out _) ?_; intro w H)
    | (go_at_call 19; with_reducible refine s_call (by assumption) (n0.out _) ?_; intro w H)
    | (go_at_call 19; with_reducible refine s_call (by assumption) (n1.out _) ?_; intro w H)
    | (go_at_call 15; with_reducible refine s_call (by assumption) (k2.out _) ?_; intro w H)
    | (go_at_call 17; with_reducible refine s_call (by assumption) (k3.out _) ?_; intro w H)
    | (go_at_call 13; with_reducible refine s_call (by assumption) (i1.out _) ?_; intro w H)
    | (go_at_call 13; with_reducible refine s_call (by assumption) (i2.out _) ?_; intro w H))
  go_ret
  exact ⟨rfl, H.below⟩
theorem add0m (n : Nat) : scB (numB (scB n) + numB (scB 0)) = scB n := scB_eq (by rw [scB_num, scB_num, Nat.zero_mod, Nat.add_zero, Nat.mod_mod])
theorem mul1m (n : Nat) : scB (numB (scB n) * numB (scB 1)) = scB n := scB_eq (by rw [scB_num, scB_num, show 1 % oN = 1 by decide +kernel, Nat.mul_one, Nat.mod_mod])
theorem redm (n : Nat) : scB (numB (scB n)) = scB n := scB_eq (by rw [scB_num, Nat.mod_mod])
theorem walk (a : List UInt8) (ha : a.length ≤ 140737488351232) (w : World) :
    Calls Try.prog 6 #[.string (S a)] w fun e w' => e = .returned (.bool true) ∧ Below w.heap.size w w' := by
  by_cases hl : a.length ≤ 64
  · have l0 := scB_len 0
    have l1 := scB_len 1
    have lr := scB_len (numB a)
    have kR := fun w => Reduce_ok a hl w
    have k0 := fun w => Reduce_ok (scB (numB a)) (by omega) w
    have kA := fun w => Add_ok (scB (numB a)) (scB 0) lr l0 w
    have kM := fun w => Mul_ok (scB (numB a)) (scB 1) lr l1 w
    have i1 := fun w => Is_any (scB (numB a)) w
    have i2 := fun w => Is_any a w
    rw [redm] at k0
    rw [add0m] at kA
    rw [mul1m] at kM
    rw [scB_is] at i1
    by_cases hi : isSc a = true
    · rw [scB_self a hi] at kR kA kM i1
      exact core_sc (S a) _ _ kR (fun w => num_at 0 (by omega) 0 (by omega) w) (fun w => num_at 1 (by omega) 1 (by omega) w) kA kM i1 w
    · rw [Bool.not_eq_true] at hi
      rw [hi] at i2
      exact core_no (S a) (S (scB (numB a))) _ _ kR k0 (fun w => num_at 0 (by omega) 0 (by omega) w) (fun w => num_at 1 (by omega) 1 (by omega) w) kA kM i1 i2 w
  · exact core_bad (S a) (by rw [S_size]; omega) (fun w => Reduce_bad a (by omega) w) w
theorem own : ownKnob Try.prog.godebug = none := by kernel_rfl
theorem contract (H : Type) (enc : TypeId × Value → H) (W : World) (base : Nat) (args : Array Value) (ds gs : List (DataW H)) (before : List MemPlace)
    (hval : ∀ (j : Nat) t v, Try.f6.params[j]? = some t → args[j]? = some v → Value.okWide Try.prog W .any base t v)
    (hW : DataW.Whole enc Try.prog Try.f6.params.toList Rows.scalarBackSpec.vars false W args.toList ds gs before)
    (hsz : (DataW.weightsEach Try.prog (Try.f6.params.toList ++ Rows.scalarBackSpec.plain.varTypes Try.prog) (ds ++ gs)).all (· ≤ reachBytes) = true) :
    Calls Try.prog 6 args W fun e W' => ∃ v, e = .returned v ∧ Rows.scalarBackSpec.post enc Try.prog Try.f6 false true false false W args v W' := by
  have hW' := hW
  obtain ⟨p, q, hA0, hV, rfl, hfz, hnd⟩ := hW
  have hA : DataW.TrodAll enc Try.prog W 0 (fun _ => true) true Try.f6.params.toList args.toList ds p := hA0
  rw [Try.params6] at hA hval hsz
  obtain ⟨v0, vs0, d0, ds0, p0, q0, hargs, rfl, rfl, h0, r0⟩ := trodAll_cons hA
  obtain ⟨rfl, rfl, rfl⟩ := trodAll_nil r0
  obtain rfl : args = #[v0] := by cases args; simp_all
  obtain ⟨rfl, rfl⟩ := trodVars_none hV
  obtain ⟨x0, rfl, rfl, rfl, hs0⟩ := open_string Try.underlying9 (hval 0 9 v0 rfl rfl) h0
  clear hA0
  simp only [List.append_nil] at hW' hsz
  have hl0 : x0.data.toList.length ≤ 140737488351232 := by
    have := sized_string hsz (j := 0) (t := 9) rfl rfl
    simp only [reachBytes] at this
    omega
  refine (walk x0.data.toList hl0 W).mono fun e W' ⟨he, hg⟩ => ?_
  subst he
  exact ⟨_, rfl, post_below (pa := []) (pv := []) hW' hg (fun _ _ _ => trodAll_cons_mk (shut_bool Try.underlying4 _) trodAll_mk0) (fun _ _ => trodAll_cons_mk (shut_string Try.underlying9 hs0) trodAll_mk0) (fun _ _ => rfl) rfl
    (ok_one (by kernel_rfl) rfl (okWide_bool_mk Try.underlying4 _))⟩
set_option maxRecDepth 100000 in
theorem lifted (os : Os) (started : os.Started) (H : Type) (enc : TypeId × Value → H) :
    ReturnsInHanded {} Try.checked os 6 .any (Rows.scalarBackSpec.pre6 enc Try.prog Try.f6 Rows.scalarBackRow.domain false) (Rows.scalarBackSpec.post enc Try.prog Try.f6 false true false false) := by
  refine returnsInHanded_of_change_sized (C := Try.checked) own started (by kernel_rfl) Try.func6
    (ChangeSpec.witness6 (enc := enc) (C := Try.checked) false ⟨#[], #[.string ⟨#[]⟩], []⟩ 8 (by kernel_rfl) (by kernel_rfl) (by kernel_rfl) (by kernel_rfl)) ?_
  intro W base args ds gs before hval hW _ hsz _
  exact contract H enc W base args ds gs before hval hW hsz
theorem proved : Rows.ScalarBackSaid :=
  OpenClaim.holds_of_wide 6 Try.f6 rfl rfl rfl rfl rfl rfl rfl ⟨rfl, rfl, rfl, rfl, rfl⟩ rfl rfl rfl rfl rfl (by kernel_rfl) Try.func6 (by kernel_rfl)
    (of_decide_eq_true (by kernel_rfl)) (by unfold Func.isWrapper; first | (rw [if_pos (by decide +kernel)]; kernel_rfl) | (rw [if_neg (by decide +kernel)]; exact ⟨rfl, rfl⟩))
    (fun os started H enc _ => lifted os started H enc)
#print axioms proved
end Go.Proofs.Ythlkpdfdbdfbjaa.scalarBack
