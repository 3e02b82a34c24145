/- FieldTwice, for every input that can be read: the law answers true: an element twice is it and itself; taken away from nothing twice it is itself again. -/
import Derived.Test.YtbkaemekcjinaaaRows
import Derived.Test.YtbkaemekcjinaaaFK
import Derived.Test.YtbkaemekcjinaaaRow
import Derived.ProofKit
import Derived.OpenShut
import Derived.SizedLaws
import Derived.JoinedOf
import Derived.JoinedAt
import Derived.JoinedCond
namespace Go.Proofs.Ytbkaemekcjinaaa.fieldTwice
open Go.ChangeShapes Go.WideShapes Go.ChangeAt Go.RowKit
set_option linter.unusedSimpArgs false
set_option linter.unusedVariables false
open Go.ChangeMaps (open_string shut_string)
set_option maxRecDepth 100000 in
set_option maxHeartbeats 3200000 in
theorem walk_no0 (a : List UInt8) (ha : isEl a = false) (wS : World) : Calls Try.prog 8 #[.string (S a)] wS (BoolPost true wS) := by
  have H := AMem.start wS
  have ca := fun w => is_any a w
  rw [ha] at ca
  clear ha
  generalize S a = sa at ca ⊢
  replace ca := Kept.mk ca
  go_enter Try.func8, Try.ntmps8
  go_wp2_with (first
    | (go_at_call 12; with_reducible refine a_call (by assumption) (fixed_any _) ?_; intro w H)
    | (go_at_call 13; with_reducible refine a_call (by assumption) (ca.out _) ?_; intro w H))
  go_ret
  exact ⟨rfl, H.below⟩
set_option maxRecDepth 100000 in
set_option maxHeartbeats 6400000 in
theorem walk_yes (a : Nat) (ha : a < pF) (wS : World) : Calls Try.prog 8 #[E a] wS (BoolPost true wS) := by
  have H := AMem.start wS
  have k1 := fun w => addE a a ha ha w
  have k2 := fun w => mulE 2 a (small_lt 2 (by omega)) ha w
  rw [twice_mod] at k2
  have k3 := fun w => subE 0 a p_pos ha w
  have k4 := fun w => subE 0 ((0 + (pF - a)) % pF) p_pos (neg_lt a) w
  rw [neg_neg' a ha] at k4
  have k5 := fun w => addE a ((0 + (pF - a)) % pF) ha (neg_lt a) w
  rw [add_neg a ha] at k5
  have i1 := fun w => isE a ha w
  have n0 := fun w => num_any 0 (by omega) w
  rw [show ((0 : Nat) : Int) = 0 from rfl] at n0
  unfold BytesPost at n0
  have n2 := fun w => num_any 2 (by omega) w
  rw [show ((2 : Nat) : Int) = 2 from rfl] at n2
  unfold BytesPost at n2
  unfold EP E at k1 k2 k3 k4 k5
  unfold E at i1 ⊢
  clear ha
  generalize S (leB ((a + a) % pF)) = st at k1 k2
  generalize S (leB ((0 + (pF - a)) % pF)) = sn at k3 k4 k5
  generalize S (leB 0) = s0 at k3 k4 k5 n0
  generalize S (leB 2) = s2 at k2 n2
  generalize S (leB a) = sa at k1 k2 k3 k4 k5 i1 ⊢
  replace k1 := Kept.mk k1
  replace k2 := Kept.mk k2
  replace k3 := Kept.mk k3
  replace k4 := Kept.mk k4
  replace k5 := Kept.mk k5
  replace i1 := Kept.mk i1
  replace n0 := Kept.mk n0
  replace n2 := Kept.mk n2
  go_enter Try.func8, Try.ntmps8
  go_wp2_with (first
    | (go_at_call 12; with_reducible refine a_call (by assumption) (fixed_any _) ?_; intro w H)
    | (go_at_call 15; with_reducible refine a_call (by assumption) (k1.out _) ?_; intro w H)
    | (go_at_call 15; with_reducible refine a_call (by assumption) (k5.out _) ?_; intro w H)
    | (go_at_call 19; with_reducible refine a_call (by assumption) (k2.out _) ?_; intro w H)
    | (go_at_call 17; with_reducible refine a_call (by assumption) (k3.out _) ?_; intro w H)
    | (go_at_call 17; with_reducible refine a_call (by assumption) (k4.out _) ?_; intro w H)
    | (go_at_call 13; with_reducible refine a_call (by assumption) (i1.out _) ?_; intro w H)
    | (go_at_call 25; with_reducible refine a_call (by assumption) (n0.out _) ?_; intro w H)
    | (go_at_call 25; with_reducible refine a_call (by assumption) (n2.out _) ?_; intro w H))
  go_ret
  exact ⟨rfl, H.below⟩
theorem walk (a : List UInt8) (ha : a.length ≤ 140737488351232) (w : World) :
    Calls Try.prog 8 #[.string (S a)] w fun e w' => e = .returned (.bool true) ∧ Below w.heap.size w w' := by
  cases h1 : isEl a
  · exact walk_no0 a h1 w
  have h := walk_yes (numB a) (isEl_lt h1) w
  unfold E at h
  rw [← E_of h1] at h
  exact h
theorem own : ownKnob Try.prog.godebug = none := by kernel_rfl
theorem contract (H : Type) (enc : TypeId × Value → H) (W : World) (base : Nat) (args : Array Value) (ds gs : List (DataW H)) (before : List MemPlace)
    (hval : ∀ (j : Nat) t v, Try.f8.params[j]? = some t → args[j]? = some v → Value.okWide Try.prog W .any base t v)
    (hW : DataW.Whole enc Try.prog Try.f8.params.toList Rows.fieldTwiceSpec.vars false W args.toList ds gs before)
    (hsz : (DataW.weightsEach Try.prog (Try.f8.params.toList ++ Rows.fieldTwiceSpec.plain.varTypes Try.prog) (ds ++ gs)).all (· ≤ reachBytes) = true) :
    Calls Try.prog 8 args W fun e W' => ∃ v, e = .returned v ∧ Rows.fieldTwiceSpec.post enc Try.prog Try.f8 false true false false W args v W' := by
  have hW' := hW
  obtain ⟨p, q, hA0, hV, rfl, hfz, hnd⟩ := hW
  have hA : DataW.TrodAll enc Try.prog W 0 (fun _ => true) true Try.f8.params.toList args.toList ds p := hA0
  rw [Try.params8] at hA hval hsz
  obtain ⟨v0, vs0, d0, ds0, p0, q0, hargs, rfl, rfl, h0, r0⟩ := trodAll_cons hA
  obtain ⟨rfl, rfl, rfl⟩ := trodAll_nil r0
  obtain rfl : args = #[v0] := by cases args; simp_all
  obtain ⟨rfl, rfl⟩ := trodVars_none hV
  obtain ⟨x0, rfl, rfl, rfl, hs0⟩ := open_string Try.underlying9 (hval 0 9 v0 rfl rfl) h0
  clear hA0
  simp only [List.append_nil] at hW' hsz
  have hl0 : x0.data.toList.length ≤ 140737488351232 := by
    have := sized_string hsz (j := 0) (t := 9) rfl rfl
    simp only [reachBytes] at this
    omega
  refine (walk x0.data.toList hl0 W).mono fun e W' ⟨he, hg⟩ => ?_
  subst he
  exact ⟨_, rfl, post_below (pa := []) (pv := []) hW' hg (fun _ _ _ => trodAll_cons_mk (shut_bool Try.underlying4 _) trodAll_mk0) (fun _ _ => trodAll_cons_mk (shut_string Try.underlying9 hs0) trodAll_mk0) (fun _ _ => rfl) rfl
    (ok_one (by kernel_rfl) rfl (okWide_bool_mk Try.underlying4 _))⟩
set_option maxRecDepth 100000 in
theorem lifted (os : Os) (started : os.Started) (H : Type) (enc : TypeId × Value → H) :
    ReturnsInHanded {} Try.checked os 8 .any (Rows.fieldTwiceSpec.pre6 enc Try.prog Try.f8 Rows.fieldTwiceRow.domain false) (Rows.fieldTwiceSpec.post enc Try.prog Try.f8 false true false false) := by
  refine returnsInHanded_of_change_sized (C := Try.checked) own started (by kernel_rfl) Try.func8
    (ChangeSpec.witness6 (enc := enc) (C := Try.checked) false ⟨#[], #[.string ⟨#[]⟩], []⟩ 8 (by kernel_rfl) (by kernel_rfl) (by kernel_rfl) (by kernel_rfl)) ?_
  intro W base args ds gs before hval hW _ hsz _
  exact contract H enc W base args ds gs before hval hW hsz
theorem proved : Rows.FieldTwiceSaid :=
  OpenClaim.holds_of_wide 8 Try.f8 rfl rfl rfl rfl rfl rfl rfl ⟨rfl, rfl, rfl, rfl, rfl⟩ rfl rfl rfl rfl rfl (by kernel_rfl) Try.func8 (by kernel_rfl)
    (of_decide_eq_true (by kernel_rfl)) (by unfold Func.isWrapper; first | (rw [if_pos (by decide +kernel)]; kernel_rfl) | (rw [if_neg (by decide +kernel)]; exact ⟨rfl, rfl⟩))
    (fun os started H enc _ => lifted os started H enc)
#print axioms proved
end Go.Proofs.Ytbkaemekcjinaaa.fieldTwice
