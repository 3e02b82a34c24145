/- FieldRoots, for every input that can be read: the law answers true: the inverse of any element, whether it has a root, and the root that is even, are as the document says. -/
import Derived.Test.YtbkaemekcjinaaaRows
import Derived.Test.YtbkaemekcjinaaaR7
import Derived.Test.YtbkaemekcjinaaaR14
import Derived.Test.YtbkaemekcjinaaaRow
import Derived.ProofKit
import Derived.OpenShut
import Derived.SizedLaws
import Derived.JoinedOf
import Derived.JoinedAt
import Derived.JoinedCond
namespace Go.Proofs.Ytbkaemekcjinaaa.fieldRoots
open Go.ChangeShapes Go.WideShapes Go.ChangeAt Go.RowKit
set_option linter.unusedSimpArgs false
set_option linter.unusedVariables false
open Go.ChangeMaps (open_string shut_string)
set_option maxRecDepth 100000 in
set_option maxHeartbeats 6400000 in
theorem core (sa r1 r2 : ByteArray) (b : Bool) (n m : Int) (c1 : ∀ w, Calls Try.prog 21 #[.string sa] w fun e w' => e = .returned (.tuple #[.string r1, .int .i64 n]) ∧ Below w.heap.size w w') (c2 : ∀ w, Calls Try.prog 22 #[.string sa] w fun e w' => e = .returned (.tuple #[.string r1, .int .i64 n]) ∧ Below w.heap.size w w') (c3 : ∀ w, Calls Try.prog 23 #[.string sa] w fun e w' => e = .returned (.tuple #[.string r2, .bool b, .int .i64 m]) ∧ Below w.heap.size w w') (c4 : ∀ w, Calls Try.prog 24 #[.string sa] w fun e w' => e = .returned (.tuple #[.string r2, .bool b, .int .i64 m]) ∧ Below w.heap.size w w') (wS : World) :
    Calls Try.prog 5 #[.string sa] wS (BoolPost true wS) := by
  have H := AMem.start wS
  replace c1 := Kept.mk c1
  replace c2 := Kept.mk c2
  replace c3 := Kept.mk c3
  replace c4 := Kept.mk c4
  go_enter Try.func5, Try.ntmps5
  go_wp2_with (first
    | (go_at_call 12; with_reducible refine a_call (by assumption) (fixed_any _) ?_; intro w H)
    | (go_at_call 21; with_reducible refine a_call (by assumption) (c1.out _) ?_; intro w H)
    | (go_at_call 22; with_reducible refine a_call (by assumption) (c2.out _) ?_; intro w H)
    | (go_at_call 23; with_reducible refine a_call (by assumption) (c3.out _) ?_; intro w H)
    | (go_at_call 24; with_reducible refine a_call (by assumption) (c4.out _) ?_; intro w H))
  go_ret
  exact ⟨rfl, H.below⟩
theorem invP (l : List UInt8) (h : isEl l = true) (w : World) : Calls Try.prog 21 #[.string (S l)] w (StrPost (leB (invF (numB l))) 0 w) := by
  have c := inv_ok l h w
  rw [invN_pow _ (Nat.lt_trans (isEl_lt h) p_big)] at c
  exact c
theorem rootP_yes (l : List UInt8) (h : isEl l = true) (hq : cand (numB l) * cand (numB l) % pF = numB l) (w : World) : Calls Try.prog 23 #[.string (S l)] w (RPost (leB (evenN (cand (numB l)))) true 0 w) := by
  have c := rootC_yes l h (by rw [r1N_sq _ (isEl_lt h)]; exact hq) w
  rw [r1N_mod _ (isEl_lt h)] at c
  exact c
theorem rootP_no (l : List UInt8) (h : isEl l = true) (hq : ¬ cand (numB l) * cand (numB l) % pF = numB l) (w : World) : Calls Try.prog 23 #[.string (S l)] w (RPost [] false 0 w) :=
  rootC_no l h (by rw [r1N_sq _ (isEl_lt h)]; exact hq) w
theorem walk (a : List UInt8) (ha : a.length ≤ 140737488351232) (w : World) :
    Calls Try.prog 5 #[.string (S a)] w fun e w' => e = .returned (.bool true) ∧ Below w.heap.size w w' := by
  cases h : isEl a
  · exact core (S a) _ _ false 40 40 (fun w => inv_bad a h w) (fun w => InvR_bad a h w) (fun w => rootC_bad a h w) (fun w => RootR_bad a h w) w
  · by_cases hq : cand (numB a) * cand (numB a) % pF = numB a
    · exact core (S a) _ _ true 0 0 (fun w => invP a h w) (fun w => InvR_ok a h w) (fun w => rootP_yes a h hq w) (fun w => RootR_yes a h hq w) w
    · exact core (S a) _ _ false 0 0 (fun w => invP a h w) (fun w => InvR_ok a h w) (fun w => rootP_no a h hq w) (fun w => RootR_no a h hq w) w
theorem own : ownKnob Try.prog.godebug = none := by kernel_rfl
theorem contract (H : Type) (enc : TypeId × Value → H) (W : World) (base : Nat) (args : Array Value) (ds gs : List (DataW H)) (before : List MemPlace)
    (hval : ∀ (j : Nat) t v, Try.f5.params[j]? = some t → args[j]? = some v → Value.okWide Try.prog W .any base t v)
    (hW : DataW.Whole enc Try.prog Try.f5.params.toList Rows.fieldRootsSpec.vars false W args.toList ds gs before)
    (hsz : (DataW.weightsEach Try.prog (Try.f5.params.toList ++ Rows.fieldRootsSpec.plain.varTypes Try.prog) (ds ++ gs)).all (· ≤ reachBytes) = true) :
    Calls Try.prog 5 args W fun e W' => ∃ v, e = .returned v ∧ Rows.fieldRootsSpec.post enc Try.prog Try.f5 false true false false W args v W' := by
  have hW' := hW
  obtain ⟨p, q, hA0, hV, rfl, hfz, hnd⟩ := hW
  have hA : DataW.TrodAll enc Try.prog W 0 (fun _ => true) true Try.f5.params.toList args.toList ds p := hA0
  rw [Try.params5] at hA hval hsz
  obtain ⟨v0, vs0, d0, ds0, p0, q0, hargs, rfl, rfl, h0, r0⟩ := trodAll_cons hA
  obtain ⟨rfl, rfl, rfl⟩ := trodAll_nil r0
  obtain rfl : args = #[v0] := by cases args; simp_all
  obtain ⟨rfl, rfl⟩ := trodVars_none hV
  obtain ⟨x0, rfl, rfl, rfl, hs0⟩ := open_string Try.underlying9 (hval 0 9 v0 rfl rfl) h0
  clear hA0
  simp only [List.append_nil] at hW' hsz
  have hl0 : x0.data.toList.length ≤ 140737488351232 := by
    have := sized_string hsz (j := 0) (t := 9) rfl rfl
    simp only [reachBytes] at this
    omega
  refine (walk x0.data.toList hl0 W).mono fun e W' ⟨he, hg⟩ => ?_
  subst he
  exact ⟨_, rfl, post_below (pa := []) (pv := []) hW' hg (fun _ _ _ => trodAll_cons_mk (shut_bool Try.underlying4 _) trodAll_mk0) (fun _ _ => trodAll_cons_mk (shut_string Try.underlying9 hs0) trodAll_mk0) (fun _ _ => rfl) rfl
    (ok_one (by kernel_rfl) rfl (okWide_bool_mk Try.underlying4 _))⟩
set_option maxRecDepth 100000 in
theorem lifted (os : Os) (started : os.Started) (H : Type) (enc : TypeId × Value → H) :
    ReturnsInHanded {} Try.checked os 5 .any (Rows.fieldRootsSpec.pre6 enc Try.prog Try.f5 Rows.fieldRootsRow.domain false) (Rows.fieldRootsSpec.post enc Try.prog Try.f5 false true false false) := by
  refine returnsInHanded_of_change_sized (C := Try.checked) own started (by kernel_rfl) Try.func5
    (ChangeSpec.witness6 (enc := enc) (C := Try.checked) false ⟨#[], #[.string ⟨#[]⟩], []⟩ 8 (by kernel_rfl) (by kernel_rfl) (by kernel_rfl) (by kernel_rfl)) ?_
  intro W base args ds gs before hval hW _ hsz _
  exact contract H enc W base args ds gs before hval hW hsz
theorem proved : Rows.FieldRootsSaid :=
  OpenClaim.holds_of_wide 5 Try.f5 rfl rfl rfl rfl rfl rfl rfl ⟨rfl, rfl, rfl, rfl, rfl⟩ rfl rfl rfl rfl rfl (by kernel_rfl) Try.func5 (by kernel_rfl)
    (of_decide_eq_true (by kernel_rfl)) (by unfold Func.isWrapper; first | (rw [if_pos (by decide +kernel)]; kernel_rfl) | (rw [if_neg (by decide +kernel)]; exact ⟨rfl, rfl⟩))
    (fun os started H enc _ => lifted os started H enc)
#print axioms proved
end Go.Proofs.Ytbkaemekcjinaaa.fieldRoots
