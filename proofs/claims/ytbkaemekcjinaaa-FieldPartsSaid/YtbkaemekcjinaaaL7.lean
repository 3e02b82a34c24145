/- FieldParts, for every input that can be read: the law answers true: a product with an element that is not 0 comes from one element alone: times the inverse it is that. -/
import Derived.Test.YtbkaemekcjinaaaRows
import Derived.Test.YtbkaemekcjinaaaFK
import Derived.Test.YtbkaemekcjinaaaRow
import Derived.ProofKit
import Derived.OpenShut
import Derived.SizedLaws
import Derived.JoinedOf
import Derived.JoinedAt
import Derived.JoinedCond
namespace Go.Proofs.Ytbkaemekcjinaaa.fieldParts
open Go.ChangeShapes Go.WideShapes Go.ChangeAt Go.RowKit
set_option linter.unusedSimpArgs false
set_option linter.unusedVariables false
open Go.ChangeMaps (open_string shut_string)
set_option maxRecDepth 100000 in
set_option maxHeartbeats 3200000 in
theorem walk_no0 (a : List UInt8) (b : List UInt8) (ha : isEl a = false) (wS : World) : Calls Try.prog 9 #[.string (S a), .string (S b)] wS (BoolPost true wS) := by
  have H := AMem.start wS
  have ca := fun w => is_any a w
  rw [ha] at ca
  clear ha
  generalize S a = sa at ca ⊢
  generalize S b = sb 
  replace ca := Kept.mk ca
  go_enter Try.func9, Try.ntmps9
  go_wp2_with (first
    | (go_at_call 12; with_reducible refine a_call (by assumption) (fixed_any _) ?_; intro w H)
    | (go_at_call 13; with_reducible refine a_call (by assumption) (ca.out _) ?_; intro w H))
  go_ret
  exact ⟨rfl, H.below⟩
set_option maxRecDepth 100000 in
set_option maxHeartbeats 3200000 in
theorem walk_no1 (a : List UInt8) (b : List UInt8) (ha : isEl a = true) (hb : isEl b = false) (wS : World) : Calls Try.prog 9 #[.string (S a), .string (S b)] wS (BoolPost true wS) := by
  have H := AMem.start wS
  have ca := fun w => is_any a w
  rw [ha] at ca
  clear ha
  have cb := fun w => is_any b w
  rw [hb] at cb
  clear hb
  generalize S a = sa at ca ⊢
  generalize S b = sb at cb ⊢
  replace ca := Kept.mk ca
  replace cb := Kept.mk cb
  go_enter Try.func9, Try.ntmps9
  go_wp2_with (first
    | (go_at_call 12; with_reducible refine a_call (by assumption) (fixed_any _) ?_; intro w H)
    | (go_at_call 13; with_reducible refine a_call (by assumption) (ca.out _) ?_; intro w H)
    | (go_at_call 13; with_reducible refine a_call (by assumption) (cb.out _) ?_; intro w H))
  go_ret
  exact ⟨rfl, H.below⟩
set_option maxRecDepth 100000 in
set_option maxHeartbeats 6400000 in
theorem walk_zero (a : Nat) (ha : a < pF) (wS : World) : Calls Try.prog 9 #[E a, E 0] wS (BoolPost true wS) := by
  have H := AMem.start wS
  have i1 := fun w => isE a ha w
  have i2 := fun w => isE 0 p_pos w
  have n0 := fun w => num_any 0 (by omega) w
  rw [show ((0 : Nat) : Int) = 0 from rfl] at n0
  unfold BytesPost at n0
  unfold E at i1 i2 ⊢
  clear ha
  generalize S (leB a) = sa at i1 ⊢
  generalize S (leB 0) = s0 at i2 n0 ⊢
  replace i1 := Kept.mk i1
  replace i2 := Kept.mk i2
  replace n0 := Kept.mk n0
  go_enter Try.func9, Try.ntmps9
  go_wp2_with (first
    | (go_at_call 12; with_reducible refine a_call (by assumption) (fixed_any _) ?_; intro w H)
    | (go_at_call 13; with_reducible refine a_call (by assumption) (i1.out _) ?_; intro w H)
    | (go_at_call 13; with_reducible refine a_call (by assumption) (i2.out _) ?_; intro w H)
    | (go_at_call 25; with_reducible refine a_call (by assumption) (n0.out _) ?_; intro w H))
  go_ret
  exact ⟨rfl, H.below⟩
set_option maxRecDepth 100000 in
set_option maxHeartbeats 6400000 in
theorem walk_a0 (a b : Nat) (ha : a < pF) (hb : b < pF) (h0 : b ≠ 0) (hz : a = 0) (wS : World) : Calls Try.prog 9 #[E a, E b] wS (BoolPost true wS) := by
  have H := AMem.start wS
  have k1 := fun w => mulE a b ha hb w
  have k2 := fun w => invE b hb w
  have k3 := fun w => mulE (a * b % pF) (invF b) (Nat.mod_lt _ p_pos) (invF_lt b) w
  rw [quot a b ha h0 hb] at k3
  have k4 := fun w => invE (invF b) (invF_lt b) w
  rw [inv_inv b h0 hb] at k4
  have i1 := fun w => isE a ha w
  have i2 := fun w => isE b hb w
  have n0 := fun w => num_any 0 (by omega) w
  rw [show ((0 : Nat) : Int) = 0 from rfl] at n0
  unfold BytesPost at n0
  have e1 := E_ne hb p_pos h0
  have hab : a * b % pF = 0 := by rw [hz, Nat.zero_mul, Nat.zero_mod]
  rw [hab] at k1 k3
  subst hz
  unfold EP E at k1 k2 k3 k4
  unfold E at i1 i2 ⊢
  generalize invF b = i at k2 k3 k4
  clear ha hb h0 hab
  generalize S (leB i) = si at k2 k3 k4
  generalize S (leB b) = sb at k1 k2 k4 i2 e1 ⊢
  generalize S (leB 0) = s0 at *
  replace k1 := Kept.mk k1
  replace k2 := Kept.mk k2
  replace k3 := Kept.mk k3
  replace k4 := Kept.mk k4
  replace i1 := Kept.mk i1
  replace i2 := Kept.mk i2
  replace n0 := Kept.mk n0
  go_enter Try.func9, Try.ntmps9
  go_wp2_with (first
    | (go_at_call 12; with_reducible refine a_call (by assumption) (fixed_any _) ?_; intro w H)
    | (go_at_call 19; with_reducible refine a_call (by assumption) (k1.out _) ?_; intro w H)
    | (go_at_call 19; with_reducible refine a_call (by assumption) (k3.out _) ?_; intro w H)
    | (go_at_call 21; with_reducible refine a_call (by assumption) (k2.out _) ?_; intro w H)
    | (go_at_call 21; with_reducible refine a_call (by assumption) (k4.out _) ?_; intro w H)
    | (go_at_call 13; with_reducible refine a_call (by assumption) (i1.out _) ?_; intro w H)
    | (go_at_call 13; with_reducible refine a_call (by assumption) (i2.out _) ?_; intro w H)
    | (go_at_call 25; with_reducible refine a_call (by assumption) (n0.out _) ?_; intro w H))
  go_ret
  exact ⟨rfl, H.below⟩
set_option maxRecDepth 100000 in
set_option maxHeartbeats 6400000 in
theorem walk_a1 (a b : Nat) (ha : a < pF) (hb : b < pF) (h0 : b ≠ 0) (hz : a ≠ 0) (wS : World) : Calls Try.prog 9 #[E a, E b] wS (BoolPost true wS) := by
  have H := AMem.start wS
  have k1 := fun w => mulE a b ha hb w
  have k2 := fun w => invE b hb w
  have k3 := fun w => mulE (a * b % pF) (invF b) (Nat.mod_lt _ p_pos) (invF_lt b) w
  rw [quot a b ha h0 hb] at k3
  have k4 := fun w => invE (invF b) (invF_lt b) w
  rw [inv_inv b h0 hb] at k4
  have i1 := fun w => isE a ha w
  have i2 := fun w => isE b hb w
  have n0 := fun w => num_any 0 (by omega) w
  rw [show ((0 : Nat) : Int) = 0 from rfl] at n0
  unfold BytesPost at n0
  have e1 := E_ne hb p_pos h0
  have e2 := E_ne ha p_pos hz
  have e3 := E_ne (Nat.mod_lt (a * b) p_pos) p_pos (mul_ne a b hz h0 ha hb)
  generalize a * b % pF = p at k1 k3 e3
  unfold EP E at k1 k2 k3 k4
  unfold E at i1 i2 ⊢
  generalize invF b = i at k2 k3 k4
  clear ha hb h0 hz
  generalize S (leB p) = sp at k1 k3 e3
  generalize S (leB a) = sa at k1 k3 i1 e2 ⊢
  generalize S (leB i) = si at k2 k3 k4
  generalize S (leB b) = sb at k1 k2 k4 i2 e1 ⊢
  generalize S (leB 0) = s0 at *
  replace k1 := Kept.mk k1
  replace k2 := Kept.mk k2
  replace k3 := Kept.mk k3
  replace k4 := Kept.mk k4
  replace i1 := Kept.mk i1
  replace i2 := Kept.mk i2
  replace n0 := Kept.mk n0
  go_enter Try.func9, Try.ntmps9
  go_wp2_with (first
    | (go_at_call 12; with_reducible refine a_call (by assumption) (fixed_any _) ?_; intro w H)
    | (go_at_call 19; with_reducible refine a_call (by assumption) (k1.out _) ?_; intro w H)
    | (go_at_call 19; with_reducible refine a_call (by assumption) (k3.out _) ?_; intro w H)
    | (go_at_call 21; with_reducible refine a_call (by assumption) (k2.out _) ?_; intro w H)
    | (go_at_call 21; with_reducible refine a_call (by assumption) (k4.out _) ?_; intro w H)
    | (go_at_call 13; with_reducible refine a_call (by assumption) (i1.out _) ?_; intro w H)
    | (go_at_call 13; with_reducible refine a_call (by assumption) (i2.out _) ?_; intro w H)
    | (go_at_call 25; with_reducible refine a_call (by assumption) (n0.out _) ?_; intro w H))
  go_ret
  exact ⟨rfl, H.below⟩
theorem walk (a b : List UInt8) (ha : a.length ≤ 140737488351232) (hb : b.length ≤ 140737488351232) (w : World) :
    Calls Try.prog 9 #[.string (S a), .string (S b)] w fun e w' => e = .returned (.bool true) ∧ Below w.heap.size w w' := by
  cases h1 : isEl a
  · exact walk_no0 a b h1 w
  cases h2 : isEl b
  · exact walk_no1 a b h1 h2 w
  have e1 : (Value.string (S a)) = E (numB a) := by unfold E; rw [← E_of h1]
  have e2 : (Value.string (S b)) = E (numB b) := by unfold E; rw [← E_of h2]
  rw [e1, e2]
  by_cases hb0 : numB b = 0
  · rw [hb0]; exact walk_zero (numB a) (isEl_lt h1) w
  by_cases ha0 : numB a = 0
  · exact walk_a0 _ _ (isEl_lt h1) (isEl_lt h2) hb0 ha0 w
  · exact walk_a1 _ _ (isEl_lt h1) (isEl_lt h2) hb0 ha0 w
theorem own : ownKnob Try.prog.godebug = none := by kernel_rfl
theorem contract (H : Type) (enc : TypeId × Value → H) (W : World) (base : Nat) (args : Array Value) (ds gs : List (DataW H)) (before : List MemPlace)
    (hval : ∀ (j : Nat) t v, Try.f9.params[j]? = some t → args[j]? = some v → Value.okWide Try.prog W .any base t v)
    (hW : DataW.Whole enc Try.prog Try.f9.params.toList Rows.fieldPartsSpec.vars false W args.toList ds gs before)
    (hsz : (DataW.weightsEach Try.prog (Try.f9.params.toList ++ Rows.fieldPartsSpec.plain.varTypes Try.prog) (ds ++ gs)).all (· ≤ reachBytes) = true) :
    Calls Try.prog 9 args W fun e W' => ∃ v, e = .returned v ∧ Rows.fieldPartsSpec.post enc Try.prog Try.f9 false true false false W args v W' := by
  have hW' := hW
  obtain ⟨p, q, hA0, hV, rfl, hfz, hnd⟩ := hW
  have hA : DataW.TrodAll enc Try.prog W 0 (fun _ => true) true Try.f9.params.toList args.toList ds p := hA0
  rw [Try.params9] at hA hval hsz
  obtain ⟨v0, vs0, d0, ds0, p0, q0, hargs, rfl, rfl, h0, r0⟩ := trodAll_cons hA
  obtain ⟨v1, vs1, d1, ds1, p1, q1, rfl, rfl, rfl, h1, r1⟩ := trodAll_cons r0
  obtain ⟨rfl, rfl, rfl⟩ := trodAll_nil r1
  obtain rfl : args = #[v0, v1] := by cases args; simp_all
  obtain ⟨rfl, rfl⟩ := trodVars_none hV
  obtain ⟨x0, rfl, rfl, rfl, hs0⟩ := open_string Try.underlying9 (hval 0 9 v0 rfl rfl) h0
  obtain ⟨x1, rfl, rfl, rfl, hs1⟩ := open_string Try.underlying9 (hval 1 9 v1 rfl rfl) h1
  clear hA0
  simp only [List.append_nil] at hW' hsz
  have hl0 : x0.data.toList.length ≤ 140737488351232 := by
    have := sized_string hsz (j := 0) (t := 9) rfl rfl
    simp only [reachBytes] at this
    omega
  have hl1 : x1.data.toList.length ≤ 140737488351232 := by
    have := sized_string hsz (j := 1) (t := 9) rfl rfl
    simp only [reachBytes] at this
    omega
  refine (walk x0.data.toList x1.data.toList hl0 hl1 W).mono fun e W' ⟨he, hg⟩ => ?_
  subst he
  exact ⟨_, rfl, post_below (pa := []) (pv := []) hW' hg (fun _ _ _ => trodAll_cons_mk (shut_bool Try.underlying4 _) trodAll_mk0) (fun _ _ => trodAll_cons_mk (shut_string Try.underlying9 hs0) (trodAll_cons_mk (shut_string Try.underlying9 hs1) trodAll_mk0)) (fun _ _ => rfl) rfl
    (ok_one (by kernel_rfl) rfl (okWide_bool_mk Try.underlying4 _))⟩
set_option maxRecDepth 100000 in
theorem lifted (os : Os) (started : os.Started) (H : Type) (enc : TypeId × Value → H) :
    ReturnsInHanded {} Try.checked os 9 .any (Rows.fieldPartsSpec.pre6 enc Try.prog Try.f9 Rows.fieldPartsRow.domain false) (Rows.fieldPartsSpec.post enc Try.prog Try.f9 false true false false) := by
  refine returnsInHanded_of_change_sized (C := Try.checked) own started (by kernel_rfl) Try.func9
    (ChangeSpec.witness6 (enc := enc) (C := Try.checked) false ⟨#[], #[.string ⟨#[]⟩, .string ⟨#[]⟩], []⟩ 8 (by kernel_rfl) (by kernel_rfl) (by kernel_rfl) (by kernel_rfl)) ?_
  intro W base args ds gs before hval hW _ hsz _
  exact contract H enc W base args ds gs before hval hW hsz
theorem proved : Rows.FieldPartsSaid :=
  OpenClaim.holds_of_wide 9 Try.f9 rfl rfl rfl rfl rfl rfl rfl ⟨rfl, rfl, rfl, rfl, rfl⟩ rfl rfl rfl rfl rfl (by kernel_rfl) Try.func9 (by kernel_rfl)
    (of_decide_eq_true (by kernel_rfl)) (by unfold Func.isWrapper; first | (rw [if_pos (by decide +kernel)]; kernel_rfl) | (rw [if_neg (by decide +kernel)]; exact ⟨rfl, rfl⟩))
    (fun os started H enc _ => lifted os started H enc)
#print axioms proved
end Go.Proofs.Ytbkaemekcjinaaa.fieldParts
