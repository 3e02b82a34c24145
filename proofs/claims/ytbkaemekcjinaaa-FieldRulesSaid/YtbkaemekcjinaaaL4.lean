/- FieldRules, for every input that can be read: the law answers true: sums and products of any elements may be turned about and put together otherwise, a product with a sum is the sum of the products, a difference with what was taken away is the element. -/
import Derived.Test.YtbkaemekcjinaaaRows
import Derived.Test.YtbkaemekcjinaaaR7
import Derived.Test.YtbkaemekcjinaaaRow
import Derived.ProofKit
import Derived.OpenShut
import Derived.SizedLaws
import Derived.JoinedOf
import Derived.JoinedAt
import Derived.JoinedCond
namespace Go.Proofs.Ytbkaemekcjinaaa.fieldRules
open Go.ChangeShapes Go.WideShapes Go.ChangeAt Go.RowKit
set_option linter.unusedSimpArgs false
set_option linter.unusedVariables false
open Go.ChangeMaps (open_string shut_string)
set_option maxRecDepth 100000 in
set_option maxHeartbeats 3200000 in
theorem walk_no0 (a : List UInt8) (b : List UInt8) (c : List UInt8) (ha : isEl a = false) (wS : World) : Calls Try.prog 6 #[.string (S a), .string (S b), .string (S c)] wS (BoolPost true wS) := by
  have H := AMem.start wS
  have ca := fun w => is_any a w
  rw [ha] at ca
  clear ha
  generalize S a = sa at ca ⊢
  generalize S b = sb 
  generalize S c = sc 
  replace ca := Kept.mk ca
  go_enter Try.func6, Try.ntmps6
  go_wp2_with (first
    | (go_at_call 12; with_reducible refine a_call (by assumption) (fixed_any _) ?_; intro w H)
    | (go_at_call 13; with_reducible refine a_call (by assumption) (ca.out _) ?_; intro w H))
  go_ret
  exact ⟨rfl, H.below⟩
set_option maxRecDepth 100000 in
set_option maxHeartbeats 3200000 in
theorem walk_no1 (a : List UInt8) (b : List UInt8) (c : List UInt8) (ha : isEl a = true) (hb : isEl b = false) (wS : World) : Calls Try.prog 6 #[.string (S a), .string (S b), .string (S c)] wS (BoolPost true wS) := by
  have H := AMem.start wS
  have ca := fun w => is_any a w
  rw [ha] at ca
  clear ha
  have cb := fun w => is_any b w
  rw [hb] at cb
  clear hb
  generalize S a = sa at ca ⊢
  generalize S b = sb at cb ⊢
  generalize S c = sc 
  replace ca := Kept.mk ca
  replace cb := Kept.mk cb
  go_enter Try.func6, Try.ntmps6
  go_wp2_with (first
    | (go_at_call 12; with_reducible refine a_call (by assumption) (fixed_any _) ?_; intro w H)
    | (go_at_call 13; with_reducible refine a_call (by assumption) (ca.out _) ?_; intro w H)
    | (go_at_call 13; with_reducible refine a_call (by assumption) (cb.out _) ?_; intro w H))
  go_ret
  exact ⟨rfl, H.below⟩
set_option maxRecDepth 100000 in
set_option maxHeartbeats 3200000 in
theorem walk_no2 (a : List UInt8) (b : List UInt8) (c : List UInt8) (ha : isEl a = true) (hb : isEl b = true) (hc : isEl c = false) (wS : World) : Calls Try.prog 6 #[.string (S a), .string (S b), .string (S c)] wS (BoolPost true wS) := by
  have H := AMem.start wS
  have ca := fun w => is_any a w
  rw [ha] at ca
  clear ha
  have cb := fun w => is_any b w
  rw [hb] at cb
  clear hb
  have cc := fun w => is_any c w
  rw [hc] at cc
  clear hc
  generalize S a = sa at ca ⊢
  generalize S b = sb at cb ⊢
  generalize S c = sc at cc ⊢
  replace ca := Kept.mk ca
  replace cb := Kept.mk cb
  replace cc := Kept.mk cc
  go_enter Try.func6, Try.ntmps6
  go_wp2_with (first
    | (go_at_call 12; with_reducible refine a_call (by assumption) (fixed_any _) ?_; intro w H)
    | (go_at_call 13; with_reducible refine a_call (by assumption) (ca.out _) ?_; intro w H)
    | (go_at_call 13; with_reducible refine a_call (by assumption) (cb.out _) ?_; intro w H)
    | (go_at_call 13; with_reducible refine a_call (by assumption) (cc.out _) ?_; intro w H))
  go_ret
  exact ⟨rfl, H.below⟩
theorem addm (a b c : Nat) : ((a + b) % pF + c) % pF = (a + (b + c) % pF) % pF := by
  rw [Nat.mod_add_mod, Nat.add_mod_mod, Nat.add_assoc]
theorem mulm3 (a b c : Nat) : (a * b % pF) * c % pF = a * (b * c % pF) % pF := by
  rw [Nat.mod_mul_mod, Nat.mul_mod_mod, Nat.mul_assoc]
theorem distm (a b c : Nat) : a * ((b + c) % pF) % pF = (a * b % pF + a * c % pF) % pF := by
  rw [Nat.mul_mod_mod, Nat.mul_add, ← Nat.add_mod]
theorem backm (a b : Nat) (ha : a < pF) (hb : b < pF) : ((a + (pF - b)) % pF + b) % pF = a := by
  rw [Nat.mod_add_mod, Nat.add_assoc, Nat.sub_add_cancel (Nat.le_of_lt hb), Nat.add_mod_right, Nat.mod_eq_of_lt ha]
theorem ml (x : Nat) : x % pF < pF := Nat.mod_lt _ p_pos
set_option maxRecDepth 100000 in
set_option maxHeartbeats 6400000 in
theorem walk_yes (a b c : Nat) (ha : a < pF) (hb : b < pF) (hc : c < pF) (wS : World) : Calls Try.prog 6 #[E a, E b, E c] wS (BoolPost true wS) := by
  have H := AMem.start wS
  obtain ⟨ab, eab⟩ : ∃ x, (a + b) % pF = x := ⟨_, rfl⟩
  obtain ⟨bc, ebc⟩ : ∃ x, (b + c) % pF = x := ⟨_, rfl⟩
  obtain ⟨pab, epab⟩ : ∃ x, a * b % pF = x := ⟨_, rfl⟩
  obtain ⟨pbc, epbc⟩ : ∃ x, b * c % pF = x := ⟨_, rfl⟩
  obtain ⟨pac, epac⟩ : ∃ x, a * c % pF = x := ⟨_, rfl⟩
  obtain ⟨d, ed⟩ : ∃ x, (a + (pF - b)) % pF = x := ⟨_, rfl⟩
  have lab : ab < pF := eab ▸ ml _
  have lbc : bc < pF := ebc ▸ ml _
  have lpab : pab < pF := epab ▸ ml _
  have lpbc : pbc < pF := epbc ▸ ml _
  have lpac : pac < pF := epac ▸ ml _
  have ld : d < pF := ed ▸ ml _
  have t1 := addm a b c
  have t2 := mulm3 a b c
  have t3 := distm a b c
  have t4 := backm a b ha hb
  rw [eab, ebc] at t1
  rw [epab, epbc] at t2
  rw [ebc, epab, epac] at t3
  rw [ed] at t4
  have k1 := fun w => addE a b ha hb w
  have k2 := fun w => addE b a hb ha w
  have k3 := fun w => addE b c hb hc w
  have k4 := fun w => addE ab c lab hc w
  have k5 := fun w => addE a bc ha lbc w
  have k6 := fun w => mulE a b ha hb w
  have k7 := fun w => mulE b a hb ha w
  have k8 := fun w => mulE b c hb hc w
  have k9 := fun w => mulE a c ha hc w
  have k10 := fun w => mulE pab c lpab hc w
  have k11 := fun w => mulE a pbc ha lpbc w
  have k12 := fun w => mulE a bc ha lbc w
  have k13 := fun w => addE pab pac lpab lpac w
  have k14 := fun w => subE a b ha hb w
  have k15 := fun w => addE d b ld hb w
  have i1 := fun w => isE a ha w
  have i2 := fun w => isE b hb w
  have i3 := fun w => isE c hc w
  have i4 := fun w => isE ab lab w
  have i5 := fun w => isE pab lpab w
  have i6 := fun w => isE d ld w
  rw [eab] at k1
  rw [Nat.add_comm b a, eab] at k2
  rw [ebc] at k3
  rw [t1] at k4
  rw [epab] at k6
  rw [Nat.mul_comm b a, epab] at k7
  rw [epbc] at k8
  rw [epac] at k9
  rw [t2] at k10
  rw [t3] at k12
  rw [ed] at k14
  rw [t4] at k15
  unfold EP E at k1 k2 k3 k4 k5 k6 k7 k8 k9 k10 k11 k12 k13 k14 k15
  unfold E at i1 i2 i3 i4 i5 i6 ⊢
  clear t1 t2 t3 t4 eab ebc epab epbc epac ed lab lbc lpab lpbc lpac ld ha hb hc
  generalize S (leB ((a + bc) % pF)) = sx at k4 k5
  generalize S (leB (a * pbc % pF)) = su at k10 k11
  generalize S (leB ((pab + pac) % pF)) = sl at k12 k13
  generalize S (leB a) = sa at *
  generalize S (leB b) = sb at *
  generalize S (leB c) = sc at *
  generalize S (leB ab) = sab at *
  generalize S (leB bc) = sbc at *
  generalize S (leB pab) = spab at *
  generalize S (leB pbc) = spbc at *
  generalize S (leB pac) = spac at *
  generalize S (leB d) = sd at *
  replace k1 := Kept.mk k1
  replace k2 := Kept.mk k2
  replace k3 := Kept.mk k3
  replace k4 := Kept.mk k4
  replace k5 := Kept.mk k5
  replace k6 := Kept.mk k6
  replace k7 := Kept.mk k7
  replace k8 := Kept.mk k8
  replace k9 := Kept.mk k9
  replace k10 := Kept.mk k10
  replace k11 := Kept.mk k11
  replace k12 := Kept.mk k12
  replace k13 := Kept.mk k13
  replace k14 := Kept.mk k14
  replace k15 := Kept.mk k15
  replace i1 := Kept.mk i1
  replace i2 := Kept.mk i2
  replace i3 := Kept.mk i3
  replace i4 := Kept.mk i4
  replace i5 := Kept.mk i5
  replace i6 := Kept.mk i6
  go_enter Try.func6, Try.ntmps6
  go_wp2_with (first
    | (go_at_call 12; with_reducible refine a_call (by assumption) (fixed_any _) ?_; intro w H)
    | (go_at_call 15; with_reducible refine a_call (by assumption) (k1.out _) ?_; intro w H)
    | (go_at_call 15; with_reducible refine a_call (by assumption) (k2.out _) ?_; intro w H)
    | (go_at_call 15; with_reducible refine a_call (by assumption) (k3.out _) ?_; intro w H)
    | (go_at_call 15; with_reducible refine a_call (by assumption) (k4.out _) ?_; intro w H)
    | (go_at_call 15; with_reducible refine a_call (by assumption) (k5.out _) ?_; intro w H)
    | (go_at_call 15; with_reducible refine a_call (by assumption) (k13.out _) ?_; intro w H)
    | (go_at_call 15; with_reducible refine a_call (by assumption) (k15.out _) ?_; intro w H)
    | (go_at_call 19; with_reducible refine a_call (by assumption) (k6.out _) ?_; intro w H)
    | (go_at_call 19; with_reducible refine a_call (by assumption) (k7.out _) ?_; intro w H)
    | (go_at_call 19; with_reducible refine a_call (by assumption) (k8.out _) ?_; intro w H)
    | (go_at_call 19; with_reducible refine a_call (by assumption) (k9.out _) ?_; intro w H)
    | (go_at_call 19; with_reducible refine a_call (by assumption) (k10.out _) ?_; intro w H)
    | (go_at_call 19; with_reducible refine a_call (by assumption) (k11.out _) ?_; intro w H)
    | (go_at_call 19; with_reducible refine a_call (by assumption) (k12.out _) ?_; intro w H)
    | (go_at_call 17; with_reducible refine a_call (by assumption) (k14.out _) ?_; intro w H)
    | (go_at_call 13; with_reducible refine a_call (by assumption) (i1.out _) ?_; intro w H)
    | (go_at_call 13; with_reducible refine a_call (by assumption) (i2.out _) ?_; intro w H)
    | (go_at_call 13; with_reducible refine a_call (by assumption) (i3.out _) ?_; intro w H)
    | (go_at_call 13; with_reducible refine a_call (by assumption) (i4.out _) ?_; intro w H)
    | (go_at_call 13; with_reducible refine a_call (by assumption) (i5.out _) ?_; intro w H)
    | (go_at_call 13; with_reducible refine a_call (by assumption) (i6.out _) ?_; intro w H))
  go_ret
  exact ⟨rfl, H.below⟩
theorem walk (a b c : List UInt8) (ha : a.length ≤ 140737488351232) (hb : b.length ≤ 140737488351232) (hc : c.length ≤ 140737488351232) (w : World) :
    Calls Try.prog 6 #[.string (S a), .string (S b), .string (S c)] w fun e w' => e = .returned (.bool true) ∧ Below w.heap.size w w' := by
  cases h1 : isEl a
  · exact walk_no0 a b c h1 w
  cases h2 : isEl b
  · exact walk_no1 a b c h1 h2 w
  cases h3 : isEl c
  · exact walk_no2 a b c h1 h2 h3 w
  have h := walk_yes (numB a) (numB b) (numB c) (isEl_lt h1) (isEl_lt h2) (isEl_lt h3) w
  unfold E at h
  rw [← E_of h1, ← E_of h2, ← E_of h3] at h
  exact h
theorem own : ownKnob Try.prog.godebug = none := by kernel_rfl
theorem contract (H : Type) (enc : TypeId × Value → H) (W : World) (base : Nat) (args : Array Value) (ds gs : List (DataW H)) (before : List MemPlace)
    (hval : ∀ (j : Nat) t v, Try.f6.params[j]? = some t → args[j]? = some v → Value.okWide Try.prog W .any base t v)
    (hW : DataW.Whole enc Try.prog Try.f6.params.toList Rows.fieldRulesSpec.vars false W args.toList ds gs before)
    (hsz : (DataW.weightsEach Try.prog (Try.f6.params.toList ++ Rows.fieldRulesSpec.plain.varTypes Try.prog) (ds ++ gs)).all (· ≤ reachBytes) = true) :
    Calls Try.prog 6 args W fun e W' => ∃ v, e = .returned v ∧ Rows.fieldRulesSpec.post enc Try.prog Try.f6 false true false false W args v W' := by
  have hW' := hW
  obtain ⟨p, q, hA0, hV, rfl, hfz, hnd⟩ := hW
  have hA : DataW.TrodAll enc Try.prog W 0 (fun _ => true) true Try.f6.params.toList args.toList ds p := hA0
  rw [Try.params6] at hA hval hsz
  obtain ⟨v0, vs0, d0, ds0, p0, q0, hargs, rfl, rfl, h0, r0⟩ := trodAll_cons hA
  obtain ⟨v1, vs1, d1, ds1, p1, q1, rfl, rfl, rfl, h1, r1⟩ := trodAll_cons r0
  obtain ⟨v2, vs2, d2, ds2, p2, q2, rfl, rfl, rfl, h2, r2⟩ := trodAll_cons r1
  obtain ⟨rfl, rfl, rfl⟩ := trodAll_nil r2
  obtain rfl : args = #[v0, v1, v2] := by cases args; simp_all
  obtain ⟨rfl, rfl⟩ := trodVars_none hV
  obtain ⟨x0, rfl, rfl, rfl, hs0⟩ := open_string Try.underlying9 (hval 0 9 v0 rfl rfl) h0
  obtain ⟨x1, rfl, rfl, rfl, hs1⟩ := open_string Try.underlying9 (hval 1 9 v1 rfl rfl) h1
  obtain ⟨x2, rfl, rfl, rfl, hs2⟩ := open_string Try.underlying9 (hval 2 9 v2 rfl rfl) h2
  clear hA0
  simp only [List.append_nil] at hW' hsz
  have hl0 : x0.data.toList.length ≤ 140737488351232 := by
    have := sized_string hsz (j := 0) (t := 9) rfl rfl
    simp only [reachBytes] at this
    omega
  have hl1 : x1.data.toList.length ≤ 140737488351232 := by
    have := sized_string hsz (j := 1) (t := 9) rfl rfl
    simp only [reachBytes] at this
    omega
  have hl2 : x2.data.toList.length ≤ 140737488351232 := by
    have := sized_string hsz (j := 2) (t := 9) rfl rfl
    simp only [reachBytes] at this
    omega
  refine (walk x0.data.toList x1.data.toList x2.data.toList hl0 hl1 hl2 W).mono fun e W' ⟨he, hg⟩ => ?_
  subst he
  exact ⟨_, rfl, post_below (pa := []) (pv := []) hW' hg (fun _ _ _ => trodAll_cons_mk (shut_bool Try.underlying4 _) trodAll_mk0) (fun _ _ => trodAll_cons_mk (shut_string Try.underlying9 hs0) (trodAll_cons_mk (shut_string Try.underlying9 hs1) (trodAll_cons_mk (shut_string Try.underlying9 hs2) trodAll_mk0))) (fun _ _ => rfl) rfl
    (ok_one (by kernel_rfl) rfl (okWide_bool_mk Try.underlying4 _))⟩
set_option maxRecDepth 100000 in
theorem lifted (os : Os) (started : os.Started) (H : Type) (enc : TypeId × Value → H) :
    ReturnsInHanded {} Try.checked os 6 .any (Rows.fieldRulesSpec.pre6 enc Try.prog Try.f6 Rows.fieldRulesRow.domain false) (Rows.fieldRulesSpec.post enc Try.prog Try.f6 false true false false) := by
  refine returnsInHanded_of_change_sized (C := Try.checked) own started (by kernel_rfl) Try.func6
    (ChangeSpec.witness6 (enc := enc) (C := Try.checked) false ⟨#[], #[.string ⟨#[]⟩, .string ⟨#[]⟩, .string ⟨#[]⟩], []⟩ 8 (by kernel_rfl) (by kernel_rfl) (by kernel_rfl) (by kernel_rfl)) ?_
  intro W base args ds gs before hval hW _ hsz _
  exact contract H enc W base args ds gs before hval hW hsz
theorem proved : Rows.FieldRulesSaid :=
  OpenClaim.holds_of_wide 6 Try.f6 rfl rfl rfl rfl rfl rfl rfl ⟨rfl, rfl, rfl, rfl, rfl⟩ rfl rfl rfl rfl rfl (by kernel_rfl) Try.func6 (by kernel_rfl)
    (of_decide_eq_true (by kernel_rfl)) (by unfold Func.isWrapper; first | (rw [if_pos (by decide +kernel)]; kernel_rfl) | (rw [if_neg (by decide +kernel)]; exact ⟨rfl, rfl⟩))
    (fun os started H enc _ => lifted os started H enc)
#print axioms proved
end Go.Proofs.Ytbkaemekcjinaaa.fieldRules
