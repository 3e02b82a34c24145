/- FieldBack, for every input that can be read: the law answers true: an element times its inverse is 1, but of 0; a root's square is the element, and the root of a square is what was squared, or p less it. -/
import Derived.Test.YtbkaemekcjinaaaRows
import Derived.Test.YtbkaemekcjinaaaFK
import Derived.Test.YtbkaemekcjinaaaRow
import Derived.ProofKit
import Derived.OpenShut
import Derived.SizedLaws
import Derived.JoinedOf
import Derived.JoinedAt
import Derived.JoinedCond
namespace Go.Proofs.Ytbkaemekcjinaaa.fieldBack
open Go.ChangeShapes Go.WideShapes Go.ChangeAt Go.RowKit
set_option linter.unusedSimpArgs false
set_option linter.unusedVariables false
open Go.ChangeMaps (open_string shut_string)
set_option maxRecDepth 100000 in
set_option maxHeartbeats 3200000 in
theorem walk_no0 (a : List UInt8) (ha : isEl a = false) (wS : World) : Calls Try.prog 7 #[.string (S a)] wS (BoolPost true wS) := by
  have H := AMem.start wS
  have ca := fun w => is_any a w
  rw [ha] at ca
  clear ha
  generalize S a = sa at ca ⊢
  replace ca := Kept.mk ca
  go_enter Try.func7, Try.ntmps7
  go_wp2_with (first
    | (go_at_call 12; with_reducible refine a_call (by assumption) (fixed_any _) ?_; intro w H)
    | (go_at_call 13; with_reducible refine a_call (by assumption) (ca.out _) ?_; intro w H))
  go_ret
  exact ⟨rfl, H.below⟩
set_option maxRecDepth 100000 in
set_option maxHeartbeats 6400000 in
theorem walk_z (wS : World) : Calls Try.prog 7 #[E 0] wS (BoolPost true wS) := by
  have H := AMem.start wS
  have k1 := fun w => invE 0 p_pos w
  rw [invF_zero] at k1
  have k2 := fun w => mulE 0 0 p_pos p_pos w
  rw [show 0 * 0 % pF = 0 from rfl] at k2
  have hz : cand 0 * cand 0 % pF = 0 := by
    have h := cand_sq 0 p_pos
    rw [show 0 * 0 % pF = 0 from rfl] at h
    exact h
  have he : evenN (cand 0) = 0 := by
    have h := even_root 0 p_pos
    rw [show 0 * 0 % pF = 0 from rfl, neg_zero'] at h
    exact h.elim id id
  have k3 := fun w => rootE 0 p_pos hz w
  rw [he] at k3
  have k4 := fun w => subE 0 0 p_pos p_pos w
  rw [neg_zero'] at k4
  have i1 := fun w => isE 0 p_pos w
  have n0 := fun w => num_any 0 (by omega) w
  rw [show ((0 : Nat) : Int) = 0 from rfl] at n0
  unfold BytesPost at n0
  have n1 := fun w => num_any 1 (by omega) w
  rw [show ((1 : Nat) : Int) = 1 from rfl] at n1
  unfold BytesPost at n1
  unfold EP E at k1 k2 k4
  unfold RP E at k3
  unfold E at i1 ⊢
  clear hz he
  generalize S (leB 0) = s0 at k1 k2 k3 k4 i1 n0 ⊢
  generalize S (leB 1) = s1 at n1
  replace k1 := Kept.mk k1
  replace k2 := Kept.mk k2
  replace k3 := Kept.mk k3
  replace k4 := Kept.mk k4
  replace i1 := Kept.mk i1
  replace n0 := Kept.mk n0
  replace n1 := Kept.mk n1
  go_enter Try.func7, Try.ntmps7
  go_wp2_with (first
    | (go_at_call 12; with_reducible refine a_call (by assumption) (fixed_any _) ?_; intro w H)
    | (go_at_call 21; with_reducible refine a_call (by assumption) (k1.out _) ?_; intro w H)
    | (go_at_call 19; with_reducible refine a_call (by assumption) (k2.out _) ?_; intro w H)
    | (go_at_call 23; with_reducible refine a_call (by assumption) (k3.out _) ?_; intro w H)
    | (go_at_call 17; with_reducible refine a_call (by assumption) (k4.out _) ?_; intro w H)
    | (go_at_call 13; with_reducible refine a_call (by assumption) (i1.out _) ?_; intro w H)
    | (go_at_call 25; with_reducible refine a_call (by assumption) (n0.out _) ?_; intro w H)
    | (go_at_call 25; with_reducible refine a_call (by assumption) (n1.out _) ?_; intro w H))
  go_ret
  exact ⟨rfl, H.below⟩
set_option maxRecDepth 100000 in
set_option maxHeartbeats 6400000 in
theorem walk_pay (a : Nat) (ha : a < pF) (h0 : a ≠ 0) (hr : evenN (cand (a * a % pF)) = a)  (hq : cand a * cand a % pF = a) (wS : World) : Calls Try.prog 7 #[E a] wS (BoolPost true wS) := by
  have H := AMem.start wS
  have k1 := fun w => invE a ha w
  have k2 := fun w => mulE a (invF a) ha (invF_lt a) w
  rw [inv_mul a h0 ha] at k2
  have k3 := fun w => mulE a a ha ha w
  have k4 := fun w => rootE (a * a % pF) (Nat.mod_lt _ p_pos) (cand_sq a ha) w
  rw [hr] at k4
  have k5 := fun w => subE 0 a p_pos ha w
  have k6 := fun w => rootE a ha hq w
  have hsq : evenN (cand a) * evenN (cand a) % pF = a := by rw [even_sq _ (cand_lt a)]; exact hq
  have k7 := fun w => mulE (evenN (cand a)) (evenN (cand a)) (even_lt a) (even_lt a) w
  rw [hsq] at k7
  clear hsq
  have e1 := E_ne ha p_pos h0
  have i1 := fun w => isE a ha w
  have n0 := fun w => num_any 0 (by omega) w
  rw [show ((0 : Nat) : Int) = 0 from rfl] at n0
  unfold BytesPost at n0
  have n1 := fun w => num_any 1 (by omega) w
  rw [show ((1 : Nat) : Int) = 1 from rfl] at n1
  unfold BytesPost at n1
  unfold EP E at k1 k2 k3 k5 k7
  unfold RP E at k4
  unfold RP E at k6
  unfold E at i1 ⊢
  generalize invF a = b at k1 k2
  generalize a * a % pF = s at k3 k4 hr
  generalize (0 + (pF - a)) % pF = n at *
  generalize evenN (cand a) = t at k6 k7
  clear ha h0 hr hq
  generalize S (leB b) = sb at k1 k2
  generalize S (leB s) = ss at k3 k4
  generalize S (leB n) = sn at *
  generalize S (leB t) = st at k6 k7
  generalize S (leB a) = sa at *
  generalize S (leB 0) = s0 at *
  generalize S (leB 1) = s1 at *
  replace k1 := Kept.mk k1
  replace k2 := Kept.mk k2
  replace k3 := Kept.mk k3
  replace k4 := Kept.mk k4
  replace k5 := Kept.mk k5
  replace k6 := Kept.mk k6
  replace k7 := Kept.mk k7
  replace i1 := Kept.mk i1
  replace n0 := Kept.mk n0
  replace n1 := Kept.mk n1
  go_enter Try.func7, Try.ntmps7
  go_wp2_with (first
    | (go_at_call 12; with_reducible refine a_call (by assumption) (fixed_any _) ?_; intro w H)
    | (go_at_call 21; with_reducible refine a_call (by assumption) (k1.out _) ?_; intro w H)
    | (go_at_call 19; with_reducible refine a_call (by assumption) (k2.out _) ?_; intro w H)
    | (go_at_call 19; with_reducible refine a_call (by assumption) (k3.out _) ?_; intro w H)
    | (go_at_call 19; with_reducible refine a_call (by assumption) (k7.out _) ?_; intro w H)
    | (go_at_call 23; with_reducible refine a_call (by assumption) (k4.out _) ?_; intro w H)
    | (go_at_call 23; with_reducible refine a_call (by assumption) (k6.out _) ?_; intro w H)
    | (go_at_call 17; with_reducible refine a_call (by assumption) (k5.out _) ?_; intro w H)
    | (go_at_call 13; with_reducible refine a_call (by assumption) (i1.out _) ?_; intro w H)
    | (go_at_call 25; with_reducible refine a_call (by assumption) (n0.out _) ?_; intro w H)
    | (go_at_call 25; with_reducible refine a_call (by assumption) (n1.out _) ?_; intro w H))
  go_ret
  exact ⟨rfl, H.below⟩
set_option maxRecDepth 100000 in
set_option maxHeartbeats 6400000 in
theorem walk_pan (a : Nat) (ha : a < pF) (h0 : a ≠ 0) (hr : evenN (cand (a * a % pF)) = a)  (hq : ¬ cand a * cand a % pF = a) (wS : World) : Calls Try.prog 7 #[E a] wS (BoolPost true wS) := by
  have H := AMem.start wS
  have k1 := fun w => invE a ha w
  have k2 := fun w => mulE a (invF a) ha (invF_lt a) w
  rw [inv_mul a h0 ha] at k2
  have k3 := fun w => mulE a a ha ha w
  have k4 := fun w => rootE (a * a % pF) (Nat.mod_lt _ p_pos) (cand_sq a ha) w
  rw [hr] at k4
  have k5 := fun w => subE 0 a p_pos ha w
  have k6 := fun w => rootE_no a ha hq w
  have k7 := fun w => mul_bad [] [] (by rfl) w
  have e1 := E_ne ha p_pos h0
  have i1 := fun w => isE a ha w
  have n0 := fun w => num_any 0 (by omega) w
  rw [show ((0 : Nat) : Int) = 0 from rfl] at n0
  unfold BytesPost at n0
  have n1 := fun w => num_any 1 (by omega) w
  rw [show ((1 : Nat) : Int) = 1 from rfl] at n1
  unfold BytesPost at n1
  unfold EP E at k1 k2 k3 k5
  unfold RP E at k4
  unfold RN E at k6
  unfold StrPost at k7
  unfold E at i1 ⊢
  generalize invF a = b at k1 k2
  generalize a * a % pF = s at k3 k4 hr
  generalize (0 + (pF - a)) % pF = n at *
  clear ha h0 hr hq
  generalize S (leB b) = sb at k1 k2
  generalize S (leB s) = ss at k3 k4
  generalize S (leB n) = sn at *
  generalize S (leB a) = sa at *
  generalize S (leB 0) = s0 at *
  generalize S (leB 1) = s1 at *
  replace k1 := Kept.mk k1
  replace k2 := Kept.mk k2
  replace k3 := Kept.mk k3
  replace k4 := Kept.mk k4
  replace k5 := Kept.mk k5
  replace k6 := Kept.mk k6
  replace k7 := Kept.mk k7
  replace i1 := Kept.mk i1
  replace n0 := Kept.mk n0
  replace n1 := Kept.mk n1
  go_enter Try.func7, Try.ntmps7
  go_wp2_with (first
    | (go_at_call 12; with_reducible refine a_call (by assumption) (fixed_any _) ?_; intro w H)
    | (go_at_call 21; with_reducible refine a_call (by assumption) (k1.out _) ?_; intro w H)
    | (go_at_call 19; with_reducible refine a_call (by assumption) (k2.out _) ?_; intro w H)
    | (go_at_call 19; with_reducible refine a_call (by assumption) (k3.out _) ?_; intro w H)
    | (go_at_call 19; with_reducible refine a_call (by assumption) (k7.out _) ?_; intro w H)
    | (go_at_call 23; with_reducible refine a_call (by assumption) (k4.out _) ?_; intro w H)
    | (go_at_call 23; with_reducible refine a_call (by assumption) (k6.out _) ?_; intro w H)
    | (go_at_call 17; with_reducible refine a_call (by assumption) (k5.out _) ?_; intro w H)
    | (go_at_call 13; with_reducible refine a_call (by assumption) (i1.out _) ?_; intro w H)
    | (go_at_call 25; with_reducible refine a_call (by assumption) (n0.out _) ?_; intro w H)
    | (go_at_call 25; with_reducible refine a_call (by assumption) (n1.out _) ?_; intro w H))
  go_ret
  exact ⟨rfl, H.below⟩
set_option maxRecDepth 100000 in
set_option maxHeartbeats 6400000 in
theorem walk_pny (a : Nat) (ha : a < pF) (h0 : a ≠ 0) (hr : evenN (cand (a * a % pF)) = (0 + (pF - a)) % pF) (hne : (0 + (pF - a)) % pF ≠ a) (hq : cand a * cand a % pF = a) (wS : World) : Calls Try.prog 7 #[E a] wS (BoolPost true wS) := by
  have H := AMem.start wS
  have k1 := fun w => invE a ha w
  have k2 := fun w => mulE a (invF a) ha (invF_lt a) w
  rw [inv_mul a h0 ha] at k2
  have k3 := fun w => mulE a a ha ha w
  have k4 := fun w => rootE (a * a % pF) (Nat.mod_lt _ p_pos) (cand_sq a ha) w
  rw [hr] at k4
  have k5 := fun w => subE 0 a p_pos ha w
  have k6 := fun w => rootE a ha hq w
  have hsq : evenN (cand a) * evenN (cand a) % pF = a := by rw [even_sq _ (cand_lt a)]; exact hq
  have k7 := fun w => mulE (evenN (cand a)) (evenN (cand a)) (even_lt a) (even_lt a) w
  rw [hsq] at k7
  clear hsq
  have e1 := E_ne ha p_pos h0
  have e2 := E_ne (neg_lt a) ha hne
  have e3 : ((S (leB ((0 + (pF - a)) % pF))).toList != (S (leB a)).toList) = true := by show (!_) = true; rw [e2]; rfl
  have i1 := fun w => isE a ha w
  have n0 := fun w => num_any 0 (by omega) w
  rw [show ((0 : Nat) : Int) = 0 from rfl] at n0
  unfold BytesPost at n0
  have n1 := fun w => num_any 1 (by omega) w
  rw [show ((1 : Nat) : Int) = 1 from rfl] at n1
  unfold BytesPost at n1
  unfold EP E at k1 k2 k3 k5 k7
  unfold RP E at k4
  unfold RP E at k6
  unfold E at i1 ⊢
  generalize invF a = b at k1 k2
  generalize a * a % pF = s at k3 k4 hr
  generalize (0 + (pF - a)) % pF = n at *
  generalize evenN (cand a) = t at k6 k7
  clear ha h0 hr hq hne
  generalize S (leB b) = sb at k1 k2
  generalize S (leB s) = ss at k3 k4
  generalize S (leB n) = sn at *
  generalize S (leB t) = st at k6 k7
  generalize S (leB a) = sa at *
  generalize S (leB 0) = s0 at *
  generalize S (leB 1) = s1 at *
  replace k1 := Kept.mk k1
  replace k2 := Kept.mk k2
  replace k3 := Kept.mk k3
  replace k4 := Kept.mk k4
  replace k5 := Kept.mk k5
  replace k6 := Kept.mk k6
  replace k7 := Kept.mk k7
  replace i1 := Kept.mk i1
  replace n0 := Kept.mk n0
  replace n1 := Kept.mk n1
  go_enter Try.func7, Try.ntmps7
  go_wp2_with (first
    | (go_at_call 12; with_reducible refine a_call (by assumption) (fixed_any _) ?_; intro w H)
    | (go_at_call 21; with_reducible refine a_call (by assumption) (k1.out _) ?_; intro w H)
    | (go_at_call 19; with_reducible refine a_call (by assumption) (k2.out _) ?_; intro w H)
    | (go_at_call 19; with_reducible refine a_call (by assumption) (k3.out _) ?_; intro w H)
    | (go_at_call 19; with_reducible refine a_call (by assumption) (k7.out _) ?_; intro w H)
    | (go_at_call 23; with_reducible refine a_call (by assumption) (k4.out _) ?_; intro w H)
    | (go_at_call 23; with_reducible refine a_call (by assumption) (k6.out _) ?_; intro w H)
    | (go_at_call 17; with_reducible refine a_call (by assumption) (k5.out _) ?_; intro w H)
    | (go_at_call 13; with_reducible refine a_call (by assumption) (i1.out _) ?_; intro w H)
    | (go_at_call 25; with_reducible refine a_call (by assumption) (n0.out _) ?_; intro w H)
    | (go_at_call 25; with_reducible refine a_call (by assumption) (n1.out _) ?_; intro w H))
  go_ret
  exact ⟨rfl, H.below⟩
set_option maxRecDepth 100000 in
set_option maxHeartbeats 6400000 in
theorem walk_pnn (a : Nat) (ha : a < pF) (h0 : a ≠ 0) (hr : evenN (cand (a * a % pF)) = (0 + (pF - a)) % pF) (hne : (0 + (pF - a)) % pF ≠ a) (hq : ¬ cand a * cand a % pF = a) (wS : World) : Calls Try.prog 7 #[E a] wS (BoolPost true wS) := by
  have H := AMem.start wS
  have k1 := fun w => invE a ha w
  have k2 := fun w => mulE a (invF a) ha (invF_lt a) w
  rw [inv_mul a h0 ha] at k2
  have k3 := fun w => mulE a a ha ha w
  have k4 := fun w => rootE (a * a % pF) (Nat.mod_lt _ p_pos) (cand_sq a ha) w
  rw [hr] at k4
  have k5 := fun w => subE 0 a p_pos ha w
  have k6 := fun w => rootE_no a ha hq w
  have k7 := fun w => mul_bad [] [] (by rfl) w
  have e1 := E_ne ha p_pos h0
  have e2 := E_ne (neg_lt a) ha hne
  have e3 : ((S (leB ((0 + (pF - a)) % pF))).toList != (S (leB a)).toList) = true := by show (!_) = true; rw [e2]; rfl
  have i1 := fun w => isE a ha w
  have n0 := fun w => num_any 0 (by omega) w
  rw [show ((0 : Nat) : Int) = 0 from rfl] at n0
  unfold BytesPost at n0
  have n1 := fun w => num_any 1 (by omega) w
  rw [show ((1 : Nat) : Int) = 1 from rfl] at n1
  unfold BytesPost at n1
  unfold EP E at k1 k2 k3 k5
  unfold RP E at k4
  unfold RN E at k6
  unfold StrPost at k7
  unfold E at i1 ⊢
  generalize invF a = b at k1 k2
  generalize a * a % pF = s at k3 k4 hr
  generalize (0 + (pF - a)) % pF = n at *
  clear ha h0 hr hq hne
  generalize S (leB b) = sb at k1 k2
  generalize S (leB s) = ss at k3 k4
  generalize S (leB n) = sn at *
  generalize S (leB a) = sa at *
  generalize S (leB 0) = s0 at *
  generalize S (leB 1) = s1 at *
  replace k1 := Kept.mk k1
  replace k2 := Kept.mk k2
  replace k3 := Kept.mk k3
  replace k4 := Kept.mk k4
  replace k5 := Kept.mk k5
  replace k6 := Kept.mk k6
  replace k7 := Kept.mk k7
  replace i1 := Kept.mk i1
  replace n0 := Kept.mk n0
  replace n1 := Kept.mk n1
  go_enter Try.func7, Try.ntmps7
  go_wp2_with (first
    | (go_at_call 12; with_reducible refine a_call (by assumption) (fixed_any _) ?_; intro w H)
    | (go_at_call 21; with_reducible refine a_call (by assumption) (k1.out _) ?_; intro w H)
    | (go_at_call 19; with_reducible refine a_call (by assumption) (k2.out _) ?_; intro w H)
    | (go_at_call 19; with_reducible refine a_call (by assumption) (k3.out _) ?_; intro w H)
    | (go_at_call 19; with_reducible refine a_call (by assumption) (k7.out _) ?_; intro w H)
    | (go_at_call 23; with_reducible refine a_call (by assumption) (k4.out _) ?_; intro w H)
    | (go_at_call 23; with_reducible refine a_call (by assumption) (k6.out _) ?_; intro w H)
    | (go_at_call 17; with_reducible refine a_call (by assumption) (k5.out _) ?_; intro w H)
    | (go_at_call 13; with_reducible refine a_call (by assumption) (i1.out _) ?_; intro w H)
    | (go_at_call 25; with_reducible refine a_call (by assumption) (n0.out _) ?_; intro w H)
    | (go_at_call 25; with_reducible refine a_call (by assumption) (n1.out _) ?_; intro w H))
  go_ret
  exact ⟨rfl, H.below⟩
theorem walk (a : List UInt8) (ha : a.length ≤ 140737488351232) (w : World) :
    Calls Try.prog 7 #[.string (S a)] w fun e w' => e = .returned (.bool true) ∧ Below w.heap.size w w' := by
  cases h1 : isEl a
  · exact walk_no0 a h1 w
  have e1 : (Value.string (S a)) = E (numB a) := by unfold E; rw [← E_of h1]
  rw [e1]
  by_cases h0 : numB a = 0
  · rw [h0]; exact walk_z w
  have hl := isEl_lt h1
  by_cases hr : evenN (cand (numB a * numB a % pF)) = numB a
  · by_cases hq : cand (numB a) * cand (numB a) % pF = numB a
    · exact walk_pay _ hl h0 hr hq w
    · exact walk_pan _ hl h0 hr hq w
  · have hn := (even_root _ hl).resolve_left hr
    have hne : (0 + (pF - numB a)) % pF ≠ numB a := fun e => hr (hn.trans e)
    by_cases hq : cand (numB a) * cand (numB a) % pF = numB a
    · exact walk_pny _ hl h0 hn hne hq w
    · exact walk_pnn _ hl h0 hn hne hq w
theorem own : ownKnob Try.prog.godebug = none := by kernel_rfl
theorem contract (H : Type) (enc : TypeId × Value → H) (W : World) (base : Nat) (args : Array Value) (ds gs : List (DataW H)) (before : List MemPlace)
    (hval : ∀ (j : Nat) t v, Try.f7.params[j]? = some t → args[j]? = some v → Value.okWide Try.prog W .any base t v)
    (hW : DataW.Whole enc Try.prog Try.f7.params.toList Rows.fieldBackSpec.vars false W args.toList ds gs before)
    (hsz : (DataW.weightsEach Try.prog (Try.f7.params.toList ++ Rows.fieldBackSpec.plain.varTypes Try.prog) (ds ++ gs)).all (· ≤ reachBytes) = true) :
    Calls Try.prog 7 args W fun e W' => ∃ v, e = .returned v ∧ Rows.fieldBackSpec.post enc Try.prog Try.f7 false true false false W args v W' := by
  have hW' := hW
  obtain ⟨p, q, hA0, hV, rfl, hfz, hnd⟩ := hW
  have hA : DataW.TrodAll enc Try.prog W 0 (fun _ => true) true Try.f7.params.toList args.toList ds p := hA0
  rw [Try.params7] at hA hval hsz
  obtain ⟨v0, vs0, d0, ds0, p0, q0, hargs, rfl, rfl, h0, r0⟩ := trodAll_cons hA
  obtain ⟨rfl, rfl, rfl⟩ := trodAll_nil r0
  obtain rfl : args = #[v0] := by cases args; simp_all
  obtain ⟨rfl, rfl⟩ := trodVars_none hV
  obtain ⟨x0, rfl, rfl, rfl, hs0⟩ := open_string Try.underlying9 (hval 0 9 v0 rfl rfl) h0
  clear hA0
  simp only [List.append_nil] at hW' hsz
  have hl0 : x0.data.toList.length ≤ 140737488351232 := by
    have := sized_string hsz (j := 0) (t := 9) rfl rfl
    simp only [reachBytes] at this
    omega
  refine (walk x0.data.toList hl0 W).mono fun e W' ⟨he, hg⟩ => ?_
  subst he
  exact ⟨_, rfl, post_below (pa := []) (pv := []) hW' hg (fun _ _ _ => trodAll_cons_mk (shut_bool Try.underlying4 _) trodAll_mk0) (fun _ _ => trodAll_cons_mk (shut_string Try.underlying9 hs0) trodAll_mk0) (fun _ _ => rfl) rfl
    (ok_one (by kernel_rfl) rfl (okWide_bool_mk Try.underlying4 _))⟩
set_option maxRecDepth 100000 in
theorem lifted (os : Os) (started : os.Started) (H : Type) (enc : TypeId × Value → H) :
    ReturnsInHanded {} Try.checked os 7 .any (Rows.fieldBackSpec.pre6 enc Try.prog Try.f7 Rows.fieldBackRow.domain false) (Rows.fieldBackSpec.post enc Try.prog Try.f7 false true false false) := by
  refine returnsInHanded_of_change_sized (C := Try.checked) own started (by kernel_rfl) Try.func7
    (ChangeSpec.witness6 (enc := enc) (C := Try.checked) false ⟨#[], #[.string ⟨#[]⟩], []⟩ 8 (by kernel_rfl) (by kernel_rfl) (by kernel_rfl) (by kernel_rfl)) ?_
  intro W base args ds gs before hval hW _ hsz _
  exact contract H enc W base args ds gs before hval hW hsz
theorem proved : Rows.FieldBackSaid :=
  OpenClaim.holds_of_wide 7 Try.f7 rfl rfl rfl rfl rfl rfl rfl ⟨rfl, rfl, rfl, rfl, rfl⟩ rfl rfl rfl rfl rfl (by kernel_rfl) Try.func7 (by kernel_rfl)
    (of_decide_eq_true (by kernel_rfl)) (by unfold Func.isWrapper; first | (rw [if_pos (by decide +kernel)]; kernel_rfl) | (rw [if_neg (by decide +kernel)]; exact ⟨rfl, rfl⟩))
    (fun os started H enc _ => lifted os started H enc)
#print axioms proved
end Go.Proofs.Ytbkaemekcjinaaa.fieldBack
