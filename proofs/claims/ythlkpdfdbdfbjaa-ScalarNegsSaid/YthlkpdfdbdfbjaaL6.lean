/- ScalarNegs, for every input that can be read: the law answers true: a scalar, and as often it as the order less one, are 0 together. -/
import Derived.Test.YthlkpdfdbdfbjaaRows
import Derived.Test.YthlkpdfdbdfbjaaP11
import Derived.Test.YthlkpdfdbdfbjaaRow
import Derived.ProofKit
import Derived.OpenShut
import Derived.SizedLaws
import Derived.JoinedOf
import Derived.JoinedAt
import Derived.JoinedCond
namespace Go.Proofs.Ythlkpdfdbdfbjaa.scalarNegs
open Go.ChangeShapes Go.WideShapes Go.ChangeAt Go.RowKit
set_option linter.unusedSimpArgs false
set_option linter.unusedVariables false
open Go.ChangeMaps (open_string shut_string)
set_option maxRecDepth 100000 in
set_option maxHeartbeats 6400000 in
theorem core_no (s : ByteArray) (hs : ((s.size : Int) != 32) = true)  (wS : World) : Calls Try.prog 8 #[.string s] wS (BoolPost true wS) := by
  have H := SM.start wS
  go_enter Try.func8, Try.ntmps8
  go_wp2_with (first
    | (go_at_call 12; with_reducible refine s_call (by assumption) (fixed_any _) ?_; intro w H))
  go_ret
  exact ⟨rfl, H.below⟩
set_option maxRecDepth 100000 in
set_option maxHeartbeats 6400000 in
theorem core (s m n z0 : ByteArray) (hs : s.size = 32) (o1 : ∀ w, Calls Try.prog 20 #[.int .i64 (-1)] w fun e w' => e = .returned (.string m) ∧ Below w.heap.size w w') (n0 : ∀ w, Calls Try.prog 19 #[.int .u8 0] w fun e w' => e = .returned (.string z0) ∧ Below w.heap.size w w') (k1 : ∀ w, Calls Try.prog 17 #[.string s, .string m] w fun e w' => e = .returned (.tuple #[.string n, .int .i64 0]) ∧ Below w.heap.size w w') (k2 : ∀ w, Calls Try.prog 15 #[.string s, .string n] w fun e w' => e = .returned (.tuple #[.string z0, .int .i64 0]) ∧ Below w.heap.size w w') (wS : World) : Calls Try.prog 8 #[.string s] wS (BoolPost true wS) := by
  have H := SM.start wS
  replace o1 := Kept.mk o1
  replace n0 := Kept.mk n0
  replace k1 := Kept.mk k1
  replace k2 := Kept.mk k2
  go_enter Try.func8, Try.ntmps8
  go_wp2_with (first
    | (go_at_call 12; with_reducible refine s_call (by assumption) (fixed_any _) ?_; intro w H)
    | (go_at_call 20; with_reducible refine s_call (by assumption) (o1.out _) ?_; intro w H)
    | (go_at_call 19; with_reducible refine s_call (by assumption) (n0.out _) ?_; intro w H)
    | (go_at_call 17; with_reducible refine s_call (by assumption) (k1.out _) ?_; intro w H)
    | (go_at_call 15; with_reducible refine s_call (by assumption) (k2.out _) ?_; intro w H))
  go_ret
  exact ⟨rfl, H.below⟩
theorem neg_zero (x m : Nat) (hm : m = oN - 1) : (x + x * m % oN) % oN = 0 % oN := by
  have ho := o_pos
  rw [Nat.add_mod_mod, hm]
  have e : x + x * (oN - 1) = x * oN := by
    conv => lhs; lhs; rw [← Nat.mul_one x]
    rw [← Nat.mul_add, show 1 + (oN - 1) = oN by omega]
  rw [e, Nat.mul_mod_left, Nat.zero_mod]
theorem walk (a : List UInt8) (ha : a.length ≤ 140737488351232) (w : World) :
    Calls Try.prog 8 #[.string (S a)] w fun e w' => e = .returned (.bool true) ∧ Below w.heap.size w w' := by
  by_cases hl : a.length = 32
  · have l6 := orB_len 236
    have e6 := orB_num 236 (by omega)
    have k2 := fun w => Add_ok a (scB (numB a * numB (orB 236))) hl (scB_len _) w
    rw [show scB (numB a + numB (scB (numB a * numB (orB 236)))) = scB 0 from scB_eq (by rw [scB_num]; exact neg_zero _ _ (by omega))] at k2
    exact core (S a) (S (orB 236)) _ _ (by rw [S_size, hl]) (fun w => order_any (-1) 236 (by omega) (by omega) w) (fun w => num_at 0 (by omega) 0 (by omega) w) (fun w => Mul_ok a (orB 236) hl l6 w) k2 w
  · exact core_no (S a) (by rw [S_size]; simp; omega) w
theorem own : ownKnob Try.prog.godebug = none := by kernel_rfl
theorem contract (H : Type) (enc : TypeId × Value → H) (W : World) (base : Nat) (args : Array Value) (ds gs : List (DataW H)) (before : List MemPlace)
    (hval : ∀ (j : Nat) t v, Try.f8.params[j]? = some t → args[j]? = some v → Value.okWide Try.prog W .any base t v)
    (hW : DataW.Whole enc Try.prog Try.f8.params.toList Rows.scalarNegsSpec.vars false W args.toList ds gs before)
    (hsz : (DataW.weightsEach Try.prog (Try.f8.params.toList ++ Rows.scalarNegsSpec.plain.varTypes Try.prog) (ds ++ gs)).all (· ≤ reachBytes) = true) :
    Calls Try.prog 8 args W fun e W' => ∃ v, e = .returned v ∧ Rows.scalarNegsSpec.post enc Try.prog Try.f8 false true false false W args v W' := by
  have hW' := hW
  obtain ⟨p, q, hA0, hV, rfl, hfz, hnd⟩ := hW
  have hA : DataW.TrodAll enc Try.prog W 0 (fun _ => true) true Try.f8.params.toList args.toList ds p := hA0
  rw [Try.params8] at hA hval hsz
  obtain ⟨v0, vs0, d0, ds0, p0, q0, hargs, rfl, rfl, h0, r0⟩ := trodAll_cons hA
  obtain ⟨rfl, rfl, rfl⟩ := trodAll_nil r0
  obtain rfl : args = #[v0] := by cases args; simp_all
  obtain ⟨rfl, rfl⟩ := trodVars_none hV
  obtain ⟨x0, rfl, rfl, rfl, hs0⟩ := open_string Try.underlying9 (hval 0 9 v0 rfl rfl) h0
  clear hA0
  simp only [List.append_nil] at hW' hsz
  have hl0 : x0.data.toList.length ≤ 140737488351232 := by
    have := sized_string hsz (j := 0) (t := 9) rfl rfl
    simp only [reachBytes] at this
    omega
  refine (walk x0.data.toList hl0 W).mono fun e W' ⟨he, hg⟩ => ?_
  subst he
  exact ⟨_, rfl, post_below (pa := []) (pv := []) hW' hg (fun _ _ _ => trodAll_cons_mk (shut_bool Try.underlying4 _) trodAll_mk0) (fun _ _ => trodAll_cons_mk (shut_string Try.underlying9 hs0) trodAll_mk0) (fun _ _ => rfl) rfl
    (ok_one (by kernel_rfl) rfl (okWide_bool_mk Try.underlying4 _))⟩
set_option maxRecDepth 100000 in
theorem lifted (os : Os) (started : os.Started) (H : Type) (enc : TypeId × Value → H) :
    ReturnsInHanded {} Try.checked os 8 .any (Rows.scalarNegsSpec.pre6 enc Try.prog Try.f8 Rows.scalarNegsRow.domain false) (Rows.scalarNegsSpec.post enc Try.prog Try.f8 false true false false) := by
  refine returnsInHanded_of_change_sized (C := Try.checked) own started (by kernel_rfl) Try.func8
    (ChangeSpec.witness6 (enc := enc) (C := Try.checked) false ⟨#[], #[.string ⟨#[]⟩], []⟩ 8 (by kernel_rfl) (by kernel_rfl) (by kernel_rfl) (by kernel_rfl)) ?_
  intro W base args ds gs before hval hW _ hsz _
  exact contract H enc W base args ds gs before hval hW hsz
theorem proved : Rows.ScalarNegsSaid :=
  OpenClaim.holds_of_wide 8 Try.f8 rfl rfl rfl rfl rfl rfl rfl ⟨rfl, rfl, rfl, rfl, rfl⟩ rfl rfl rfl rfl rfl (by kernel_rfl) Try.func8 (by kernel_rfl)
    (of_decide_eq_true (by kernel_rfl)) (by unfold Func.isWrapper; first | (rw [if_pos (by decide +kernel)]; kernel_rfl) | (rw [if_neg (by decide +kernel)]; exact ⟨rfl, rfl⟩))
    (fun os started H enc _ => lifted os started H enc)
#print axioms proved
end Go.Proofs.Ythlkpdfdbdfbjaa.scalarNegs
