/- ScalarRules, for every input that can be read: the law answers true: sums and products of any 32 bytes may be turned about and put together otherwise, a product with a sum is the sum of the products, all of them are scalars. -/
import Derived.Test.YthlkpdfdbdfbjaaRows
import Derived.Test.YthlkpdfdbdfbjaaP11
import Derived.Test.YthlkpdfdbdfbjaaRow
import Derived.ProofKit
import Derived.OpenShut
import Derived.SizedLaws
import Derived.JoinedOf
import Derived.JoinedAt
import Derived.JoinedCond
namespace Go.Proofs.Ythlkpdfdbdfbjaa.scalarRules
open Go.ChangeShapes Go.WideShapes Go.ChangeAt Go.RowKit
set_option linter.unusedSimpArgs false
set_option linter.unusedVariables false
open Go.ChangeMaps (open_string shut_string)
set_option maxRecDepth 100000 in
set_option maxHeartbeats 6400000 in
theorem walk_no0 (sa sb sc : ByteArray) (ha : ((sa.size : Int) != 32) = true) (wS : World) : Calls Try.prog 5 #[.string sa, .string sb, .string sc] wS (BoolPost true wS) := by
  have H := SM.start wS
  go_enter Try.func5, Try.ntmps5
  go_wp2_with (first
    | (go_at_call 12; with_reducible refine s_call (by assumption) (fixed_any _) ?_; intro w H))
  go_ret
  exact ⟨rfl, H.below⟩
set_option maxRecDepth 100000 in
set_option maxHeartbeats 6400000 in
theorem walk_no1 (sa sb sc : ByteArray) (ha : sa.size = 32) (hb : ((sb.size : Int) != 32) = true) (wS : World) : Calls Try.prog 5 #[.string sa, .string sb, .string sc] wS (BoolPost true wS) := by
  have H := SM.start wS
  go_enter Try.func5, Try.ntmps5
  go_wp2_with (first
    | (go_at_call 12; with_reducible refine s_call (by assumption) (fixed_any _) ?_; intro w H))
  go_ret
  exact ⟨rfl, H.below⟩
set_option maxRecDepth 100000 in
set_option maxHeartbeats 6400000 in
theorem walk_no2 (sa sb sc : ByteArray) (ha : sa.size = 32) (hb : sb.size = 32) (hc : ((sc.size : Int) != 32) = true) (wS : World) : Calls Try.prog 5 #[.string sa, .string sb, .string sc] wS (BoolPost true wS) := by
  have H := SM.start wS
  go_enter Try.func5, Try.ntmps5
  go_wp2_with (first
    | (go_at_call 12; with_reducible refine s_call (by assumption) (fixed_any _) ?_; intro w H))
  go_ret
  exact ⟨rfl, H.below⟩
set_option maxRecDepth 100000 in
set_option maxHeartbeats 6400000 in
theorem core (sa sb sc sab sbc sx spab spbc spac su sl : ByteArray) (ha : sa.size = 32) (hb : sb.size = 32) (hc : sc.size = 32) (k1 : ∀ w, Calls Try.prog 15 #[.string sa, .string sb] w fun e w' => e = .returned (.tuple #[.string sab, .int .i64 0]) ∧ Below w.heap.size w w') (k2 : ∀ w, Calls Try.prog 15 #[.string sb, .string sa] w fun e w' => e = .returned (.tuple #[.string sab, .int .i64 0]) ∧ Below w.heap.size w w') (k3 : ∀ w, Calls Try.prog 15 #[.string sb, .string sc] w fun e w' => e = .returned (.tuple #[.string sbc, .int .i64 0]) ∧ Below w.heap.size w w') (k4 : ∀ w, Calls Try.prog 15 #[.string sab, .string sc] w fun e w' => e = .returned (.tuple #[.string sx, .int .i64 0]) ∧ Below w.heap.size w w') (k5 : ∀ w, Calls Try.prog 15 #[.string sa, .string sbc] w fun e w' => e = .returned (.tuple #[.string sx, .int .i64 0]) ∧ Below w.heap.size w w') (k6 : ∀ w, Calls Try.prog 17 #[.string sa, .string sb] w fun e w' => e = .returned (.tuple #[.string spab, .int .i64 0]) ∧ Below w.heap.size w w') (k7 : ∀ w, Calls Try.prog 17 #[.string sb, .string sa] w fun e w' => e = .returned (.tuple #[.string spab, .int .i64 0]) ∧ Below w.heap.size w w') (k8 : ∀ w, Calls Try.prog 17 #[.string sb, .string sc] w fun e w' => e = .returned (.tuple #[.string spbc, .int .i64 0]) ∧ Below w.heap.size w w') (k9 : ∀ w, Calls Try.prog 17 #[.string sa, .string sc] w fun e w' => e = .returned (.tuple #[.string spac, .int .i64 0]) ∧ Below w.heap.size w w') (k10 : ∀ w, Calls Try.prog 17 #[.string spab, .string sc] w fun e w' => e = .returned (.tuple #[.string su, .int .i64 0]) ∧ Below w.heap.size w w') (k11 : ∀ w, Calls Try.prog 17 #[.string sa, .string spbc] w fun e w' => e = .returned (.tuple #[.string su, .int .i64 0]) ∧ Below w.heap.size w w') (k12 : ∀ w, Calls Try.prog 17 #[.string sa, .string sbc] w fun e w' => e = .returned (.tuple #[.string sl, .int .i64 0]) ∧ Below w.heap.size w w') (k13 : ∀ w, Calls Try.prog 15 #[.string spab, .string spac] w fun e w' => e = .returned (.tuple #[.string sl, .int .i64 0]) ∧ Below w.heap.size w w') (i1 : ∀ w, Calls Try.prog 13 #[.string sx] w fun e w' => e = .returned (.bool true) ∧ Below w.heap.size w w') (i2 : ∀ w, Calls Try.prog 13 #[.string su] w fun e w' => e = .returned (.bool true) ∧ Below w.heap.size w w') (wS : World) : Calls Try.prog 5 #[.string sa, .string sb, .string sc] wS (BoolPost true wS) := by
  have H := SM.start wS
  replace k1 := Kept.mk k1
  replace k2 := Kept.mk k2
  replace k3 := Kept.mk k3
  replace k4 := Kept.mk k4
  replace k5 := Kept.mk k5
  replace k6 := Kept.mk k6
  replace k7 := Kept.mk k7
  replace k8 := Kept.mk k8
  replace k9 := Kept.mk k9
  replace k10 := Kept.mk k10
  replace k11 := Kept.mk k11
  replace k12 := Kept.mk k12
  replace k13 := Kept.mk k13
  replace i1 := Kept.mk i1
  replace i2 := Kept.mk i2
  go_enter Try.func5, Try.ntmps5
  go_wp2_with (first
    | (go_at_call 12; with_reducible refine s_call (by assumption) (fixed_any _) ?_; intro w H)
    | (go_at_call 15; with_reducible refine s_call (by assumption) (k1.out _) ?_; intro w H)
    | (go_at_call 15; with_reducible refine s_call (by assumption) (k2.out _) ?_; intro w H)
    | (go_at_call 15; with_reducible refine s_call (by assumption) (k3.out _) ?_; intro w H)
    | (go_at_call 15; with_reducible refine s_call (by assumption) (k4.out _) ?_; intro w H)
    | (go_at_call 15; with_reducible refine s_call (by assumption) (k5.out _) ?_; intro w H)
    | (go_at_call 17; with_reducible refine s_call (by assumption) (k6.out _) ?_; intro w H)
    | (go_at_call 17; with_reducible refine s_call (by assumption) (k7.out _) ?_; intro w H)
    | (go_at_call 17; with_reducible refine s_call (by assumption) (k8.out _) ?_; intro w H)
    | (go_at_call 17; with_reducible refine s_call (by assumption) (k9.out _) ?_; intro w H)
    | (go_at_call 17; with_reducible refine s_call (by assumption) (k10.out _) ?_; intro w H)
    | (go_at_call 17; with_reducible refine s_call (by assumption) (k11.out _) ?_; intro w H)
    | (go_at_call 17; with_reducible refine s_call (by assumption) (k12.out _) ?_; intro w H)
    | (go_at_call 15; with_reducible refine s_call (by assumption) (k13.out _) ?_; intro w H)
    | (go_at_call 13; with_reducible refine s_call (by assumption) (i1.out _) ?_; intro w H)
    | (go_at_call 13; with_reducible refine s_call (by assumption) (i2.out _) ?_; intro w H))
  go_ret
  exact ⟨rfl, H.below⟩
theorem addm (a b c : Nat) : ((a + b) % oN + c) % oN = (a + (b + c) % oN) % oN := by
  rw [Nat.mod_add_mod, Nat.add_mod_mod, Nat.add_assoc]
theorem mulm3 (a b c : Nat) : (a * b % oN) * c % oN = a * (b * c % oN) % oN := by
  rw [Nat.mod_mul_mod, Nat.mul_mod_mod, Nat.mul_assoc]
theorem distm (a b c : Nat) : a * ((b + c) % oN) % oN = (a * b % oN + a * c % oN) % oN := by
  rw [Nat.mul_mod_mod, Nat.mul_add, ← Nat.add_mod]
theorem tell {f : FuncId} {l m r r' : List UInt8} {w : World} (h : Calls Try.prog f #[.string (S l), .string (S m)] w (StrPost r 0 w)) (e : r = r') : Calls Try.prog f #[.string (S l), .string (S m)] w fun e w' => e = .returned (.tuple #[.string (S r'), .int .i64 0]) ∧ Below w.heap.size w w' := e ▸ h
theorem ne32 (l : List UInt8) (h : l.length ≠ 32) : (((S l).size : Int) != 32) = true := by rw [S_size]; simp; omega
theorem eq32 (l : List UInt8) (h : l.length = 32) : (S l).size = 32 := by rw [S_size, h]
theorem walk (a b c : List UInt8) (ha : a.length ≤ 140737488351232) (hb : b.length ≤ 140737488351232) (hc : c.length ≤ 140737488351232) (w : World) :
    Calls Try.prog 5 #[.string (S a), .string (S b), .string (S c)] w fun e w' => e = .returned (.bool true) ∧ Below w.heap.size w w' := by
  by_cases h1 : a.length = 32
  · by_cases h2 : b.length = 32
    · by_cases h3 : c.length = 32
      · have la := scB_len (numB a + numB b)
        have lb := scB_len (numB b + numB c)
        have l1 := scB_len (numB a * numB b)
        have l2 := scB_len (numB b * numB c)
        have l3 := scB_len (numB a * numB c)
        refine core (S a) (S b) (S c) (S (scB (numB a + numB b))) (S (scB (numB b + numB c))) (S (scB (numB (scB (numB a + numB b)) + numB c))) (S (scB (numB a * numB b))) (S (scB (numB b * numB c))) (S (scB (numB a * numB c))) (S (scB (numB (scB (numB a * numB b)) * numB c))) (S (scB (numB a * numB (scB (numB b + numB c)))))
          (eq32 a h1) (eq32 b h2) (eq32 c h3) (fun w => tell (Add_ok a b h1 h2 w) rfl) (fun w => tell (Add_ok b a h2 h1 w) (by rw [Nat.add_comm])) (fun w => tell (Add_ok b c h2 h3 w) rfl) (fun w => tell (Add_ok _ c la h3 w) rfl) (fun w => tell (Add_ok a _ h1 lb w) (scB_eq ?_))
          (fun w => tell (Mul_ok a b h1 h2 w) rfl) (fun w => tell (Mul_ok b a h2 h1 w) (by rw [Nat.mul_comm])) (fun w => tell (Mul_ok b c h2 h3 w) rfl) (fun w => tell (Mul_ok a c h1 h3 w) rfl) (fun w => tell (Mul_ok _ c l1 h3 w) rfl) (fun w => tell (Mul_ok a _ h1 l2 w) (scB_eq ?_)) (fun w => tell (Mul_ok a _ h1 lb w) rfl) (fun w => tell (Add_ok _ _ l1 l3 w) (scB_eq ?_)) ?_ ?_ w
        · rw [scB_num, scB_num]; exact (addm _ _ _).symm
        · rw [scB_num, scB_num]; exact (mulm3 _ _ _).symm
        · rw [scB_num, scB_num, scB_num]; exact (distm _ _ _).symm
        · intro w; have h := Is_any (scB (numB (scB (numB a + numB b)) + numB c)) w; rw [scB_is] at h; exact h
        · intro w; have h := Is_any (scB (numB (scB (numB a * numB b)) * numB c)) w; rw [scB_is] at h; exact h
      · exact walk_no2 _ _ _ (eq32 a h1) (eq32 b h2) (ne32 c h3) w
    · exact walk_no1 _ _ _ (eq32 a h1) (ne32 b h2) w
  · exact walk_no0 _ _ _ (ne32 a h1) w
theorem own : ownKnob Try.prog.godebug = none := by kernel_rfl
theorem contract (H : Type) (enc : TypeId × Value → H) (W : World) (base : Nat) (args : Array Value) (ds gs : List (DataW H)) (before : List MemPlace)
    (hval : ∀ (j : Nat) t v, Try.f5.params[j]? = some t → args[j]? = some v → Value.okWide Try.prog W .any base t v)
    (hW : DataW.Whole enc Try.prog Try.f5.params.toList Rows.scalarRulesSpec.vars false W args.toList ds gs before)
    (hsz : (DataW.weightsEach Try.prog (Try.f5.params.toList ++ Rows.scalarRulesSpec.plain.varTypes Try.prog) (ds ++ gs)).all (· ≤ reachBytes) = true) :
    Calls Try.prog 5 args W fun e W' => ∃ v, e = .returned v ∧ Rows.scalarRulesSpec.post enc Try.prog Try.f5 false true false false W args v W' := by
  have hW' := hW
  obtain ⟨p, q, hA0, hV, rfl, hfz, hnd⟩ := hW
  have hA : DataW.TrodAll enc Try.prog W 0 (fun _ => true) true Try.f5.params.toList args.toList ds p := hA0
  rw [Try.params5] at hA hval hsz
  obtain ⟨v0, vs0, d0, ds0, p0, q0, hargs, rfl, rfl, h0, r0⟩ := trodAll_cons hA
  obtain ⟨v1, vs1, d1, ds1, p1, q1, rfl, rfl, rfl, h1, r1⟩ := trodAll_cons r0
  obtain ⟨v2, vs2, d2, ds2, p2, q2, rfl, rfl, rfl, h2, r2⟩ := trodAll_cons r1
  obtain ⟨rfl, rfl, rfl⟩ := trodAll_nil r2
  obtain rfl : args = #[v0, v1, v2] := by cases args; simp_all
  obtain ⟨rfl, rfl⟩ := trodVars_none hV
  obtain ⟨x0, rfl, rfl, rfl, hs0⟩ := open_string Try.underlying9 (hval 0 9 v0 rfl rfl) h0
  obtain ⟨x1, rfl, rfl, rfl, hs1⟩ := open_string Try.underlying9 (hval 1 9 v1 rfl rfl) h1
  obtain ⟨x2, rfl, rfl, rfl, hs2⟩ := open_string Try.underlying9 (hval 2 9 v2 rfl rfl) h2
  clear hA0
  simp only [List.append_nil] at hW' hsz
  have hl0 : x0.data.toList.length ≤ 140737488351232 := by
    have := sized_string hsz (j := 0) (t := 9) rfl rfl
    simp only [reachBytes] at this
    omega
  have hl1 : x1.data.toList.length ≤ 140737488351232 := by
    have := sized_string hsz (j := 1) (t := 9) rfl rfl
    simp only [reachBytes] at this
    omega
  have hl2 : x2.data.toList.length ≤ 140737488351232 := by
    have := sized_string hsz (j := 2) (t := 9) rfl rfl
    simp only [reachBytes] at this
    omega
  refine (walk x0.data.toList x1.data.toList x2.data.toList hl0 hl1 hl2 W).mono fun e W' ⟨he, hg⟩ => ?_
  subst he
  exact ⟨_, rfl, post_below (pa := []) (pv := []) hW' hg (fun _ _ _ => trodAll_cons_mk (shut_bool Try.underlying4 _) trodAll_mk0) (fun _ _ => trodAll_cons_mk (shut_string Try.underlying9 hs0) (trodAll_cons_mk (shut_string Try.underlying9 hs1) (trodAll_cons_mk (shut_string Try.underlying9 hs2) trodAll_mk0))) (fun _ _ => rfl) rfl
    (ok_one (by kernel_rfl) rfl (okWide_bool_mk Try.underlying4 _))⟩
set_option maxRecDepth 100000 in
theorem lifted (os : Os) (started : os.Started) (H : Type) (enc : TypeId × Value → H) :
    ReturnsInHanded {} Try.checked os 5 .any (Rows.scalarRulesSpec.pre6 enc Try.prog Try.f5 Rows.scalarRulesRow.domain false) (Rows.scalarRulesSpec.post enc Try.prog Try.f5 false true false false) := by
  refine returnsInHanded_of_change_sized (C := Try.checked) own started (by kernel_rfl) Try.func5
    (ChangeSpec.witness6 (enc := enc) (C := Try.checked) false ⟨#[], #[.string ⟨#[]⟩, .string ⟨#[]⟩, .string ⟨#[]⟩], []⟩ 8 (by kernel_rfl) (by kernel_rfl) (by kernel_rfl) (by kernel_rfl)) ?_
  intro W base args ds gs before hval hW _ hsz _
  exact contract H enc W base args ds gs before hval hW hsz
theorem proved : Rows.ScalarRulesSaid :=
  OpenClaim.holds_of_wide 5 Try.f5 rfl rfl rfl rfl rfl rfl rfl ⟨rfl, rfl, rfl, rfl, rfl⟩ rfl rfl rfl rfl rfl (by kernel_rfl) Try.func5 (by kernel_rfl)
    (of_decide_eq_true (by kernel_rfl)) (by unfold Func.isWrapper; first | (rw [if_pos (by decide +kernel)]; kernel_rfl) | (rw [if_neg (by decide +kernel)]; exact ⟨rfl, rfl⟩))
    (fun os started H enc _ => lifted os started H enc)
#print axioms proved
end Go.Proofs.Ythlkpdfdbdfbjaa.scalarRules
