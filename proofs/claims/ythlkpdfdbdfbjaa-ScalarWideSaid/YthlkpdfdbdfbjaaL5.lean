/- ScalarWide, for every input that can be read: the law answers true: bytes behind others count 256 times for each byte that is ahead (32 bytes ahead). -/
import Derived.Test.YthlkpdfdbdfbjaaRows
import Derived.Test.YthlkpdfdbdfbjaaP11
import Derived.Test.YthlkpdfdbdfbjaaRow
import Derived.ProofKit
import Derived.OpenShut
import Derived.SizedLaws
import Derived.JoinedOf
import Derived.JoinedAt
import Derived.JoinedCond
namespace Go.Proofs.Ythlkpdfdbdfbjaa.scalarWide
open Go.ChangeShapes Go.WideShapes Go.ChangeAt Go.RowKit
set_option linter.unusedSimpArgs false
set_option linter.unusedVariables false
open Go.ChangeMaps (open_string shut_string)
def z33 : List UInt8 := List.replicate 33 0
def sh33 : List UInt8 := List.replicate 32 0 ++ [1]
theorem made33 : madeCells #[Value.int .u8 0] 33 = (numC .u8 (digs z33)).toArray := by kernel_rfl
theorem sh_num : numB sh33 = 256 ^ 32 := by decide +kernel
theorem shift_facts {w0 w : World} {L : List (Nat × List Nat)} (H : SM w0 w L) : (w.alloc (.cells (numC .u8 (digs z33)).toArray 5)).cell? ⟨w.heap.size, 32, none⟩ = some (.int .u8 0) ∧ (w.alloc (.cells (numC .u8 (digs z33)).toArray 5)).frozen? ⟨w.heap.size, 32, none⟩ = false ∧
    (convert 31 9 (.slice (some ⟨w.heap.size, 0, none⟩) 33 33)).run Try.prog ((w.alloc (.cells (numC .u8 (digs z33)).toArray 5)).setCell ⟨w.heap.size, 32, none⟩ (.int .u8 1)) = .ok (.string (S sh33)) ((w.alloc (.cells (numC .u8 (digs z33)).toArray 5)).setCell ⟨w.heap.size, 32, none⟩ (.int .u8 1)) ∧
    SM w0 ((w.alloc (.cells (numC .u8 (digs z33)).toArray 5)).setCell ⟨w.heap.size, 32, none⟩ (.int .u8 1)) L := by
  have hB := Arr.new w 5 .u8 (digs z33)
  have hS := hB.set 32 1
  exact ⟨hB.cell 32 (by decide +kernel), hB.frozen 32, conv_at sh33 hS 33 rfl, H.grow (((Below.refl _ w).alloc (Nat.le_refl _) _).setCell (Nat.le_refl _) _)⟩
set_option maxRecDepth 100000 in
set_option maxHeartbeats 6400000 in
theorem core_no0 (sa sb : ByteArray) (hs : ((sa.size : Int) != 32) = true)  (wS : World) : Calls Try.prog 7 #[.string sa, .string sb] wS (BoolPost true wS) := by
  have H := SM.start wS
  go_enter Try.func7, Try.ntmps7
  go_wp2_with (first
    | (go_at_call 12; with_reducible refine s_call (by assumption) (fixed_any _) ?_; intro w H))
  go_ret
  exact ⟨rfl, H.below⟩
set_option maxRecDepth 100000 in
set_option maxHeartbeats 6400000 in
theorem core_no1 (sa sb : ByteArray) (hs : sa.size = 32) (hb : (32 : Int) < (sb.size : Int))  (wS : World) : Calls Try.prog 7 #[.string sa, .string sb] wS (BoolPost true wS) := by
  have H := SM.start wS
  go_enter Try.func7, Try.ntmps7
  go_wp2_with (first
    | (go_at_call 12; with_reducible refine s_call (by assumption) (fixed_any _) ?_; intro w H))
  go_ret
  exact ⟨rfl, H.below⟩
set_option maxRecDepth 100000 in
set_option maxHeartbeats 6400000 in
theorem core (sa sb s33 y lo hi sf x : ByteArray) (h33 : S sh33 = s33) (hs : sa.size = 32) (hb : ¬ (32 : Int) < (sb.size : Int)) (k1 : ∀ w, Calls Try.prog 10 #[.string (sa ++ sb)] w fun e w' => e = .returned (.tuple #[.string y, .int .i64 0]) ∧ Below w.heap.size w w') (k2 : ∀ w, Calls Try.prog 10 #[.string sa] w fun e w' => e = .returned (.tuple #[.string lo, .int .i64 0]) ∧ Below w.heap.size w w') (k3 : ∀ w, Calls Try.prog 10 #[.string sb] w fun e w' => e = .returned (.tuple #[.string hi, .int .i64 0]) ∧ Below w.heap.size w w') (k4 : ∀ w, Calls Try.prog 10 #[.string s33] w fun e w' => e = .returned (.tuple #[.string sf, .int .i64 0]) ∧ Below w.heap.size w w') (k5 : ∀ w, Calls Try.prog 17 #[.string hi, .string sf] w fun e w' => e = .returned (.tuple #[.string x, .int .i64 0]) ∧ Below w.heap.size w w') (k6 : ∀ w, Calls Try.prog 15 #[.string lo, .string x] w fun e w' => e = .returned (.tuple #[.string y, .int .i64 0]) ∧ Below w.heap.size w w') (wS : World) : Calls Try.prog 7 #[.string sa, .string sb] wS (BoolPost true wS) := by
  have H := SM.start wS
  obtain ⟨i1, hi1, hy0, hy1, hy2⟩ := info_parts info5
  replace h33 := Kept.mk h33
  replace k1 := Kept.mk k1
  replace k2 := Kept.mk k2
  replace k3 := Kept.mk k3
  replace k4 := Kept.mk k4
  replace k5 := Kept.mk k5
  replace k6 := Kept.mk k6
  go_enter Try.func7, Try.ntmps7
  go_wp2_with (first
    | (go_at_call 12; with_reducible refine s_call (by assumption) (fixed_any _) ?_; intro w H)
    | (refine wpList_make_row _ rfl _ _ 31 rfl 5 i1 (.int .u8 0) Try.underlying31 hi1 hy0 hy1 rfl .i64 .i64 33 rfl rfl (by rw [hy2]; omega) (by omega) ?_; rw [made33]; obtain ⟨c32, f32, hcv, H⟩ := shift_facts H; rw [h33.out] at hcv; generalize World.alloc _ (.cells (numC .u8 (digs z33)).toArray 5) = w33 at c32 f32 hcv H ⊢)
    | (go_at_call 10; with_reducible refine s_call (by assumption) (k1.out _) ?_; intro w H)
    | (go_at_call 10; with_reducible refine s_call (by assumption) (k2.out _) ?_; intro w H)
    | (go_at_call 10; with_reducible refine s_call (by assumption) (k3.out _) ?_; intro w H)
    | (go_at_call 10; with_reducible refine s_call (by assumption) (k4.out _) ?_; intro w H)
    | (go_at_call 17; with_reducible refine s_call (by assumption) (k5.out _) ?_; intro w H)
    | (go_at_call 15; with_reducible refine s_call (by assumption) (k6.out _) ?_; intro w H))
  go_ret
  exact ⟨rfl, H.below⟩
theorem wide_num (x y z : Nat) : (x % oN + (y % oN) * (z % oN) % oN) % oN = (x + z * y) % oN := by
  rw [← Nat.mul_mod, ← Nat.add_mod, Nat.mul_comm]
theorem walk (a b : List UInt8) (ha : a.length ≤ 140737488351232) (hb : b.length ≤ 140737488351232) (w : World) :
    Calls Try.prog 7 #[.string (S a), .string (S b)] w fun e w' => e = .returned (.bool true) ∧ Below w.heap.size w w' := by
  by_cases h1 : a.length = 32
  · by_cases h2 : b.length ≤ 32
    · have k1 := fun w => Reduce_ok (a ++ b) (by rw [List.length_append]; omega) w
      have k5 := fun w => Mul_ok (scB (numB b)) (scB (numB sh33)) (scB_len _) (scB_len _) w
      have k6 := fun w => Add_ok (scB (numB a)) (scB (numB (scB (numB b)) * numB (scB (numB sh33)))) (scB_len _) (scB_len _) w
      have e : numB (a ++ b) = numB a + 256 ^ 32 * numB b := by
        unfold numB
        rw [show digs (a ++ b) = digs a ++ digs b by simp [digs], val_app, digs_len, h1]
      rw [show scB (numB (scB (numB a)) + numB (scB (numB (scB (numB b)) * numB (scB (numB sh33))))) = scB (numB (a ++ b)) from scB_eq (by rw [e]; simp only [scB_num]; rw [wide_num, sh_num])] at k6
      rw [← S_append] at k1
      exact core (S a) (S b) (S sh33) _ _ _ _ _ rfl (by rw [S_size, h1]) (by rw [S_size]; omega) k1 (fun w => Reduce_ok a (by omega) w) (fun w => Reduce_ok b (by omega) w) (fun w => Reduce_ok sh33 (by decide +kernel) w) k5 k6 w
    · exact core_no1 (S a) (S b) (by rw [S_size, h1]) (by rw [S_size]; omega) w
  · exact core_no0 (S a) (S b) (by rw [S_size]; simp; omega) w
theorem own : ownKnob Try.prog.godebug = none := by kernel_rfl
theorem contract (H : Type) (enc : TypeId × Value → H) (W : World) (base : Nat) (args : Array Value) (ds gs : List (DataW H)) (before : List MemPlace)
    (hval : ∀ (j : Nat) t v, Try.f7.params[j]? = some t → args[j]? = some v → Value.okWide Try.prog W .any base t v)
    (hW : DataW.Whole enc Try.prog Try.f7.params.toList Rows.scalarWideSpec.vars false W args.toList ds gs before)
    (hsz : (DataW.weightsEach Try.prog (Try.f7.params.toList ++ Rows.scalarWideSpec.plain.varTypes Try.prog) (ds ++ gs)).all (· ≤ reachBytes) = true) :
    Calls Try.prog 7 args W fun e W' => ∃ v, e = .returned v ∧ Rows.scalarWideSpec.post enc Try.prog Try.f7 false true false false W args v W' := by
  have hW' := hW
  obtain ⟨p, q, hA0, hV, rfl, hfz, hnd⟩ := hW
  have hA : DataW.TrodAll enc Try.prog W 0 (fun _ => true) true Try.f7.params.toList args.toList ds p := hA0
  rw [Try.params7] at hA hval hsz
  obtain ⟨v0, vs0, d0, ds0, p0, q0, hargs, rfl, rfl, h0, r0⟩ := trodAll_cons hA
  obtain ⟨v1, vs1, d1, ds1, p1, q1, rfl, rfl, rfl, h1, r1⟩ := trodAll_cons r0
  obtain ⟨rfl, rfl, rfl⟩ := trodAll_nil r1
  obtain rfl : args = #[v0, v1] := by cases args; simp_all
  obtain ⟨rfl, rfl⟩ := trodVars_none hV
  obtain ⟨x0, rfl, rfl, rfl, hs0⟩ := open_string Try.underlying9 (hval 0 9 v0 rfl rfl) h0
  obtain ⟨x1, rfl, rfl, rfl, hs1⟩ := open_string Try.underlying9 (hval 1 9 v1 rfl rfl) h1
  clear hA0
  simp only [List.append_nil] at hW' hsz
  have hl0 : x0.data.toList.length ≤ 140737488351232 := by
    have := sized_string hsz (j := 0) (t := 9) rfl rfl
    simp only [reachBytes] at this
    omega
  have hl1 : x1.data.toList.length ≤ 140737488351232 := by
    have := sized_string hsz (j := 1) (t := 9) rfl rfl
    simp only [reachBytes] at this
    omega
  refine (walk x0.data.toList x1.data.toList hl0 hl1 W).mono fun e W' ⟨he, hg⟩ => ?_
  subst he
  exact ⟨_, rfl, post_below (pa := []) (pv := []) hW' hg (fun _ _ _ => trodAll_cons_mk (shut_bool Try.underlying4 _) trodAll_mk0) (fun _ _ => trodAll_cons_mk (shut_string Try.underlying9 hs0) (trodAll_cons_mk (shut_string Try.underlying9 hs1) trodAll_mk0)) (fun _ _ => rfl) rfl
    (ok_one (by kernel_rfl) rfl (okWide_bool_mk Try.underlying4 _))⟩
set_option maxRecDepth 100000 in
theorem lifted (os : Os) (started : os.Started) (H : Type) (enc : TypeId × Value → H) :
    ReturnsInHanded {} Try.checked os 7 .any (Rows.scalarWideSpec.pre6 enc Try.prog Try.f7 Rows.scalarWideRow.domain false) (Rows.scalarWideSpec.post enc Try.prog Try.f7 false true false false) := by
  refine returnsInHanded_of_change_sized (C := Try.checked) own started (by kernel_rfl) Try.func7
    (ChangeSpec.witness6 (enc := enc) (C := Try.checked) false ⟨#[], #[.string ⟨#[]⟩, .string ⟨#[]⟩], []⟩ 8 (by kernel_rfl) (by kernel_rfl) (by kernel_rfl) (by kernel_rfl)) ?_
  intro W base args ds gs before hval hW _ hsz _
  exact contract H enc W base args ds gs before hval hW hsz
theorem proved : Rows.ScalarWideSaid :=
  OpenClaim.holds_of_wide 7 Try.f7 rfl rfl rfl rfl rfl rfl rfl ⟨rfl, rfl, rfl, rfl, rfl⟩ rfl rfl rfl rfl rfl (by kernel_rfl) Try.func7 (by kernel_rfl)
    (of_decide_eq_true (by kernel_rfl)) (by unfold Func.isWrapper; first | (rw [if_pos (by decide +kernel)]; kernel_rfl) | (rw [if_neg (by decide +kernel)]; exact ⟨rfl, rfl⟩))
    (fun os started H enc _ => lifted os started H enc)
#print axioms proved
end Go.Proofs.Ythlkpdfdbdfbjaa.scalarWide
