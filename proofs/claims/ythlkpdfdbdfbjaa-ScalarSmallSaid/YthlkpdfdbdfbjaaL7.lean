/- ScalarSmall, for every input: the law answers true: small numbers are added and multiplied as numbers are. -/
import Derived.Test.YthlkpdfdbdfbjaaRows
import Derived.Test.YthlkpdfdbdfbjaaP12
import Derived.Test.YthlkpdfdbdfbjaaRow
import Derived.ProofKit
import Derived.OpenShut
import Derived.SizedLaws
import Derived.JoinedOf
import Derived.JoinedAt
import Derived.JoinedCond
namespace Go.Proofs.Ythlkpdfdbdfbjaa.scalarSmall
open Go.ChangeShapes Go.WideShapes Go.ChangeAt Go.RowKit
set_option linter.unusedSimpArgs false
set_option linter.unusedVariables false
open Go.ChangeMaps (open_string shut_string)
set_option maxRecDepth 100000 in
set_option maxHeartbeats 6400000 in
theorem core (x y p a3 a2 a1 a0 b3 b2 b1 b0 : Nat) (sx sy ss sp : ByteArray) (hx : x < 4294967296) (hy : y < 4294967296) (qa3 : (x : Int) / 16777216 = (a3 : Int)) (qa2 : bits .and .u32 ((x : Int) / 65536) 255 = (a2 : Int)) (qa1 : bits .and .u32 ((x : Int) / 256) 255 = (a1 : Int)) (qa0 : bits .and .u32 (x : Int) 255 = (a0 : Int)) (qb3 : (y : Int) / 16777216 = (b3 : Int)) (qb2 : bits .and .u32 ((y : Int) / 65536) 255 = (b2 : Int)) (qb1 : bits .and .u32 ((y : Int) / 256) 255 = (b1 : Int)) (qb0 : bits .and .u32 (y : Int) 255 = (b0 : Int)) (wa0 : wrap64 (a0 : Int) = (a0 : Int)) (wa1 : wrap64 (a1 : Int) = (a1 : Int)) (wa2 : wrap64 (a2 : Int) = (a2 : Int)) (wa3 : wrap64 (a3 : Int) = (a3 : Int)) (wb0 : wrap64 (b0 : Int) = (b0 : Int)) (wb1 : wrap64 (b1 : Int) = (b1 : Int)) (wb2 : wrap64 (b2 : Int) = (b2 : Int)) (wb3 : wrap64 (b3 : Int) = (b3 : Int)) (hp : IntKind.u64.wrap ((x : Int) * (y : Int)) = (p : Int)) (wS : World)
    (c1 : ∀ w, AtS w wS.heap.size [a3, a2, a1, a0] → Calls Try.prog 21 #[.slice (some ⟨wS.heap.size, 0, none⟩) 4 4] w fun e w' => e = .returned (.string sx) ∧ Below w.heap.size w w') (c2 : ∀ w, AtS w (wS.heap.size + 1) [b3, b2, b1, b0] → Calls Try.prog 21 #[.slice (some ⟨(wS.heap.size + 1), 0, none⟩) 4 4] w fun e w' => e = .returned (.string sy) ∧ Below w.heap.size w w') (c3 : ∀ w, Calls Try.prog 15 #[.string sx, .string sy] w fun e w' => e = .returned (.tuple #[.string ss, .int .i64 0]) ∧ Below w.heap.size w w') (c4 : ∀ w, Calls Try.prog 17 #[.string sx, .string sy] w fun e w' => e = .returned (.tuple #[.string sp, .int .i64 0]) ∧ Below w.heap.size w w') (c5 : ∀ w, Calls Try.prog 22 #[.int .u64 ((x : Int) + (y : Int))] w fun e w' => e = .returned (.string ss) ∧ Below w.heap.size w w') (c6 : ∀ w, Calls Try.prog 22 #[.int .u64 (p : Int)] w fun e w' => e = .returned (.string sp) ∧ Below w.heap.size w w') : Calls Try.prog 9 #[.int .u32 (x : Int), .int .u32 (y : Int)] wS (BoolPost true wS) := by
  have H := ((SM.start wS).new [a3, a2, a1, a0]).new [b3, b2, b1, b0]
  rw [World.size_alloc] at H
  have H : SM wS ((wS.alloc (Obj.cells #[.int .i64 (a3 : Int), .int .i64 (wrap64 (a2 : Int)), .int .i64 (wrap64 (a1 : Int)), .int .i64 (wrap64 (a0 : Int))] 3)).alloc (Obj.cells #[.int .i64 (b3 : Int), .int .i64 (wrap64 (b2 : Int)), .int .i64 (wrap64 (b1 : Int)), .int .i64 (wrap64 (b0 : Int))] 3)) [(wS.heap.size + 1, [b3, b2, b1, b0]), (wS.heap.size, [a3, a2, a1, a0])] := by
    rw [wa2, wa1, wa0, wb2, wb1, wb0]
    exact H
  have m1 : (wS.heap.size, [a3, a2, a1, a0]) ∈ [(wS.heap.size + 1, [b3, b2, b1, b0]), (wS.heap.size, [a3, a2, a1, a0])] := .tail _ (.head _)
  have m2 : (wS.heap.size + 1, [b3, b2, b1, b0]) ∈ [(wS.heap.size + 1, [b3, b2, b1, b0]), (wS.heap.size, [a3, a2, a1, a0])] := .head _
  replace m1 := Kept.mk m1
  replace m2 := Kept.mk m2
  replace wa0 := Kept.mk wa0
  replace wa1 := Kept.mk wa1
  replace wa2 := Kept.mk wa2
  replace wa3 := Kept.mk wa3
  replace wb0 := Kept.mk wb0
  replace wb1 := Kept.mk wb1
  replace wb2 := Kept.mk wb2
  replace wb3 := Kept.mk wb3
  replace c1 := Kept.mk c1
  replace c2 := Kept.mk c2
  replace c3 := Kept.mk c3
  replace c4 := Kept.mk c4
  replace c5 := Kept.mk c5
  replace c6 := Kept.mk c6
  go_enter Try.func9, Try.ntmps9
  go_wp2_with (first
    | (go_at_call 12; with_reducible refine s_call (by assumption) (fixed_any _) ?_; intro w H)
    | (go_at_call 21; with_reducible refine s_call H (c1.out _ (H.holds _ _ m1.out)) ?_; intro w H)
    | (go_at_call 21; with_reducible refine s_call H (c2.out _ (H.holds _ _ m2.out)) ?_; intro w H)
    | (go_at_call 15; with_reducible refine s_call (by assumption) (c3.out _) ?_; intro w H)
    | (go_at_call 17; with_reducible refine s_call (by assumption) (c4.out _) ?_; intro w H)
    | (go_at_call 22; with_reducible refine s_call (by assumption) (c5.out _) ?_; intro w H)
    | (go_at_call 22; with_reducible refine s_call (by assumption) (c6.out _) ?_; intro w H))
  go_ret
  exact ⟨rfl, H.below⟩
theorem bits_and_u32 (a b : Nat) (ha : a < 4294967296) (hb : b < 4294967296) : bits .and .u32 (a : Int) (b : Int) = ((a &&& b : Nat) : Int) := by
  have hx : a &&& b < 2 ^ 32 := Nat.and_lt_two_pow a (by omega)
  have h1 : (BitVec.ofInt 32 (a : Int)).toNat = a := by
    rw [BitVec.ofInt_natCast, BitVec.toNat_ofNat]; exact Nat.mod_eq_of_lt (by omega)
  have h2 : (BitVec.ofInt 32 (b : Int)).toNat = b := by
    rw [BitVec.ofInt_natCast, BitVec.toNat_ofNat]; exact Nat.mod_eq_of_lt (by omega)
  show IntKind.u32.wrap ((BitVec.ofInt 32 (a : Int) &&& BitVec.ofInt 32 (b : Int)).toNat : Int) = _
  rw [BitVec.toNat_and, h1, h2]
  simp [IntKind.wrap, IntKind.signed, IntKind.bits]
  omega
theorem byte_at (x k : Nat) (hx : x < 4294967296) : bits .and .u32 ((x : Int) / (k : Int)) 255 = ((x / k % 256 : Nat) : Int) := by
  rw [← Int.natCast_ediv, show (255 : Int) = ((255 : Nat) : Int) from rfl, bits_and_u32 _ _ (Nat.lt_of_le_of_lt (Nat.div_le_self _ _) hx) (by decide)]
  rw [show (255 : Nat) = 2 ^ 8 - 1 from rfl, Nat.and_two_pow_sub_one_eq_mod]
theorem walk (x y : Nat) (hx : x < 4294967296) (hy : y < 4294967296) (w : World) :
    Calls Try.prog 9 #[.int .u32 (x : Int), .int .u32 (y : Int)] w fun e w' => e = .returned (.bool true) ∧ Below w.heap.size w w' := by
  have hp : x * y ≤ 4294967295 * 4294967295 := Nat.mul_le_mul (by omega) (by omega)
  have k1 : IntKind.u64.wrap ((x : Int) * (y : Int)) = ((x * y : Nat) : Int) := by
    rw [← Int.natCast_mul]
    generalize x * y = p at hp ⊢
    simp [IntKind.wrap, IntKind.signed, IntKind.bits]; omega
  have one : ∀ z : Nat, (z : Int) / ((1 : Nat) : Int) = (z : Int) := fun z => by simp
  have x0 := byte_at x 1 hx
  have y0 := byte_at y 1 hy
  rw [one] at x0 y0
  rw [Nat.div_one] at x0 y0
  have b0 : ∀ z k : Nat, wrap64 ((z / k % 256 : Nat) : Int) = ((z / k % 256 : Nat) : Int) := fun z k => by have := Nat.mod_lt (z / k) (show 256 > 0 by decide); exact ws_64 _ (by omega) (by omega)
  have ex : x % 256 + 256 * (x / 256 % 256 + 256 * (x / 65536 % 256 + 256 * (x / 16777216))) = x := by omega
  have ey : y % 256 + 256 * (y / 256 % 256 + 256 * (y / 65536 % 256 + 256 * (y / 16777216))) = y := by omega
  have s1 := fun g w h => small_any (x / 16777216) (x / 65536 % 256) (x / 256 % 256) (x % 256) (by omega) (by omega) (by omega) (by omega) g 4 w h
  have s2 := fun g w h => small_any (y / 16777216) (y / 65536 % 256) (y / 256 % 256) (y % 256) (by omega) (by omega) (by omega) (by omega) g 4 w h
  rw [ex] at s1
  rw [ey] at s2
  have cA := fun w => Add_ok (scB x) (scB y) (scB_len _) (scB_len _) w
  rw [show scB (numB (scB x) + numB (scB y)) = scB (x + y) from scB_eq (by rw [scB_num, scB_num, ← Nat.add_mod])] at cA
  have cM := fun w => Mul_ok (scB x) (scB y) (scB_len _) (scB_len _) w
  rw [show scB (numB (scB x) * numB (scB y)) = scB (x * y) from scB_eq (by rw [scB_num, scB_num, ← Nat.mul_mod])] at cM
  have cW := fun w => wider_any (x + y) (by omega) w
  rw [Int.natCast_add] at cW
  exact core x y (x * y) (x / 16777216) (x / 65536 % 256) (x / 256 % 256) (x % 256) (y / 16777216) (y / 65536 % 256) (y / 256 % 256) (y % 256) (S (scB x)) (S (scB y)) (S (scB (x + y))) (S (scB (x * y))) hx hy (by omega) (byte_at x 65536 hx) (byte_at x 256 hx) x0 (by omega) (byte_at y 65536 hy) (byte_at y 256 hy) y0
    (ws_64 _ (by omega) (by omega)) (b0 _ _) (b0 _ _) (ws_64 _ (by omega) (by omega)) (ws_64 _ (by omega) (by omega)) (b0 _ _) (b0 _ _) (ws_64 _ (by omega) (by omega)) k1 w (s1 _) (s2 _) cA cM cW (fun w => wider_any (x * y) (by omega) w)
theorem own : ownKnob Try.prog.godebug = none := by kernel_rfl
theorem contract (H : Type) (enc : TypeId × Value → H) (W : World) (base : Nat) (args : Array Value) (ds gs : List (DataW H)) (before : List MemPlace)
    (hval : ∀ (j : Nat) t v, Try.f9.params[j]? = some t → args[j]? = some v → Value.okWide Try.prog W .any base t v)
    (hW : DataW.Whole enc Try.prog Try.f9.params.toList Rows.scalarSmallSpec.vars false W args.toList ds gs before)
    (hsz : (DataW.weightsEach Try.prog (Try.f9.params.toList ++ Rows.scalarSmallSpec.plain.varTypes Try.prog) (ds ++ gs)).all (· ≤ reachBytes) = true) :
    Calls Try.prog 9 args W fun e W' => ∃ v, e = .returned v ∧ Rows.scalarSmallSpec.post enc Try.prog Try.f9 false true false false W args v W' := by
  have hW' := hW
  obtain ⟨p, q, hA0, hV, rfl, hfz, hnd⟩ := hW
  have hA : DataW.TrodAll enc Try.prog W 0 (fun _ => true) true Try.f9.params.toList args.toList ds p := hA0
  rw [Try.params9] at hA hval hsz
  obtain ⟨v0, vs0, d0, ds0, p0, q0, hargs, rfl, rfl, h0, r0⟩ := trodAll_cons hA
  obtain ⟨v1, vs1, d1, ds1, p1, q1, rfl, rfl, rfl, h1, r1⟩ := trodAll_cons r0
  obtain ⟨rfl, rfl, rfl⟩ := trodAll_nil r1
  obtain rfl : args = #[v0, v1] := by cases args; simp_all
  obtain ⟨rfl, rfl⟩ := trodVars_none hV
  obtain ⟨x0, rfl, rfl, rfl, hs0⟩ := open_int Try.underlying33 (hval 0 33 v0 rfl rfl) h0
  obtain ⟨x1, rfl, rfl, rfl, hs1⟩ := open_int Try.underlying33 (hval 1 33 v1 rfl rfl) h1
  clear hA0
  simp only [List.append_nil] at hW' hsz
  have hb0 := hs0
  simp only [Lit.wf, Bool.and_eq_true, decide_eq_true_eq] at hb0
  simp [IntKind.min, IntKind.max, IntKind.signed, IntKind.bits] at hb0
  obtain ⟨y0, rfl⟩ := Int.eq_ofNat_of_zero_le hb0.1
  have hb1 := hs1
  simp only [Lit.wf, Bool.and_eq_true, decide_eq_true_eq] at hb1
  simp [IntKind.min, IntKind.max, IntKind.signed, IntKind.bits] at hb1
  obtain ⟨y1, rfl⟩ := Int.eq_ofNat_of_zero_le hb1.1
  refine (walk y0 y1 (by omega) (by omega) W).mono fun e W' ⟨he, hg⟩ => ?_
  subst he
  exact ⟨_, rfl, post_below (pa := []) (pv := []) hW' hg (fun _ _ _ => trodAll_cons_mk (shut_bool Try.underlying4 _) trodAll_mk0) (fun _ _ => trodAll_cons_mk (shut_int Try.underlying33 hs0) (trodAll_cons_mk (shut_int Try.underlying33 hs1) trodAll_mk0)) (fun _ _ => rfl) rfl
    (ok_one (by kernel_rfl) rfl (okWide_bool_mk Try.underlying4 _))⟩
set_option maxRecDepth 100000 in
theorem lifted (os : Os) (started : os.Started) (H : Type) (enc : TypeId × Value → H) :
    ReturnsInHanded {} Try.checked os 9 .any (Rows.scalarSmallSpec.pre6 enc Try.prog Try.f9 Rows.scalarSmallRow.domain false) (Rows.scalarSmallSpec.post enc Try.prog Try.f9 false true false false) := by
  refine returnsInHanded_of_change_sized (C := Try.checked) own started (by kernel_rfl) Try.func9
    (ChangeSpec.witness6 (enc := enc) (C := Try.checked) false ⟨#[], #[.int .u32 0, .int .u32 0], []⟩ 8 (by kernel_rfl) (by kernel_rfl) (by kernel_rfl) (by kernel_rfl)) ?_
  intro W base args ds gs before hval hW _ hsz _
  exact contract H enc W base args ds gs before hval hW hsz
theorem proved : Rows.ScalarSmallSaid :=
  OpenClaim.holds_of_wide 9 Try.f9 rfl rfl rfl rfl rfl rfl rfl ⟨rfl, rfl, rfl, rfl, rfl⟩ rfl rfl rfl rfl rfl (by kernel_rfl) Try.func9 (by kernel_rfl)
    (of_decide_eq_true (by kernel_rfl)) (by unfold Func.isWrapper; first | (rw [if_pos (by decide +kernel)]; kernel_rfl) | (rw [if_neg (by decide +kernel)]; exact ⟨rfl, rfl⟩))
    (fun os started H enc _ => lifted os started H enc)
#print axioms proved
end Go.Proofs.Ythlkpdfdbdfbjaa.scalarSmall
