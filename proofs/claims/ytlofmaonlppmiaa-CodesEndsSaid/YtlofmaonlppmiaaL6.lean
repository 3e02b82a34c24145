/- CodesEnds, for every input that can be read: the law answers true; bytes with their own sum behind them have always the same sum, with another one they have not. -/
import Derived.Test.YtlofmaonlppmiaaRows
import Derived.Test.YtlofmaonlppmiaaD5
import Derived.Test.YtlofmaonlppmiaaRow
import Derived.ProofKit
import Derived.OpenShut
import Derived.SizedLaws
import Derived.JoinedOf
import Derived.JoinedAt
import Derived.JoinedCond
namespace Go.Proofs.Ytlofmaonlppmiaa.codesEnds
open Go.ChangeShapes Go.WideShapes Go.ChangeAt Go.RowKit Go.Lib
open Go.ChangeMaps (open_string shut_string)
theorem le4_leN (n : Nat) : leN n 4 = le4 n := by
  unfold le4
  simp only [leN, Nat.div_div_eq_div_mul]
theorem put4 (n : Nat) (h : n ≤ 4294967295) : putL (n : Int) 4 = some (le4 n) := by
  unfold putL
  rw [if_neg (by omega)]
  have e1 : (n : Int).toNat = n := Int.toNat_natCast n
  have e2 : (4 : Int).toNat = 4 := rfl
  rw [e1, e2, if_neg (by omega), le4_leN]
set_option maxHeartbeats 3200000 in
theorem walk (s : List UInt8) (n : Nat) (hs : s.length ≤ 140737488351232) (hn : n ≤ 4294967295) (w : World) :
    Calls Try.prog 8 #[.string (S s), .int .u32 (n : Nat)] w fun e w' => e = .returned (.bool true) ∧ Below w.heap.size w w' := by
  obtain ⟨x, hx⟩ : ∃ x, crcN 0 s = x := ⟨_, rfl⟩
  have hxl : x ≤ 4294967295 := by rw [← hx]; exact crcN_lt 0 s
  have hend := crcN_end s
  rw [hx] at hend
  have q1 : crcN 0 (s ++ le4 x) = 558161692 := (hend x (by omega)).2 rfl
  obtain ⟨y, hy⟩ : ∃ y, crcN 0 (s ++ le4 n) = y := ⟨_, rfl⟩
  have hyl : y ≤ 4294967295 := by rw [← hy]; exact crcN_lt 0 _
  have q2 := hend n (by omega)
  rw [hy] at q2
  have lx : (le4 x).length = 4 := rfl
  have ln : (le4 n).length = 4 := rfl
  have c1 := fun w => crc_is 0 s x hx (by omega) (by omega) w
  have c2 := fun w => put_some (x : Int) 4 _ (put4 x hxl) (by omega) w
  have c3 := fun w => put_some (n : Int) 4 _ (put4 n hn) (by omega) w
  have c4 := fun w => crc_is 0 (s ++ le4 x) _ q1 (by omega) (by rw [List.length_append]; omega) w
  have c5 := fun w => crc_is 0 (s ++ le4 n) y hy (by omega) (by rw [List.length_append]; omega) w
  have a1 := S_append s (le4 x)
  have a2 := S_append s (le4 n)
  have zs : (S s).size ≤ 140737488351232 := by rw [S_size]; exact hs
  have zx : (S (le4 x)).size = 4 := by rw [S_size]; rfl
  have zn : (S (le4 n)).size = 4 := by rw [S_size]; rfl
  have bb : (((y : Int) == 558161692) == ((n : Int) == (x : Int))) = true := by
    by_cases h : n = x
    · have : y = 558161692 := q2.2 h
      subst this; subst h; simp
    · have : ¬ y = 558161692 := fun e => h (q2.1 e)
      have e1 : ((y : Int) == 558161692) = false := by rw [beq_eq_false_iff_ne]; omega
      have e2 : ((n : Int) == (x : Int)) = false := by rw [beq_eq_false_iff_ne]; omega
      rw [e1, e2]; rfl
  clear hx hend q1 hy q2 lx ln
  replace c1 := Lib.hid c1
  replace c2 := Lib.hid c2
  replace c3 := Lib.hid c3
  replace c4 := Lib.hid c4
  replace c5 := Lib.hid c5
  go_enter Try.func8, Try.ntmps8
  go_wp2_with fail
  refine (c1.out _).mono ?_
  rintro e w' ⟨rfl, rfl⟩
  go_wp2_with fail
  refine (c2.out _).mono ?_
  rintro e w1 ⟨rfl, hb1⟩
  have B1 := Lib.hid hb1
  clear hb1
  go_wp2_with fail
  refine (c3.out _).mono ?_
  rintro e w2 ⟨rfl, hb2⟩
  have B2 := Lib.hid (B1.out.trans (hb2.mono B1.out.size))
  clear hb2 B1
  go_wp2_with fail
  refine (fixed_any _).mono ?_
  rintro e w3 ⟨rfl, hb3⟩
  have B3 := Lib.hid (B2.out.trans (hb3.mono B2.out.size))
  clear hb3 B2
  go_wp2_with fail
  refine (c4.out _).mono ?_
  rintro e w' ⟨rfl, rfl⟩
  go_wp2_with fail
  refine (c5.out _).mono ?_
  rintro e w' ⟨rfl, rfl⟩
  go_wp2
  go_ret
  exact ⟨rfl, B3.out⟩

theorem own : ownKnob Try.prog.godebug = none := by kernel_rfl
theorem contract (H : Type) (enc : TypeId × Value → H) (W : World) (base : Nat) (args : Array Value) (ds gs : List (DataW H)) (before : List MemPlace)
    (hval : ∀ (j : Nat) t v, Try.f8.params[j]? = some t → args[j]? = some v → Value.okWide Try.prog W .any base t v)
    (hW : DataW.Whole enc Try.prog Try.f8.params.toList Rows.codesEndsSpec.vars false W args.toList ds gs before)
    (hsz : (DataW.weightsEach Try.prog (Try.f8.params.toList ++ Rows.codesEndsSpec.plain.varTypes Try.prog) (ds ++ gs)).all (· ≤ reachBytes) = true) :
    Calls Try.prog 8 args W fun e W' => ∃ v, e = .returned v ∧ Rows.codesEndsSpec.post enc Try.prog Try.f8 false true false false W args v W' := by
  have hW' := hW
  obtain ⟨p, q, hA0, hV, rfl, hfz, hnd⟩ := hW
  have hA : DataW.TrodAll enc Try.prog W 0 (fun _ => true) true Try.f8.params.toList args.toList ds p := hA0
  rw [Try.params8] at hA hval hsz
  obtain ⟨v0, vs0, d0, ds0, p0, q0, hargs, rfl, rfl, h0, r0⟩ := trodAll_cons hA
  obtain ⟨v1, vs1, d1, ds1, p1, q1, rfl, rfl, rfl, h1, r1⟩ := trodAll_cons r0
  obtain ⟨rfl, rfl, rfl⟩ := trodAll_nil r1
  obtain rfl : args = #[v0, v1] := by cases args; simp_all
  obtain ⟨rfl, rfl⟩ := trodVars_none hV
  obtain ⟨x0, rfl, rfl, rfl, hs0⟩ := open_string Try.underlying9 (hval 0 9 v0 rfl rfl) h0
  obtain ⟨x1, rfl, rfl, rfl, hs1⟩ := open_int Try.underlying29 (hval 1 29 v1 rfl rfl) h1
  clear hA0
  simp only [List.append_nil] at hW' hsz
  have hl0 : x0.data.toList.length ≤ 140737488351232 := by
    have := sized_string hsz (j := 0) (t := 9) rfl rfl
    simp only [reachBytes] at this
    omega
  have hb1 := hs1
  simp only [Lit.wf, Bool.and_eq_true, decide_eq_true_eq] at hb1
  simp [IntKind.min, IntKind.max, IntKind.signed, IntKind.bits] at hb1
  obtain ⟨y1, rfl⟩ := Int.eq_ofNat_of_zero_le hb1.1
  refine (walk x0.data.toList y1 hl0 (by omega) W).mono fun e W' ⟨he, hg⟩ => ?_
  subst he
  exact ⟨_, rfl, post_below (pa := []) (pv := []) hW' hg (fun _ _ _ => trodAll_cons_mk (shut_bool Try.underlying4 _) trodAll_mk0) (fun _ _ => trodAll_cons_mk (shut_string Try.underlying9 hs0) (trodAll_cons_mk (shut_int Try.underlying29 hs1) trodAll_mk0)) (fun _ _ => rfl) rfl
    (ok_one (by kernel_rfl) rfl (okWide_bool_mk Try.underlying4 _))⟩
set_option maxRecDepth 100000 in
theorem lifted (os : Os) (started : os.Started) (H : Type) (enc : TypeId × Value → H) :
    ReturnsInHanded {} Try.checked os 8 .any (Rows.codesEndsSpec.pre6 enc Try.prog Try.f8 Rows.codesEndsRow.domain false) (Rows.codesEndsSpec.post enc Try.prog Try.f8 false true false false) := by
  refine returnsInHanded_of_change_sized (C := Try.checked) own started (by kernel_rfl) Try.func8
    (ChangeSpec.witness6 (enc := enc) (C := Try.checked) false ⟨#[], #[.string ⟨#[]⟩, .int .u32 0], []⟩ 8 (by kernel_rfl) (by kernel_rfl) (by kernel_rfl) (by kernel_rfl)) ?_
  intro W base args ds gs before hval hW _ hsz _
  exact contract H enc W base args ds gs before hval hW hsz
theorem proved : Rows.CodesEndsSaid :=
  OpenClaim.holds_of_wide 8 Try.f8 rfl rfl rfl rfl rfl rfl rfl ⟨rfl, rfl, rfl, rfl, rfl⟩ rfl rfl rfl rfl rfl (by kernel_rfl) Try.func8 (by kernel_rfl)
    (of_decide_eq_true (by kernel_rfl)) (by unfold Func.isWrapper; first | (rw [if_pos (by decide +kernel)]; kernel_rfl) | (rw [if_neg (by decide +kernel)]; exact ⟨rfl, rfl⟩))
    (fun os started H enc _ => lifted os started H enc)
#print axioms proved
end Go.Proofs.Ytlofmaonlppmiaa.codesEnds
