/- CodesJoins, for all texts that hold together at most 1048576 bytes (with their counts): the law answers true; the digits of bytes behind others are the digits of both, and numbers rise as their highest bytes do. -/
import Derived.Test.YtlofmaonlppmiaaRows
import Derived.Test.YtlofmaonlppmiaaD5
import Derived.Test.YtlofmaonlppmiaaRow
import Derived.ProofKit
import Derived.OpenShut
import Derived.SizedLaws
import Derived.JoinedOf
import Derived.JoinedAt
import Derived.JoinedCond
namespace Go.Proofs.Ytlofmaonlppmiaa.codesJoins
open Go.ChangeShapes Go.WideShapes Go.ChangeAt Go.RowKit Go.Lib
open Go.ChangeMaps (open_string shut_string)
theorem get_form (s : List UInt8) : ∃ (m c : Int), GetV s = .tuple #[.int .i64 m, .int .i64 c] := by
  unfold GetV; split
  · exact ⟨0, 20, rfl⟩
  · exact ⟨_, 0, rfl⟩
theorem high_bd (m i la lb : Nat) (hm : m < 256 ^ lb) (hi : i < la) (h : la + lb ≤ 7) : m * 256 ^ i * 256 < 72057594037927936 := by
  have h1 : m * 256 ^ i * 256 = m * 256 ^ (i + 1) := by rw [Nat.pow_succ, Nat.mul_assoc]
  have h2 : m * 256 ^ (i + 1) < 256 ^ lb * 256 ^ (i + 1) := Nat.mul_lt_mul_of_pos_right hm (Nat.pow_pos (by omega))
  rw [← Nat.pow_add] at h2
  have h3 : 256 ^ (lb + (i + 1)) ≤ 256 ^ 7 := Nat.pow_le_pow_right (by omega) (by omega)
  have h4 : (256 : Nat) ^ 7 = 72057594037927936 := by decide
  omega
set_option maxRecDepth 100000 in
set_option maxHeartbeats 6400000 in
theorem walk (a b : List UInt8) (hl : a.length + b.length ≤ 1048576) (w : World) :
    Calls Try.prog 9 #[.string (S a), .string (S b)] w fun e w' => e = .returned (.bool true) ∧ Below w.heap.size w w' := by
  have za : (S a).size = a.length := S_size a
  have zb : (S b).size = b.length := S_size b
  have lab : (a ++ b).length = a.length + b.length := List.length_append
  obtain ⟨p, hp⟩ : ∃ p, hexL a = p := ⟨_, rfl⟩
  obtain ⟨q, hq⟩ : ∃ q, hexL b = q := ⟨_, rfl⟩
  have hpq := hexL_append a b
  rw [hp, hq] at hpq
  have lp : (S p).size ≤ 2097152 := by rw [S_size, ← hp, hexL_len]; omega
  have lq : (S q).size ≤ 2097152 := by rw [S_size, ← hq, hexL_len]; omega
  have c1 := fun w => hex_is (a ++ b) (p ++ q) hpq (by omega) w
  have c2 := fun w => hex_is a p hp (by omega) w
  have c3 := fun w => hex_is b q hq (by omega) w
  have a1 := S_append a b
  have a2 := S_append p q
  have bb : ((S (p ++ q)).toList != (S (p ++ q)).toList) = false := by simp
  have lza : (S a).size ≤ 1048576 := by omega
  have lzb : (S b).size ≤ 1048576 := by omega
  have pre : ∀ Q : Ending → World → Prop, True := fun _ => trivial
  clear pre hp hq hpq
  replace c1 := Lib.hid c1
  replace c2 := Lib.hid c2
  replace c3 := Lib.hid c3
  replace lab := Lib.hid lab
  by_cases ia : a.length < 1 ∨ 7 < a.length
  · obtain ⟨m, d, hm⟩ := get_form b
    have c4 := fun w => get_none a ia (by omega) w
    have c5 := fun w => get_any b (by omega) w
    unfold GetPost at c5
    rw [hm] at c5
    replace c4 := Lib.hid c4
    replace c5 := Lib.hid c5
    clear hm ia hl za zb
    go_enter Try.func9, Try.ntmps9
    go_wp2_with fail
    refine (fixed_any _).mono ?_
    rintro e w1 ⟨rfl, hb1⟩
    have B1 := Lib.hid hb1
    clear hb1
    go_wp2_with fail
    refine (c1.out _).mono ?_
    rintro e w2 ⟨rfl, hb2⟩
    have B2 := Lib.hid (B1.out.trans (hb2.mono B1.out.size))
    clear hb2 B1
    go_wp2_with fail
    refine (c2.out _).mono ?_
    rintro e w3 ⟨rfl, hb3⟩
    have B3 := Lib.hid (B2.out.trans (hb3.mono B2.out.size))
    clear hb3 B2
    go_wp2_with fail
    refine (c3.out _).mono ?_
    rintro e w4 ⟨rfl, hb4⟩
    have B4 := Lib.hid (B3.out.trans (hb4.mono B3.out.size))
    clear hb4 B3
    go_wp2_with fail
    refine (c4.out _).mono ?_
    rintro e w' ⟨rfl, rfl⟩
    go_wp2_with fail
    refine (c5.out _).mono ?_
    rintro e w' ⟨rfl, rfl⟩
    go_wp2
    go_ret
    exact ⟨rfl, B4.out⟩
  by_cases ib : b.length < 1 ∨ 7 < b.length
  · have c4 := fun w => get_some a _ rfl (by omega) (by omega) w
    have c5 := fun w => get_none b ib (by omega) w
    replace c4 := Lib.hid c4
    replace c5 := Lib.hid c5
    clear ia ib hl za zb
    go_enter Try.func9, Try.ntmps9
    go_wp2_with fail
    refine (fixed_any _).mono ?_
    rintro e w1 ⟨rfl, hb1⟩
    have B1 := Lib.hid hb1
    clear hb1
    go_wp2_with fail
    refine (c1.out _).mono ?_
    rintro e w2 ⟨rfl, hb2⟩
    have B2 := Lib.hid (B1.out.trans (hb2.mono B1.out.size))
    clear hb2 B1
    go_wp2_with fail
    refine (c2.out _).mono ?_
    rintro e w3 ⟨rfl, hb3⟩
    have B3 := Lib.hid (B2.out.trans (hb3.mono B2.out.size))
    clear hb3 B2
    go_wp2_with fail
    refine (c3.out _).mono ?_
    rintro e w4 ⟨rfl, hb4⟩
    have B4 := Lib.hid (B3.out.trans (hb4.mono B3.out.size))
    clear hb4 B3
    go_wp2_with fail
    refine (c4.out _).mono ?_
    rintro e w' ⟨rfl, rfl⟩
    go_wp2_with fail
    refine (c5.out _).mono ?_
    rintro e w' ⟨rfl, rfl⟩
    go_wp2
    go_ret
    exact ⟨rfl, B4.out⟩
  obtain ⟨n, hn⟩ : ∃ n, getN a = n := ⟨_, rfl⟩
  obtain ⟨m, hm⟩ : ∃ m, getN b = m := ⟨_, rfl⟩
  have c4 := fun w => get_some a n hn (by omega) (by omega) w
  have c5 := fun w => get_some b m hm (by omega) (by omega) w
  replace c4 := Lib.hid c4
  replace c5 := Lib.hid c5
  by_cases ic : 7 < a.length + b.length
  · have ics : (7 : Int) < ((S a).size : Int) + ((S b).size : Int) := by omega
    clear ia ib ic hl za zb hn hm
    go_enter Try.func9, Try.ntmps9
    go_wp2_with fail
    refine (fixed_any _).mono ?_
    rintro e w1 ⟨rfl, hb1⟩
    have B1 := Lib.hid hb1
    clear hb1
    go_wp2_with fail
    refine (c1.out _).mono ?_
    rintro e w2 ⟨rfl, hb2⟩
    have B2 := Lib.hid (B1.out.trans (hb2.mono B1.out.size))
    clear hb2 B1
    go_wp2_with fail
    refine (c2.out _).mono ?_
    rintro e w3 ⟨rfl, hb3⟩
    have B3 := Lib.hid (B2.out.trans (hb3.mono B2.out.size))
    clear hb3 B2
    go_wp2_with fail
    refine (c3.out _).mono ?_
    rintro e w4 ⟨rfl, hb4⟩
    have B4 := Lib.hid (B3.out.trans (hb4.mono B3.out.size))
    clear hb4 B3
    go_wp2_with fail
    refine (c4.out _).mono ?_
    rintro e w' ⟨rfl, rfl⟩
    go_wp2_with fail
    refine (c5.out _).mono ?_
    rintro e w' ⟨rfl, rfl⟩
    go_wp2
    go_ret
    exact ⟨rfl, B4.out⟩
  have hab := getN_append a b
  have la := getN_lt a
  have lb := getN_lt b
  have lt := getN_lt (a ++ b)
  rw [lab.out] at lt
  have h7 : 256 ^ (a.length + b.length) ≤ 256 ^ 7 := Nat.pow_le_pow_right (by omega) (by omega)
  have e7 : (256 : Nat) ^ 7 = 72057594037927936 := by decide
  obtain ⟨t, ht⟩ : ∃ t, getN (a ++ b) = t := ⟨_, rfl⟩
  rw [ht] at lt
  rw [ht, hn, hm] at hab
  rw [hm] at lb
  have c6 := fun w => get_some (a ++ b) t ht (by rw [lab.out]; omega) (by rw [lab.out]; omega) w
  have htl : t < 72057594037927936 := by omega
  have hnl : n ≤ t := by omega
  have hbd := fun i (hi : i < a.length) => high_bd m i a.length b.length lb hi (by omega)
  rw [← za] at hbd
  have hml : m * 256 ^ (S a).size + n = t := by rw [hab, za, Nat.mul_comm]; omega
  have ics : ((S a).size : Int) + ((S b).size : Int) ≤ 7 := by omega
  replace hab := Lib.hid hab
  replace hml := Lib.hid hml
  replace hbd := Lib.hid hbd
  replace c6 := Lib.hid c6
  clear ia ib ic hl za zb hn hm la lb lt h7 e7 ht
  go_enter Try.func9, Try.ntmps9
  go_wp2_with fail
  refine (fixed_any _).mono ?_
  rintro e w1 ⟨rfl, hb1⟩
  have B1 := Lib.hid hb1
  clear hb1
  go_wp2_with fail
  refine (c1.out _).mono ?_
  rintro e w2 ⟨rfl, hb2⟩
  have B2 := Lib.hid (B1.out.trans (hb2.mono B1.out.size))
  clear hb2 B1
  go_wp2_with fail
  refine (c2.out _).mono ?_
  rintro e w3 ⟨rfl, hb3⟩
  have B3 := Lib.hid (B2.out.trans (hb3.mono B2.out.size))
  clear hb3 B2
  go_wp2_with fail
  refine (c3.out _).mono ?_
  rintro e w4 ⟨rfl, hb4⟩
  have B4 := Lib.hid (B3.out.trans (hb4.mono B3.out.size))
  clear hb4 B3
  go_wp2_with fail
  refine (c4.out _).mono ?_
  rintro e w' ⟨rfl, rfl⟩
  go_wp2_with fail
  refine (c5.out _).mono ?_
  rintro e w' ⟨rfl, rfl⟩
  go_wp2_with fail
  refine (c6.out _).mono ?_
  rintro e w' ⟨rfl, rfl⟩
  clear c1 c2 c3 c4 c5 c6
  go_wp2
  go_loop [11, 12] (fun hv iv => ∃ (i h : Nat), i ≤ (S a).size ∧ iv = .int .i64 i ∧ hv = .int .i64 h ∧ Hid (h = m * 256 ^ i)) (fun _ iv => (S a).size - (intOf iv).toNat)
  case atStart => exact ⟨0, m, Nat.zero_le _, rfl, rfl, by show _ = _; rw [Nat.pow_zero, Nat.mul_one]⟩
  case round =>
    obtain ⟨i, h, hi, rfl, rfl, HH⟩ := hrel
    by_cases hlt : i < (S a).size
    · have hb := hbd.out i hlt
      rw [← HH.out] at hb
      have hs : h * 256 = m * 256 ^ (i + 1) := by rw [HH.out, Nat.pow_succ, Nat.mul_assoc]
      replace hs := Lib.hid hs
      go_wp2
      go_round
      case rel => exact ⟨i + 1, h * 256, by omega, by go_num, by go_num, hs⟩
      case measure => simp [intOf]; omega
    · have hi2 : i = (S a).size := by omega
      have hsum : h + n = t := by rw [HH.out, hi2]; exact hml.out
      have hsi : (n : Int) + (h : Int) = (t : Int) := by omega
      have bt : ((t : Int) == (t : Int)) = true := by simp
      clear hi2 hsum
      go_wp2
      go_ret
      exact ⟨rfl, B4.out⟩

theorem own : ownKnob Try.prog.godebug = none := by kernel_rfl
theorem short {H : Type} {x0 : ByteArray} {x1 : ByteArray} (hk : Rows.uptoSmall H [.lit (.string x0.data.toList), .lit (.string x1.data.toList)] = true) : x0.data.toList.length + x1.data.toList.length ≤ 1048576 := by
  have h : Rows.uptoBulkAll [DataW.lit (H := H) (.string x0.data.toList), DataW.lit (H := H) (.string x1.data.toList)] ≤ 1048576 := of_decide_eq_true hk
  simp only [Rows.uptoBulkAll, Rows.uptoBulk] at h
  omega
theorem contract (H : Type) (enc : TypeId × Value → H) (W : World) (base : Nat) (args : Array Value) (ds gs : List (DataW H)) (before : List MemPlace)
    (hval : ∀ (j : Nat) t v, Try.f9.params[j]? = some t → args[j]? = some v → Value.okWide Try.prog W .any base t v)
    (hW : DataW.Whole enc Try.prog Try.f9.params.toList Rows.codesJoinsSpec.vars false W args.toList ds gs before) (hk : Rows.uptoSmall H (ds ++ gs) = true) :
    Calls Try.prog 9 args W fun e W' => ∃ v, e = .returned v ∧ Rows.codesJoinsSpec.post enc Try.prog Try.f9 false true false false W args v W' := by
  have hW' := hW
  obtain ⟨p, q, hA0, hV, rfl, hfz, hnd⟩ := hW
  have hA : DataW.TrodAll enc Try.prog W 0 (fun _ => true) true Try.f9.params.toList args.toList ds p := hA0
  rw [Try.params9] at hA hval
  obtain ⟨v0, vs0, d0, ds0, p0, q0, hargs, rfl, rfl, h0, r0⟩ := trodAll_cons hA
  obtain ⟨v1, vs1, d1, ds1, p1, q1, rfl, rfl, rfl, h1, r1⟩ := trodAll_cons r0
  obtain ⟨rfl, rfl, rfl⟩ := trodAll_nil r1
  obtain rfl : args = #[v0, v1] := by cases args; simp_all
  obtain ⟨rfl, rfl⟩ := trodVars_none hV
  obtain ⟨x0, rfl, rfl, rfl, hs0⟩ := open_string Try.underlying9 (hval 0 9 v0 rfl rfl) h0
  obtain ⟨x1, rfl, rfl, rfl, hs1⟩ := open_string Try.underlying9 (hval 1 9 v1 rfl rfl) h1
  clear hA0
  simp only [List.append_nil] at hW' hk
  refine (walk x0.data.toList x1.data.toList (short hk) W).mono fun e W' ⟨he, hg⟩ => ?_
  subst he
  exact ⟨_, rfl, post_below (pa := []) (pv := []) hW' hg (fun _ _ _ => trodAll_cons_mk (shut_bool Try.underlying4 _) trodAll_mk0) (fun _ _ => trodAll_cons_mk (shut_string Try.underlying9 hs0) (trodAll_cons_mk (shut_string Try.underlying9 hs1) trodAll_mk0)) (fun _ _ => rfl) rfl
    (ok_one (by kernel_rfl) rfl (okWide_bool_mk Try.underlying4 _))⟩
set_option maxRecDepth 100000 in
theorem lifted (os : Os) (started : os.Started) (H : Type) (enc : TypeId × Value → H) (F : Stop.Interp) :
    ReturnsInHanded {} Try.checked os 9 .any ((Rows.OpenSpec.upto Rows.codesJoinsSpec).pre6 enc Try.prog Try.f9 Rows.codesJoinsUptoRow.domain false) (((Rows.OpenSpec.upto Rows.codesJoinsSpec).at F).post enc Try.prog Try.f9 false true false false) := by
  refine returnsInHanded_of_cond (C := Try.checked) (s := Rows.OpenSpec.upto Rows.codesJoinsSpec) (k := Rows.uptoSmall) rfl own started (by kernel_rfl) Try.func9
    (OpenSpec.witness (enc := enc) (C := Try.checked) (s := Rows.OpenSpec.upto Rows.codesJoinsSpec) (k := Rows.uptoSmall) rfl false ⟨#[], #[.string .empty, .string .empty], []⟩ 8 (by kernel_rfl) (by kernel_rfl) (by kernel_rfl)
      (x := ([.lit (.string []), .lit (.string [])], [], [])) (by kernel_rfl) rfl (by kernel_rfl)) ?_
  intro W base args ds gs before hval hW _ hk _
  exact contract H enc W base args ds gs before hval hW hk
theorem proved : Rows.CodesJoinsUptoSaid :=
  OpenClaim.holds_of_cond 9 Try.f9 rfl rfl rfl rfl rfl rfl rfl ⟨rfl, rfl, rfl, rfl, rfl⟩ rfl rfl rfl rfl rfl (by kernel_rfl) Try.func9 (by kernel_rfl)
    (of_decide_eq_true (by kernel_rfl)) (by unfold Func.isWrapper; first | (rw [if_pos (by decide +kernel)]; kernel_rfl) | (rw [if_neg (by decide +kernel)]; exact ⟨rfl, rfl⟩))
    (fun os started H enc _ F => lifted os started H enc F)
#print axioms proved
end Go.Proofs.Ytlofmaonlppmiaa.codesJoins
