/- CodesTurns, for every input that can be read: the law answers true; the sum of three texts of one length, turned by one another, is their sums turned by one another, and one bit turned makes another sum. -/
import Derived.Test.YtlofmaonlppmiaaRows
import Derived.Test.YtlofmaonlppmiaaD6
import Derived.Test.YtlofmaonlppmiaaRow
import Derived.Laws.Cover1
import Derived.ProofKit
import Derived.OpenShut
import Derived.SizedLaws
import Derived.JoinedOf
import Derived.JoinedAt
import Derived.JoinedCond
namespace Go.Proofs.Ytlofmaonlppmiaa.codesTurns
open Go.ChangeShapes Go.WideShapes Go.ChangeAt Go.RowKit Go.Lib
open Go.ChangeMaps (open_string shut_string)
theorem S_extract (l : List UInt8) (n : Nat) : (S l).extract 0 n = S (l.take n) := by
  apply ByteArray.ext
  apply Array.ext'
  simp [S, ByteArray.data_extract]
theorem crc_turn (l : List UInt8) (i : Nat) (h : i < l.length) (m : UInt8) (hm : l[i] ^^^ m ≠ l[i]) : crcN 0 (l.set i (l[i] ^^^ m)) ≠ crcN 0 l := by
  have e1 : l.set i (l[i] ^^^ m) = l.take i ++ (l[i] ^^^ m) :: l.drop (i + 1) := List.set_eq_take_append_cons_drop .. |>.trans (by rw [if_pos h])
  have e2 : l = l.take i ++ l[i] :: l.drop (i + 1) := by rw [← List.drop_eq_getElem_cons h, List.take_append_drop]
  intro he
  rw [e1] at he
  conv at he => rhs; rw [e2]
  exact crcN_one _ _ _ _ hm he
theorem bit_turnF : ∀ (x : Fin 256) (j : Fin 8), UInt8.ofNat x.val ^^^ UInt8.ofNat (2 ^ j.val) ≠ UInt8.ofNat x.val := by decide +kernel
theorem bit_turn (x : UInt8) (j : Nat) (h : j < 8) : x ^^^ UInt8.ofNat (2 ^ j) ≠ x := by
  have := bit_turnF ⟨x.toNat, x.toNat_lt⟩ ⟨j, h⟩
  simpa using this
theorem bit_valF : ∀ j : Fin 8, (UInt8.ofNat (2 ^ j.val)).toNat = 2 ^ j.val := by decide +kernel
theorem bit_val (j : Nat) (h : j < 8) : (UInt8.ofNat (2 ^ j)).toNat = 2 ^ j := bit_valF ⟨j, h⟩
set_option maxRecDepth 100000 in
set_option maxHeartbeats 6400000 in
theorem walk (a b c : List UInt8) (ha : a.length ≤ 140737488351232) (hb : b.length ≤ 140737488351232) (hc : c.length ≤ 140737488351232) (w : World) :
    Calls Try.prog 7 #[.string (S a), .string (S b), .string (S c)] w fun e w' => e = .returned (.bool true) ∧ Below w.heap.size w w' := by
  have za : (S a).size ≤ 140737488351232 := by rw [S_size]; exact ha
  have zb : (S b).size ≤ 140737488351232 := by rw [S_size]; exact hb
  have zc : (S c).size ≤ 140737488351232 := by rw [S_size]; exact hc
  obtain ⟨n, hn⟩ : ∃ n, min (min (S a).size (S b).size) (S c).size = n := ⟨_, rfl⟩
  have na : n ≤ (S a).size := by omega
  have nb : n ≤ (S b).size := by omega
  have nc : n ≤ (S c).size := by omega
  have hmin : ∀ w, (Builtin.min_ #[3, 3, 3] 3 #[.int .i64 ((S a).size : Int), .int .i64 ((S b).size : Int), .int .i64 ((S c).size : Int)]).run Try.prog w = .ok (.int .i64 (n : Int)) w := by
    intro w
    rw [run_min_int3]
    congr 2
    split <;> split <;> omega
  obtain ⟨A, hA⟩ : ∃ A, a.take n = A := ⟨_, rfl⟩
  obtain ⟨B, hB⟩ : ∃ B, b.take n = B := ⟨_, rfl⟩
  obtain ⟨C, hC⟩ : ∃ C, c.take n = C := ⟨_, rfl⟩
  have ea : (S a).extract 0 n = S A := by rw [S_extract, hA]
  have eb : (S b).extract 0 n = S B := by rw [S_extract, hB]
  have ec : (S c).extract 0 n = S C := by rw [S_extract, hC]
  have la : A.length = n := by rw [← hA, List.length_take, Nat.min_eq_left (by rw [← S_size]; exact na)]
  have lb : B.length = n := by rw [← hB, List.length_take, Nat.min_eq_left (by rw [← S_size]; exact nb)]
  have lc : C.length = n := by rw [← hC, List.length_take, Nat.min_eq_left (by rw [← S_size]; exact nc)]
  have hnl : n ≤ 140737488351232 := by omega
  have lab : (xorL A B).length = n := by rw [xorL_len A B (by omega), la]
  have labc : (xorL (xorL A B) C).length = n := by rw [xorL_len _ C (by omega), lab]
  have t1 := fun w => turned_any A B (by omega) (by omega) w
  have t2 := fun w => turned_any (xorL A B) C (by omega) (by omega) w
  unfold TurnedPost at t1 t2
  obtain ⟨x, hx⟩ : ∃ x, crcN 0 A = x := ⟨_, rfl⟩
  obtain ⟨y, hy⟩ : ∃ y, crcN 0 B = y := ⟨_, rfl⟩
  obtain ⟨z, hz⟩ : ∃ z, crcN 0 C = z := ⟨_, rfl⟩
  have xl : x ≤ 4294967295 := by rw [← hx]; exact crcN_lt 0 A
  have yl : y ≤ 4294967295 := by rw [← hy]; exact crcN_lt 0 B
  have zl : z ≤ 4294967295 := by rw [← hz]; exact crcN_lt 0 C
  have h3 := crcN_three A B C (by omega) (by omega)
  rw [hx, hy, hz] at h3
  have x1 := bits_xor_u32 x y (by omega) (by omega)
  have x2 := bits_xor_u32 (x ^^^ y) z (Nat.xor_lt_two_pow (n := 32) (by omega) (by omega)) (by omega)
  obtain ⟨u, hu⟩ : ∃ u, x ^^^ y = u := ⟨_, rfl⟩
  rw [hu] at x1 x2 h3
  obtain ⟨v, hv⟩ : ∃ v, u ^^^ z = v := ⟨_, rfl⟩
  rw [hv] at x2 h3
  have c0 := fun w => crc_is 0 _ v h3 (by omega) (by omega) w
  have cA := fun w => crc_is 0 A x hx (by omega) (by omega) w
  have cB := fun w => crc_is 0 B y hy (by omega) (by omega) w
  have cC := fun w => crc_is 0 C z hz (by omega) (by omega) w
  have bv : ((v : Int) != (v : Int)) = false := by simp
  clear hn hA hB hC lb lc lab labc hy hz h3 hu hv xl yl zl ha hb hc
  replace la := Lib.hid la
  replace hx := Lib.hid hx
  replace t1 := Lib.hid t1
  replace t2 := Lib.hid t2
  replace c0 := Lib.hid c0
  replace cA := Lib.hid cA
  replace cB := Lib.hid cB
  replace cC := Lib.hid cC
  go_enter Try.func7, Try.ntmps7
  go_wp2_with fail
  refine (t1.out _).mono ?_
  rintro e w1 ⟨rfl, hb1⟩
  have B1 := Lib.hid hb1
  clear hb1
  go_wp2_with fail
  refine (t2.out _).mono ?_
  rintro e w2 ⟨rfl, hb2⟩
  have B2 := Lib.hid (B1.out.trans (hb2.mono B1.out.size))
  clear hb2 B1
  go_wp2_with fail
  refine (fixed_any _).mono ?_
  rintro e w3 ⟨rfl, hb3⟩
  have B3 := Lib.hid (B2.out.trans (hb3.mono B2.out.size))
  clear hb3 B2
  go_wp2_with fail
  refine (c0.out _).mono ?_
  rintro e w' ⟨rfl, rfl⟩
  go_wp2_with fail
  refine (cA.out _).mono ?_
  rintro e w' ⟨rfl, rfl⟩
  go_wp2_with fail
  refine (cB.out _).mono ?_
  rintro e w' ⟨rfl, rfl⟩
  go_wp2_with fail
  refine (cC.out _).mono ?_
  rintro e w' ⟨rfl, rfl⟩
  clear t1 t2 c0 cB cC hmin ea eb ec
  go_wp2
  clear x1 x2 bv
  go_loopw [9, 10] (fun iv _ wr => ∃ i : Nat, i ≤ n ∧ iv = .int .i64 i ∧ Hid (Below w.heap.size w wr)) (fun iv _ _ => n - (intOf iv).toNat)
  case atStart => exact ⟨0, Nat.zero_le _, rfl, B3⟩
  case round =>
    obtain ⟨i, hi, rfl, HB⟩ := hrel
    clear B3
    by_cases hlt : i < n
    · by_cases h40 : i < 40
      · have hiA : i < A.length := by rw [la.out]; exact hlt
        obtain ⟨cap, hcap⟩ : ∃ cap, grownCap wr (S A).size 0 5 = cap := ⟨_, rfl⟩
        have zA : (S A).size = n := by rw [S_size, la.out]
        have hcv : (convert 9 36 (.string (S A))).run Try.prog wr = .ok (.slice (some ⟨wr.heap.size, 0, none⟩) n cap) (Lib.bytesWorld wr 5 (S A)) := by
          rw [← hcap, ← zA]
          exact Lib.run_convert_string_bytes wr _ _ _ (S A) Try.underlying9 Try.underlying36 Try.underlying5
        obtain ⟨w4, hw4⟩ : ∃ w4, Lib.bytesWorld wr 5 (S A) = w4 := ⟨_, rfl⟩
        rw [hw4] at hcv
        have R4 := row8_new wr A
        have B4 := below_bytes HB.out HB.out.size (S A)
        rw [hw4] at R4 B4
        have hc := row8_cell R4 i hiA
        have hf := row8_frozen R4 i hiA
        obtain ⟨j, hj⟩ : ∃ j, i % 8 = j := ⟨_, rfl⟩
        have hj8 : j < 8 := by omega
        have hji : (i : Int) % 8 = (j : Int) := by omega
        have hne := crc_turn A i hiA (UInt8.ofNat (2 ^ j)) (bit_turn _ j hj8)
        obtain ⟨p, hp⟩ : ∃ p, A[i] = p := ⟨_, rfl⟩
        obtain ⟨m, hm⟩ : ∃ m, UInt8.ofNat (2 ^ j) = m := ⟨_, rfl⟩
        have hxr := bits_xor_u8 p m
        obtain ⟨r, hr⟩ : ∃ r, p ^^^ m = r := ⟨_, rfl⟩
        rw [hp] at hc
        rw [hp, hm, hr, hx.out] at hne
        rw [hr] at hxr
        have mv : (2 : Int) ^ j = (m.toNat : Int) := by
          rw [← hm, bit_val j hj8]; simp
        have mm : (m.toNat : Int) % 256 = (m.toNat : Int) := by have := m.toNat_lt; omega
        obtain ⟨t, ht⟩ : ∃ t, crcN 0 (A.set i r) = t := ⟨_, rfl⟩
        rw [ht] at hne
        have hset := row8_set R4 i r
        have B5 := B4.setCell (p := ⟨wr.heap.size, i, none⟩) HB.out.size (.int .u8 r.toNat)
        have hcv2 := row8_conv (row8_drew hset) n cap (by rw [List.length_set, la.out])
        have cT := fun w => crc_is 0 (A.set i r) t ht (by omega) (by rw [List.length_set, la.out]; omega) w
        have bne : ((t : Int) == (x : Int)) = false := by rw [beq_eq_false_iff_ne]; omega
        replace cT := Lib.hid cT
        replace B5 := Lib.hid B5
        replace R4 := Lib.hid R4
        replace hset := Lib.hid hset
        replace hj := Lib.hid hj
        replace hp := Lib.hid hp
        replace hm := Lib.hid hm
        replace hr := Lib.hid hr
        replace ht := Lib.hid ht
        clear hw4 hcap B4 hne zA
        go_wp2_with fail
        clear hcv
        go_region
        all_goals
          clear hji mv mm hxr hc hf
          go_wp2_with fail
          refine (cT.out _).mono ?_
          rintro e w' ⟨rfl, rfl⟩
          go_wp2_with fail
          refine (cA.out _).mono ?_
          rintro e w' ⟨rfl, rfl⟩
          clear hcv2
          go_wp2
          go_roundw
          case rel => exact ⟨i + 1, by omega, by go_num, B5.out.drew⟩
          case measure => simp [intOf]; omega
      · clear cA
        go_wp2
        go_ret
        exact ⟨rfl, HB.out⟩
    · clear cA
      go_wp2
      go_ret
      exact ⟨rfl, HB.out⟩

theorem own : ownKnob Try.prog.godebug = none := by kernel_rfl
theorem contract (H : Type) (enc : TypeId × Value → H) (W : World) (base : Nat) (args : Array Value) (ds gs : List (DataW H)) (before : List MemPlace)
    (hval : ∀ (j : Nat) t v, Try.f7.params[j]? = some t → args[j]? = some v → Value.okWide Try.prog W .any base t v)
    (hW : DataW.Whole enc Try.prog Try.f7.params.toList Rows.codesTurnsSpec.vars false W args.toList ds gs before)
    (hsz : (DataW.weightsEach Try.prog (Try.f7.params.toList ++ Rows.codesTurnsSpec.plain.varTypes Try.prog) (ds ++ gs)).all (· ≤ reachBytes) = true) :
    Calls Try.prog 7 args W fun e W' => ∃ v, e = .returned v ∧ Rows.codesTurnsSpec.post enc Try.prog Try.f7 false true false false W args v W' := by
  have hW' := hW
  obtain ⟨p, q, hA0, hV, rfl, hfz, hnd⟩ := hW
  have hA : DataW.TrodAll enc Try.prog W 0 (fun _ => true) true Try.f7.params.toList args.toList ds p := hA0
  rw [Try.params7] at hA hval hsz
  obtain ⟨v0, vs0, d0, ds0, p0, q0, hargs, rfl, rfl, h0, r0⟩ := trodAll_cons hA
  obtain ⟨v1, vs1, d1, ds1, p1, q1, rfl, rfl, rfl, h1, r1⟩ := trodAll_cons r0
  obtain ⟨v2, vs2, d2, ds2, p2, q2, rfl, rfl, rfl, h2, r2⟩ := trodAll_cons r1
  obtain ⟨rfl, rfl, rfl⟩ := trodAll_nil r2
  obtain rfl : args = #[v0, v1, v2] := by cases args; simp_all
  obtain ⟨rfl, rfl⟩ := trodVars_none hV
  obtain ⟨x0, rfl, rfl, rfl, hs0⟩ := open_string Try.underlying9 (hval 0 9 v0 rfl rfl) h0
  obtain ⟨x1, rfl, rfl, rfl, hs1⟩ := open_string Try.underlying9 (hval 1 9 v1 rfl rfl) h1
  obtain ⟨x2, rfl, rfl, rfl, hs2⟩ := open_string Try.underlying9 (hval 2 9 v2 rfl rfl) h2
  clear hA0
  simp only [List.append_nil] at hW' hsz
  have hl0 : x0.data.toList.length ≤ 140737488351232 := by
    have := sized_string hsz (j := 0) (t := 9) rfl rfl
    simp only [reachBytes] at this
    omega
  have hl1 : x1.data.toList.length ≤ 140737488351232 := by
    have := sized_string hsz (j := 1) (t := 9) rfl rfl
    simp only [reachBytes] at this
    omega
  have hl2 : x2.data.toList.length ≤ 140737488351232 := by
    have := sized_string hsz (j := 2) (t := 9) rfl rfl
    simp only [reachBytes] at this
    omega
  refine (walk x0.data.toList x1.data.toList x2.data.toList hl0 hl1 hl2 W).mono fun e W' ⟨he, hg⟩ => ?_
  subst he
  exact ⟨_, rfl, post_below (pa := []) (pv := []) hW' hg (fun _ _ _ => trodAll_cons_mk (shut_bool Try.underlying4 _) trodAll_mk0) (fun _ _ => trodAll_cons_mk (shut_string Try.underlying9 hs0) (trodAll_cons_mk (shut_string Try.underlying9 hs1) (trodAll_cons_mk (shut_string Try.underlying9 hs2) trodAll_mk0))) (fun _ _ => rfl) rfl
    (ok_one (by kernel_rfl) rfl (okWide_bool_mk Try.underlying4 _))⟩
set_option maxRecDepth 100000 in
theorem lifted (os : Os) (started : os.Started) (H : Type) (enc : TypeId × Value → H) :
    ReturnsInHanded {} Try.checked os 7 .any (Rows.codesTurnsSpec.pre6 enc Try.prog Try.f7 Rows.codesTurnsRow.domain false) (Rows.codesTurnsSpec.post enc Try.prog Try.f7 false true false false) := by
  refine returnsInHanded_of_change_sized (C := Try.checked) own started (by kernel_rfl) Try.func7
    (ChangeSpec.witness6 (enc := enc) (C := Try.checked) false ⟨#[], #[.string ⟨#[]⟩, .string ⟨#[]⟩, .string ⟨#[]⟩], []⟩ 8 (by kernel_rfl) (by kernel_rfl) (by kernel_rfl) (by kernel_rfl)) ?_
  intro W base args ds gs before hval hW _ hsz _
  exact contract H enc W base args ds gs before hval hW hsz
theorem proved : Rows.CodesTurnsSaid :=
  OpenClaim.holds_of_wide 7 Try.f7 rfl rfl rfl rfl rfl rfl rfl ⟨rfl, rfl, rfl, rfl, rfl⟩ rfl rfl rfl rfl rfl (by kernel_rfl) Try.func7 (by kernel_rfl)
    (of_decide_eq_true (by kernel_rfl)) (by unfold Func.isWrapper; first | (rw [if_pos (by decide +kernel)]; kernel_rfl) | (rw [if_neg (by decide +kernel)]; exact ⟨rfl, rfl⟩))
    (fun os started H enc _ => lifted os started H enc)
#print axioms proved
end Go.Proofs.Ytlofmaonlppmiaa.codesTurns
