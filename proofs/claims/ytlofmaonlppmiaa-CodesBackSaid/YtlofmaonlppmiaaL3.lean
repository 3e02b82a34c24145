/- CodesBack, for every input that can be read: the law answers true; numbers and digits go there and back. -/
import Derived.Test.YtlofmaonlppmiaaRows
import Derived.Test.YtlofmaonlppmiaaD5
import Derived.Test.YtlofmaonlppmiaaRow
import Derived.ProofKit
import Derived.OpenShut
import Derived.SizedLaws
import Derived.JoinedOf
import Derived.JoinedAt
import Derived.JoinedCond
namespace Go.Proofs.Ytlofmaonlppmiaa.codesBack
open Go.ChangeShapes Go.WideShapes Go.ChangeAt Go.RowKit Go.Lib
open Go.ChangeMaps (open_string shut_string)
theorem put_facts (n k : Int) (p : List UInt8) (h : putL n k = some p) : ∃ N K : Nat, n = N ∧ k = K ∧ 1 ≤ K ∧ K ≤ 7 ∧ p.length = K ∧ getN p = N := by
  unfold putL at h
  split at h
  · cases h
  · split at h
    · cases h
    · rename_i h1 h2
      injection h with h
      refine ⟨n.toNat, k.toNat, by omega, by omega, by omega, by omega, ?_, ?_⟩
      · rw [← h, leN_len]
      · rw [← h, getN_leN _ _ (by omega)]
theorem put_back (s : List UInt8) (h1 : 1 ≤ s.length) (h7 : s.length ≤ 7) : putL (getN s : Nat) (s.length : Nat) = some s := by
  have := getN_lt s
  unfold putL
  rw [if_neg (by omega), Int.toNat_natCast, Int.toNat_natCast, if_neg (by omega), leN_getN]
set_option maxRecDepth 100000 in
set_option maxHeartbeats 6400000 in
theorem walk (n k : Int) (s : List UInt8) (hn : n < 9223372036854775808) (_ : k < 9223372036854775808) (hs : s.length ≤ 140737488351232) (w : World) :
    Calls Try.prog 5 #[.int .i64 n, .int .i64 k, .string (S s)] w fun e w' => e = .returned (.bool true) ∧ Below w.heap.size w w' := by
  have zs : (S s).size = s.length := S_size s
  obtain ⟨q, hq⟩ : ∃ q, hexL s = q := ⟨_, rfl⟩
  have lq : q.length ≤ 281474976702464 := by rw [← hq, hexL_len]; omega
  have uq : unhexL q = some s := by rw [← hq]; exact unhex_hex s
  have c5 := fun w => hex_is s q hq (by omega) w
  have c6 := fun w => unhex_some q s uq (by omega) w
  have be : ((S s).toList == (S s).toList) = true := by simp
  have bn : ((S s).toList != (S s).toList) = false := by simp
  clear hq uq lq
  replace c5 := Lib.hid c5
  replace c6 := Lib.hid c6
  cases hp : putL n k with
  | none =>
    have c1 := fun w => put_none n k hp hn w
    replace hp := Lib.hid hp
    replace c1 := Lib.hid c1
    by_cases ig : s.length < 1 ∨ 7 < s.length
    · have c3 := fun w => get_none s ig (by omega) w
      replace c3 := Lib.hid c3
      replace ig := Lib.hid ig
      cases hu : unhexL s with
      | none =>
        have en : (S []).toList = [] := by rw [Lib.toList_data]; rfl
        have c7 := fun w => unhex_none s hu (by omega) w
        replace c7 := Lib.hid c7
        replace hu := Lib.hid hu
        replace zs := Lib.hid zs
        go_enter Try.func5, Try.ntmps5
        go_wp2_with fail
        refine (c1.out _).mono ?_
        rintro e w1 ⟨rfl, hb1⟩
        have B1 := Lib.hid hb1
        clear hb1
        go_wp2_with fail
        refine (fixed_any _).mono ?_
        rintro e w2 ⟨rfl, hb2⟩
        have B2 := Lib.hid (B1.out.trans (hb2.mono B1.out.size))
        clear hb2 B1
        go_wp2_with fail
        refine (c3.out _).mono ?_
        rintro e w' ⟨rfl, rfl⟩
        go_wp2_with fail
        refine (c5.out _).mono ?_
        rintro e w5 ⟨rfl, hb5⟩
        have B5 := Lib.hid (B2.out.trans (hb5.mono B2.out.size))
        clear hb5 B2
        go_wp2_with fail
        refine (c6.out _).mono ?_
        rintro e w6 ⟨rfl, hb6⟩
        have B6 := Lib.hid (B5.out.trans (hb6.mono B5.out.size))
        clear hb6 B5
        go_wp2_with fail
        refine (c7.out _).mono ?_
        rintro e w7 ⟨rfl, hb7⟩
        have B7 := Lib.hid (B6.out.trans (hb7.mono B6.out.size))
        clear hb7 B6
        go_wp2
        go_ret
        exact ⟨rfl, B7.out⟩
      | some u =>
        have lu := unhexL_len s u hu
        have c7 := fun w => unhex_some s u hu (by omega) w
        have c8 := fun w => hex_is u s (hex_unhex s u hu) (by omega) w
        replace c8 := Lib.hid c8
        clear lu
        replace c7 := Lib.hid c7
        replace hu := Lib.hid hu
        replace zs := Lib.hid zs
        go_enter Try.func5, Try.ntmps5
        go_wp2_with fail
        refine (c1.out _).mono ?_
        rintro e w1 ⟨rfl, hb1⟩
        have B1 := Lib.hid hb1
        clear hb1
        go_wp2_with fail
        refine (fixed_any _).mono ?_
        rintro e w2 ⟨rfl, hb2⟩
        have B2 := Lib.hid (B1.out.trans (hb2.mono B1.out.size))
        clear hb2 B1
        go_wp2_with fail
        refine (c3.out _).mono ?_
        rintro e w' ⟨rfl, rfl⟩
        go_wp2_with fail
        refine (c5.out _).mono ?_
        rintro e w5 ⟨rfl, hb5⟩
        have B5 := Lib.hid (B2.out.trans (hb5.mono B2.out.size))
        clear hb5 B2
        go_wp2_with fail
        refine (c6.out _).mono ?_
        rintro e w6 ⟨rfl, hb6⟩
        have B6 := Lib.hid (B5.out.trans (hb6.mono B5.out.size))
        clear hb6 B5
        go_wp2_with fail
        refine (c7.out _).mono ?_
        rintro e w7 ⟨rfl, hb7⟩
        have B7 := Lib.hid (B6.out.trans (hb7.mono B6.out.size))
        clear hb7 B6
        go_wp2_with fail
        refine (c8.out _).mono ?_
        rintro e w9 ⟨rfl, hb9⟩
        have B9 := Lib.hid (B7.out.trans (hb9.mono B7.out.size))
        clear hb9 B7
        go_wp2
        go_ret
        exact ⟨rfl, B9.out⟩
    · obtain ⟨m, hm⟩ : ∃ m, getN s = m := ⟨_, rfl⟩
      have c3 := fun w => get_some s m hm (by omega) (by omega) w
      have hpb := put_back s (by omega) (by omega)
      rw [hm, ← zs] at hpb
      have hml : m < 9223372036854775808 := by
        have h1 := getN_lt s
        have h2 : 256 ^ s.length ≤ 256 ^ 7 := Nat.pow_le_pow_right (by omega) (by omega)
        have h3 : (256 : Nat) ^ 7 = 72057594037927936 := by decide
        omega
      have c4 := fun w => put_some (m : Nat) ((S s).size : Nat) s hpb (by omega) w
      replace c3 := Lib.hid c3
      replace c4 := Lib.hid c4
      replace ig := Lib.hid ig
      clear hm hpb hml
      cases hu : unhexL s with
      | none =>
        have en : (S []).toList = [] := by rw [Lib.toList_data]; rfl
        have c7 := fun w => unhex_none s hu (by omega) w
        replace c7 := Lib.hid c7
        replace hu := Lib.hid hu
        replace zs := Lib.hid zs
        go_enter Try.func5, Try.ntmps5
        go_wp2_with fail
        refine (c1.out _).mono ?_
        rintro e w1 ⟨rfl, hb1⟩
        have B1 := Lib.hid hb1
        clear hb1
        go_wp2_with fail
        refine (fixed_any _).mono ?_
        rintro e w2 ⟨rfl, hb2⟩
        have B2 := Lib.hid (B1.out.trans (hb2.mono B1.out.size))
        clear hb2 B1
        go_wp2_with fail
        refine (c3.out _).mono ?_
        rintro e w' ⟨rfl, rfl⟩
        go_wp2_with fail
        refine (c4.out _).mono ?_
        rintro e w3 ⟨rfl, hb3⟩
        have B3 := Lib.hid (B2.out.trans (hb3.mono B2.out.size))
        clear hb3 B2
        go_wp2_with fail
        refine (c5.out _).mono ?_
        rintro e w5 ⟨rfl, hb5⟩
        have B5 := Lib.hid (B3.out.trans (hb5.mono B3.out.size))
        clear hb5 B3
        go_wp2_with fail
        refine (c6.out _).mono ?_
        rintro e w6 ⟨rfl, hb6⟩
        have B6 := Lib.hid (B5.out.trans (hb6.mono B5.out.size))
        clear hb6 B5
        go_wp2_with fail
        refine (c7.out _).mono ?_
        rintro e w7 ⟨rfl, hb7⟩
        have B7 := Lib.hid (B6.out.trans (hb7.mono B6.out.size))
        clear hb7 B6
        go_wp2
        go_ret
        exact ⟨rfl, B7.out⟩
      | some u =>
        have lu := unhexL_len s u hu
        have c7 := fun w => unhex_some s u hu (by omega) w
        have c8 := fun w => hex_is u s (hex_unhex s u hu) (by omega) w
        replace c8 := Lib.hid c8
        clear lu
        replace c7 := Lib.hid c7
        replace hu := Lib.hid hu
        replace zs := Lib.hid zs
        go_enter Try.func5, Try.ntmps5
        go_wp2_with fail
        refine (c1.out _).mono ?_
        rintro e w1 ⟨rfl, hb1⟩
        have B1 := Lib.hid hb1
        clear hb1
        go_wp2_with fail
        refine (fixed_any _).mono ?_
        rintro e w2 ⟨rfl, hb2⟩
        have B2 := Lib.hid (B1.out.trans (hb2.mono B1.out.size))
        clear hb2 B1
        go_wp2_with fail
        refine (c3.out _).mono ?_
        rintro e w' ⟨rfl, rfl⟩
        go_wp2_with fail
        refine (c4.out _).mono ?_
        rintro e w3 ⟨rfl, hb3⟩
        have B3 := Lib.hid (B2.out.trans (hb3.mono B2.out.size))
        clear hb3 B2
        go_wp2_with fail
        refine (c5.out _).mono ?_
        rintro e w5 ⟨rfl, hb5⟩
        have B5 := Lib.hid (B3.out.trans (hb5.mono B3.out.size))
        clear hb5 B3
        go_wp2_with fail
        refine (c6.out _).mono ?_
        rintro e w6 ⟨rfl, hb6⟩
        have B6 := Lib.hid (B5.out.trans (hb6.mono B5.out.size))
        clear hb6 B5
        go_wp2_with fail
        refine (c7.out _).mono ?_
        rintro e w7 ⟨rfl, hb7⟩
        have B7 := Lib.hid (B6.out.trans (hb7.mono B6.out.size))
        clear hb7 B6
        go_wp2_with fail
        refine (c8.out _).mono ?_
        rintro e w9 ⟨rfl, hb9⟩
        have B9 := Lib.hid (B7.out.trans (hb9.mono B7.out.size))
        clear hb9 B7
        go_wp2
        go_ret
        exact ⟨rfl, B9.out⟩
  | some p =>
    obtain ⟨N, K, rfl, rfl, k1, k7, lp, gp⟩ := put_facts n k p hp
    have c1 := fun w => put_some N K p hp hn w
    have c2 := fun w => get_some p N gp (by omega) (by omega) w
    have zp : (S p).size = K := by rw [S_size, lp]
    replace c2 := Lib.hid c2
    clear k1 k7 lp gp
    replace hp := Lib.hid hp
    replace c1 := Lib.hid c1
    by_cases ig : s.length < 1 ∨ 7 < s.length
    · have c3 := fun w => get_none s ig (by omega) w
      replace c3 := Lib.hid c3
      replace ig := Lib.hid ig
      cases hu : unhexL s with
      | none =>
        have en : (S []).toList = [] := by rw [Lib.toList_data]; rfl
        have c7 := fun w => unhex_none s hu (by omega) w
        replace c7 := Lib.hid c7
        replace hu := Lib.hid hu
        replace zs := Lib.hid zs
        go_enter Try.func5, Try.ntmps5
        go_wp2_with fail
        refine (c1.out _).mono ?_
        rintro e w1 ⟨rfl, hb1⟩
        have B1 := Lib.hid hb1
        clear hb1
        go_wp2_with fail
        refine (fixed_any _).mono ?_
        rintro e w2 ⟨rfl, hb2⟩
        have B2 := Lib.hid (B1.out.trans (hb2.mono B1.out.size))
        clear hb2 B1
        go_wp2_with fail
        refine (c2.out _).mono ?_
        rintro e w' ⟨rfl, rfl⟩
        go_wp2_with fail
        refine (c3.out _).mono ?_
        rintro e w' ⟨rfl, rfl⟩
        go_wp2_with fail
        refine (c5.out _).mono ?_
        rintro e w5 ⟨rfl, hb5⟩
        have B5 := Lib.hid (B2.out.trans (hb5.mono B2.out.size))
        clear hb5 B2
        go_wp2_with fail
        refine (c6.out _).mono ?_
        rintro e w6 ⟨rfl, hb6⟩
        have B6 := Lib.hid (B5.out.trans (hb6.mono B5.out.size))
        clear hb6 B5
        go_wp2_with fail
        refine (c7.out _).mono ?_
        rintro e w7 ⟨rfl, hb7⟩
        have B7 := Lib.hid (B6.out.trans (hb7.mono B6.out.size))
        clear hb7 B6
        go_wp2
        go_ret
        exact ⟨rfl, B7.out⟩
      | some u =>
        have lu := unhexL_len s u hu
        have c7 := fun w => unhex_some s u hu (by omega) w
        have c8 := fun w => hex_is u s (hex_unhex s u hu) (by omega) w
        replace c8 := Lib.hid c8
        clear lu
        replace c7 := Lib.hid c7
        replace hu := Lib.hid hu
        replace zs := Lib.hid zs
        go_enter Try.func5, Try.ntmps5
        go_wp2_with fail
        refine (c1.out _).mono ?_
        rintro e w1 ⟨rfl, hb1⟩
        have B1 := Lib.hid hb1
        clear hb1
        go_wp2_with fail
        refine (fixed_any _).mono ?_
        rintro e w2 ⟨rfl, hb2⟩
        have B2 := Lib.hid (B1.out.trans (hb2.mono B1.out.size))
        clear hb2 B1
        go_wp2_with fail
        refine (c2.out _).mono ?_
        rintro e w' ⟨rfl, rfl⟩
        go_wp2_with fail
        refine (c3.out _).mono ?_
        rintro e w' ⟨rfl, rfl⟩
        go_wp2_with fail
        refine (c5.out _).mono ?_
        rintro e w5 ⟨rfl, hb5⟩
        have B5 := Lib.hid (B2.out.trans (hb5.mono B2.out.size))
        clear hb5 B2
        go_wp2_with fail
        refine (c6.out _).mono ?_
        rintro e w6 ⟨rfl, hb6⟩
        have B6 := Lib.hid (B5.out.trans (hb6.mono B5.out.size))
        clear hb6 B5
        go_wp2_with fail
        refine (c7.out _).mono ?_
        rintro e w7 ⟨rfl, hb7⟩
        have B7 := Lib.hid (B6.out.trans (hb7.mono B6.out.size))
        clear hb7 B6
        go_wp2_with fail
        refine (c8.out _).mono ?_
        rintro e w9 ⟨rfl, hb9⟩
        have B9 := Lib.hid (B7.out.trans (hb9.mono B7.out.size))
        clear hb9 B7
        go_wp2
        go_ret
        exact ⟨rfl, B9.out⟩
    · obtain ⟨m, hm⟩ : ∃ m, getN s = m := ⟨_, rfl⟩
      have c3 := fun w => get_some s m hm (by omega) (by omega) w
      have hpb := put_back s (by omega) (by omega)
      rw [hm, ← zs] at hpb
      have hml : m < 9223372036854775808 := by
        have h1 := getN_lt s
        have h2 : 256 ^ s.length ≤ 256 ^ 7 := Nat.pow_le_pow_right (by omega) (by omega)
        have h3 : (256 : Nat) ^ 7 = 72057594037927936 := by decide
        omega
      have c4 := fun w => put_some (m : Nat) ((S s).size : Nat) s hpb (by omega) w
      replace c3 := Lib.hid c3
      replace c4 := Lib.hid c4
      replace ig := Lib.hid ig
      clear hm hpb hml
      cases hu : unhexL s with
      | none =>
        have en : (S []).toList = [] := by rw [Lib.toList_data]; rfl
        have c7 := fun w => unhex_none s hu (by omega) w
        replace c7 := Lib.hid c7
        replace hu := Lib.hid hu
        replace zs := Lib.hid zs
        go_enter Try.func5, Try.ntmps5
        go_wp2_with fail
        refine (c1.out _).mono ?_
        rintro e w1 ⟨rfl, hb1⟩
        have B1 := Lib.hid hb1
        clear hb1
        go_wp2_with fail
        refine (fixed_any _).mono ?_
        rintro e w2 ⟨rfl, hb2⟩
        have B2 := Lib.hid (B1.out.trans (hb2.mono B1.out.size))
        clear hb2 B1
        go_wp2_with fail
        refine (c2.out _).mono ?_
        rintro e w' ⟨rfl, rfl⟩
        go_wp2_with fail
        refine (c3.out _).mono ?_
        rintro e w' ⟨rfl, rfl⟩
        go_wp2_with fail
        refine (c4.out _).mono ?_
        rintro e w3 ⟨rfl, hb3⟩
        have B3 := Lib.hid (B2.out.trans (hb3.mono B2.out.size))
        clear hb3 B2
        go_wp2_with fail
        refine (c5.out _).mono ?_
        rintro e w5 ⟨rfl, hb5⟩
        have B5 := Lib.hid (B3.out.trans (hb5.mono B3.out.size))
        clear hb5 B3
        go_wp2_with fail
        refine (c6.out _).mono ?_
        rintro e w6 ⟨rfl, hb6⟩
        have B6 := Lib.hid (B5.out.trans (hb6.mono B5.out.size))
        clear hb6 B5
        go_wp2_with fail
        refine (c7.out _).mono ?_
        rintro e w7 ⟨rfl, hb7⟩
        have B7 := Lib.hid (B6.out.trans (hb7.mono B6.out.size))
        clear hb7 B6
        go_wp2
        go_ret
        exact ⟨rfl, B7.out⟩
      | some u =>
        have lu := unhexL_len s u hu
        have c7 := fun w => unhex_some s u hu (by omega) w
        have c8 := fun w => hex_is u s (hex_unhex s u hu) (by omega) w
        replace c8 := Lib.hid c8
        clear lu
        replace c7 := Lib.hid c7
        replace hu := Lib.hid hu
        replace zs := Lib.hid zs
        go_enter Try.func5, Try.ntmps5
        go_wp2_with fail
        refine (c1.out _).mono ?_
        rintro e w1 ⟨rfl, hb1⟩
        have B1 := Lib.hid hb1
        clear hb1
        go_wp2_with fail
        refine (fixed_any _).mono ?_
        rintro e w2 ⟨rfl, hb2⟩
        have B2 := Lib.hid (B1.out.trans (hb2.mono B1.out.size))
        clear hb2 B1
        go_wp2_with fail
        refine (c2.out _).mono ?_
        rintro e w' ⟨rfl, rfl⟩
        go_wp2_with fail
        refine (c3.out _).mono ?_
        rintro e w' ⟨rfl, rfl⟩
        go_wp2_with fail
        refine (c4.out _).mono ?_
        rintro e w3 ⟨rfl, hb3⟩
        have B3 := Lib.hid (B2.out.trans (hb3.mono B2.out.size))
        clear hb3 B2
        go_wp2_with fail
        refine (c5.out _).mono ?_
        rintro e w5 ⟨rfl, hb5⟩
        have B5 := Lib.hid (B3.out.trans (hb5.mono B3.out.size))
        clear hb5 B3
        go_wp2_with fail
        refine (c6.out _).mono ?_
        rintro e w6 ⟨rfl, hb6⟩
        have B6 := Lib.hid (B5.out.trans (hb6.mono B5.out.size))
        clear hb6 B5
        go_wp2_with fail
        refine (c7.out _).mono ?_
        rintro e w7 ⟨rfl, hb7⟩
        have B7 := Lib.hid (B6.out.trans (hb7.mono B6.out.size))
        clear hb7 B6
        go_wp2_with fail
        refine (c8.out _).mono ?_
        rintro e w9 ⟨rfl, hb9⟩
        have B9 := Lib.hid (B7.out.trans (hb9.mono B7.out.size))
        clear hb9 B7
        go_wp2
        go_ret
        exact ⟨rfl, B9.out⟩

theorem own : ownKnob Try.prog.godebug = none := by kernel_rfl
theorem contract (H : Type) (enc : TypeId × Value → H) (W : World) (base : Nat) (args : Array Value) (ds gs : List (DataW H)) (before : List MemPlace)
    (hval : ∀ (j : Nat) t v, Try.f5.params[j]? = some t → args[j]? = some v → Value.okWide Try.prog W .any base t v)
    (hW : DataW.Whole enc Try.prog Try.f5.params.toList Rows.codesBackSpec.vars false W args.toList ds gs before)
    (hsz : (DataW.weightsEach Try.prog (Try.f5.params.toList ++ Rows.codesBackSpec.plain.varTypes Try.prog) (ds ++ gs)).all (· ≤ reachBytes) = true) :
    Calls Try.prog 5 args W fun e W' => ∃ v, e = .returned v ∧ Rows.codesBackSpec.post enc Try.prog Try.f5 false true false false W args v W' := by
  have hW' := hW
  obtain ⟨p, q, hA0, hV, rfl, hfz, hnd⟩ := hW
  have hA : DataW.TrodAll enc Try.prog W 0 (fun _ => true) true Try.f5.params.toList args.toList ds p := hA0
  rw [Try.params5] at hA hval hsz
  obtain ⟨v0, vs0, d0, ds0, p0, q0, hargs, rfl, rfl, h0, r0⟩ := trodAll_cons hA
  obtain ⟨v1, vs1, d1, ds1, p1, q1, rfl, rfl, rfl, h1, r1⟩ := trodAll_cons r0
  obtain ⟨v2, vs2, d2, ds2, p2, q2, rfl, rfl, rfl, h2, r2⟩ := trodAll_cons r1
  obtain ⟨rfl, rfl, rfl⟩ := trodAll_nil r2
  obtain rfl : args = #[v0, v1, v2] := by cases args; simp_all
  obtain ⟨rfl, rfl⟩ := trodVars_none hV
  obtain ⟨x0, rfl, rfl, rfl, hs0⟩ := open_int Try.underlying3 (hval 0 3 v0 rfl rfl) h0
  obtain ⟨x1, rfl, rfl, rfl, hs1⟩ := open_int Try.underlying3 (hval 1 3 v1 rfl rfl) h1
  obtain ⟨x2, rfl, rfl, rfl, hs2⟩ := open_string Try.underlying9 (hval 2 9 v2 rfl rfl) h2
  clear hA0
  simp only [List.append_nil] at hW' hsz
  have hb0 := hs0
  simp only [Lit.wf, Bool.and_eq_true, decide_eq_true_eq] at hb0
  simp [IntKind.min, IntKind.max, IntKind.signed, IntKind.bits] at hb0
  have hb1 := hs1
  simp only [Lit.wf, Bool.and_eq_true, decide_eq_true_eq] at hb1
  simp [IntKind.min, IntKind.max, IntKind.signed, IntKind.bits] at hb1
  have hl2 : x2.data.toList.length ≤ 140737488351232 := by
    have := sized_string hsz (j := 2) (t := 9) rfl rfl
    simp only [reachBytes] at this
    omega
  refine (walk x0 x1 x2.data.toList (by omega) (by omega) hl2 W).mono fun e W' ⟨he, hg⟩ => ?_
  subst he
  exact ⟨_, rfl, post_below (pa := []) (pv := []) hW' hg (fun _ _ _ => trodAll_cons_mk (shut_bool Try.underlying4 _) trodAll_mk0) (fun _ _ => trodAll_cons_mk (shut_int Try.underlying3 hs0) (trodAll_cons_mk (shut_int Try.underlying3 hs1) (trodAll_cons_mk (shut_string Try.underlying9 hs2) trodAll_mk0))) (fun _ _ => rfl) rfl
    (ok_one (by kernel_rfl) rfl (okWide_bool_mk Try.underlying4 _))⟩
set_option maxRecDepth 100000 in
theorem lifted (os : Os) (started : os.Started) (H : Type) (enc : TypeId × Value → H) :
    ReturnsInHanded {} Try.checked os 5 .any (Rows.codesBackSpec.pre6 enc Try.prog Try.f5 Rows.codesBackRow.domain false) (Rows.codesBackSpec.post enc Try.prog Try.f5 false true false false) := by
  refine returnsInHanded_of_change_sized (C := Try.checked) own started (by kernel_rfl) Try.func5
    (ChangeSpec.witness6 (enc := enc) (C := Try.checked) false ⟨#[], #[.int .i64 0, .int .i64 0, .string ⟨#[]⟩], []⟩ 8 (by kernel_rfl) (by kernel_rfl) (by kernel_rfl) (by kernel_rfl)) ?_
  intro W base args ds gs before hval hW _ hsz _
  exact contract H enc W base args ds gs before hval hW hsz
theorem proved : Rows.CodesBackSaid :=
  OpenClaim.holds_of_wide 5 Try.f5 rfl rfl rfl rfl rfl rfl rfl ⟨rfl, rfl, rfl, rfl, rfl⟩ rfl rfl rfl rfl rfl (by kernel_rfl) Try.func5 (by kernel_rfl)
    (of_decide_eq_true (by kernel_rfl)) (by unfold Func.isWrapper; first | (rw [if_pos (by decide +kernel)]; kernel_rfl) | (rw [if_neg (by decide +kernel)]; exact ⟨rfl, rfl⟩))
    (fun os started H enc _ => lifted os started H enc)
#print axioms proved
end Go.Proofs.Ytlofmaonlppmiaa.codesBack
