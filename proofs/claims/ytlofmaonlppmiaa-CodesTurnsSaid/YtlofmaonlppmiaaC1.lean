/- Walks of the document's answer for package codes: numbers in bytes. -/
import Derived.Test.YtlofmaonlppmiaaKitB
import Derived.Test.YtlofmaonlppmiaaCPlain2
namespace Go.Proofs.Ytlofmaonlppmiaa
open Go.RowKit Go.Lib
/-- A number in so many bytes. -/
def putL (n k : Int) : Option (List UInt8) := if k < 1 ∨ 7 < k ∨ n < 0 then none else if 256 ^ k.toNat ≤ n.toNat then none else some (leN n.toNat k.toNat)
def PutV : Option (List UInt8) → Value
  | some p => .tuple #[.string (S p), .int .i64 0]
  | none => .tuple #[.string (S []), .int .i64 20]
def PutPost (n k : Int) (w : World) (e : Ending) (w' : World) : Prop := e = .returned (PutV (putL n k)) ∧ Below w.heap.size w w'
theorem putR_out (n k : Int) (h : k < 1 ∨ 7 < k ∨ n < 0) (w : World) : Calls Try.prog 11 #[.int .i64 n, .int .i64 k] w (PutPost n k w) := by
  have e : Hid (putL n k = none) := by show _ = _; unfold putL; rw [if_pos h]
  by_cases h1 : k < 1
  · clear h
    go_enter Try.func11, Try.ntmps11
    go_wp2
    go_ret2
    unfold PutPost; rw [e.out]
    exact ⟨rfl, Below.refl _ _⟩
  by_cases h2 : 7 < k
  · clear h
    go_enter Try.func11, Try.ntmps11
    go_wp2
    go_ret2
    unfold PutPost; rw [e.out]
    exact ⟨rfl, Below.refl _ _⟩
  · have h3 : n < 0 := by omega
    clear h
    go_enter Try.func11, Try.ntmps11
    go_wp2
    go_ret2
    unfold PutPost; rw [e.out]
    exact ⟨rfl, Below.refl _ _⟩
theorem leN_step (n i : Nat) : leN n (i + 1) = leN n i ++ [UInt8.ofNat (n / 256 ^ i % 256)] := leN_snoc i n
theorem div_step (n i : Nat) : n / 256 ^ (i + 1) = n / 256 ^ i / 256 := by rw [Nat.pow_succ, Nat.div_div_eq_div_mul]
set_option maxHeartbeats 3200000 in
theorem putR_in (n k : Nat) (h1 : 1 ≤ k) (h7 : k ≤ 7) (hn : n < 9223372036854775808) (w : World) : Calls Try.prog 11 #[.int .i64 n, .int .i64 k] w (PutPost n k w) := by
  obtain ⟨i0, hi, hz0, hz1, hz2⟩ := info_parts info5
  have er := Lib.hid (empty_row w w.heap.size 5 (Nat.le_refl _))
  have hp : putL (n : Int) (k : Int) = if 256 ^ k ≤ n then none else some (leN n k) := by
    unfold putL
    rw [if_neg (by omega), Int.toNat_natCast, Int.toNat_natCast]
  replace hp := Lib.hid hp
  go_enter Try.func11, Try.ntmps11
  go_wp2
  go_loopw [0, 6, 7] (fun nv v iv wr => ∃ (i m : Nat), i ≤ k ∧ iv = .int .i64 i ∧ nv = .int .i64 m ∧ m < 9223372036854775808 ∧ Hid (n / 256 ^ i = m) ∧ wr.ownsRow w.heap.size 5 1 v i (byteCells (leN n i)) ∧ Hid (Below w.heap.size w wr)) (fun _ _ iv _ => k - (intOf iv).toNat)
  case atStart => exact ⟨0, n, by omega, rfl, rfl, hn, by show _ = _; simp, er.out, (Below.refl _ _).alloc (Nat.le_refl _) _⟩
  case round =>
    obtain ⟨i, m, hik, rfl, rfl, hm, HM, hown, HB⟩ := hrel
    clear er
    obtain ⟨A, cap, rfl⟩ := own_form hown
    have hbw := HB.out.size
    by_cases hlt : i < k
    · obtain ⟨x, hx⟩ : ∃ x, UInt8.ofNat (m % 256) = x := ⟨_, rfl⟩
      have hxm : (m : Int) % 256 = (x.toNat : Int) := by rw [← hx, byte_back _ (by omega)]; omega
      have hl : leN n (i + 1) = leN n i ++ [x] := by rw [leN_step, HM.out, hx]
      have hd : n / 256 ^ (i + 1) = m / 256 := by rw [div_step, HM.out]
      replace hl := Lib.hid hl
      replace hd := Lib.hid hd
      replace hx := Lib.hid hx
      go_wp2_with (at_builtin; refine wpList_append_own _ rfl _ _ 36 rfl w.heap.size 5 i0 (.int .u8 0) 1 1 Try.underlying36 hi hz0 hz1 hz2 rfl (by decide) _ _ _ rfl (hown.alloc _) ⟨wr.heap.size, 0, none⟩ 1 1 [.int .u8 x.toNat] rfl rfl ?c1 ?c2 ?c3 ?c4 ?c5 ?_)
      case c1 => exact row_new wr [_] 5
      case c2 => intro u hu; simp at hu; subst hu; rfl
      case c3 => unfold maxLen; omega
      case c4 => omega
      case c5 => rw [World.size_alloc]; omega
      intro v' w2 ho2 hgr _
      have ho3 : w2.ownsRow w.heap.size 5 1 v' (i + 1) (byteCells (leN n (i + 1))) := by
        rw [hl.out, byteCells_append]; exact ho2
      have hb2 := Lib.hid ((HB.out.alloc hbw _).grown hgr (by rw [World.size_alloc]; omega) fun g hg => (hown.lt g hg).1)
      clear ho2 hgr hown hxm
      replace ho3 := Lib.hid ho3
      go_wp2
      go_roundw
      case rel => exact ⟨i + 1, m / 256, by omega, by go_num, by go_num, by omega, hd, ho3.out, hb2⟩
      case measure => simp [intOf]; omega
    · have hik2 : i = k := by omega
      have hM : n / 256 ^ k = m := by rw [← hik2]; exact HM.out
      have hcv := conv_own hown
      have hl : leN n i = leN n k := by rw [hik2]
      replace hl := Lib.hid hl
      by_cases h0 : 0 < m
      · have hput : putL (n : Int) (k : Int) = none := by
          rw [hp.out, if_pos]
          rcases Nat.lt_or_ge n (256 ^ k) with h | h
          · rw [Nat.div_eq_of_lt h] at hM; omega
          · exact h
        replace hput := Lib.hid hput
        clear hik2 hM
        go_wp2
        go_ret2
        unfold PutPost; rw [hput.out]
        exact ⟨rfl, HB.out⟩
      · have hput : putL (n : Int) (k : Int) = some (leN n k) := by
          rw [hp.out, if_neg]
          intro h
          have := Nat.div_pos h (Nat.pow_pos (by omega))
          omega
        replace hput := Lib.hid hput
        clear hik2 hM
        go_wp2
        go_ret2
        unfold PutPost; rw [hput.out]
        refine ⟨?_, HB.out⟩
        show Ending.returned (.tuple #[.string (S (leN n i)), .int .i64 0]) = Ending.returned (.tuple #[.string (S (leN n k)), .int .i64 0])
        rw [hl.out]
theorem putR_any (n k : Int) (hn : n < 9223372036854775808) (w : World) : Calls Try.prog 11 #[.int .i64 n, .int .i64 k] w (PutPost n k w) := by
  by_cases h : k < 1 ∨ 7 < k ∨ n < 0
  · exact putR_out n k h w
  · obtain ⟨a, rfl⟩ := Int.eq_ofNat_of_zero_le (show 0 ≤ n by omega)
    obtain ⟨b, rfl⟩ := Int.eq_ofNat_of_zero_le (show 0 ≤ k by omega)
    exact putR_in a b (by omega) (by omega) (by omega) w

/-! ### Get -/
def GetV (s : List UInt8) : Value := if s.length < 1 ∨ 7 < s.length then .tuple #[.int .i64 0, .int .i64 20] else .tuple #[.int .i64 (getN s : Nat), .int .i64 0]
def GetPost (s : List UInt8) (w : World) (e : Ending) (w' : World) : Prop := e = .returned (GetV s) ∧ w = w'
theorem getN_drop (s : List UInt8) (k : Nat) (h : k < (S s).size) : getN (s.drop k) = (S s)[k].toNat + 256 * getN (s.drop (k + 1)) := by
  rw [drop_cons s k h]; rfl
theorem getN_bound (s : List UInt8) (h : s.length ≤ 7) (k : Nat) : getN (s.drop k) < 72057594037927936 := by
  have h1 := getN_lt (s.drop k)
  have h2 : (s.drop k).length ≤ 7 := by rw [List.length_drop]; omega
  have h3 := Nat.pow_le_pow_right (n := 256) (by omega) h2
  have h4 : (256 : Nat) ^ 7 = 72057594037927936 := by decide
  omega
set_option maxHeartbeats 3200000 in
theorem getR_any (s : List UInt8) (hs : s.length ≤ 1125899906842624) (w : World) : Calls Try.prog 13 #[.string (S s)] w (GetPost s w) := by
  have hz : (S s).size = s.length := S_size s
  by_cases hb : s.length < 1 ∨ 7 < s.length
  · have e : Hid (GetV s = .tuple #[.int .i64 0, .int .i64 20]) := by show _ = _; unfold GetV; rw [if_pos hb]
    rw [← hz] at hb hs
    rcases hb with h | h
    · clear hz
      go_enter Try.func13, Try.ntmps13
      go_wp2
      go_ret2
      unfold GetPost; rw [e.out]
      exact ⟨rfl, rfl⟩
    · clear hz
      go_enter Try.func13, Try.ntmps13
      go_wp2
      go_ret2
      unfold GetPost; rw [e.out]
      exact ⟨rfl, rfl⟩
  · have e : Hid (GetV s = .tuple #[.int .i64 (getN s : Nat), .int .i64 0]) := by show _ = _; unfold GetV; rw [if_neg hb]
    have h1 : 1 ≤ (S s).size := by omega
    have h7 : (S s).size ≤ 7 := by omega
    have hl7 : s.length ≤ 7 := by omega
    have hend : getN (s.drop (S s).size) = 0 := by rw [List.drop_eq_nil_of_le (by omega)]; rfl
    replace hz := Lib.hid hz
    clear hb
    replace hend := Lib.hid hend
    go_enter Try.func13, Try.ntmps13
    go_wp2
    go_loop [4, 5] (fun nv iv => ∃ (k m : Nat), k ≤ (S s).size ∧ iv = .int .i64 ((k : Int) - 1) ∧ nv = .int .i64 m ∧ m < 72057594037927936 ∧ Hid (getN (s.drop k) = m)) (fun _ iv => (intOf iv + 1).toNat)
    case atStart => exact ⟨(S s).size, 0, Nat.le_refl _, rfl, rfl, by omega, hend.out⟩
    case round =>
      obtain ⟨k, m, hk, rfl, rfl, hm, HM⟩ := hrel
      by_cases hk0 : 0 < k
      · obtain ⟨j, rfl⟩ : ∃ j, k = j + 1 := ⟨k - 1, by omega⟩
        have hj : j < (S s).size := by omega
        have hbj := (S s)[j].toNat_lt
        have hn := getN_drop s j hj
        rw [HM.out] at hn
        have hbd := getN_bound s hl7 j
        rw [hn] at hbd
        replace hn := Lib.hid hn
        have e1 : ((j + 1 : Nat) : Int) - 1 = (j : Int) := by omega
        rw [e1]
        clear e1
        have q1 : 256 * (m : Int) + ((S s)[j].toNat : Int) < 72057594037927936 := by omega
        clear hbd
        go_wp2
        go_round
        case rel => exact ⟨j, (S s)[j].toNat + 256 * m, by omega, rfl, by rw [show (256 * (m : Int) + ((S s)[j].toNat : Int)) = (((S s)[j].toNat + 256 * m : Nat) : Int) by omega], by omega, hn⟩
        case measure => simp [intOf]
      · have hk1 : k = 0 := by omega
        subst hk1
        have hg : getN s = m := HM.out
        replace hg := Lib.hid hg
        go_wp2
        go_ret2
        unfold GetPost; rw [e.out, hg.out]
        exact ⟨rfl, rfl⟩
end Go.Proofs.Ytlofmaonlppmiaa
