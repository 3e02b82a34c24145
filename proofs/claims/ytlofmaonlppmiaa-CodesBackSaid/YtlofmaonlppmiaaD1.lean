/- Walks of package codes: numbers in bytes. -/
import Derived.Test.YtlofmaonlppmiaaC1
namespace Go.Proofs.Ytlofmaonlppmiaa
open Go.RowKit Go.Lib
theorem pow8 (i : Nat) : 2 ^ (8 * i) = 256 ^ i := by rw [Nat.pow_mul]
theorem shr8 (n i m : Nat) (h : n / 256 ^ i = m) : (n : Int) / 2 ^ (8 * i) = (m : Int) := by
  rw [← h, ← pow8]; simp
theorem or_i64 (a b : Nat) (ha : a < 9223372036854775808) (hb : b < 9223372036854775808) : bits .or .i64 (a : Int) (b : Int) = ((a ||| b : Nat) : Int) := by
  have hx : a ||| b < 2 ^ 63 := Nat.or_lt_two_pow (by omega) (by omega)
  have h1 : (BitVec.ofInt 64 (a : Int)).toNat = a := by
    rw [BitVec.ofInt_natCast, BitVec.toNat_ofNat]; exact Nat.mod_eq_of_lt (by omega)
  have h2 : (BitVec.ofInt 64 (b : Int)).toNat = b := by
    rw [BitVec.ofInt_natCast, BitVec.toNat_ofNat]; exact Nat.mod_eq_of_lt (by omega)
  show IntKind.i64.wrap ((BitVec.ofInt 64 (a : Int) ||| BitVec.ofInt 64 (b : Int)).toNat : Int) = _
  rw [BitVec.toNat_or, h1, h2]
  simp [IntKind.wrap, IntKind.signed, IntKind.bits]
  omega
theorem get_or (m x k : Nat) (hk : k < 7) (hm : m < 256 ^ k) (hx : x < 256) : bits .or .i64 (m : Int) (wrap64 ((x : Int) * 2 ^ (8 * k))) = ((m + 256 ^ k * x : Nat) : Int) ∧ m + 256 ^ k * x < 72057594037927936 := by
  have h6 : 256 ^ k ≤ 256 ^ 6 := Nat.pow_le_pow_right (by omega) (by omega)
  have e6 : (256 : Nat) ^ 6 = 281474976710656 := by decide
  have hp : 256 ^ k * x ≤ 281474976710656 * 255 := Nat.mul_le_mul (by omega) (by omega)
  have hw : (x : Int) * 2 ^ (8 * k) = ((256 ^ k * x : Nat) : Int) := by
    rw [← pow8, Nat.mul_comm (2 ^ (8 * k)) x]; simp
  have hw2 : wrap64 ((x : Int) * 2 ^ (8 * k)) = ((256 ^ k * x : Nat) : Int) := by
    rw [hw]; unfold wrap64; omega
  rw [hw2, or_i64 m _ (by omega) (by omega)]
  have hj := Nat.two_pow_add_eq_or_of_lt (i := 8 * k) (b := m) (by rw [pow8]; exact hm) x
  rw [pow8] at hj
  rw [Nat.or_comm, ← hj]
  constructor
  · omega
  · omega
theorem getN_take (s : List UInt8) (k : Nat) (h : k < (S s).size) : getN (s.take (k + 1)) = getN (s.take k) + 256 ^ k * (S s)[k].toNat := by
  have h2 : k < s.length := by rw [← S_size]; exact h
  rw [take_snocB s k h, getN_snoc, List.length_take, Nat.min_eq_left (by omega)]
theorem getN_take_lt (s : List UInt8) (k : Nat) (h : k ≤ (S s).size) : getN (s.take k) < 256 ^ k := by
  have h2 : k ≤ s.length := by rw [← S_size]; exact h
  have := getN_lt (s.take k)
  rw [List.length_take, Nat.min_eq_left (by omega)] at this
  exact this
theorem zeros_bytes (k : Nat) : (madeCells #[Value.int IntKind.u8 0] k).toList = byteCells (List.replicate k 0) := by
  rw [toList_madeCells_one]
  simp [byteCells]
theorem bytes_set (l : List UInt8) (j : Nat) (x : UInt8) : (byteCells l).set j (.int .u8 x.toNat) = byteCells (l.set j x) := by
  unfold byteCells; rw [List.map_set]
theorem put_set (n k i : Nat) (x : UInt8) (h : i < k) (hx : UInt8.ofNat (n / 256 ^ i % 256) = x) : (leN n i ++ List.replicate (k - i) 0).set i x = leN n (i + 1) ++ List.replicate (k - (i + 1)) 0 := by
  rw [leN_snoc, hx, List.set_append_right _ _ (by rw [leN_len]; omega), leN_len, show k - i = (k - (i + 1)) + 1 by omega, List.replicate_succ]
  simp
theorem put_out (n k : Int) (h : k < 1 ∨ 7 < k ∨ n < 0) (w : World) : Calls Try.prog 10 #[.int .i64 n, .int .i64 k] w (PutPost n k w) := by
  have e : Hid (putL n k = none) := by show _ = _; unfold putL; rw [if_pos h]
  by_cases h1 : k < 1
  · clear h
    go_enter Try.func10, Try.ntmps10
    go_wp2
    go_ret2
    unfold PutPost; rw [e.out]
    exact ⟨rfl, Below.refl _ _⟩
  by_cases h2 : 7 < k
  · clear h
    go_enter Try.func10, Try.ntmps10
    go_wp2
    go_ret2
    unfold PutPost; rw [e.out]
    exact ⟨rfl, Below.refl _ _⟩
  · have h3 : n < 0 := by omega
    clear h
    go_enter Try.func10, Try.ntmps10
    go_wp2
    go_ret2
    unfold PutPost; rw [e.out]
    exact ⟨rfl, Below.refl _ _⟩
set_option maxHeartbeats 3200000 in
theorem put_in (n k : Nat) (h1 : 1 ≤ k) (h7 : k ≤ 7) (hn : n < 9223372036854775808) (w : World) : Calls Try.prog 10 #[.int .i64 n, .int .i64 k] w (PutPost n k w) := by
  obtain ⟨i0, hi, hz0, hz1, hz2⟩ := info_parts info5
  have hp : putL (n : Int) (k : Int) = if 256 ^ k ≤ n then none else some (leN n k) := by
    unfold putL
    rw [if_neg (by omega), Int.toNat_natCast, Int.toNat_natCast]
  obtain ⟨d, hd⟩ : ∃ d, n / 256 ^ k = d := ⟨_, rfl⟩
  have hsh := shr8 n k d hd
  by_cases h0 : 256 ^ k ≤ n
  · have hput : putL (n : Int) (k : Int) = none := by rw [hp, if_pos h0]
    have hd0 : 0 < d := by rw [← hd]; exact Nat.div_pos h0 (Nat.pow_pos (by omega))
    have hne : ((d : Int) != 0) = true := by simp; omega
    replace hput := Lib.hid hput
    replace hd := Lib.hid hd
    clear hp h0
    go_enter Try.func10, Try.ntmps10
    go_wp2
    go_ret2
    unfold PutPost; rw [hput.out]
    exact ⟨rfl, Below.refl _ _⟩
  · have hput : putL (n : Int) (k : Int) = some (leN n k) := by rw [hp, if_neg h0]
    have hd0 : d = 0 := by rw [← hd]; exact Nat.div_eq_of_lt (by omega)
    subst hd0
    replace hput := Lib.hid hput
    replace hd := Lib.hid hd
    clear hp h0
    go_enter Try.func10, Try.ntmps10
    go_wp2_with (at_make; refine wpList_make_full _ rfl _ _ 36 rfl w.heap.size 5 i0 (.int .u8 0) 1 Try.underlying36 hi hz0 hz1 .i64 .i64 _ _ k rfl rfl rfl rfl ?b2 ?b3 ?b4 ?_)
    case b2 => rw [hz2]; omega
    case b3 => unfold maxLen; omega
    case b4 => exact Nat.le_refl _
    intro w1 ho1 hg1
    have ho1' : w1.ownsRow w.heap.size 5 1 (.slice (some ⟨w.heap.size, 0, none⟩) k k) k (byteCells (leN n 0 ++ List.replicate (k - 0) 0)) := by
      have := ho1; rw [zeros_bytes] at this; exact this
    have hB1 : Below w.heap.size w w1 := (Below.refl w.heap.size w).grown hg1 (Nat.le_refl _) (by intro g hg; cases hg)
    clear ho1 hg1
    replace ho1' := Lib.hid ho1'
    replace hB1 := Lib.hid hB1
    clear hsh
    go_wp2
    go_loopw [7, 28] (fun _ iv wr => ∃ (i : Nat), i ≤ k ∧ iv = .int .i64 i ∧ Hid (wr.ownsRow w.heap.size 5 1 (.slice (some ⟨w.heap.size, 0, none⟩) k k) k (byteCells (leN n i ++ List.replicate (k - i) 0))) ∧ Hid (Below w.heap.size w wr)) (fun _ iv _ => k - (intOf iv).toNat)
    case atStart => exact ⟨0, by omega, rfl, ho1', hB1⟩
    case round =>
      obtain ⟨i, hik, rfl, HO, HB⟩ := hrel
      clear ho1' hB1
      by_cases hlt : i < k
      · obtain ⟨m, hm⟩ : ∃ m, n / 256 ^ i = m := ⟨_, rfl⟩
        have hsh := shr8 n i m hm
        obtain ⟨x, hx⟩ : ∃ x, UInt8.ofNat (m % 256) = x := ⟨_, rfl⟩
        have hxm : (m : Int) % 256 = (x.toNat : Int) := by rw [← hx, byte_back _ (by omega)]; omega
        have hset := put_set n k i x hlt (by rw [hm, hx])
        have hc := HO.out.cellAt i (by omega)
        rw [List.getElem?_eq_getElem (by rw [byteCells_length, List.length_append, leN_len, List.length_replicate]; omega)] at hc
        have hf := HO.out.frozenAt i
        have hst := HO.out.stored i (.int .u8 x.toNat)
        rw [bytes_set, hset] at hst
        have ho2 := Lib.hid hst.1
        have hb2 := Lib.hid (HB.out.grown hst.2 HB.out.size (by intro g hg; injection hg with hg; subst hg; exact Nat.le_refl _))
        clear hst hset
        replace hx := Lib.hid hx
        replace hm := Lib.hid hm
        go_wp2
        go_roundw
        case rel => exact ⟨i + 1, by omega, by go_num, ho2, hb2⟩
        case measure => simp [intOf]; omega
      · have hik2 : i = k := by omega
        subst hik2
        have hcv := conv_own HO.out
        go_wp2
        go_ret2
        unfold PutPost; rw [hput.out]
        exact ⟨rfl, HB.out⟩
theorem put_any (n k : Int) (hn : n < 9223372036854775808) (w : World) : Calls Try.prog 10 #[.int .i64 n, .int .i64 k] w (PutPost n k w) := by
  by_cases h : k < 1 ∨ 7 < k ∨ n < 0
  · exact put_out n k h w
  · obtain ⟨a, rfl⟩ := Int.eq_ofNat_of_zero_le (show 0 ≤ n by omega)
    obtain ⟨b, rfl⟩ := Int.eq_ofNat_of_zero_le (show 0 ≤ k by omega)
    exact put_in a b (by omega) (by omega) (by omega) w
set_option maxHeartbeats 3200000 in
theorem get_any (s : List UInt8) (hs : s.length ≤ 1125899906842624) (w : World) : Calls Try.prog 12 #[.string (S s)] w (GetPost s w) := by
  have hz : (S s).size = s.length := S_size s
  by_cases hb : s.length < 1 ∨ 7 < s.length
  · have e : Hid (GetV s = .tuple #[.int .i64 0, .int .i64 20]) := by show _ = _; unfold GetV; rw [if_pos hb]
    rw [← hz] at hb hs
    rcases hb with h | h
    · clear hz
      go_enter Try.func12, Try.ntmps12
      go_wp2
      go_ret2
      unfold GetPost; rw [e.out]
      exact ⟨rfl, rfl⟩
    · clear hz
      go_enter Try.func12, Try.ntmps12
      go_wp2
      go_ret2
      unfold GetPost; rw [e.out]
      exact ⟨rfl, rfl⟩
  · have e : Hid (GetV s = .tuple #[.int .i64 (getN s : Nat), .int .i64 0]) := by show _ = _; unfold GetV; rw [if_neg hb]
    have h1 : 1 ≤ (S s).size := by omega
    have h7 : (S s).size ≤ 7 := by omega
    have hl7 : s.length ≤ 7 := by omega
    have hend : getN (s.take (S s).size) = getN s := by rw [List.take_of_length_le (by omega)]
    replace hz := Lib.hid hz
    clear hb
    replace hend := Lib.hid hend
    go_enter Try.func12, Try.ntmps12
    go_wp2
    go_loop [4, 5, 16] (fun nv _ iv => ∃ (k m : Nat), k ≤ (S s).size ∧ iv = .int .i64 k ∧ nv = .int .i64 m ∧ Hid (getN (s.take k) = m)) (fun _ _ iv => (S s).size - (intOf iv).toNat)
    case atStart => exact ⟨0, 0, Nat.zero_le _, rfl, rfl, rfl⟩
    case round =>
      obtain ⟨k, m, hk, rfl, rfl, HM⟩ := hrel
      by_cases hk0 : k < (S s).size
      · have hbj := (S s)[k].toNat_lt
        have hml := getN_take_lt s k hk
        rw [HM.out] at hml
        obtain ⟨ho, hbd⟩ := get_or m (S s)[k].toNat k (by omega) hml (by omega)
        have hnx := getN_take s k hk0
        rw [HM.out] at hnx
        obtain ⟨m2, hm2⟩ : ∃ m2, m + 256 ^ k * (S s)[k].toNat = m2 := ⟨_, rfl⟩
        rw [hm2] at ho hnx hbd
        clear hml hm2 hbd
        replace hnx := Lib.hid hnx
        go_wp2
        go_round
        case rel => exact ⟨k + 1, m2, by omega, by go_num, rfl, hnx⟩
        case measure => simp [intOf]; omega
      · have hk1 : k = (S s).size := by omega
        subst hk1
        have hg : getN s = m := hend.out.symm.trans HM.out
        replace hg := Lib.hid hg
        go_wp2
        go_ret2
        unfold GetPost; rw [e.out, hg.out]
        exact ⟨rfl, rfl⟩
end Go.Proofs.Ytlofmaonlppmiaa
