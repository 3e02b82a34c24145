/- Walks of the document's answer for package codes: checksums. -/
import Derived.Test.YtlofmaonlppmiaaKitB
import Derived.Test.YtlofmaonlppmiaaCPlain
namespace Go.Proofs.Ytlofmaonlppmiaa
open Go.RowKit Go.Lib
def bitn : Nat → Nat → Nat
  | 0, r => r
  | n + 1, r => bitn n (bit1 r)
theorem bitn8 (r : Nat) : bitn 8 r = bit8 r := rfl
theorem regC_drop (s : List UInt8) (r i : Nat) (h : i < (S s).size) : regC r (s.drop i) = regC (byteC r (S s)[i].toNat) (s.drop (i + 1)) := by
  rw [drop_cons s i h]; rfl
def CrcPost (sum : Nat) (s : List UInt8) (w : World) (e : Ending) (w' : World) : Prop := e = .returned (.int .u32 (crcN sum s : Nat)) ∧ w = w'
set_option maxHeartbeats 6400000 in
theorem crcR_any (sum : Nat) (h : sum ≤ 4294967295) (s : List UInt8) (hs : s.length ≤ 1125899906842624) (w : World) : Calls Try.prog 18 #[.int .u32 sum, .string (S s)] w (CrcPost sum s w) := by
  have hz : (S s).size = s.length := S_size s
  obtain ⟨r0, hr0⟩ : ∃ r0, 4294967295 - sum = r0 := ⟨_, rfl⟩
  have hr0i : (4294967295 : Int) - (sum : Int) = (r0 : Int) := by omega
  have hr0l : r0 < 4294967296 := by omega
  have hfin : crcN sum s = 4294967295 - regC r0 s := by unfold crcN ones; rw [hr0]
  rw [← hz] at hs
  replace hz := Lib.hid hz
  replace hr0 := Lib.hid hr0
  replace hfin := Lib.hid hfin
  go_enter Try.func18, Try.ntmps18
  go_wp2
  clear hr0i
  go_loop [5, 6, 7] (fun rv iv _ => ∃ (i r : Nat), i ≤ (S s).size ∧ r < 4294967296 ∧ iv = .int .i64 i ∧ rv = .int .u32 r ∧ Hid (regC r (s.drop i) = regC r0 s)) (fun _ iv _ => (S s).size - (intOf iv).toNat)
  case atStart => exact ⟨0, r0, by omega, hr0l, rfl, rfl, rfl⟩
  case round =>
    obtain ⟨i, r, hi, hr, rfl, rfl, HR⟩ := hrel
    by_cases hlt : i < (S s).size
    · have hb := (S s)[i].toNat_lt
      have hx := bits_xor_u32 r (S s)[i].toNat hr (by omega)
      have hstep := regC_drop s r i hlt
      rw [HR.out] at hstep
      obtain ⟨r1, hr1⟩ : ∃ r1, r ^^^ (S s)[i].toNat = r1 := ⟨_, rfl⟩
      have hr1l : r1 < 4294967296 := by rw [← hr1]; exact Nat.xor_lt_two_pow (n := 32) hr (by omega)
      have hby : byteC r (S s)[i].toNat = bit8 r1 := by unfold byteC; rw [hr1]
      rw [hby] at hstep
      rw [hr1] at hx
      replace hstep := Lib.hid hstep
      replace hr1 := Lib.hid hr1
      replace hby := Lib.hid hby
      go_wp2
      clear hx
      go_loop [5, 7] (fun rv kv => ∃ (k q : Nat), k ≤ 8 ∧ q < 4294967296 ∧ kv = .int .i64 k ∧ rv = .int .u32 q ∧ Hid (bitn (8 - k) q = bit8 r1)) (fun _ kv => 8 - (intOf kv).toNat)
      case atStart => exact ⟨0, r1, by omega, hr1l, rfl, rfl, rfl⟩
      case round =>
        obtain ⟨k, q, hk, hq, rfl, rfl, HQ⟩ := hrel
        by_cases hk8 : k < 8
        · have hn : bitn (8 - (k + 1)) (bit1 q) = bit8 r1 := by
            rw [← HQ.out, show 8 - k = (8 - (k + 1)) + 1 by omega]; rfl
          have hql := bit1_lt hq
          replace hn := Lib.hid hn
          by_cases hpar : q % 2 = 1
          · have hb1 : bit1 q = (q / 2) ^^^ 3988292384 := by unfold bit1; rw [if_pos hpar]; rfl
            have hx2 := bits_xor_u32 (q / 2) 3988292384 (by omega) (by decide)
            rw [← hb1] at hx2
            have hx3 : bits .xor .u32 ((q : Int) / 2) 3988292384 = (bit1 q : Nat) := by
              rw [← hx2]; congr 1
            clear hx2 hb1
            obtain ⟨q1, hq1⟩ : ∃ q1, bit1 q = q1 := ⟨_, rfl⟩
            rw [hq1] at hx3 hql
            replace hn := hn.out
            rw [hq1] at hn
            replace hn := Lib.hid hn
            replace hq1 := Lib.hid hq1
            have bp : ((q : Int) % 2 == 1) = true := by rw [beq_iff_eq]; omega
            clear hpar
            go_wp2
            go_round
            case rel => exact ⟨k + 1, q1, by omega, hql, by go_num, rfl, hn⟩
            case measure => simp [intOf]; omega
          · have hb1 : bit1 q = q / 2 := by unfold bit1; rw [if_neg hpar]
            replace hn := hn.out
            rw [hb1] at hn
            replace hn := Lib.hid hn
            replace hb1 := Lib.hid hb1
            have bp : ((q : Int) % 2 == 1) = false := by rw [beq_eq_false_iff_ne]; omega
            clear hpar hql
            go_wp2
            go_round
            case rel => exact ⟨k + 1, q / 2, by omega, by omega, by go_num, by go_num, hn⟩
            case measure => simp [intOf]; omega
        · have hk2 : k = 8 := by omega
          have hq2 : q = bit8 r1 := by have := HQ.out; rw [hk2] at this; exact this
          replace hq2 := Lib.hid hq2
          clear hk2
          go_wp2
          go_round
          case rel => exact ⟨i + 1, q, by omega, hq, by go_num, rfl, by show _ = _; rw [hq2.out]; exact hstep.out.symm⟩
          case measure => simp [intOf]; omega
    · have hrf : r = regC r0 s := by rw [← HR.out, List.drop_eq_nil_of_le (by have := hz.out; omega)]; rfl
      have hlast : (4294967295 : Int) - (r : Int) = (crcN sum s : Nat) := by rw [hfin.out, ← hrf]; omega
      replace hrf := Lib.hid hrf
      replace hlast := Lib.hid hlast
      go_wp2
      go_ret
      refine ⟨?_, rfl⟩
      rw [← hlast.out]; rfl
end Go.Proofs.Ytlofmaonlppmiaa
