/- Walks of the document's answer for package codes: digits. -/
import Derived.Test.YtlofmaonlppmiaaKitB
import Derived.Test.YtlofmaonlppmiaaCPlain2
namespace Go.Proofs.Ytlofmaonlppmiaa
open Go.RowKit Go.Lib
set_option maxHeartbeats 400000 in
theorem digitR_is (n : Int) (c : UInt8) (h0 : 0 ≤ n) (h1 : n < 16) (hc : hexD n.toNat = c) (w : World) : Calls Try.prog 23 #[.int .u8 n] w fun e w' => e = .returned (.int .u8 c.toNat) ∧ w' = w := by
  by_cases h2 : n < 10
  · have e : ((c.toNat : Nat) : Int) = 48 + n := by
      rw [← hc]; unfold hexD; rw [if_pos (by omega)]
      simp; omega
    replace e := Lib.hid e
    clear hc
    go_enter Try.func23, Try.ntmps23
    go_wp2
    go_ret
    exact ⟨int_ret (by rw [e.out]), rfl⟩
  · have e : ((c.toNat : Nat) : Int) = 87 + n := by
      rw [← hc]; unfold hexD; rw [if_neg (by omega)]
      simp; omega
    replace e := Lib.hid e
    clear hc
    go_enter Try.func23, Try.ntmps23
    go_wp2
    go_ret
    exact ⟨int_ret (by rw [e.out]; omega), rfl⟩
theorem hexL_snoc (l : List UInt8) (b : UInt8) : hexL (l ++ [b]) = hexL l ++ [hexD (b.toNat / 16), hexD (b.toNat % 16)] := by rw [hexL_append]; rfl
def HexPost (s : List UInt8) (w : World) (e : Ending) (w' : World) : Prop := e = .returned (.string (S (hexL s))) ∧ Below w.heap.size w w'
set_option maxRecDepth 100000 in
set_option maxHeartbeats 6400000 in
theorem hexR_any (s : List UInt8) (hs : s.length ≤ 8796093022208) (w : World) : Calls Try.prog 20 #[.string (S s)] w (HexPost s w) := by
  obtain ⟨i0, hi, hz0, hz1, hz2⟩ := info_parts info5
  have hz : (S s).size = s.length := S_size s
  rw [← hz] at hs
  replace hz := Lib.hid hz
  have er := Lib.hid (empty_row w w.heap.size 5 (Nat.le_refl _))
  go_enter Try.func20, Try.ntmps20
  go_wp2
  go_loopw [3, 4] (fun v iv wr => ∃ i : Nat, i ≤ (S s).size ∧ iv = .int .i64 i ∧ wr.ownsRow w.heap.size 5 1 v (2 * i) (byteCells (hexL (s.take i))) ∧ Hid (Below w.heap.size w wr)) (fun _ iv _ => (S s).size - (intOf iv).toNat)
  case atStart => exact ⟨0, by omega, rfl, er.out, (Below.refl _ _).alloc (Nat.le_refl _) _⟩
  case round =>
    obtain ⟨i, hil, rfl, hown, HB⟩ := hrel
    clear er
    obtain ⟨A, cap, rfl⟩ := own_form hown
    have hbw := HB.out.size
    by_cases hlt : i < (S s).size
    · have hb := (S s)[i].toNat_lt
      have hsn : hexL (s.take (i + 1)) = hexL (s.take i) ++ [hexD ((S s)[i].toNat / 16), hexD ((S s)[i].toNat % 16)] := by rw [take_snocB s i hlt, hexL_snoc]
      obtain ⟨c1, hc1⟩ : ∃ c, hexD ((S s)[i].toNat / 16) = c := ⟨_, rfl⟩
      obtain ⟨c2, hc2⟩ : ∃ c, hexD ((S s)[i].toNat % 16) = c := ⟨_, rfl⟩
      rw [hc1, hc2] at hsn
      obtain ⟨z1, hz1e⟩ : ∃ z : Int, ((S s)[i].toNat : Int) / 16 = z := ⟨_, rfl⟩
      obtain ⟨z2, hz2e⟩ : ∃ z : Int, ((S s)[i].toNat : Int) % 16 = z := ⟨_, rfl⟩
      have tme : ((S s)[i].toNat : Int).tmod 16 = z2 := by rw [Int.tmod_eq_emod_of_nonneg (by omega)]; exact hz2e
      have w1e : IntKind.u8.wrap z1 = z1 := by simp [IntKind.wrap, IntKind.signed, IntKind.bits]; omega
      have q1 := digitR_is z1 c1 (by omega) (by omega) (by rw [← hc1]; congr 1; omega)
      have q2 := digitR_is z2 c2 (by omega) (by omega) (by rw [← hc2]; congr 1; omega)
      have hmax : 2 * i + 2 ≤ maxLen := by unfold maxLen; omega
      have hby : (2 * i + 2) * 1 ≤ 140737488355328 := by omega
      have h1c : ∀ u ∈ [Value.int .u8 c1.toNat, Value.int .u8 c2.toNat], u.oneCell' = true := by
        intro u hu; simp at hu; rcases hu with rfl | rfl <;> rfl
      have hbs : w.heap.size ≤ (wr.alloc (.cells #[Value.int .u8 c1.toNat, Value.int .u8 c2.toNat] 5)).drew.heap.size := by
        show w.heap.size ≤ (wr.alloc _).heap.size
        rw [World.size_alloc]; omega
      have hrow : ∀ g, (Value.slice A (2 * i) cap).ownBlock = some g → w.heap.size ≤ g := fun g hg => (hown.lt g hg).1
      clear hc1 hc2
      replace hsn := Lib.hid hsn
      replace q1 := Lib.hid q1
      replace q2 := Lib.hid q2
      replace hmax := Lib.hid hmax
      replace hby := Lib.hid hby
      replace h1c := Lib.hid h1c
      replace hbs := Lib.hid hbs
      replace hrow := Lib.hid hrow
      go_wp2_with fail
      go_region_held3 (fun _ => True) (trivial)
        (first
          | (go_at_call_of 23 (Value.int .u8 z1); refine (q1.out _).mono ?_; rintro e w' ⟨rfl, rfl⟩)
          | (go_at_call_of 23 (Value.int .u8 z2); refine (q2.out _).mono ?_; rintro e w' ⟨rfl, rfl⟩)
          | (refine step_own (by rfl) _ _ _ (by rfl) w.heap.size 5 i0 (.int .u8 0) 1 1 Try.underlying36 hi hz0 hz1 hz2 rfl (by omega) _ _ _ (by rfl) ((hown.alloc _).drew) ⟨wr.heap.size, 0, none⟩ 2 2 [.int .u8 c1.toNat, .int .u8 c2.toNat] (by rfl) (by rfl) (row_new wr [.int .u8 c1.toNat, .int .u8 c2.toNat] 5) h1c.out hmax.out hby.out hbs.out ?_; intro v' w2 ho2 hgr))
      all_goals
        have ho3 : w2.ownsRow w.heap.size 5 1 v' (2 * (i + 1)) (byteCells (hexL (s.take (i + 1)))) := by
          rw [hsn.out, byteCells_append]; exact ho2
        have hb2 := Lib.hid (((HB.out.alloc hbw _).drew).grown hgr hbs.out hrow.out)
        clear ho2 hgr hown
        replace ho3 := Lib.hid ho3
        go_wp2
        go_roundw
        case rel => exact ⟨i + 1, by omega, by go_num, ho3.out, hb2⟩
        case measure => simp [intOf]; omega
    · have ht : s.take i = s := List.take_of_length_le (by have := hz.out; omega)
      have hcv := conv_own hown
      replace ht := Lib.hid ht
      go_wp2
      go_ret
      unfold HexPost
      refine ⟨?_, HB.out⟩
      rw [← congrArg hexL ht.out]; rfl
end Go.Proofs.Ytlofmaonlppmiaa
