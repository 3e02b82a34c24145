/- Walks of package words: Unescape. -/
import Derived.Test.YtcgdocdpdapglaaW8
namespace Go.Proofs.Ytcgdocdpdapglaa
open Go.RowKit Go.Lib
def UnR : Option (List UInt8) → Value
  | some p => .tuple #[.string (S p), .int .i64 0]
  | none => .tuple #[.string (S []), .int .i64 11]
def UnPost (s : List UInt8) (w : World) (e : Ending) (w' : World) : Prop := e = .returned (UnR (un s)) ∧ Below w.heap.size w w'
theorem S_beq (a b : List UInt8) : ((S a).toList == (S b).toList) = decide (a = b) := by
  rw [Lib.toList_data, Lib.toList_data, S_data, S_data, beq_dec]
set_option maxHeartbeats 6400000 in
theorem unescape_any (s : List UInt8) (hs : s.length ≤ 274877906944) (w : World) : Calls Try.prog 20 #[.string (S s)] w (UnPost s w) := by
  obtain ⟨i0, hi, hz0, hz1, hz2⟩ := info_parts info5
  go_enter Try.func20, Try.ntmps20
  go_wp2
  go_loopw [4, 5] (fun v rv wr => ∃ (acc r : List UInt8), wr.ownsRow w.heap.size 5 1 v acc.length (byteCells acc) ∧ rv = .string (S r) ∧ Hid (Below w.heap.size w wr) ∧ Hid (unR s = (unR r).map (acc ++ ·)) ∧ acc.length + r.length ≤ s.length) (fun _ rv _ => strSize rv)
  case atStart => exact ⟨[], s, World.ownsRow_nil _ _ _ _, rfl, Below.refl _ _, by show _ = _; simp, by simp⟩
  case round =>
    obtain ⟨acc, r, hown, rfl, HB, HE, hal⟩ := hrel
    obtain ⟨A, cap, rfl⟩ := own_form hown
    have hbw := HB.out.size
    by_cases hr : r = []
    · subst hr
      have c2 : (S []).toList.isEmpty = true := by rw [Lib.toList_data]; rfl
      have hcv := conv_own hown
      have HE2 : unR s = some acc := by rw [HE.out, unR_nil]; simp
      replace HE2 := Lib.hid HE2
      have hacc : acc.length ≤ 1099511627776 := by simp at hal; omega
      by_cases hes : esc acc = s
      · have b : ((S (esc acc)).toList == (S s).toList) = true := by rw [S_beq]; simpa using hes
        have HE3 : un s = some acc := by unfold un; rw [HE2.out]; show (if _ then _ else _) = _; rw [if_pos hes]
        replace HE3 := Lib.hid HE3
        replace hes := Lib.hid hes
        go_wp2_with fail
        refine (escape_any acc hacc _).mono ?_
        rintro e w1 ⟨rfl, hb1⟩
        have hB1 : Below w.heap.size w w1 := HB.out.trans (hb1.mono hbw)
        clear hb1
        replace hB1 := Lib.hid hB1
        go_wp2
        go_ret2
        unfold UnPost
        rw [HE3.out]
        exact ⟨rfl, hB1.out⟩
      · have b : ((S (esc acc)).toList == (S s).toList) = false := by rw [S_beq]; simpa using hes
        have HE3 : un s = none := by unfold un; rw [HE2.out]; show (if _ then _ else _) = _; rw [if_neg hes]
        replace HE3 := Lib.hid HE3
        replace hes := Lib.hid hes
        go_wp2_with fail
        refine (escape_any acc hacc _).mono ?_
        rintro e w1 ⟨rfl, hb1⟩
        have hB1 : Below w.heap.size w w1 := HB.out.trans (hb1.mono hbw)
        clear hb1
        replace hB1 := Lib.hid hB1
        go_wp2
        go_ret2
        unfold UnPost
        rw [HE3.out]
        exact ⟨rfl, hB1.out⟩
    · have hlen : 0 < r.length := length_pos hr
      have c1 := beq_S_nil r hr
      have c2 := isEmpty_S r hr
      have hst := unR_step r hr
      have hrb := readB_le r hr
      replace hr := Lib.hid hr
      replace hst := Lib.hid hst
      have hz : 0 < (S r).size := by rw [S_size]; exact hlen
      have hsr : (S r).size ≤ 1125899906842624 := by rw [S_size]; omega
      have hcall := readByte_any (S r) hz hsr wr
      obtain ⟨d, hd⟩ : ∃ d, readB r = d := ⟨_, rfl⟩
      unfold RB Pair at hcall
      rw [S_data, hd] at hcall
      rw [hd] at hrb
      replace hcall := Lib.hid hcall
      replace hd := Lib.hid hd
      have hd2 : d.2 ≤ (S r).size := by rw [S_size]; exact hrb
      go_wp2_with fail
      refine hcall.out.mono ?_
      rintro e w1 ⟨rfl, hb1⟩
      have hown1 := ownsRow_below hown hb1
      have hB1 : Below w.heap.size w w1 := HB.out.trans (hb1.mono hbw)
      clear hb1 hown
      replace hB1 := Lib.hid hB1
      have hz1' : w.heap.size ≤ w1.heap.size := hB1.out.size
      by_cases h0 : d.2 = 0
      · have b0 : ((d.2 : Int) == 0) = true := by rw [h0]; rfl
        have HE2 : unR s = none := by rw [HE.out, hst.out, hd.out, if_pos h0]; rfl
        replace HE2 := Lib.hid HE2
        clear h0
        have HE3 : un s = none := by unfold un; rw [HE2.out]; rfl
        replace HE3 := Lib.hid HE3
        go_wp2
        go_ret2
        unfold UnPost
        rw [HE3.out]
        exact ⟨rfl, hB1.out⟩
      · have b0 : ((d.2 : Int) == 0) = false := by rw [beq_eq_false_iff_ne]; omega
        have HE2 : unR s = (unR (r.drop d.2)).map (acc ++ [d.1] ++ ·) := by
          rw [HE.out, hst.out, hd.out, if_neg h0, Option.map_map]
          congr 1
          funext x
          simp
        replace HE2 := Lib.hid HE2
        have hex := ext_rest r d.2
        replace hex := Lib.hid hex
        go_wp2_with (at_builtin; refine wpList_append_own _ rfl _ _ 42 rfl (w.heap.size) 5 i0 (.int .u8 0) 1 1 Try.underlying42 hi hz0 hz1 hz2 rfl (by decide) _ _ _ rfl (hown1.alloc _) ⟨w1.heap.size, 0, none⟩ 1 1 [.int .u8 d.1.toNat] rfl rfl ?c1 ?c2 ?c3 ?c4 ?c5 ?_)
        case c1 => exact row_new w1 [_] 5
        case c2 => intro u hu; simp at hu; subst hu; rfl
        case c3 => unfold maxLen; omega
        case c4 => omega
        case c5 => simp; omega
        intro v' w2 hown2 hgrow _
        have hB2 : Below w.heap.size w w2 := by
          refine (hB1.out.alloc hz1' _).grown hgrow (by simp; omega) ?_
          intro g hg
          exact (hown1.lt g hg).1
        have hrow2 : w2.ownsRow w.heap.size 5 1 v' (acc ++ [d.1]).length (byteCells (acc ++ [d.1])) := by
          rw [List.length_append, byteCells_append]; exact hown2
        clear hown2 hgrow hown1
        replace hB2 := Lib.hid hB2
        replace hrow2 := Lib.hid hrow2
        go_wp2
        go_roundw
        case rel =>
          refine ⟨acc ++ [d.1], r.drop d.2, hrow2.out, by rw [hex.out], hB2, HE2, ?_⟩
          rw [List.length_append, List.length_drop]
          simp; omega
        case measure =>
          rw [hex.out]
          simp [strSize, S_size]; omega
end Go.Proofs.Ytcgdocdpdapglaa
