/- Package sha2's law package: the calls whose answers are fixed. -/
import Derived.Test.YtbkaemekcjinaaaDoorS13
namespace Go.Proofs.YtbkaemekcjinaaaDoor
open Go.RowKit Go.Lib
/-- What has grown out of w, with the constants as they were. -/
structure FW (w wr : World) : Prop where
  b : Below w.heap.size w wr
  v : Vars wr
theorem FW.from {w wr w2 : World} (h : FW w wr) (hb : Below wr.heap.size wr w2) : FW w w2 := ⟨h.b.trans (hb.mono h.b.size), h.v.from hb⟩
theorem FW.chg {w wr w2 : World} {g : Nat} (h : FW w wr) (hc : Chg g wr w2) (hg : w.heap.size ≤ g) (h1 : 1 < g) : FW w w2 := ⟨Chg.below h.b hc h.b.size hg, hc.vars h.v h1⟩
theorem fixed_any (w : World) (hv : Vars w) : Calls Tryd.prog 9 #[] w fun e w' => e = .returned (.bool true) ∧ Below w.heap.size w w' := by
  obtain ⟨A, hA⟩ : ∃ A, Oa = A := ⟨_, rfl⟩
  obtain ⟨T, hT⟩ : ∃ A, Ob = A := ⟨_, rfl⟩
  obtain ⟨X, hX⟩ : ∃ A, Oc = A := ⟨_, rfl⟩
  have a1 : (S A).size = 32 := by rw [← hA]; kernel_rfl
  have a2 : (((S A).extract 0 8).toList == [186, 120, 22, 191, 143, 1, 207, 234]) = true := by rw [← hA]; kernel_rfl
  have t1 : (S T).size = 64 := by rw [← hT]; kernel_rfl
  have t2 : (((S T).extract 0 4).toList == [207, 131, 225, 53]) = true := by rw [← hT]; kernel_rfl
  have x1 : ((S X).toList == (S A).toList) = false := by rw [← hX, ← hA]; kernel_rfl
  have x2 : ((S X).toList != (S A).toList) = true := by rw [← hX, ← hA]; kernel_rfl
  have s1 : ((S A).toList == (S A).toList) = true := by rw [S_beq]; simp
  have ca := fun w hv => one_any false [97, 98, 99] w hv (by decide)
  have ct := fun w hv => one_any true [] w hv (by decide)
  unfold OneH at ca ct
  rw [shaa, hA] at ca
  rw [shab, hT] at ct
  have cs := fun g w h hv => sum_any g false [97, 98, 99] w h hv (by decide)
  have cx := fun g w h hv => sum_any g false [97, 98, 120] w h hv (by decide)
  unfold SumH at cs cx
  rw [shaa, hA] at cs
  rw [shac, hX] at cx
  have CA := Lib.hid ca
  have CT := Lib.hid ct
  have CS := Lib.hid cs
  have CX := Lib.hid cx
  have hv1 := hv.1
  have HV := Lib.hid hv
  clear ca ct cs cx hA hT hX hv
  go_enter Tryd.func9, Tryd.ntmps9
  go_wp2_with (first
    | (go_at_call_of 7 (Value.int .i64 0); refine (CA.out _ HV.out).mono ?_; rintro e w1 ⟨rfl, hb1⟩; have F1 := Lib.hid (FW.mk hb1 (HV.out.from hb1)); clear hb1)
    | (go_at_call_of 7 (Value.int .i64 1); refine (CT.out _ F1.out.v).mono ?_; rintro e w2 ⟨rfl, hb2⟩; have F2 := Lib.hid (F1.out.from hb2); clear hb2)
    | (go_at_call_of 7 (Value.int .i64 2); refine (one_bad 2 _ _ (by decide) (by decide)).mono ?_; rintro e w3 ⟨rfl, rfl⟩)
    | (go_at_call_of 10 (Value.int .i64 0); refine (new_any false _ F2.out.v).mono ?_; rintro e w4 ⟨g, hg, rfl, h4, hb4⟩; have F4 := Lib.hid (F2.out.from hb4); have H4 := Lib.hid h4; have hgw : w.heap.size ≤ g := Nat.le_trans F2.out.b.size hg; have hg4 := h4.lt; clear hb4 h4)
    | (go_at_call 10; refine (new_bad (-1) _ (by decide) (by decide)).mono ?_; rintro e w5 ⟨rfl, rfl⟩)
    | (go_at_call_of 12 (Value.string ⟨#[97, 98]⟩); refine (write_any g false [] [97, 98] _ H4.out F4.out.v (by omega) (by decide)).mono ?_; rintro e w6 ⟨rfl, h6, c6⟩; have F6 := Lib.hid (F4.out.chg c6 hgw (by omega)); have H6 := Lib.hid h6; have hs6 := c6.size; clear h6 c6)
    | (go_at_call 11; refine (cloneH_any g false [97, 98] _ H6.out).mono ?_; rintro e w7 ⟨g2, hg2, rfl, h7, hb7⟩; have F7 := Lib.hid (F6.out.from hb7); have H7 := Lib.hid (H6.out.from hb7); have C7 := Lib.hid h7; have hg2w : w.heap.size ≤ g2 := Nat.le_trans F6.out.b.size hg2; clear hb7 h7)
    | (go_at_call_of 12 (Value.string ⟨#[99]⟩); refine (write_any g false [97, 98] [99] _ H7.out F7.out.v (by omega) (by decide)).mono ?_; rintro e w8 ⟨rfl, h8, c8⟩; have F8 := Lib.hid (F7.out.chg c8 hgw (by omega)); have H8 := Lib.hid h8; have C8 := Lib.hid (C7.out.chg c8 (by omega)); clear h8 c8)
    | (go_at_call_of 12 (Value.string ⟨#[120]⟩); refine (write_any g2 false [97, 98] [120] _ C8.out F8.out.v (by omega) (by decide)).mono ?_; rintro e w9 ⟨rfl, h9, c9⟩; have F9 := Lib.hid (F8.out.chg c9 hg2w (by omega)); have C9 := Lib.hid h9; have H9 := Lib.hid (H8.out.chg c9 (by omega)); clear h9 c9)
    | (go_at_call_of 13 (Value.pointer (some ⟨g, 0, none⟩)); refine (CS.out g _ H9.out F9.out.v).mono ?_; rintro e w10 ⟨rfl, hb10⟩; have F10 := Lib.hid (F9.out.from hb10); have H10 := Lib.hid (H9.out.from hb10); have C10 := Lib.hid (C9.out.from hb10); clear hb10)
    | (go_at_call 14; refine (sizeH_any g false [97, 98, 99] _ H10.out).mono ?_; rintro e w11 ⟨rfl, rfl⟩)
    | (go_at_call_of 13 (Value.pointer (some ⟨g2, 0, none⟩)); refine (CX.out g2 _ C10.out F10.out.v).mono ?_; rintro e w12 ⟨rfl, hb12⟩; have F12 := Lib.hid (F10.out.from hb12); clear hb12))
  go_ret
  exact ⟨rfl, F12.out.b⟩
end Go.Proofs.YtbkaemekcjinaaaDoor
