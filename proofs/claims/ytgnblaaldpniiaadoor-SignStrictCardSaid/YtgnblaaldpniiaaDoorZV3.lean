/- Rows of stage 7 from what package sign answers: a seed's key, over letters.
Rows of stage 7 from what package sign answers: one number of one key, message and point, over letters.
What package sign answers, by lists and points; the six rows of stage 7 from it. -/
import Derived.Test.YtgnblaaldpniiaaDoorZV2
import Derived.Test.YtgnblaaldpniiaaDoorZO5
import Derived.Test.YtgnblaaldpniiaaDoorZK2
import Derived.Test.YtgnblaaldpniiaaDoorZM2
section
set_option linter.unusedSimpArgs false
set_option linter.unusedVariables false
set_option maxRecDepth 100000
namespace Go.Proofs.YtgnblaaldpniiaaDoor.Sg
open Go.RowKit
open Go.Proofs.YtgnblaaldpniiaaDoor.Sc
def unB (d : List Nat) : List UInt8 := d.map UInt8.ofNat
theorem unL_num : numB (unB lL) = oL := by decide +kernel
theorem snoc_take (l : List Nat) (i : Nat) (h : i < l.length) : l.take i ++ [l.getD i 0] = l.take (i + 1) := by
  rw [List.take_add_one]
  simp [h]
set_option maxHeartbeats 6400000 in
theorem keys_core (s k lb z : ByteArray) (hlb : S (unB lL) = lb) (cF : ∀ w, Sh.Vars w → Calls Tryd.prog 10 #[] w (RetV (.bool true) w)) (c1 : ∀ w, Sh.Vars w → Calls Tryd.prog 8 #[.string s] w (RetV (.tuple #[.string k, .int .i64 0]) w)) (cM : ∀ w, Calls Tryd.prog 14 #[.string lb, .string k] w (RetV (.tuple #[.string z, .int .i64 0]) w)) (cI : ∀ w, Calls Tryd.prog 15 #[.string k] w (RetV (.bool true) w)) (cZ : ∀ w, Calls Tryd.prog 16 #[] w (RetV (.string z) w)) (wS : World) (hv : Sh.Vars wS) : Calls Tryd.prog 5 #[.string s] wS (RetV (.bool true) wS) := by
  replace cF := Kept.mk cF
  replace c1 := Kept.mk c1
  replace cM := Kept.mk cM
  replace cI := Kept.mk cI
  replace cZ := Kept.mk cZ
  obtain ⟨i1, hi1, hy0, hy1, hy2⟩ := info_parts info5
  have H := SM.start wS
  have cL := Kept.mk fun w => L_any w
  replace hlb := Kept.mk hlb
  replace hv := Kept.mk hv
  go_enter Tryd.func5, Tryd.ntmps5
  go_wp2_with (first
    | (refine wpList_make_row _ rfl _ _ 33 rfl 5 i1 (.int .u8 0) Tryd.underlying33 hi1 hy0 hy1 rfl .i64 .i64 32 rfl rfl (by rw [hy2]; omega) (by omega) ?_; rw [made32])
    | (go_at_call 13; fail "later")
    | (go_at_call 8; (with_reducible refine (c1.out _ (hv.out.from H.below)).mono ?_); rintro _ wP ⟨rfl, hb2⟩; have H := H.grow hb2; clear hb2)
    | (go_at_call 10; (with_reducible refine (cF.out _ (hv.out.from H.below)).mono ?_); rintro _ wI ⟨rfl, hb2⟩; have H := H.grow hb2; clear hb2))
  have hszI := H.below.size
  have hB := Arr.new wI 5 .u8 z32
  have hb0 : Below wI.heap.size wI (wI.alloc (.cells (numC .u8 z32).toArray 5)) := (Below.refl _ wI).alloc (Nat.le_refl _) _
  have H := H.grow hb0
  have hlt := hB.lt
  have hsw : wS.heap.size ≤ wI.heap.size := hszI
  generalize wI.alloc (.cells (numC .u8 z32).toArray 5) = w1 at hB H hlt hb0 ⊢
  replace hB := Kept.mk hB
  refine (cL.out _).mono ?_
  rintro e w2 ⟨g, rfl, hb2, hg2, hA2⟩
  have hB2 := Kept.mk (hB.out.from hb2)
  have H := H.more hb2 hg2 hA2
  have hne : wI.heap.size < g := by omega
  clear hB hb2 hg2 hA2 hlt hb0
  obtain ⟨gb, hgbe⟩ : ∃ b, wI.heap.size = b := ⟨_, rfl⟩
  rw [hgbe] at hB2 hne hsw ⊢
  have hgb : wS.heap.size ≤ gb := hsw
  replace hgbe := Kept.mk hgbe
  go_wp2
  go_loopw [7] (fun v7 wr => ∃ (i : Nat), i ≤ 32 ∧ v7 = .int .i64 (i : Int) ∧ SM wS wr [(g, lL)] ∧ Kept (Arr wr gb 5 .u8 (lL.take i ++ z32.drop i))) (fun v7 _ => 32 - (RowKit.intOf v7).toNat)
  case atStart => exact ⟨0, by omega, rfl, H, hB2⟩
  case round =>
    clear H hB2
    obtain ⟨i, hi, rfl, H, HB⟩ := hrel
    by_cases hlt : i < 32
    · obtain ⟨q, hq⟩ : ∃ q, lL.getD i 0 = q := ⟨_, rfl⟩
      have hql : q < 256 := hq ▸ getD_ltN lL_lt i (by rw [lL_len]; omega)
      have c1 := H.cell (.head _) i (by rw [lL_len]; omega)
      rw [hq] at c1
      have hlti : (i : Int) < 32 := by omega
      have kq : IntKind.u8.wrap (q : Int) = (q : Int) := by simp [IntKind.wrap, IntKind.signed, IntKind.bits]; omega
      have hz0 := drop_getD z32 i (by show i < 32; exact hlt)
      have hdl : (lL.take i).length = i := by rw [List.length_take, lL_len]; omega
      have e0 := HB.out.cellMid hz0 hdl
      have f0 := HB.out.frozen i
      have hBn : Arr (wr.setCell ⟨gb, i, none⟩ (.int .u8 (q : Int))) gb 5 .u8 (lL.take (i + 1) ++ z32.drop (i + 1)) := by
        have h := HB.out.step hz0 hdl q rfl
        rw [show lL.take i ++ [q] = lL.take (i + 1) from hq ▸ snoc_take lL i (by rw [lL_len]; exact hlt)] at h
        exact h
      have hne3 : ∀ g' x', (g', x') ∈ [(g, lL)] → g' ≠ gb := by
        intro g' x' h
        simp at h
        omega
      have Hn := H.setOther gb i (.int .u8 (q : Int)) hne3 hgb
      replace hBn := Kept.mk hBn
      replace hq := Kept.mk hq
      clear hz0 hne3 hdl
      go_wp2
      go_roundw
      case rel => exact ⟨i + 1, by omega, val_eq (by omega), Hn, hBn⟩
      case measure => first | (simp [RowKit.intOf]; done) | (simp [RowKit.intOf]; omega)
    · obtain rfl : i = 32 := by omega
      have hA := HB.out
      rw [show lL.take 32 ++ z32.drop 32 = digs (unB lL) from (by kernel_rfl)] at hA
      have HA := Kept.mk hA
      have HB := Kept.mk H.below
      clear hA H
      have hcv := conv_at (unB lL) HA.out 32 rfl
      rw [hlb.out] at hcv
      go_wp2_with (first
        | (go_at_call 14; (with_reducible refine (cM.out _).mono ?_); rintro _ w2 ⟨rfl, hb2⟩; have HB := Kept.mk (HB.out.trans (hb2.mono HB.out.size)); clear hb2)
        | (go_at_call 15; (with_reducible refine (cI.out _).mono ?_); rintro _ w2 ⟨rfl, hb2⟩; have HB := Kept.mk (HB.out.trans (hb2.mono HB.out.size)); clear hb2)
        | (go_at_call 16; (with_reducible refine (cZ.out _).mono ?_); rintro _ w2 ⟨rfl, hb2⟩; have HB := Kept.mk (HB.out.trans (hb2.mono HB.out.size)); clear hb2))
      go_ret
      exact ⟨rfl, HB.out⟩
set_option maxHeartbeats 6400000 in
theorem keys_no (s : ByteArray) (hs : ((s.size : Int) != 32) = true) (cF : ∀ w, Sh.Vars w → Calls Tryd.prog 10 #[] w (RetV (.bool true) w)) (c1 : ∀ w, Sh.Vars w → Calls Tryd.prog 8 #[.string s] w (RetV (.tuple #[.string ⟨#[]⟩, .int .i64 70]) w))  (wS : World) (hv : Sh.Vars wS) : Calls Tryd.prog 5 #[.string s] wS (RetV (.bool true) wS) := by
  have HB := Kept.mk (Below.refl wS.heap.size wS)
  replace hv := Kept.mk hv
  replace cF := Kept.mk cF
  replace c1 := Kept.mk c1
  go_enter Tryd.func5, Tryd.ntmps5
  go_wp2_with (first
    | (go_at_call 10; (with_reducible refine (cF.out _ (hv.out.from HB.out)).mono ?_); rintro _ w2 ⟨rfl, hb2⟩; have HB := Kept.mk (HB.out.trans (hb2.mono HB.out.size)); clear hb2)
    | (go_at_call 8; (with_reducible refine (c1.out _ (hv.out.from HB.out)).mono ?_); rintro _ w2 ⟨rfl, hb2⟩; have HB := Kept.mk (HB.out.trans (hb2.mono HB.out.size)); clear hb2))
  go_ret
  exact ⟨rfl, HB.out⟩
end Go.Proofs.YtgnblaaldpniiaaDoor.Sg
end
section
set_option linter.unusedSimpArgs false
set_option linter.unusedVariables false
set_option maxRecDepth 100000
namespace Go.Proofs.YtgnblaaldpniiaaDoor.Sg
open Go.RowKit
def fC (a b c d : ByteArray) : List Value := [.string a, .string b, .string c, .string d]
section
variable {ops : Array Oper} {rest : List Oper} {o : Oper} {a : Act} {w0 w : World} {Q : Exit → Act → World → Prop} {L : List Cells} {K : Act → Prop}
theorem f_box (hg : o.guard = none) (v : Operand) (ho : o.op = .box 31 v) (x y z t : ByteArray) (hv : a.eval v = .agg (fC x y z t).toArray) (H : RMem w0 w L)
    (h : ∀ g w', RMem w0 w' ((g, 31, fC x y z t) :: L) → wpList Tryd.prog ops Q rest (a.put o.dst (.pointer (some ⟨g, 0, none⟩))) w') : wpList Tryd.prog ops Q (o :: rest) a w := r_box hg _ v ho _ hv H h
theorem fq_cell0 (v : Operand) (ho : o.op = .load 9 v) (g : Nat) (x y z t : ByteArray) (u : World) (hw : From w.drew u) (hv : a.eval v = .pointer (some ⟨g, 0, none⟩)) (H : RMem w0 w L) (hm : (g, 31, fC x y z t) ∈ L)
    (h : K (a.put o.dst (.string x))) : o.quiet Tryd.prog a (fun w' => ∃ k : Held (From u), w' = k.w) K := rq_cell _ v ho _ Tryd.underlying9 rfl g 0 _ _ _ u hw hv H hm rfl h
theorem f_cell1 (hg : o.guard = none) (v : Operand) (ho : o.op = .load 9 v) (g : Nat) (x y z t : ByteArray) (hv : a.eval v = .pointer (some ⟨g, 1, none⟩)) (H : RMem w0 w L) (hm : (g, 31, fC x y z t) ∈ L)
    (h : wpList Tryd.prog ops Q rest (a.put o.dst (.string y)) w) : wpList Tryd.prog ops Q (o :: rest) a w := r_cell hg _ v ho _ Tryd.underlying9 rfl g 1 _ _ _ hv H hm rfl h
theorem fq_cell2 (v : Operand) (ho : o.op = .load 9 v) (g : Nat) (x y z t : ByteArray) (u : World) (hw : From w.drew u) (hv : a.eval v = .pointer (some ⟨g, 2, none⟩)) (H : RMem w0 w L) (hm : (g, 31, fC x y z t) ∈ L)
    (h : K (a.put o.dst (.string z))) : o.quiet Tryd.prog a (fun w' => ∃ k : Held (From u), w' = k.w) K := rq_cell _ v ho _ Tryd.underlying9 rfl g 2 _ _ _ u hw hv H hm rfl h
theorem fq_cell3 (v : Operand) (ho : o.op = .load 9 v) (g : Nat) (x y z t : ByteArray) (u : World) (hw : From w.drew u) (hv : a.eval v = .pointer (some ⟨g, 3, none⟩)) (H : RMem w0 w L) (hm : (g, 31, fC x y z t) ∈ L)
    (h : K (a.put o.dst (.string t))) : o.quiet Tryd.prog a (fun w' => ∃ k : Held (From u), w' = k.w) K := rq_cell _ v ho _ Tryd.underlying9 rfl g 3 _ _ _ u hw hv H hm rfl h
end
set_option maxHeartbeats 6400000 in
theorem once_len (k m g x n : ByteArray) (hg : ((g.size : Int) != 64) = true) (cF : ∀ w, Sh.Vars w → Calls Tryd.prog 10 #[] w (RetV (.bool true) w)) (cH : ∀ w, Calls Tryd.prog 7 #[.string m] w (RetV (.string n) w)) (wS : World) (hv : Sh.Vars wS) : Calls Tryd.prog 4 #[.agg (fC k m g x).toArray] wS (RetV (.bool true) wS) := by
  have H := RMem.start wS
  replace hv := Kept.mk hv
  replace cF := Kept.mk cF
  replace cH := Kept.mk cH
  go_enter Tryd.func4, Tryd.ntmps4
  go_wp2_with (refine f_box rfl _ rfl _ _ _ _ rfl (by assumption) ?_; intro gf w H; try simp only [Act.put, yI, yC, yZ])
  refine wp_region_from (by kernel_rfl) (by kernel_rfl) ?_
  repeat (first
    | (go_big_quiet_want; (first
      | (refine fq_cell0 _ rfl _ _ _ _ _ _ (From.refl _) rfl (by assumption) (by (repeat (first | exact .head _ | refine .tail _ ?_))) ?_)
      | (refine fq_cell2 _ rfl _ _ _ _ _ _ (From.refl _) rfl (by assumption) (by (repeat (first | exact .head _ | refine .tail _ ?_))) ?_)
      | (refine fq_cell3 _ rfl _ _ _ _ _ _ (From.refl _) rfl (by assumption) (by (repeat (first | exact .head _ | refine .tail _ ?_))) ?_)); try simp only [Act.put, yI, yC, yZ]; go_big_quiet_on)
    | go_big_quiet_step (fail))
  refine wpQuiet_nil ?_
  intro w5 hw5
  have H := H.from hw5
  clear hw5
  go_wp2_with (first
    | (go_at_call 10; (with_reducible refine (cF.out _ (hv.out.from H.below)).mono ?_); rintro _ w2 ⟨rfl, hb2⟩; have H := H.grow hb2; clear hb2)
    | (go_at_call 7; (with_reducible refine (cH.out _).mono ?_); rintro _ w2 ⟨rfl, hb2⟩; have H := H.grow hb2; clear hb2)
    | (refine f_cell1 rfl _ rfl _ _ _ _ _ rfl (by assumption) (by (repeat (first | exact .head _ | refine .tail _ ?_))) ?_; try simp only [Act.put, yI, yC, yZ]))
  go_ret
  exact ⟨rfl, H.below⟩
set_option maxHeartbeats 6400000 in
theorem once_more (k m g x n : ByteArray) (hg : g.size = 64) (hx : ((x.size : Int) != 32) = true) (cF : ∀ w, Sh.Vars w → Calls Tryd.prog 10 #[] w (RetV (.bool true) w)) (cH : ∀ w, Calls Tryd.prog 7 #[.string m] w (RetV (.string n) w)) (wS : World) (hv : Sh.Vars wS) : Calls Tryd.prog 4 #[.agg (fC k m g x).toArray] wS (RetV (.bool true) wS) := by
  have H := RMem.start wS
  replace hv := Kept.mk hv
  replace cF := Kept.mk cF
  replace cH := Kept.mk cH
  go_enter Tryd.func4, Tryd.ntmps4
  go_wp2_with (refine f_box rfl _ rfl _ _ _ _ rfl (by assumption) ?_; intro gf w H; try simp only [Act.put, yI, yC, yZ])
  refine wp_region_from (by kernel_rfl) (by kernel_rfl) ?_
  repeat (first
    | (go_big_quiet_want; (first
      | (refine fq_cell0 _ rfl _ _ _ _ _ _ (From.refl _) rfl (by assumption) (by (repeat (first | exact .head _ | refine .tail _ ?_))) ?_)
      | (refine fq_cell2 _ rfl _ _ _ _ _ _ (From.refl _) rfl (by assumption) (by (repeat (first | exact .head _ | refine .tail _ ?_))) ?_)
      | (refine fq_cell3 _ rfl _ _ _ _ _ _ (From.refl _) rfl (by assumption) (by (repeat (first | exact .head _ | refine .tail _ ?_))) ?_)); try simp only [Act.put, yI, yC, yZ]; go_big_quiet_on)
    | go_big_quiet_step (fail))
  refine wpQuiet_nil ?_
  intro w5 hw5
  have H := H.from hw5
  clear hw5
  go_wp2_with (first
    | (go_at_call 10; (with_reducible refine (cF.out _ (hv.out.from H.below)).mono ?_); rintro _ w2 ⟨rfl, hb2⟩; have H := H.grow hb2; clear hb2)
    | (go_at_call 7; (with_reducible refine (cH.out _).mono ?_); rintro _ w2 ⟨rfl, hb2⟩; have H := H.grow hb2; clear hb2)
    | (refine f_cell1 rfl _ rfl _ _ _ _ _ rfl (by assumption) (by (repeat (first | exact .head _ | refine .tail _ ?_))) ?_; try simp only [Act.put, yI, yC, yZ]))
  go_ret
  exact ⟨rfl, H.below⟩
set_option maxHeartbeats 6400000 in
theorem once_not (k m g x n : ByteArray) (hg : g.size = 64) (hx : x.size = 32) (cF : ∀ w, Sh.Vars w → Calls Tryd.prog 10 #[] w (RetV (.bool true) w)) (cH : ∀ w, Calls Tryd.prog 7 #[.string m] w (RetV (.string n) w)) (c1 : ∀ w, Sh.Vars w → Calls Tryd.prog 11 #[.string k, .string n, .string g] w (RetV (.bool false) w)) (wS : World) (hv : Sh.Vars wS) : Calls Tryd.prog 4 #[.agg (fC k m g x).toArray] wS (RetV (.bool true) wS) := by
  have H := RMem.start wS
  replace hv := Kept.mk hv
  replace cF := Kept.mk cF
  replace cH := Kept.mk cH
  replace c1 := Kept.mk c1
  go_enter Tryd.func4, Tryd.ntmps4
  go_wp2_with (refine f_box rfl _ rfl _ _ _ _ rfl (by assumption) ?_; intro gf w H; try simp only [Act.put, yI, yC, yZ])
  refine wp_region_from (by kernel_rfl) (by kernel_rfl) ?_
  repeat (first
    | (go_big_quiet_want; (first
      | (refine fq_cell0 _ rfl _ _ _ _ _ _ (From.refl _) rfl (by assumption) (by (repeat (first | exact .head _ | refine .tail _ ?_))) ?_)
      | (refine fq_cell2 _ rfl _ _ _ _ _ _ (From.refl _) rfl (by assumption) (by (repeat (first | exact .head _ | refine .tail _ ?_))) ?_)
      | (refine fq_cell3 _ rfl _ _ _ _ _ _ (From.refl _) rfl (by assumption) (by (repeat (first | exact .head _ | refine .tail _ ?_))) ?_)); try simp only [Act.put, yI, yC, yZ]; go_big_quiet_on)
    | go_big_quiet_step (fail))
  refine wpQuiet_nil ?_
  intro w5 hw5
  have H := H.from hw5
  clear hw5
  go_wp2_with (first
    | (go_at_call 10; (with_reducible refine (cF.out _ (hv.out.from H.below)).mono ?_); rintro _ w2 ⟨rfl, hb2⟩; have H := H.grow hb2; clear hb2)
    | (go_at_call 7; (with_reducible refine (cH.out _).mono ?_); rintro _ w2 ⟨rfl, hb2⟩; have H := H.grow hb2; clear hb2)
    | (go_at_call 11; (with_reducible refine (c1.out _ (hv.out.from H.below)).mono ?_); rintro _ w2 ⟨rfl, hb2⟩; have H := H.grow hb2; clear hb2)
    | (refine f_cell1 rfl _ rfl _ _ _ _ _ rfl (by assumption) (by (repeat (first | exact .head _ | refine .tail _ ?_))) ?_; try simp only [Act.put, yI, yC, yZ]))
  go_ret
  exact ⟨rfl, H.below⟩
set_option maxHeartbeats 6400000 in
theorem once_00 (k m g x n : ByteArray) (r t mv : ByteArray) (hg : g.size = 64) (hx : x.size = 32) (hr : r.size = 32) (hmv : mv.size = 32) (e1 : g.extract 0 32 = r) (e2 : g.extract 32 64 = t) (o1 : ((r ++ x).toList == g.toList) = false) (o2 : (mv.toList == t.toList) = false) (cF : ∀ w, Sh.Vars w → Calls Tryd.prog 10 #[] w (RetV (.bool true) w)) (cH : ∀ w, Calls Tryd.prog 7 #[.string m] w (RetV (.string n) w)) (c1 : ∀ w, Sh.Vars w → Calls Tryd.prog 11 #[.string k, .string n, .string g] w (RetV (.bool true) w)) (cA : ∀ w, Calls Tryd.prog 12 #[.string t, .string x] w (RetV (.tuple #[.string mv, .int .i64 0]) w)) (c2 : ∀ w, Sh.Vars w → Calls Tryd.prog 11 #[.string k, .string n, .string (r ++ x)] w (RetV (.bool false) w)) (c3 : ∀ w, Sh.Vars w → Calls Tryd.prog 11 #[.string k, .string n, .string (r ++ mv)] w (RetV (.bool false) w)) (wS : World) (hv : Sh.Vars wS) : Calls Tryd.prog 4 #[.agg (fC k m g x).toArray] wS (RetV (.bool true) wS) := by
  have H := RMem.start wS
  replace hv := Kept.mk hv
  replace cF := Kept.mk cF
  replace cH := Kept.mk cH
  replace c1 := Kept.mk c1
  replace cA := Kept.mk cA
  replace c2 := Kept.mk c2
  replace c3 := Kept.mk c3
  go_enter Tryd.func4, Tryd.ntmps4
  go_wp2_with (refine f_box rfl _ rfl _ _ _ _ rfl (by assumption) ?_; intro gf w H; try simp only [Act.put, yI, yC, yZ])
  refine wp_region_from (by kernel_rfl) (by kernel_rfl) ?_
  repeat (first
    | (go_big_quiet_want; (first
      | (refine fq_cell0 _ rfl _ _ _ _ _ _ (From.refl _) rfl (by assumption) (by (repeat (first | exact .head _ | refine .tail _ ?_))) ?_)
      | (refine fq_cell2 _ rfl _ _ _ _ _ _ (From.refl _) rfl (by assumption) (by (repeat (first | exact .head _ | refine .tail _ ?_))) ?_)
      | (refine fq_cell3 _ rfl _ _ _ _ _ _ (From.refl _) rfl (by assumption) (by (repeat (first | exact .head _ | refine .tail _ ?_))) ?_)); try simp only [Act.put, yI, yC, yZ]; go_big_quiet_on)
    | go_big_quiet_step (fail))
  refine wpQuiet_nil ?_
  intro w5 hw5
  have H := H.from hw5
  clear hw5
  go_wp2_with (first
    | (go_at_call 10; (with_reducible refine (cF.out _ (hv.out.from H.below)).mono ?_); rintro _ w2 ⟨rfl, hb2⟩; have H := H.grow hb2; clear hb2)
    | (go_at_call 7; (with_reducible refine (cH.out _).mono ?_); rintro _ w2 ⟨rfl, hb2⟩; have H := H.grow hb2; clear hb2)
    | (go_at_call 11; (with_reducible refine (c1.out _ (hv.out.from H.below)).mono ?_); rintro _ w2 ⟨rfl, hb2⟩; have H := H.grow hb2; clear hb2)
    | (go_at_call 12; (with_reducible refine (cA.out _).mono ?_); rintro _ w2 ⟨rfl, hb2⟩; have H := H.grow hb2; clear hb2)
    | (go_at_call 11; (with_reducible refine (c2.out _ (hv.out.from H.below)).mono ?_); rintro _ w2 ⟨rfl, hb2⟩; have H := H.grow hb2; clear hb2)
    | (go_at_call 11; (with_reducible refine (c3.out _ (hv.out.from H.below)).mono ?_); rintro _ w2 ⟨rfl, hb2⟩; have H := H.grow hb2; clear hb2)
    | (refine f_cell1 rfl _ rfl _ _ _ _ _ rfl (by assumption) (by (repeat (first | exact .head _ | refine .tail _ ?_))) ?_; try simp only [Act.put, yI, yC, yZ]))
  go_ret
  exact ⟨rfl, H.below⟩
set_option maxHeartbeats 6400000 in
theorem once_01 (k m g x n : ByteArray) (r t mv : ByteArray) (hg : g.size = 64) (hx : x.size = 32) (hr : r.size = 32) (hmv : mv.size = 32) (e1 : g.extract 0 32 = r) (e2 : g.extract 32 64 = t) (o1 : ((r ++ x).toList == g.toList) = false) (o2 : (mv.toList == t.toList) = true) (cF : ∀ w, Sh.Vars w → Calls Tryd.prog 10 #[] w (RetV (.bool true) w)) (cH : ∀ w, Calls Tryd.prog 7 #[.string m] w (RetV (.string n) w)) (c1 : ∀ w, Sh.Vars w → Calls Tryd.prog 11 #[.string k, .string n, .string g] w (RetV (.bool true) w)) (cA : ∀ w, Calls Tryd.prog 12 #[.string t, .string x] w (RetV (.tuple #[.string mv, .int .i64 0]) w)) (c2 : ∀ w, Sh.Vars w → Calls Tryd.prog 11 #[.string k, .string n, .string (r ++ x)] w (RetV (.bool false) w)) (wS : World) (hv : Sh.Vars wS) : Calls Tryd.prog 4 #[.agg (fC k m g x).toArray] wS (RetV (.bool true) wS) := by
  have H := RMem.start wS
  replace hv := Kept.mk hv
  replace cF := Kept.mk cF
  replace cH := Kept.mk cH
  replace c1 := Kept.mk c1
  replace cA := Kept.mk cA
  replace c2 := Kept.mk c2
  go_enter Tryd.func4, Tryd.ntmps4
  go_wp2_with (refine f_box rfl _ rfl _ _ _ _ rfl (by assumption) ?_; intro gf w H; try simp only [Act.put, yI, yC, yZ])
  refine wp_region_from (by kernel_rfl) (by kernel_rfl) ?_
  repeat (first
    | (go_big_quiet_want; (first
      | (refine fq_cell0 _ rfl _ _ _ _ _ _ (From.refl _) rfl (by assumption) (by (repeat (first | exact .head _ | refine .tail _ ?_))) ?_)
      | (refine fq_cell2 _ rfl _ _ _ _ _ _ (From.refl _) rfl (by assumption) (by (repeat (first | exact .head _ | refine .tail _ ?_))) ?_)
      | (refine fq_cell3 _ rfl _ _ _ _ _ _ (From.refl _) rfl (by assumption) (by (repeat (first | exact .head _ | refine .tail _ ?_))) ?_)); try simp only [Act.put, yI, yC, yZ]; go_big_quiet_on)
    | go_big_quiet_step (fail))
  refine wpQuiet_nil ?_
  intro w5 hw5
  have H := H.from hw5
  clear hw5
  go_wp2_with (first
    | (go_at_call 10; (with_reducible refine (cF.out _ (hv.out.from H.below)).mono ?_); rintro _ w2 ⟨rfl, hb2⟩; have H := H.grow hb2; clear hb2)
    | (go_at_call 7; (with_reducible refine (cH.out _).mono ?_); rintro _ w2 ⟨rfl, hb2⟩; have H := H.grow hb2; clear hb2)
    | (go_at_call 11; (with_reducible refine (c1.out _ (hv.out.from H.below)).mono ?_); rintro _ w2 ⟨rfl, hb2⟩; have H := H.grow hb2; clear hb2)
    | (go_at_call 12; (with_reducible refine (cA.out _).mono ?_); rintro _ w2 ⟨rfl, hb2⟩; have H := H.grow hb2; clear hb2)
    | (go_at_call 11; (with_reducible refine (c2.out _ (hv.out.from H.below)).mono ?_); rintro _ w2 ⟨rfl, hb2⟩; have H := H.grow hb2; clear hb2)
    | (refine f_cell1 rfl _ rfl _ _ _ _ _ rfl (by assumption) (by (repeat (first | exact .head _ | refine .tail _ ?_))) ?_; try simp only [Act.put, yI, yC, yZ]))
  go_ret
  exact ⟨rfl, H.below⟩
set_option maxHeartbeats 6400000 in
theorem once_10 (k m g x n : ByteArray) (r t mv : ByteArray) (hg : g.size = 64) (hx : x.size = 32) (hr : r.size = 32) (hmv : mv.size = 32) (e1 : g.extract 0 32 = r) (e2 : g.extract 32 64 = t) (o1 : ((r ++ x).toList == g.toList) = true) (o2 : (mv.toList == t.toList) = false) (cF : ∀ w, Sh.Vars w → Calls Tryd.prog 10 #[] w (RetV (.bool true) w)) (cH : ∀ w, Calls Tryd.prog 7 #[.string m] w (RetV (.string n) w)) (c1 : ∀ w, Sh.Vars w → Calls Tryd.prog 11 #[.string k, .string n, .string g] w (RetV (.bool true) w)) (cA : ∀ w, Calls Tryd.prog 12 #[.string t, .string x] w (RetV (.tuple #[.string mv, .int .i64 0]) w)) (c3 : ∀ w, Sh.Vars w → Calls Tryd.prog 11 #[.string k, .string n, .string (r ++ mv)] w (RetV (.bool false) w)) (wS : World) (hv : Sh.Vars wS) : Calls Tryd.prog 4 #[.agg (fC k m g x).toArray] wS (RetV (.bool true) wS) := by
  have H := RMem.start wS
  replace hv := Kept.mk hv
  replace cF := Kept.mk cF
  replace cH := Kept.mk cH
  replace c1 := Kept.mk c1
  replace cA := Kept.mk cA
  replace c3 := Kept.mk c3
  go_enter Tryd.func4, Tryd.ntmps4
  go_wp2_with (refine f_box rfl _ rfl _ _ _ _ rfl (by assumption) ?_; intro gf w H; try simp only [Act.put, yI, yC, yZ])
  refine wp_region_from (by kernel_rfl) (by kernel_rfl) ?_
  repeat (first
    | (go_big_quiet_want; (first
      | (refine fq_cell0 _ rfl _ _ _ _ _ _ (From.refl _) rfl (by assumption) (by (repeat (first | exact .head _ | refine .tail _ ?_))) ?_)
      | (refine fq_cell2 _ rfl _ _ _ _ _ _ (From.refl _) rfl (by assumption) (by (repeat (first | exact .head _ | refine .tail _ ?_))) ?_)
      | (refine fq_cell3 _ rfl _ _ _ _ _ _ (From.refl _) rfl (by assumption) (by (repeat (first | exact .head _ | refine .tail _ ?_))) ?_)); try simp only [Act.put, yI, yC, yZ]; go_big_quiet_on)
    | go_big_quiet_step (fail))
  refine wpQuiet_nil ?_
  intro w5 hw5
  have H := H.from hw5
  clear hw5
  go_wp2_with (first
    | (go_at_call 10; (with_reducible refine (cF.out _ (hv.out.from H.below)).mono ?_); rintro _ w2 ⟨rfl, hb2⟩; have H := H.grow hb2; clear hb2)
    | (go_at_call 7; (with_reducible refine (cH.out _).mono ?_); rintro _ w2 ⟨rfl, hb2⟩; have H := H.grow hb2; clear hb2)
    | (go_at_call 11; (with_reducible refine (c1.out _ (hv.out.from H.below)).mono ?_); rintro _ w2 ⟨rfl, hb2⟩; have H := H.grow hb2; clear hb2)
    | (go_at_call 12; (with_reducible refine (cA.out _).mono ?_); rintro _ w2 ⟨rfl, hb2⟩; have H := H.grow hb2; clear hb2)
    | (go_at_call 11; (with_reducible refine (c3.out _ (hv.out.from H.below)).mono ?_); rintro _ w2 ⟨rfl, hb2⟩; have H := H.grow hb2; clear hb2)
    | (refine f_cell1 rfl _ rfl _ _ _ _ _ rfl (by assumption) (by (repeat (first | exact .head _ | refine .tail _ ?_))) ?_; try simp only [Act.put, yI, yC, yZ]))
  go_ret
  exact ⟨rfl, H.below⟩
set_option maxHeartbeats 6400000 in
theorem once_11 (k m g x n : ByteArray) (r t mv : ByteArray) (hg : g.size = 64) (hx : x.size = 32) (hr : r.size = 32) (hmv : mv.size = 32) (e1 : g.extract 0 32 = r) (e2 : g.extract 32 64 = t) (o1 : ((r ++ x).toList == g.toList) = true) (o2 : (mv.toList == t.toList) = true) (cF : ∀ w, Sh.Vars w → Calls Tryd.prog 10 #[] w (RetV (.bool true) w)) (cH : ∀ w, Calls Tryd.prog 7 #[.string m] w (RetV (.string n) w)) (c1 : ∀ w, Sh.Vars w → Calls Tryd.prog 11 #[.string k, .string n, .string g] w (RetV (.bool true) w)) (cA : ∀ w, Calls Tryd.prog 12 #[.string t, .string x] w (RetV (.tuple #[.string mv, .int .i64 0]) w)) (wS : World) (hv : Sh.Vars wS) : Calls Tryd.prog 4 #[.agg (fC k m g x).toArray] wS (RetV (.bool true) wS) := by
  have H := RMem.start wS
  replace hv := Kept.mk hv
  replace cF := Kept.mk cF
  replace cH := Kept.mk cH
  replace c1 := Kept.mk c1
  replace cA := Kept.mk cA
  go_enter Tryd.func4, Tryd.ntmps4
  go_wp2_with (refine f_box rfl _ rfl _ _ _ _ rfl (by assumption) ?_; intro gf w H; try simp only [Act.put, yI, yC, yZ])
  refine wp_region_from (by kernel_rfl) (by kernel_rfl) ?_
  repeat (first
    | (go_big_quiet_want; (first
      | (refine fq_cell0 _ rfl _ _ _ _ _ _ (From.refl _) rfl (by assumption) (by (repeat (first | exact .head _ | refine .tail _ ?_))) ?_)
      | (refine fq_cell2 _ rfl _ _ _ _ _ _ (From.refl _) rfl (by assumption) (by (repeat (first | exact .head _ | refine .tail _ ?_))) ?_)
      | (refine fq_cell3 _ rfl _ _ _ _ _ _ (From.refl _) rfl (by assumption) (by (repeat (first | exact .head _ | refine .tail _ ?_))) ?_)); try simp only [Act.put, yI, yC, yZ]; go_big_quiet_on)
    | go_big_quiet_step (fail))
  refine wpQuiet_nil ?_
  intro w5 hw5
  have H := H.from hw5
  clear hw5
  go_wp2_with (first
    | (go_at_call 10; (with_reducible refine (cF.out _ (hv.out.from H.below)).mono ?_); rintro _ w2 ⟨rfl, hb2⟩; have H := H.grow hb2; clear hb2)
    | (go_at_call 7; (with_reducible refine (cH.out _).mono ?_); rintro _ w2 ⟨rfl, hb2⟩; have H := H.grow hb2; clear hb2)
    | (go_at_call 11; (with_reducible refine (c1.out _ (hv.out.from H.below)).mono ?_); rintro _ w2 ⟨rfl, hb2⟩; have H := H.grow hb2; clear hb2)
    | (go_at_call 12; (with_reducible refine (cA.out _).mono ?_); rintro _ w2 ⟨rfl, hb2⟩; have H := H.grow hb2; clear hb2)
    | (refine f_cell1 rfl _ rfl _ _ _ _ _ rfl (by assumption) (by (repeat (first | exact .head _ | refine .tail _ ?_))) ?_; try simp only [Act.put, yI, yC, yZ]))
  go_ret
  exact ⟨rfl, H.below⟩
end Go.Proofs.YtgnblaaldpniiaaDoor.Sg
end
section
set_option linter.unusedSimpArgs false
set_option linter.unusedVariables false
set_option maxRecDepth 100000
namespace Go.Proofs.YtgnblaaldpniiaaDoor.Sg
open Go.RowKit
structure SignOk : Prop where
  pub : ∀ s : List UInt8, s.length = 32 → ∀ w, Sh.Vars w → Calls Tryd.prog 8 #[.string (S s)] w (RetV (.tuple #[.string (S (keyL H5 s)), .int .i64 0]) w)
  pub0 : ∀ s : List UInt8, s.length ≠ 32 → ∀ w, Sh.Vars w → Calls Tryd.prog 8 #[.string (S s)] w (RetV (.tuple #[.string ⟨#[]⟩, .int .i64 70]) w)
  sig : ∀ s m : List UInt8, s.length = 32 → m.length ≤ 1000 → ∀ w, Sh.Vars w → Calls Tryd.prog 9 #[.string (S s), .string (S m)] w (RetV (.tuple #[.string (S (sigL H5 s m)), .int .i64 0]) w)
  sig0 : ∀ s m : List UInt8, s.length ≠ 32 → m.length ≤ 1000 → ∀ w, Sh.Vars w → Calls Tryd.prog 9 #[.string (S s), .string (S m)] w (RetV (.tuple #[.string ⟨#[]⟩, .int .i64 70]) w)
  ver : ∀ k m g : List UInt8, m.length ≤ 1000 → ∀ w, Sh.Vars w → Calls Tryd.prog 11 #[.string (S k), .string (S m), .string (S g)] w (RetV (.bool (verB H5 k m g)) w)
theorem short_any (m : List UInt8) (w : World) : Calls Tryd.prog 7 #[.string (S m)] w (RetV (.string (S (m.take 1000))) w) := by
  by_cases h : m.length ≤ 1000
  · have hc := short_le (S m) (by rw [S_size]; exact h) (by rw [S_size]; omega) w
    rw [List.take_of_length_le h]
    exact hc
  · have hc := short_gt (S m) (by rw [S_size]; omega) (by rw [S_size]; omega) w
    rw [take_S m 1000 (by omega)] at hc
    exact hc
theorem take_le (m : List UInt8) : (m.take 1000).length ≤ 1000 := by rw [List.length_take]; omega
theorem lit_seed : (⟨#[157, 97, 177, 157, 239, 253, 90, 96, 186, 132, 74, 244, 146, 236, 44, 196, 68, 73, 197, 105, 123, 50, 105, 25, 112, 59, 172, 3, 28, 174, 127, 96]⟩ : ByteArray) = S seed1 := by decide +kernel
theorem lit_x : (⟨#[120]⟩ : ByteArray) = S [120] := by decide +kernel
theorem lit_0 : (⟨#[]⟩ : ByteArray) = S [] := rfl
theorem seed1_len : seed1.length = 32 := rfl
theorem law_fix (c : SignOk) (w : World) (hv : Sh.Vars w) : Calls Tryd.prog 10 #[] w (RetV (.bool true) w) := by
  have hk : keyL H5 seed1 = keyB1 := one_key h5_1
  have hr : rL H5 seed1 [] = rB1 := one_rL h5_1 h5_2
  have c1 := c.pub seed1 seed1_len
  have c2 := c.sig seed1 [] seed1_len (by decide)
  have c3 := c.pub0 [] (by decide)
  have c4 := c.sig0 [120] [] (by decide) (by decide)
  have c5 := c.ver (keyL H5 seed1) [] (sigL H5 seed1 []) (by decide)
  have c6 := c.ver (keyL H5 seed1) [120] (sigL H5 seed1 []) (by decide)
  have c7 := c.ver (keyL H5 seed1) [] [] (by decide)
  rw [ver_sig] at c5
  rw [one_no h5_1 h5_2 h5_3 h5_4] at c6
  rw [ver_len H5 (by decide)] at c7
  rw [← lit_seed, ← lit_0] at c2
  rw [← lit_seed] at c1
  rw [← lit_0] at c3 c5 c7
  rw [← lit_x, ← lit_0] at c4
  rw [← lit_x] at c6
  have hkl : (keyL H5 seed1).length = 32 := keyL_len seed1
  have hgl : (sigL H5 seed1 []).length = 64 := sigL_len H5 seed1 []
  have xk := take_S (keyL H5 seed1) 4 (by omega)
  have xg := take_S (sigL H5 seed1 []) 4 (by omega)
  have yk : ((S ((keyL H5 seed1).take 4)).toList == [215, 90, 152, 1]) = true := by rw [hk]; decide +kernel
  have yg : ((S ((sigL H5 seed1 []).take 4)).toList == [229, 86, 67, 0]) = true := by
    unfold sigL
    rw [List.take_append_of_le_length (by rw [rL_len]; omega), hr]
    decide +kernel
  exact fix_core _ _ _ _ (by rw [S_size, hkl]) (by rw [S_size, hgl]) xk xg yk yg c1 c2 c3 c4 c5 c6 c7 w hv
theorem law_back (c : SignOk) (s m : List UInt8) (w : World) (hv : Sh.Vars w) : Calls Tryd.prog 3 #[.string (S s), .string (S m)] w (RetV (.bool true) w) := by
  by_cases hs : s.length = 32
  · have c5 := c.ver (keyL H5 s) (m.take 1000) (sigL H5 s (m.take 1000)) (take_le m)
    rw [ver_sig] at c5
    exact back_core (S s) (S m) _ _ _ (by rw [S_size, hs]) (by rw [S_size, keyL_len]) (by rw [S_size, sigL_len]) (law_fix c) (short_any m) (c.pub s hs) (c.sig s _ hs (take_le m)) c5 w hv
  · exact back_no (S s) (S m) _ (size_no hs) (law_fix c) (short_any m) (c.pub0 s hs) (c.sig0 s _ hs (take_le m)) w hv
theorem law_once (c : SignOk) (k m g x : List UInt8) (w : World) (hv : Sh.Vars w) : Calls Tryd.prog 4 #[.agg (fC (S k) (S m) (S g) (S x)).toArray] w (RetV (.bool true) w) := by
  by_cases hg : g.length = 64
  · by_cases hx : x.length = 32
    · cases hver : verB H5 k (m.take 1000) g with
      | false =>
        have c1 := c.ver k (m.take 1000) g (take_le m)
        rw [hver] at c1
        exact once_not (S k) (S m) (S g) (S x) _ (by rw [S_size, hg]) (by rw [S_size, hx]) (law_fix c) (short_any m) c1 w hv
      | true =>
        have c1 := c.ver k (m.take 1000) g (take_le m)
        rw [hver] at c1
        have hsz : (S g).size = 64 := by rw [S_size, hg]
        have hsx : (S x).size = 32 := by rw [S_size, hx]
        have e1 := take_S g 32 (by omega)
        have e2 := drop_S g 32 64 hg
        have htl : (g.take 32).length = 32 := by rw [List.length_take, hg]; rfl
        have hdl : (g.drop 32).length = 32 := by rw [List.length_drop, hg]
        have hgg : g.take 32 ++ g.drop 32 = g := List.take_append_drop 32 g
        generalize g.take 32 = r at e1 htl hgg
        generalize g.drop 32 = t at e2 hdl hgg
        have cA := fun w => Sc.AddR_ok t x hdl hx w
        have hml := Sc.scB_len (Sc.numB t + Sc.numB x)
        generalize Sc.scB (Sc.numB t + Sc.numB x) = mv at cA hml
        have hno : ∀ y : List UInt8, y.length = 32 → y ≠ t → verB H5 k (m.take 1000) (r ++ y) = false := by
          intro y hy hne
          cases h : verB H5 k (m.take 1000) (r ++ y) with
          | false => rfl
          | true =>
            rw [← hgg] at hver
            exact absurd (ver_once H5 htl hy hdl h hver) hne
        have app : ∀ y : List UInt8, S r ++ S y = S (r ++ y) := fun y => S_append r y
        have o1 : ((S r ++ S x).toList == (S g).toList) = decide (x = t) := by
          rw [app, ← hgg, S_beq]
          exact decide_eq_decide.2 ⟨fun h => List.append_cancel_left h, fun h => by rw [h]⟩
        have o2 : ((S mv).toList == (S t).toList) = decide (mv = t) := S_beq mv t
        have cx := fun h => by
          have h2 := c.ver k (m.take 1000) (r ++ x) (take_le m)
          rw [hno x hx h, ← app] at h2
          exact h2
        have cm := fun h => by
          have h2 := c.ver k (m.take 1000) (r ++ mv) (take_le m)
          rw [hno mv hml h, ← app] at h2
          exact h2
        have hsr : (S r).size = 32 := by rw [S_size, htl]
        have hsm : (S mv).size = 32 := by rw [S_size, hml]
        by_cases h1 : x = t
        · rw [decide_eq_true h1] at o1
          by_cases h2 : mv = t
          · rw [decide_eq_true h2] at o2
            exact once_11 (S k) (S m) (S g) (S x) _ _ _ _ hsz hsx hsr hsm e1 e2 o1 o2 (law_fix c) (short_any m) c1 cA w hv
          · rw [decide_eq_false h2] at o2
            exact once_10 (S k) (S m) (S g) (S x) _ _ _ _ hsz hsx hsr hsm e1 e2 o1 o2 (law_fix c) (short_any m) c1 cA (cm h2) w hv
        · rw [decide_eq_false h1] at o1
          by_cases h2 : mv = t
          · rw [decide_eq_true h2] at o2
            exact once_01 (S k) (S m) (S g) (S x) _ _ _ _ hsz hsx hsr hsm e1 e2 o1 o2 (law_fix c) (short_any m) c1 cA (cx h1) w hv
          · rw [decide_eq_false h2] at o2
            exact once_00 (S k) (S m) (S g) (S x) _ _ _ _ hsz hsx hsr hsm e1 e2 o1 o2 (law_fix c) (short_any m) c1 cA (cx h1) (cm h2) w hv
    · exact once_more (S k) (S m) (S g) (S x) _ (by rw [S_size, hg]) (size_no hx) (law_fix c) (short_any m) w hv
  · exact once_len (S k) (S m) (S g) (S x) _ (by rw [S_size]; simp; omega) (law_fix c) (short_any m) w hv
theorem law_keys (c : SignOk) (cc : CurveOk) (s : List UInt8) (w : World) (hv : Sh.Vars w) : Calls Tryd.prog 5 #[.string (S s)] w (RetV (.bool true) w) := by
  by_cases hs : s.length = 32
  · have cM := cc.mul (k := unB Sc.lL) rfl (keyL_dec H5 s)
    rw [unL_num, key_order] at cM
    have cI := cc.is (keyL H5 s)
    rw [isPt_of (keyL_dec H5 s)] at cI
    exact keys_core (S s) _ _ _ rfl (law_fix c) (c.pub s hs) cM cI cc.zero w hv
  · exact keys_no (S s) (size_no hs) (law_fix c) (c.pub0 s hs) w hv
theorem law_strict (c : SignOk) (cc : CurveOk) (k m g : List UInt8) (w : World) (hv : Sh.Vars w) : Calls Tryd.prog 6 #[.string (S k), .string (S m), .string (S g)] w (RetV (.bool true) w) := by
  have c1 := c.ver k (m.take 1000) g (take_le m)
  cases hver : verB H5 k (m.take 1000) g with
  | false =>
    rw [hver] at c1
    exact strict_no (S k) (S m) (S g) _ (law_fix c) (short_any m) c1 w hv
  | true =>
    rw [hver] at c1
    obtain ⟨hg, A, R, hA, hR, hs, _⟩ := ver_is H5 hver
    have e1 := take_S g 32 (by omega)
    have e2 := drop_S g 32 64 hg
    have i1 := cc.is k
    rw [isPt_of hA] at i1
    have i2 := cc.is (g.take 32)
    rw [isPt_of hR] at i2
    have i3 := fun w => isR_is (l := g.drop 32) (by rw [List.length_drop, hg]) w
    rw [decide_eq_true hs] at i3
    exact strict_core (S k) (S m) (S g) _ _ _ (by rw [S_size, hg]) e1 e2 (law_fix c) (short_any m) c1 i1 i2 i3 w hv
end Go.Proofs.YtgnblaaldpniiaaDoor.Sg
end
