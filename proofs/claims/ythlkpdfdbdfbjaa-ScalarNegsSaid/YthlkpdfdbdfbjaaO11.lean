/- The law package's own order, and a small number more. -/
import Derived.Test.YthlkpdfdbdfbjaaO10
set_option linter.unusedSimpArgs false
set_option linter.unusedVariables false
namespace Go.Proofs.Ythlkpdfdbdfbjaa
open Go.RowKit
/-- The order's bytes with another first one. -/
def orB (n : Nat) : List UInt8 := (n :: lL.drop 1).map UInt8.ofNat
theorem orB_len (n : Nat) : (orB n).length = 32 := by rw [orB, List.length_map, List.length_cons]; rfl
theorem orB_nat (n : Nat) (h : n < 256) : (orB n).map (·.toNat) = n :: lL.drop 1 := by
  have hb : ∀ x ∈ n :: lL.drop 1, x < 256 := by
    intro x hx
    rcases List.mem_cons.1 hx with rfl | hx
    · exact h
    · exact lL_lt x (List.mem_of_mem_drop hx)
  rw [orB, List.map_map]
  conv => rhs; rw [← List.map_id (n :: lL.drop 1)]
  refine List.map_congr_left fun x hx => ?_
  have := hb x hx
  simp
  omega
theorem orB_num (n : Nat) (h : n < 256) : numB (orB n) + 237 = oN + n := by
  have e : numB (orB n) = valB 256 (n :: lL.drop 1) := by rw [numB, digs, orB_nat n h]
  have e2 : oN = 237 + 256 * valB 256 (lL.drop 1) := by decide +kernel
  rw [e, valB, e2]
  omega
theorem take_snoc (l : List Nat) (i : Nat) (h : i < l.length) : l.take i ++ [l.getD i 0] = l.take (i + 1) := by
  rw [List.take_add_one]
  simp [h]
set_option maxHeartbeats 2000000 in
theorem order_any (z : Int) (n : Nat) (hz : 237 + z = (n : Int)) (hn : n < 256) (wS : World) : Calls Try.prog 20 #[.int .i64 z] wS fun e w' => e = .returned (.string (S (orB n))) ∧ Below wS.heap.size wS w' := by
  have H := SM.start wS
  obtain ⟨i1, hi1, hy0, hy1, hy2⟩ := info_parts info5
  have cL := Kept.mk fun w => L_any w
  obtain ⟨res, hres⟩ : ∃ r, orB n = r := ⟨_, rfl⟩
  have hT := orB_nat n hn
  have hTl := orB_len n
  rw [hres] at hT hTl ⊢
  replace hT := Kept.mk hT
  replace hTl := Kept.mk hTl
  replace hres := Kept.mk hres
  go_enter Try.func20, Try.ntmps20
  go_wp2_with (first
    | (refine wpList_make_row _ rfl _ _ 31 rfl 5 i1 (.int .u8 0) Try.underlying31 hi1 hy0 hy1 rfl .i64 .i64 32 rfl rfl (by rw [hy2]; omega) (by omega) ?_; rw [made32])
    | (go_at_call 30; fail "later"))
  have hB := Arr.new wS 5 .u8 z32
  have hb0 : Below wS.heap.size wS (wS.alloc (.cells (numC .u8 z32).toArray 5)) := (Below.refl _ wS).alloc (Nat.le_refl _) _
  have H := H.grow hb0
  have hlt := hB.lt
  generalize wS.alloc (.cells (numC .u8 z32).toArray 5) = w1 at hB H hlt hb0 ⊢
  replace hB := Kept.mk hB
  refine (cL.out _).mono ?_
  rintro e w2 ⟨g, rfl, hb2, hg2, hA2⟩
  have hB2 := Kept.mk (hB.out.from hb2)
  have H := H.more hb2 hg2 hA2
  have hne : wS.heap.size < g := by omega
  have hgb : wS.heap.size ≤ wS.heap.size := Nat.le_refl _
  clear hB hb2 hg2 hA2 hlt hb0
  obtain ⟨gb, hgbe⟩ : ∃ b, wS.heap.size = b := ⟨_, rfl⟩
  rw [hgbe] at hB2 hne ⊢
  have hgb : wS.heap.size ≤ gb := by omega
  replace hgbe := Kept.mk hgbe
  go_wp2
  go_loopw [5] (fun v5 wr => ∃ (i : Nat), i ≤ 32 ∧ v5 = .int .i64 (i : Int) ∧ SM wS wr [(g, lL)] ∧ Kept (Arr wr gb 5 .u8 (lL.take i ++ z32.drop i))) (fun v5 _ => 32 - (RowKit.intOf v5).toNat)
  case atStart => exact ⟨0, by omega, rfl, H, hB2⟩
  case round =>
    clear H hB2
    obtain ⟨i, hi, rfl, H, HB⟩ := hrel
    by_cases hlt : i < 32
    · obtain ⟨q, hq⟩ : ∃ q, lL.getD i 0 = q := ⟨_, rfl⟩
      have hql : q < 256 := hq ▸ getD_ltN lL_lt i (by rw [lL_len]; omega)
      have c1 := H.cell (.head _) i (by rw [lL_len]; omega)
      rw [hq] at c1
      have hlti : (i : Int) < 32 := by omega
      have kq : IntKind.u8.wrap (q : Int) = (q : Int) := by simp [IntKind.wrap, IntKind.signed, IntKind.bits]; omega
      have hz0 := drop_getD z32 i (by show i < 32; exact hlt)
      have hdl : (lL.take i).length = i := by rw [List.length_take, lL_len]; omega
      have e0 := HB.out.cellMid hz0 hdl
      have f0 := HB.out.frozen i
      have hBn : Arr (wr.setCell ⟨gb, i, none⟩ (.int .u8 (q : Int))) gb 5 .u8 (lL.take (i + 1) ++ z32.drop (i + 1)) := by
        have h := HB.out.step hz0 hdl q rfl
        rw [show lL.take i ++ [q] = lL.take (i + 1) from hq ▸ take_snoc lL i (by rw [lL_len]; exact hlt)] at h
        exact h
      have hne3 : ∀ g' x', (g', x') ∈ [(g, lL)] → g' ≠ gb := by
        intro g' x' h
        simp at h
        omega
      have Hn := H.setOther gb i (.int .u8 (q : Int)) hne3 hgb
      replace hBn := Kept.mk hBn
      replace hq := Kept.mk hq
      clear hz0 hne3 hdl
      go_wp2
      go_roundw
      case rel => exact ⟨i + 1, by omega, val_eq (by omega), Hn, hBn⟩
      case measure => first | (simp [RowKit.intOf]; done) | (simp [RowKit.intOf]; omega)
    · obtain rfl : i = 32 := by omega
      have hA := HB.out
      rw [show lL.take 32 ++ z32.drop 32 = 237 :: lL.drop 1 from rfl] at hA
      have c0 := hA.cell 0 (by decide)
      have f0 := hA.frozen 0
      have c0 : wr.cell? ⟨gb, 0, none⟩ = some (.int .u8 237) := c0
      have hA2 := hA.set 0 n
      have hA2 : Arr (wr.setCell ⟨gb, 0, none⟩ (.int .u8 (n : Int))) gb 5 .u8 (n :: lL.drop 1) := hA2
      rw [← hT.out] at hA2
      have hcv := run_convert_bytes_back (P := Try.prog) (wr.setCell ⟨gb, 0, none⟩ (.int .u8 (n : Int))) 31 9 5 ⟨gb, 0, none⟩ 32 res Try.underlying31 Try.underlying5 Try.underlying9 (fun j hj => by
        have h := hA2.cell j (by rw [List.length_map]; exact hj)
        rw [show ((⟨gb, 0, none⟩ : Addr).add j) = ⟨gb, j, none⟩ by unfold Addr.add; split <;> simp_all]
        rw [h]
        simp [hj])
      rw [hTl.out] at hcv
      have hcv2 : (convert 31 9 (.slice (some ⟨gb, 0, none⟩) 32 32)).run Try.prog (wr.setCell ⟨gb, 0, none⟩ (.int .u8 (n : Int))) = .ok (.string (S res)) (wr.setCell ⟨gb, 0, none⟩ (.int .u8 (n : Int))) := hcv
      have hbe := H.below.setCell (p := ⟨gb, 0, none⟩) hgb (.int .u8 (n : Int))
      have k0 : wrap64 237 = 237 := ws_64 _ (by omega) (by omega)
      have k1 : IntKind.i64.wrap (237 + z) = (n : Int) := by rw [hz]; exact ws_wrap _ (by omega) (by omega)
      have k2 : IntKind.u8.wrap (n : Int) = (n : Int) := by simp [IntKind.wrap, IntKind.signed, IntKind.bits]; omega
      replace hz := Kept.mk hz
      clear hcv hA hA2 HB H
      go_wp2
      go_ret
      exact ⟨rfl, hbe⟩
end Go.Proofs.Ythlkpdfdbdfbjaa
