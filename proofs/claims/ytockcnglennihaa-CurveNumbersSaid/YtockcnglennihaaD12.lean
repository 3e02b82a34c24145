/- The law package's fixed calls for package curve, over letters. -/
import Derived.Test.YtockcnglennihaaD11
set_option linter.unusedSimpArgs false
set_option linter.unusedVariables false
set_option maxRecDepth 100000
namespace Go.Proofs.Ytockcnglennihaa
open Go.RowKit
def zz32 : List UInt8 := List.replicate 32 0
theorem madeZ : madeCells #[Value.int .u8 0] 32 = (numC .u8 (digs zz32)).toArray := by kernel_rfl
theorem conv_at {w : World} {g : Nat} (l : List UInt8) (h : Arr w g 5 .u8 (digs l)) (n : Nat) (hn : l.length = n) : (convert 36 9 (.slice (some ⟨g, 0, none⟩) n n)).run Try.prog w = .ok (.string (S l)) w := by
  subst hn
  refine run_convert_bytes_back w 36 9 5 ⟨g, 0, none⟩ l.length l Try.underlying36 Try.underlying5 Try.underlying9 (fun j hj => ?_)
  have h2 := h.cell j (by rw [digs_len]; exact hj)
  rw [show ((⟨g, 0, none⟩ : Addr).add j) = ⟨g, j, none⟩ by unfold Addr.add; split <;> simp_all]
  rw [h2]
  simp [digs, hj]
theorem convZ {B : Nat} {w0 w : World} (H : Kept (Below B w0 w)) : (convert 36 9 (.slice (some ⟨w.heap.size, 0, none⟩) 32 32)).run Try.prog (w.alloc (.cells (numC .u8 (digs zz32)).toArray 5)) = .ok (.string (S zz32)) (w.alloc (.cells (numC .u8 (digs zz32)).toArray 5)) :=
  conv_at zz32 (Arr.new w 5 .u8 (digs zz32)) 32 rfl
set_option maxHeartbeats 6400000 in
theorem fixed_core (bs ns zs z0 os ee : ByteArray) (zl : List UInt8) (zb : UInt8) (hzl : zl.length = 32) (hzb : zl.getD 31 0 = zb) (hzs : S zl = zs) (hzz : S zz32 = z0) (hos : S (zl.set 31 128) = os)
    (hbs : bs.size = 32) (b0 : 0 < bs.size) (b31 : 31 < bs.size) (g0 : bs[0] = 88) (g31 : bs[31] = 102) (hz1 : 0 < zs.size) (gz : zs[0] = 1)
    (cB : ∀ w, Calls Try.prog 17 #[] w (RetV (.string bs) w)) (cN : ∀ w, Calls Try.prog 12 #[.string bs] w (RetV (.tuple #[.string ns, .int .i64 0]) w)) (cA : ∀ w, Calls Try.prog 10 #[.string bs, .string ns] w (RetV (.tuple #[.string zs, .int .i64 0]) w)) (cM : ∀ w, Calls Try.prog 21 #[.string z0, .string bs] w (RetV (.tuple #[.string zs, .int .i64 0]) w)) (cM2 : ∀ w, Calls Try.prog 21 #[.string ⟨#[]⟩, .string bs] w (RetV (.tuple #[.string ee, .int .i64 60]) w)) (cZ : ∀ w, Calls Try.prog 19 #[] w (RetV (.string zs) w)) (cI : ∀ w, Calls Try.prog 15 #[.string bs] w (RetV (.bool true) w)) (cI2 : ∀ w, Calls Try.prog 15 #[.string os] w (RetV (.bool false) w)) (cI3 : ∀ w, Calls Try.prog 15 #[.string ⟨#[]⟩] w (RetV (.bool false) w)) (wS : World) : Calls Try.prog 14 #[] wS (RetV (.bool true) wS) := by
  have HB := Kept.mk (Below.refl wS.heap.size wS)
  obtain ⟨i1, hi1, hy0, hy1, hy2⟩ := info_parts info5
  replace hzl := Kept.mk hzl
  replace hzb := Kept.mk hzb
  replace hzs := Kept.mk hzs
  replace hzz := Kept.mk hzz
  replace cB := Kept.mk cB
  replace cN := Kept.mk cN
  replace cA := Kept.mk cA
  replace cM := Kept.mk cM
  replace cM2 := Kept.mk cM2
  replace cZ := Kept.mk cZ
  replace cI := Kept.mk cI
  replace cI2 := Kept.mk cI2
  replace cI3 := Kept.mk cI3
  replace hos := Kept.mk hos
  go_enter Try.func14, Try.ntmps14
  go_wp2_with (first
    | (refine wpList_make_row _ rfl _ _ 36 rfl 5 i1 (.int .u8 0) Try.underlying36 hi1 hy0 hy1 rfl .i64 .i64 32 rfl rfl (by rw [hy2]; omega) (by omega) ?_; rw [madeZ]; have hcv := convZ HB; rw [hzz.out] at hcv; have HB := Kept.mk (HB.out.alloc HB.out.size (.cells (numC .u8 (digs zz32)).toArray 5)); generalize World.alloc _ (.cells (numC .u8 (digs zz32)).toArray 5) = w65 at hcv HB ⊢)
    | (go_at_call 19; (with_reducible refine (cZ.out _).mono ?_); rintro _ w2 ⟨rfl, hb2⟩; have R8 := Kept.mk (row8_from R8.out hb2); have HB := Kept.mk (HB.out.trans (hb2.mono HB.out.size)); clear hb2; have hcv2 := row8_conv R8.out 32 cap (by rw [List.length_set]; exact hzl.out); rw [hos.out] at hcv2)
    | (go_at_call 15; (with_reducible refine (cI.out _).mono ?_); rintro _ w2 ⟨rfl, hb2⟩; have R8 := Kept.mk (row8_from R8.out hb2); have HB := Kept.mk (HB.out.trans (hb2.mono HB.out.size)); clear hb2; have hcv2 := row8_conv R8.out 32 cap (by rw [List.length_set]; exact hzl.out); rw [hos.out] at hcv2)
    | (go_at_call 15; (with_reducible refine (cI2.out _).mono ?_); rintro _ w2 ⟨rfl, hb2⟩; have R8 := Kept.mk (row8_from R8.out hb2); have HB := Kept.mk (HB.out.trans (hb2.mono HB.out.size)); clear hb2; have hcv2 := row8_conv R8.out 32 cap (by rw [List.length_set]; exact hzl.out); rw [hos.out] at hcv2)
    | (go_at_call 15; (with_reducible refine (cI3.out _).mono ?_); rintro _ w2 ⟨rfl, hb2⟩; have R8 := Kept.mk (row8_from R8.out hb2); have HB := Kept.mk (HB.out.trans (hb2.mono HB.out.size)); clear hb2; have hcv2 := row8_conv R8.out 32 cap (by rw [List.length_set]; exact hzl.out); rw [hos.out] at hcv2)
    | (go_at_call 19; (with_reducible refine (cZ.out _).mono ?_); rintro _ w2 ⟨rfl, hb2⟩; have HB := Kept.mk (HB.out.trans (hb2.mono HB.out.size)); clear hb2; obtain ⟨w1, gb, cap, hcv3, R1, H1, hgb⟩ := to_bytes ((RMem.start wS).grow HB.out) zl 32 hzl.out; rw [hzs.out] at hcv3; have c5 := row8_at R1 31 (by rw [hzl.out]; omega) zb hzb.out; have f5 := row8_frozen R1 31 (by rw [hzl.out]; omega); have R8 := row8_set R1 31 128; have HB := H1.below.setCell (p := ⟨gb, 31, none⟩) hgb (.int .u8 ((128 : UInt8).toNat : Int)); replace R8 : Row8 (w1.setCell ⟨gb, 31, none⟩ (.int .u8 128)) gb (zl.set 31 128) := R8; replace HB : Below wS.heap.size wS (w1.setCell ⟨gb, 31, none⟩ (.int .u8 128)) := HB; replace R8 := Kept.mk R8; replace HB := Kept.mk HB; clear R1 H1)
    | (go_at_call 17; (with_reducible refine (cB.out _).mono ?_); rintro _ w2 ⟨rfl, hb2⟩; have HB := Kept.mk (HB.out.trans (hb2.mono HB.out.size)); clear hb2)
    | (go_at_call 12; (with_reducible refine (cN.out _).mono ?_); rintro _ w2 ⟨rfl, hb2⟩; have HB := Kept.mk (HB.out.trans (hb2.mono HB.out.size)); clear hb2)
    | (go_at_call 10; (with_reducible refine (cA.out _).mono ?_); rintro _ w2 ⟨rfl, hb2⟩; have HB := Kept.mk (HB.out.trans (hb2.mono HB.out.size)); clear hb2)
    | (go_at_call 21; (with_reducible refine (cM.out _).mono ?_); rintro _ w2 ⟨rfl, hb2⟩; have HB := Kept.mk (HB.out.trans (hb2.mono HB.out.size)); clear hb2)
    | (go_at_call 21; (with_reducible refine (cM2.out _).mono ?_); rintro _ w2 ⟨rfl, hb2⟩; have HB := Kept.mk (HB.out.trans (hb2.mono HB.out.size)); clear hb2)
    | (go_at_call 15; (with_reducible refine (cI.out _).mono ?_); rintro _ w2 ⟨rfl, hb2⟩; have HB := Kept.mk (HB.out.trans (hb2.mono HB.out.size)); clear hb2)
    | (go_at_call 15; (with_reducible refine (cI2.out _).mono ?_); rintro _ w2 ⟨rfl, hb2⟩; have HB := Kept.mk (HB.out.trans (hb2.mono HB.out.size)); clear hb2)
    | (go_at_call 15; (with_reducible refine (cI3.out _).mono ?_); rintro _ w2 ⟨rfl, hb2⟩; have HB := Kept.mk (HB.out.trans (hb2.mono HB.out.size)); clear hb2))
  go_ret
  exact ⟨rfl, HB.out⟩
end Go.Proofs.Ytockcnglennihaa
