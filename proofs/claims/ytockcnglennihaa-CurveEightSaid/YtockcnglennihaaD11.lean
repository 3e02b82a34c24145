/- The law package's own sum of numbers for package curve. -/
import Derived.Test.YtockcnglennihaaD10
import Derived.Test.YtockcnglennihaaZO
set_option linter.unusedSimpArgs false
set_option linter.unusedVariables false
namespace Go.Proofs.Ytockcnglennihaa
open Go.RowKit
theorem val_app (d r : List Nat) : valB 256 (d ++ r) = valB 256 d + 256 ^ d.length * valB 256 r := by
  induction d with
  | nil => rw [List.nil_append, List.length_nil, valB, Nat.pow_zero, Nat.one_mul, Nat.zero_add]
  | cons x d ih =>
    rw [List.cons_append, valB, ih, valB, List.length_cons, Nat.pow_succ, Nat.mul_add]
    rw [show 256 ^ d.length * 256 * valB 256 r = 256 * (256 ^ d.length * valB 256 r) by ac_rfl]
    omega
theorem val_snoc (d : List Nat) (x : Nat) : valB 256 (d ++ [x]) = valB 256 d + 256 ^ d.length * x := by
  rw [val_app, valB, valB, Nat.mul_zero, Nat.add_zero]
theorem ws_wrap (z : Int) (h0 : 0 ≤ z) (h1 : z < 4611686018427387904) : IntKind.i64.wrap z = z := by simp [IntKind.wrap, IntKind.signed, IntKind.bits]; omega
theorem ws_64 (z : Int) (h0 : 0 ≤ z) (h1 : z < 4611686018427387904) : wrap64 z = z := by simp [wrap64]; omega
/-- After i digits: those done, and what is carried. -/
structure Sm (a b : List UInt8) (i : Nat) (d : List Nat) (c : Nat) : Prop where
  len : d.length = i
  lt : ∀ x ∈ d, x < 256
  c1 : c ≤ 1
  val : valB 256 d + 256 ^ i * c = valB 256 ((digs a).take i) + valB 256 ((digs b).take i)
theorem Sm.start (a b : List UInt8) : Sm a b 0 [] 0 := ⟨rfl, by simp, by omega, by simp [valB]⟩
theorem digs_take (a : List UInt8) (i : Nat) (hi : i < a.length) : (digs a).take (i + 1) = (digs a).take i ++ [(a.getD i 0).toNat] := by
  rw [List.take_add_one]
  simp [digs, hi]
theorem Sm.step {a b : List UInt8} {i : Nat} {d : List Nat} {c : Nat} (h : Sm a b i d c) (ha : i < a.length) (hb : i < b.length) :
    Sm a b (i + 1) (d ++ [((a.getD i 0).toNat + (b.getD i 0).toNat + c) % 256]) (((a.getD i 0).toNat + (b.getD i 0).toNat + c) / 256) := by
  have h1 := (a.getD i 0).toNat_lt
  have h2 := (b.getD i 0).toNat_lt
  have h3 := h.c1
  refine ⟨by rw [List.length_append, h.len]; rfl, ?_, by omega, ?_⟩
  · intro x hx
    rcases List.mem_append.1 hx with hx | hx
    · exact h.lt x hx
    · simp at hx; omega
  · have la : ((digs a).take i).length = i := by rw [List.length_take, digs_len]; omega
    have lb : ((digs b).take i).length = i := by rw [List.length_take, digs_len]; omega
    rw [digs_take a i ha, digs_take b i hb, val_snoc, val_snoc, val_snoc, h.len, la, lb]
    have hv := h.val
    generalize (a.getD i 0).toNat = x at h1 ⊢
    generalize (b.getD i 0).toNat = y at h2 ⊢
    have hd := Nat.div_add_mod (x + y + c) 256
    have e : 256 ^ i * ((x + y + c) % 256) + 256 ^ (i + 1) * ((x + y + c) / 256) = 256 ^ i * x + 256 ^ i * y + 256 ^ i * c := by
      rw [Nat.pow_succ, Nat.mul_assoc, ← Nat.mul_add, Nat.add_comm ((x + y + c) % 256), hd, Nat.mul_add, Nat.mul_add]
    omega
/-- Bytes of digits. -/
def unB (d : List Nat) : List UInt8 := d.map UInt8.ofNat
theorem unB_nat {d : List Nat} (h : ∀ x ∈ d, x < 256) : (unB d).map (·.toNat) = d := by
  rw [unB, List.map_map]
  conv => rhs; rw [← List.map_id d]
  refine List.map_congr_left fun x hx => ?_
  have := h x hx
  simp
  omega
theorem unB_len (d : List Nat) : (unB d).length = d.length := by rw [unB, List.length_map]
theorem unB_num {d : List Nat} (h : ∀ x ∈ d, x < 256) : numB (unB d) = valB 256 d := by rw [numB, unB_nat h]
theorem Sm.done {a b : List UInt8} {d : List Nat} (ha : a.length = 32) (hb : b.length = 32) (h : Sm a b 32 d 0) : (unB d).length = 32 ∧ numB (unB d) = numB a + numB b := by
  refine ⟨by rw [unB_len, h.len], ?_⟩
  have hv := h.val
  rw [Nat.mul_zero, Nat.add_zero, List.take_of_length_le (by rw [digs_len]; omega), List.take_of_length_le (by rw [digs_len]; omega)] at hv
  rw [unB_num h.lt, hv]
  rfl
theorem sum_facts (x y c s : Nat) (hx : x < 256) (hy : y < 256) (hc : c ≤ 1) (hs : x + y + c = s) : wrap64 (x : Int) = (x : Int) ∧ wrap64 (y : Int) = (y : Int) ∧ wrap64 ((x : Int) + (y : Int)) = (x : Int) + (y : Int) ∧ wrap64 ((x : Int) + (y : Int) + (c : Int)) = (s : Int)
    ∧ IntKind.i64.wrap ((x : Int) + (y : Int)) = (x : Int) + (y : Int) ∧ IntKind.i64.wrap ((x : Int) + (y : Int) + (c : Int)) = (s : Int) ∧ IntKind.u8.wrap (s : Int) = ((s % 256 : Nat) : Int) ∧ (s : Int).tdiv 256 = ((s / 256 : Nat) : Int) ∧ wrap64 ((s / 256 : Nat) : Int) = ((s / 256 : Nat) : Int) ∧ IntKind.i64.wrap ((s / 256 : Nat) : Int) = ((s / 256 : Nat) : Int) := by
  have e : (x : Int) + (y : Int) + (c : Int) = (s : Int) := by omega
  have h : s < 1000 := by omega
  rw [e]
  refine ⟨ws_64 _ (by omega) (by omega), ws_64 _ (by omega) (by omega), ws_64 _ (by omega) (by omega), ws_64 _ (by omega) (by omega), ws_wrap _ (by omega) (by omega), ws_wrap _ (by omega) (by omega), ?_, rfl, ws_64 _ (by omega) (by omega), ws_wrap _ (by omega) (by omega)⟩
  simp [IntKind.wrap, IntKind.signed, IntKind.bits]
def SumPost (a b : List UInt8) (w : World) (e : Ending) (w' : World) : Prop := ∃ r ok, e = .returned (.tuple #[.string (S r), .bool ok]) ∧ Below w.heap.size w w' ∧ (ok = true → r.length = 32 ∧ numB r = numB a + numB b)
set_option maxHeartbeats 2000000 in
theorem lawsum_any (a b : List UInt8) (ha : a.length = 32) (hb : b.length = 32) (wS : World) : Calls Try.prog 26 #[.string (S a), .string (S b)] wS (SumPost a b wS) := by
  obtain ⟨i1, hi1, hy0, hy1, hy2⟩ := info_parts info5
  have hsa : (S a).size = 32 := by rw [S_size, ha]
  have hsb : (S b).size = 32 := by rw [S_size, hb]
  have h0 := Kept.mk (Sm.start a b)
  go_enter Try.func26, Try.ntmps26
  go_wp2_with (refine wpList_make_row _ rfl _ _ 36 rfl 5 i1 (.int .u8 0) Try.underlying36 hi1 hy0 hy1 rfl .i64 .i64 32 rfl rfl (by rw [hy2]; omega) (by omega) ?_; rw [o_made32])
  have hB := Kept.mk (Arr.new wS 5 .u8 o_z32)
  have hb0 := Kept.mk ((Below.refl _ wS).alloc (Nat.le_refl _) (.cells (numC .u8 o_z32).toArray 5))
  generalize wS.alloc (.cells (numC .u8 o_z32).toArray 5) = w1 at hB hb0 ⊢
  have hgb : wS.heap.size ≤ wS.heap.size := Nat.le_refl _
  obtain ⟨gb, hgbe⟩ : ∃ b, wS.heap.size = b := ⟨_, rfl⟩
  rw [hgbe] at hB ⊢
  have hgb : wS.heap.size ≤ gb := by omega
  replace hgbe := Kept.mk hgbe
  go_loopw [7, 8] (fun v7 v8 wr => ∃ (i c : Nat) (d : List Nat), i ≤ 32 ∧ v8 = .int .i64 (i : Int) ∧ v7 = .int .i64 (c : Int) ∧ c ≤ 1 ∧ Kept (Below wS.heap.size wS wr) ∧ Kept (Arr wr gb 5 .u8 (d ++ o_z32.drop i)) ∧ Kept (Sm a b i d c)) (fun _ v8 _ => 32 - (RowKit.intOf v8).toNat)
  case atStart => exact ⟨0, 0, [], by omega, rfl, rfl, by omega, hb0, hB, h0⟩
  case round =>
    clear hB hb0 h0
    obtain ⟨i, c, d, hi, rfl, rfl, hc1, HB, HA, HS⟩ := hrel
    by_cases hlt : i < 32
    · have hia : i < (S a).size := by omega
      have hib : i < (S b).size := by omega
      obtain ⟨x, hx⟩ : ∃ x, a.getD i 0 = x := ⟨_, rfl⟩
      obtain ⟨y, hy⟩ : ∃ x, b.getD i 0 = x := ⟨_, rfl⟩
      have g0 : (S a)[i] = x := by rw [byte_at, hx]
      have g1 : (S b)[i] = y := by rw [byte_at, hy]
      have hst := HS.out.step (by omega) (by omega)
      rw [hx, hy] at hst
      have hxl := x.toNat_lt
      have hyl := y.toNat_lt
      have hlti : (i : Int) < 32 := by omega
      obtain ⟨s, hs⟩ : ∃ s, x.toNat + y.toNat + c = s := ⟨_, rfl⟩
      rw [hs] at hst
      obtain ⟨k1, k2, k3, k4, k3', k4', k5, k6, k7, k7'⟩ := sum_facts x.toNat y.toNat c s hxl hyl hc1 hs
      clear k1 k2 k3 k4 k7
      obtain ⟨sr, hsr⟩ : ∃ r, s % 256 = r := ⟨_, rfl⟩
      obtain ⟨sq, hsq⟩ : ∃ r, s / 256 = r := ⟨_, rfl⟩
      rw [hsr] at k5 hst
      rw [hsq] at k6 k7' hst
      replace hsr := Kept.mk hsr
      replace hsq := Kept.mk hsq
      replace hst := Kept.mk hst
      replace hs := Kept.mk hs
      replace hx := Kept.mk hx
      replace hy := Kept.mk hy
      go_wp2
      refine wp_region_from (by kernel_rfl) (by kernel_rfl) ?_
      repeat (go_big_quiet_step ((fail)))
      refine wpQuiet_nil ?_
      intro w5 hw5
      have hbl5 := hw5.of_drew
      have HB := HB.out.trans (hbl5.mono HB.out.size)
      have HA := HA.out.from hbl5
      have hz0 := drop_getD o_z32 i (by show i < 32; exact hlt)
      have hdl := HS.out.len
      have e0 := HA.cellMid hz0 hdl
      have f0 := HA.frozen i
      have hBn : Arr (w5.setCell ⟨gb, i, none⟩ (.int .u8 (sr : Int))) gb 5 .u8 ((d ++ [sr]) ++ o_z32.drop (i + 1)) := HA.step hz0 hdl (sr) rfl
      replace hBn := Kept.mk hBn
      have hbn := Kept.mk (HB.setCell (p := ⟨gb, i, none⟩) hgb (.int .u8 (sr : Int)))
      have hc2 := hst.out.c1
      clear hz0 hdl HA HB HS hw5 hbl5 k3' k4' g0 g1 hia hib
      go_wp2
      go_roundw
      case rel => exact ⟨i + 1, sq, d ++ [sr], by omega, val_eq (by omega), rfl, hc2, hbn, hBn, hst⟩
      case measure => first | (simp [RowKit.intOf]; done) | (simp [RowKit.intOf]; omega)
    · obtain rfl : i = 32 := by omega
      have hA := HA.out
      have hT := unB_nat HS.out.lt
      rw [show o_z32.drop 32 = [] from rfl, List.append_nil, ← hT] at hA
      have hTl := (unB_len d).trans HS.out.len
      have hcv := run_convert_bytes_back (P := Try.prog) wr 36 9 5 ⟨gb, 0, none⟩ 32 (unB d) Try.underlying36 Try.underlying5 Try.underlying9 (fun j hj => by
        have h := hA.cell j (by rw [List.length_map]; exact hj)
        rw [show ((⟨gb, 0, none⟩ : Addr).add j) = ⟨gb, j, none⟩ by unfold Addr.add; split <;> simp_all]
        rw [h]
        simp [hj])
      rw [hTl] at hcv
      have hcv2 : (convert 36 9 (.slice (some ⟨gb, 0, none⟩) 32 32)).run Try.prog wr = .ok (.string (S (unB d))) wr := hcv
      have hfin : decide ((c : Int) = 0) = true → (unB d).length = 32 ∧ numB (unB d) = numB a + numB b := fun h => by
        have h : (c : Int) = 0 := of_decide_eq_true h
        have h : c = 0 := by omega
        subst h
        exact Sm.done ha hb HS.out
      replace hfin := Kept.mk hfin
      clear hcv hA hT hTl HA
      go_wp2
      go_ret2
      exact ⟨_, _, rfl, HB.out, by first | exact hfin.out | simpa using hfin.out⟩
end Go.Proofs.Ytockcnglennihaa
