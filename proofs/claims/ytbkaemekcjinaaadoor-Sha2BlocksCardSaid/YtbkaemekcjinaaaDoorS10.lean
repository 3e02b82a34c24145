/- Walks of package sha2: padding. -/
import Derived.Test.YtbkaemekcjinaaaDoorS9
import Derived.Deep.OwnRows
namespace Go.Proofs.YtbkaemekcjinaaaDoor
open Go.RowKit Go.Lib
def padR (bits m : Nat) : Nat → Nat → List UInt8 → List UInt8
  | 0, _, l => l
  | k + 1, i, l => padR bits m k (i + 1) (l.set (m - 1 - i) (UInt8.ofNat (bits / 2 ^ (8 * i))))
def padL (o : Bool) (n : Nat) : List UInt8 :=
  padR (n * 8) (1 + (room o - (n + 1 + wdI o / 4) % room o) % room o + wdI o / 4) 8 0 ((List.replicate (1 + (room o - (n + 1 + wdI o / 4) % room o) % room o + wdI o / 4) 0).set 0 128)
def RowB (T : TypeId) (w : World) (g : Nat) (l : List UInt8) : Prop := w.heap[g]? = some (.cells (byteCells l).toArray T (0, 0))
theorem made_bytes (m : Nat) : (madeCells #[.int .u8 0] m).setIfInBounds 0 (.int .u8 128) = (byteCells ((List.replicate m 0).set 0 128)).toArray := by
  have h : madeCells #[.int .u8 0] m = (byteCells (List.replicate m 0)).toArray := by
    apply Array.ext
    · simp [madeCells, byteCells]
    · intro j h1 h2
      simp [madeCells, byteCells, Nat.mod_one]
  rw [h, List.setIfInBounds_toArray]
  simp [byteCells, List.map_set]
section
variable {T : TypeId} {w w' : World} {g : Nat} {l : List UInt8}
theorem RowB.cell (h : RowB T w g l) (j : Nat) (hj : j < l.length) : w.cell? ⟨g, j, none⟩ = some (.int .u8 ((l.getD j 0).toNat : Nat)) := by
  rw [cell_of_row w g _ _ _ _ h]
  simp [byteCells, hj]
theorem RowB.frozen (h : RowB T w g l) (j : Nat) : w.frozen? ⟨g, j, none⟩ = false := frozen_of_row w g j _ _ h
theorem RowB.set (h : RowB T w g l) (j : Nat) (b : UInt8) : RowB T (w.setCell ⟨g, j, none⟩ (.int .u8 (b.toNat : Nat))) g (l.set j b) := by
  unfold RowB at h ⊢
  rw [heap_setCell_same w g j _ _ _ h]
  simp [byteCells, List.map_set]
theorem RowB.conv (h : RowB T w g l) : (convert 36 9 (.slice (some ⟨g, 0, none⟩) l.length l.length)).run Tryd.prog w = .ok (.string (S l)) w := by
  refine run_convert_bytes_back w 36 9 5 _ _ l Tryd.underlying36 Tryd.underlying5 Tryd.underlying9 (fun j hj => ?_)
  have e : (⟨g, 0, none⟩ : Addr).add j = ⟨g, j, none⟩ := by have := Addr.add_mid g 0 j; simpa using this
  rw [e, h.cell j hj]
  simp [hj]
end

set_option maxRecDepth 100000 in
set_option maxHeartbeats 1600000 in
theorem padding_u32 (g : Nat) (st : List Int) (bl : List UInt8) (n : Nat) (w : World) (h : HashAt w g false st bl n) (hn : n ≤ 1152921504606846976) :
    Calls Tryd.prog 20 #[.pointer (some ⟨g, 0, none⟩)] w fun e w' => e = .returned (.string (S (padL false n))) ∧ Below w.heap.size w w' := by
  obtain ⟨ov, hov⟩ : ∃ x, (n + 1 + 8) % 64 = x := ⟨_, rfl⟩
  obtain ⟨z, hz⟩ : ∃ x, (64 - ov) % 64 = x := ⟨_, rfl⟩
  obtain ⟨m, hm⟩ : ∃ x, 1 + z + 8 = x := ⟨_, rfl⟩
  have hP : padL false n = padR (n * 8) m 8 0 ((List.replicate m 0).set 0 128) := by
    rw [← hm, ← hz, ← hov]; rfl
  obtain ⟨tot, htot⟩ : ∃ t, padL false n = t := ⟨_, rfl⟩
  rw [htot] at hP ⊢
  have hov1 : ov < 64 := by omega
  have hz1 : z < 64 := by omega
  have e1 : ((n : Int) + 1 + 8) % 64 = (ov : Int) := by omega
  have e2 : (64 - (ov : Int)) % 64 = (z : Int) := by omega
  have e3 : (1 + (z : Int) + 8) = (m : Int) := by omega
  have hm1 : 9 ≤ m := by omega
  have hm2 : m ≤ 73 := by omega
  have hk := h.kind
  have hc := h.count
  have hlt := h.lt
  rw [show kd false = 0 from rfl] at hk
  have H := Lib.hid h
  have HP := Lib.hid hP
  clear h hov hz hm hP htot
  have ca := fun w => ruleOf_any false w
  rw [show kd false = 0 from rfl] at ca
  have CA := Lib.hid ca
  have cb : ∀ w, Calls Tryd.prog 18 #[.agg (ruleC false)] w fun e w' => e = .returned (.int .i64 64) ∧ Below w.heap.size w w' := fun w => blockBytes_any false w
  have CB := Lib.hid cb
  clear ca cb
  have hpos : 0 < m := by omega
  have hm0 : (madeCells #[.int .u8 0] m)[0]? = some (.int .u8 0) := by simp [madeCells, hpos]
  have hm0' : 0 < (madeCells #[.int .u8 0] m).size := by rw [size_madeCells]; exact hpos
  have hmk := fun W => run_make_row' (P := Tryd.prog) 36 5 (.int .u8 0) 1 Tryd.underlying36 info5 rfl .i64 .i64 m (by omega) (by omega) W
  go_enter Tryd.func20, Tryd.ntmps20
  go_wp2_with (first
    | (go_at_call 17; refine (CA.out _).mono ?_; rintro e w1 ⟨rfl, hb1⟩; have hb1' := hb1; have hlt1 : g < w1.heap.size := Nat.lt_of_lt_of_le hlt hb1.size; rw [ruleC0]; have HB1 := Lib.hid hb1; clear hb1 hb1')
    | (go_at_call 18; rw [← ruleC0]; refine (CB.out _).mono ?_; rintro e w2 ⟨rfl, hb2⟩; have hq := (HB1.out.alloc HB1.out.size _).trans (hb2.mono (by rw [World.size_alloc]; exact Nat.le_succ_of_le HB1.out.size)); have hr2 : w2.cell? ⟨w1.heap.size, 0, none⟩ = some (.int .i64 32) := (hb2.cell (p := ⟨w1.heap.size, 0, none⟩) (by simp)).trans (by rw [cell_of_row _ _ _ _ _ _ (heap_alloc_new w1 _)]; rfl); have hc2 : w2.cell? ⟨g, 137, none⟩ = some (.int .i64 n) := (hq.cell (p := ⟨g, 137, none⟩) hlt).trans hc; have hlt2 : g < w2.heap.size := Nat.lt_of_lt_of_le hlt hq.size; have HQ := Lib.hid hq; clear hb2 hq))
  have h0 : RowB 5 (w2.alloc (.cells ((madeCells #[.int .u8 0] m).setIfInBounds 0 (.int .u8 128)) 5)) w2.heap.size ((List.replicate m 0).set 0 128) := by
    rw [made_bytes]; exact heap_alloc_new w2 _
  have b0 : Below w.heap.size w (w2.alloc (.cells ((madeCells #[.int .u8 0] m).setIfInBounds 0 (.int .u8 128)) 5)) := HQ.out.alloc HQ.out.size _
  generalize w2.alloc (.cells ((madeCells #[.int .u8 0] m).setIfInBounds 0 (.int .u8 128)) 5) = w3 at h0 b0 ⊢
  generalize hl0 : (List.replicate m (0 : UInt8)).set 0 128 = l0 at h0
  have hgB : w.heap.size ≤ w2.heap.size := HQ.out.size
  generalize w2.heap.size = gb at h0 hgB ⊢
  have hlen : l0.length = m := by rw [← hl0]; simp
  have HL0 := Lib.hid hl0
  have HLN := Lib.hid hlen
  have H0 := Lib.hid h0
  have B0 := Lib.hid b0
  clear hl0 hlen h0 b0 hc2 hr2 hlt2 hlt1 HQ HB1 CA CB hmk hk hc hlt H hm0 hm0'
  go_loopw [48] (fun v wr => ∃ (i : Nat) (l : List UInt8), i ≤ 8 ∧ v = .int .i64 i ∧ Hid (l.length = m) ∧ Hid (RowB 5 wr gb l) ∧ Hid (Below w.heap.size w wr) ∧ Hid (padR (n * 8) m (8 - i) i l = tot)) (fun v _ => 8 - (intOf v).toNat)
  case atStart => exact ⟨0, l0, by omega, rfl, HLN.out, H0.out, B0.out, by rw [← HL0.out]; exact HP.out.symm⟩
  case round =>
    obtain ⟨i, l, hi, rfl, HL, HR, HB, HD⟩ := hrel
    clear H0 B0
    by_cases hlt : i < 8
    · obtain ⟨b, hb⟩ : ∃ b, UInt8.ofNat (n * 8 / 2 ^ (8 * i)) = b := ⟨_, rfl⟩
      have c5 : wr.cell? ⟨gb, m - 1 - i, none⟩ = some (.int .u8 ((l.getD (m - 1 - i) 0).toNat : Nat)) := HR.out.cell _ (by rw [HL.out]; omega)
      have f5 := HR.out.frozen (m - 1 - i)
      replace hb := Lib.hid hb
      have hv : ((n : Int) * 8 / 2 ^ (8 * i) % 256) = (b.toNat : Nat) := by
        rw [← hb.out]; simp
      have Hv := Lib.hid hv
      clear hv
      go_wp2
      go_roundw
      case rel => exact ⟨i + 1, l.set (m - 1 - i) b, by omega, by go_num, by rw [List.length_set]; exact HL.out, by rw [Hv.out]; exact HR.out.set _ b, HB.out.setCell hgB _, by
        have h := HD.out
        rw [show 8 - i = (8 - (i + 1)) + 1 by omega, padR, hb.out] at h
        exact h⟩
      case measure => simp [intOf]; omega
    · obtain rfl : i = 8 := by omega
      have hL : l = tot := HD.out
      have hcv : (convert 36 9 (.slice (some ⟨gb, 0, none⟩) m m)).run Tryd.prog wr = .ok (.string (S tot)) wr := by
        have hl := HL.out
        have hr := HR.out
        subst hL
        subst hl
        exact hr.conv
      replace hL := Lib.hid hL
      go_wp2
      go_ret
      exact ⟨rfl, HB.out⟩

set_option maxRecDepth 100000 in
set_option maxHeartbeats 1600000 in
theorem padding_u64 (g : Nat) (st : List Int) (bl : List UInt8) (n : Nat) (w : World) (h : HashAt w g true st bl n) (hn : n ≤ 1152921504606846976) :
    Calls Tryd.prog 20 #[.pointer (some ⟨g, 0, none⟩)] w fun e w' => e = .returned (.string (S (padL true n))) ∧ Below w.heap.size w w' := by
  obtain ⟨ov, hov⟩ : ∃ x, (n + 1 + 16) % 128 = x := ⟨_, rfl⟩
  obtain ⟨z, hz⟩ : ∃ x, (128 - ov) % 128 = x := ⟨_, rfl⟩
  obtain ⟨m, hm⟩ : ∃ x, 1 + z + 16 = x := ⟨_, rfl⟩
  have hP : padL true n = padR (n * 8) m 8 0 ((List.replicate m 0).set 0 128) := by
    rw [← hm, ← hz, ← hov]; rfl
  obtain ⟨tot, htot⟩ : ∃ t, padL true n = t := ⟨_, rfl⟩
  rw [htot] at hP ⊢
  have hov1 : ov < 128 := by omega
  have hz1 : z < 128 := by omega
  have e1 : ((n : Int) + 1 + 16) % 128 = (ov : Int) := by omega
  have e2 : (128 - (ov : Int)) % 128 = (z : Int) := by omega
  have e3 : (1 + (z : Int) + 16) = (m : Int) := by omega
  have hm1 : 17 ≤ m := by omega
  have hm2 : m ≤ 145 := by omega
  have hk := h.kind
  have hc := h.count
  have hlt := h.lt
  rw [show kd true = 1 from rfl] at hk
  have H := Lib.hid h
  have HP := Lib.hid hP
  clear h hov hz hm hP htot
  have ca := fun w => ruleOf_any true w
  rw [show kd true = 1 from rfl] at ca
  have CA := Lib.hid ca
  have cb : ∀ w, Calls Tryd.prog 18 #[.agg (ruleC true)] w fun e w' => e = .returned (.int .i64 128) ∧ Below w.heap.size w w' := fun w => blockBytes_any true w
  have CB := Lib.hid cb
  clear ca cb
  have hpos : 0 < m := by omega
  have hm0 : (madeCells #[.int .u8 0] m)[0]? = some (.int .u8 0) := by simp [madeCells, hpos]
  have hm0' : 0 < (madeCells #[.int .u8 0] m).size := by rw [size_madeCells]; exact hpos
  have hmk := fun W => run_make_row' (P := Tryd.prog) 36 5 (.int .u8 0) 1 Tryd.underlying36 info5 rfl .i64 .i64 m (by omega) (by omega) W
  go_enter Tryd.func20, Tryd.ntmps20
  go_wp2_with (first
    | (go_at_call 17; refine (CA.out _).mono ?_; rintro e w1 ⟨rfl, hb1⟩; have hb1' := hb1; have hlt1 : g < w1.heap.size := Nat.lt_of_lt_of_le hlt hb1.size; rw [ruleC1]; have HB1 := Lib.hid hb1; clear hb1 hb1')
    | (go_at_call 18; rw [← ruleC1]; refine (CB.out _).mono ?_; rintro e w2 ⟨rfl, hb2⟩; have hq := (HB1.out.alloc HB1.out.size _).trans (hb2.mono (by rw [World.size_alloc]; exact Nat.le_succ_of_le HB1.out.size)); have hr2 : w2.cell? ⟨w1.heap.size, 0, none⟩ = some (.int .i64 64) := (hb2.cell (p := ⟨w1.heap.size, 0, none⟩) (by simp)).trans (by rw [cell_of_row _ _ _ _ _ _ (heap_alloc_new w1 _)]; rfl); have hc2 : w2.cell? ⟨g, 137, none⟩ = some (.int .i64 n) := (hq.cell (p := ⟨g, 137, none⟩) hlt).trans hc; have hlt2 : g < w2.heap.size := Nat.lt_of_lt_of_le hlt hq.size; have HQ := Lib.hid hq; clear hb2 hq))
  have h0 : RowB 5 (w2.alloc (.cells ((madeCells #[.int .u8 0] m).setIfInBounds 0 (.int .u8 128)) 5)) w2.heap.size ((List.replicate m 0).set 0 128) := by
    rw [made_bytes]; exact heap_alloc_new w2 _
  have b0 : Below w.heap.size w (w2.alloc (.cells ((madeCells #[.int .u8 0] m).setIfInBounds 0 (.int .u8 128)) 5)) := HQ.out.alloc HQ.out.size _
  generalize w2.alloc (.cells ((madeCells #[.int .u8 0] m).setIfInBounds 0 (.int .u8 128)) 5) = w3 at h0 b0 ⊢
  generalize hl0 : (List.replicate m (0 : UInt8)).set 0 128 = l0 at h0
  have hgB : w.heap.size ≤ w2.heap.size := HQ.out.size
  generalize w2.heap.size = gb at h0 hgB ⊢
  have hlen : l0.length = m := by rw [← hl0]; simp
  have HL0 := Lib.hid hl0
  have HLN := Lib.hid hlen
  have H0 := Lib.hid h0
  have B0 := Lib.hid b0
  clear hl0 hlen h0 b0 hc2 hr2 hlt2 hlt1 HQ HB1 CA CB hmk hk hc hlt H hm0 hm0'
  go_loopw [48] (fun v wr => ∃ (i : Nat) (l : List UInt8), i ≤ 8 ∧ v = .int .i64 i ∧ Hid (l.length = m) ∧ Hid (RowB 5 wr gb l) ∧ Hid (Below w.heap.size w wr) ∧ Hid (padR (n * 8) m (8 - i) i l = tot)) (fun v _ => 8 - (intOf v).toNat)
  case atStart => exact ⟨0, l0, by omega, rfl, HLN.out, H0.out, B0.out, by rw [← HL0.out]; exact HP.out.symm⟩
  case round =>
    obtain ⟨i, l, hi, rfl, HL, HR, HB, HD⟩ := hrel
    clear H0 B0
    by_cases hlt : i < 8
    · obtain ⟨b, hb⟩ : ∃ b, UInt8.ofNat (n * 8 / 2 ^ (8 * i)) = b := ⟨_, rfl⟩
      have c5 : wr.cell? ⟨gb, m - 1 - i, none⟩ = some (.int .u8 ((l.getD (m - 1 - i) 0).toNat : Nat)) := HR.out.cell _ (by rw [HL.out]; omega)
      have f5 := HR.out.frozen (m - 1 - i)
      replace hb := Lib.hid hb
      have hv : ((n : Int) * 8 / 2 ^ (8 * i) % 256) = (b.toNat : Nat) := by
        rw [← hb.out]; simp
      have Hv := Lib.hid hv
      clear hv
      go_wp2
      go_roundw
      case rel => exact ⟨i + 1, l.set (m - 1 - i) b, by omega, by go_num, by rw [List.length_set]; exact HL.out, by rw [Hv.out]; exact HR.out.set _ b, HB.out.setCell hgB _, by
        have h := HD.out
        rw [show 8 - i = (8 - (i + 1)) + 1 by omega, padR, hb.out] at h
        exact h⟩
      case measure => simp [intOf]; omega
    · obtain rfl : i = 8 := by omega
      have hL : l = tot := HD.out
      have hcv : (convert 36 9 (.slice (some ⟨gb, 0, none⟩) m m)).run Tryd.prog wr = .ok (.string (S tot)) wr := by
        have hl := HL.out
        have hr := HR.out
        subst hL
        subst hl
        exact hr.conv
      replace hL := Lib.hid hL
      go_wp2
      go_ret
      exact ⟨rfl, HB.out⟩
end Go.Proofs.YtbkaemekcjinaaaDoor
