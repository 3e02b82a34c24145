/- Package sha2's law package: Sha2Blocks. -/
import Derived.Test.YtbkaemekcjinaaaDoorS17
import Derived.Test.YtbkaemekcjinaaaDoorSA
import Derived.Deep.OwnRows
set_option linter.unusedSimpArgs false
set_option linter.unusedVariables false
namespace Go.Proofs.YtbkaemekcjinaaaDoor
open Go.RowKit Go.Lib
def fillN (f : Nat) (i : Nat) : List Nat := (List.range i).map fun j => (f + j) % 256
def restN (f m i : Nat) : List Nat := fillN f i ++ List.replicate (m - i) 0
theorem restN_set (f m i : Nat) (h : i < m) : (restN f m i).set i ((f + i) % 256) = restN f m (i + 1) := by
  unfold restN
  have hl : (fillN f i).length = i := by simp [fillN]
  rw [show m - i = (m - (i + 1)) + 1 by omega, List.replicate_succ]
  have e := set_midS (fillN f i) (List.replicate (m - (i + 1)) 0) 0 ((f + i) % 256)
  rw [hl] at e
  rw [e]
  congr 1
  unfold fillN
  rw [List.range_succ, List.map_append]
  rfl
theorem restN_len (f m i : Nat) (h : i ≤ m) : (restN f m i).length = m := by unfold restN fillN; simp; omega
theorem madeN (m : Nat) : madeCells #[Value.int .u8 0] m = (numC .u8 (List.replicate m 0)).toArray := by
  apply Array.ext'
  unfold madeCells numC
  rw [Array.toList_map, List.map_replicate]
  apply List.ext_getElem
  · simp
  · intro i h1 h2
    simp [Nat.mod_one]
theorem conv_arr {w : World} {g m : Nat} {x : List UInt8} (hA : Arr w g 5 .u8 (x.map (·.toNat))) (hx : x.length = m) :
    (convert 36 9 (.slice (some ⟨g, 0, none⟩) m m)).run Tryd.prog w = .ok (.string (S x)) w := by
  have hcv := run_convert_bytes_back (P := Tryd.prog) w 36 9 5 ⟨g, 0, none⟩ m x Tryd.underlying36 Tryd.underlying5 Tryd.underlying9 (fun j hj => by
    have h := hA.cell j (by rw [List.length_map]; exact hj)
    rw [show ((⟨g, 0, none⟩ : Addr).add j) = ⟨g, j, none⟩ by unfold Addr.add; split <;> simp_all]
    rw [h]
    simp [hj])
  rw [hx] at hcv
  exact hcv
set_option maxHeartbeats 2000000 in
theorem blocks_of (k more : Int) (f m : Nat) (q : Int) (hq : Int.tmod more 300 = q) (hqm : q = (m : Int) ∨ q = (m : Int) - 300) (hm : m < 300) (hf : f < 256) (w : World) (hv : Vars w) :
    Calls Tryd.prog 5 #[.int .i64 k, .int .i64 more, .int .u8 (f : Int)] w fun e w' => e = .returned (.bool true) ∧ Below w.heap.size w w' := by
  obtain ⟨i0, hi0, hz0, hz1, hz2⟩ := info_parts info5
  obtain ⟨X, hX⟩ : ∃ X : List UInt8, X = (fillN f m).map UInt8.ofNat := ⟨_, rfl⟩
  have hXl : X.length = m := by rw [hX]; simp [fillN]
  have hXn : X.map (·.toNat) = restN f m m := by
    rw [hX, List.map_map]
    unfold restN fillN
    rw [Nat.sub_self, List.replicate_zero, List.append_nil, List.map_map]
    refine List.map_congr_left fun j _ => ?_
    simp
  obtain ⟨r, n, c1, c2⟩ := both k (S X) (by rw [S_size, hXl]; omega)
  have HX := Kept.mk hXl
  have HXn := Kept.mk hXn
  have C1 := Kept.mk c1
  have C2 := Kept.mk c2
  have HV := Kept.mk hv
  have hw0 := hv.1
  clear hX hXl hXn c1 c2 hv
  rcases hqm with rfl | rfl
  all_goals
    go_enter Tryd.func5, Tryd.ntmps5
    go_wp2_with (refine wpList_make_row _ rfl _ _ 36 rfl 5 i0 (.int .u8 0) Tryd.underlying36 hi0 hz0 hz1 rfl .i64 .i64 m rfl rfl (by rw [hz2]; omega) (by omega) ?_; rw [madeN])
    clear hq
    have hB := Arr.new w 5 .u8 (List.replicate m 0)
    have hF : FW w (w.alloc (.cells (numC .u8 (List.replicate m 0)).toArray 5)) := FW.from ⟨Below.refl _ _, HV.out⟩ ((Below.refl _ w).alloc (Nat.le_refl _) _)
    generalize w.alloc (.cells (numC .u8 (List.replicate m 0)).toArray 5) = w1 at hB hF ⊢
    generalize hg : w.heap.size = g at hB ⊢
    replace hB := Kept.mk hB
    replace hF := Kept.mk hF
    replace hg := Kept.mk hg
    go_loopw [9] (fun v9 wr => ∃ (i : Nat), i ≤ m ∧ v9 = .int .i64 (i : Int) ∧ Kept (FW w wr) ∧ Kept (Arr wr g 5 .u8 (restN f m i))) (fun v9 _ => m - (intOf v9).toNat)
    case atStart => exact ⟨0, Nat.zero_le _, rfl, hF, ⟨by have h := hB.out; exact h⟩⟩
    case round =>
      clear hB hF
      obtain ⟨i, hi, rfl, HF, HB⟩ := hrel
      by_cases hlt : i < m
      · have hlti : (i : Int) < (m : Int) := by omega
        have e0 := HB.out.cell i (by rw [restN_len f m i hi]; exact hlt)
        have f0 := HB.out.frozen i
        have Hn : Arr (wr.setCell ⟨g, i, none⟩ (.int .u8 (((f : Int) + (i : Int)) % 256))) g 5 .u8 (restN f m (i + 1)) := by
          have h := HB.out.set i ((f + i) % 256)
          rw [restN_set f m i hlt] at h
          rw [show ((f : Int) + (i : Int)) % 256 = (((f + i) % 256 : Nat) : Int) by omega]
          exact h
        have hFn : FW w (wr.setCell ⟨g, i, none⟩ (.int .u8 (((f : Int) + (i : Int)) % 256))) := HF.out.chg ((Chg.refl wr).setCell _ _) (by rw [hg.out]; omega) (by have := hg.out; omega)
        replace Hn := Kept.mk Hn
        replace hFn := Kept.mk hFn
        go_wp2
        go_roundw
        case rel => exact ⟨i + 1, hlt, val_eq (by omega), hFn, Hn⟩
        case measure => simp [intOf]; omega
      · obtain rfl : i = m := by omega
        have hA := HB.out
        rw [← HXn.out] at hA
        have hcv := conv_arr hA HX.out
        replace hA := Kept.mk hA
        clear HB
        go_wp2_with (first
          | (go_at_call 7; refine (C1.out _ HF.out.v).mono ?_; rintro e w1 ⟨rfl, hb1⟩; have hcv1 := conv_arr (hA.out.from hb1) HX.out; have F1 := Kept.mk (HF.out.from hb1); clear hb1)
          | (go_at_call 8; refine (C2.out _).mono ?_; rintro e w2 ⟨rfl, hb2⟩; have F2 := Kept.mk (F1.out.from hb2); clear hb2)
          | (go_at_call 9; refine (fixed_any _ F2.out.v).mono ?_; rintro e w3 ⟨rfl, hb3⟩; have F3 := Kept.mk (F2.out.from hb3); clear hb3))
        go_ret
        exact ⟨rfl, F3.out.b⟩
theorem blocks_any (k more fill : Int) (w : World) (hf : 0 ≤ fill ∧ fill ≤ 255) (hv : Vars w) :
    Calls Tryd.prog 5 #[.int .i64 k, .int .i64 more, .int .u8 fill] w fun e w' => e = .returned (.bool true) ∧ Below w.heap.size w w' := by
  obtain ⟨f, rfl⟩ := Int.eq_ofNat_of_zero_le hf.1
  have h1 := Int.tmod_lt_of_pos more (show (0 : Int) < 300 by omega)
  have h2 : -300 < Int.tmod more 300 := by
    have h := Int.tmod_lt_of_pos (-more) (show (0 : Int) < 300 by omega)
    rw [Int.neg_tmod] at h
    omega
  by_cases h : 0 ≤ Int.tmod more 300
  · obtain ⟨m, hm⟩ := Int.eq_ofNat_of_zero_le h
    exact blocks_of k more f m _ rfl (Or.inl hm) (by omega) (by omega) w hv
  · obtain ⟨m, hm⟩ := Int.eq_ofNat_of_zero_le (show 0 ≤ Int.tmod more 300 + 300 by omega)
    exact blocks_of k more f m _ rfl (Or.inr (by omega)) (by omega) (by omega) w hv
end Go.Proofs.YtbkaemekcjinaaaDoor
