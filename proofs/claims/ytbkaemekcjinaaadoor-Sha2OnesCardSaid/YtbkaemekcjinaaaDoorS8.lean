/- Walks of package sha2: New. -/
import Derived.Test.YtbkaemekcjinaaaDoorS7
namespace Go.Proofs.YtbkaemekcjinaaaDoor
open Go.RowKit Go.Lib
def initR (o : Bool) : Nat → Nat → List Int → List Int
  | 0, _, l => l
  | k + 1, i, l => initR o k (i + 1) (l.set i (if o = true then squaresL.getD i 0 else squaresL.getD i 0 / 4294967296))
def initI (o : Bool) : List Int := initR o 8 0 (List.replicate 8 0)
def NewPost (o : Bool) (w : World) (e : Ending) (w' : World) : Prop :=
  ∃ g, w.heap.size ≤ g ∧ e = .returned (.tuple #[.pointer (some ⟨g, 0, none⟩), .int .i64 0]) ∧ HashAt w' g o (initI o) (List.replicate 128 0) 0 ∧ Below w.heap.size w w'
theorem HashAt.setWord {w : World} {g : Nat} {o : Bool} {st : List Int} {bl : List UInt8} {n : Nat} (h : HashAt w g o st bl n) (i : Nat) (hi : i < 8) (x : Int) :
    HashAt (w.setCell ⟨g, 1 + i, none⟩ (.int .u64 x)) g o (st.set i x) bl n := by
  refine ⟨?_, by rw [List.length_set]; exact h.s8, h.b128⟩
  rw [heap_setCell_same _ _ _ _ _ _ h.blk]
  congr 2
  rw [List.setIfInBounds_toArray, hashL, Nat.add_comm 1 i, List.set_cons_succ, List.set_append_left _ _ (by rw [u64I_length, h.s8]; exact hi)]
  simp [hashL, u64I, List.map_set]
theorem built50 (k : Int) : Tryd.prog.built 50 [(0, .int .i64 k)] = some (.int .i64 k :: (u64I (List.replicate 8 0) ++ (byteCells (List.replicate 128 0) ++ [.int .i64 0]))).toArray := by kernel_rfl
theorem wpList_build_to {P : Program} {ops : Array Oper} {rest : List Oper} {o : Oper} {a : Act} {w : World} {Q : Exit → Act → World → Prop} (hg : o.guard = none) (t : TypeId) (parts : Array (Nat × Operand)) (ho : o.op = .build t parts)
    (cells : Array Value) (hf : P.built t (parts.map fun (i, x) => (i, a.eval x)).toList = some cells)
    (h : wpList P ops Q rest (a.put o.dst (.agg cells)) w) : wpList P ops Q (o :: rest) a w :=
  wpList_build hg t parts ho (by rw [hf]; rfl) (by rw [hf]; exact h)

theorem field_u32 (w : World) : (Instr.field 53 (.agg #[.int .i64 32, .int .i64 64, .int .u64 2, .int .u64 13, .int .u64 22, .int .u64 6, .int .u64 11, .int .u64 25, .int .u64 7, .int .u64 18, .int .u64 3, .int .u64 17, .int .u64 19, .int .u64 10]) 0).run Tryd.prog w = .ok (.int .i64 32) w := by kernel_rfl
set_option maxRecDepth 100000 in
set_option maxHeartbeats 1600000 in
theorem new_u32 (w : World) (hv : Vars w) : Calls Tryd.prog 10 #[.int .i64 0] w (NewPost false w) := by
  obtain ⟨X, hX⟩ : ∃ X, hashL false (List.replicate 8 0) (List.replicate 128 0) 0 = X := ⟨_, rfl⟩
  have hb := built50 0
  have hX2 : (hashL false (List.replicate 8 0) (List.replicate 128 0) 0) = .int .i64 0 :: (u64I (List.replicate 8 0) ++ (byteCells (List.replicate 128 0) ++ [.int .i64 0])) := rfl
  rw [← hX2, hX] at hb
  have HB := Lib.hid hb
  clear hX2 hb
  have HX := Lib.hid hX
  have h1 := hv.1
  have HV := Lib.hid hv
  clear hX hv
  have ca := fun w => ruleOf_any false w
  rw [show kd false = 0 from rfl, ruleC0] at ca
  have CA := Lib.hid ca
  clear ca
  go_enter Tryd.func10, Tryd.ntmps10
  have hfl := field_u32
  go_wp2_with (first
    | (refine wpList_build_to rfl 50 #[(0, .tmp 13)] rfl X.toArray ?_ ?_; (simp only [List.map_toArray, List.map_cons, List.map_nil]; exact HB.out))
    | (go_at_call 17; refine (CA.out _).mono ?_; rintro e w1 ⟨rfl, hb1⟩; have HB1 := Lib.hid hb1; clear hb1))
  clear hfl
  have h0 : HashAt w1 w.heap.size false (List.replicate 8 0) (List.replicate 128 0) 0 := by
    refine ⟨?_, by simp, by simp⟩
    rw [HB1.out.block _ (by simp), HX.out]
    exact heap_alloc_new w _
  have hb0 : Below w.heap.size w w1 := ((Below.refl _ _).alloc (Nat.le_refl _) _).trans (HB1.out.mono (by simp))
  have hsz : w.heap.size < w1.heap.size := h0.lt
  clear HB1
  generalize hz : List.replicate 128 (0 : UInt8) = z at h0 ⊢
  generalize hl0 : List.replicate 8 (0 : Int) = l0 at h0
  have H0 := Lib.hid h0
  have HB0 := Lib.hid hb0
  have HL0 := Lib.hid hl0
  have HZ := Lib.hid hz
  clear h0 hb0 hz hl0 hsz
  go_loopw [19] (fun v wr => ∃ (i : Nat) (l : List Int), i ≤ 8 ∧ v = .int .i64 i ∧ Hid (HashAt wr w.heap.size false l z 0) ∧ Hid (Below w.heap.size w wr) ∧ Hid (initR false (8 - i) i l = initR false 8 0 l0)) (fun v _ => 8 - (intOf v).toNat)
  case atStart => exact ⟨0, l0, by omega, rfl, H0.out, HB0.out, rfl⟩
  case round =>
    obtain ⟨i, l, hi, rfl, HH, HB, HI⟩ := hrel
    clear H0 HB0
    by_cases hlt : i < 8
    · obtain ⟨x, hx⟩ : ∃ x, squaresL.getD i 0 = x := ⟨_, rfl⟩
      have hsq : ∀ u : Held (From wr.drew), u.w.cell? ⟨0, i, none⟩ = some (.int .u64 x) := fun u => hx ▸ ((HV.out.below HB.out h1).from u.h.of_drew).2.2 i hlt
      replace hx := Lib.hid hx
      go_wp2
      refine wp_region_from_tail 11 (by kernel_rfl) (by kernel_rfl) ?_
      simp only [List.take_succ_cons, List.take_zero, List.drop_succ_cons, List.drop_zero]
      repeat (go_big_quiet_step (fail))
      refine wpQuiet_nil ?_
      intro w5 hw5
      have H5 := HH.out.from hw5.of_drew
      have c5 := H5.state i hlt
      have f5 := H5.frozen (1 + i)
      have b5 := HB.out.trans (hw5.of_drew.mono HB.out.size)
      replace H5 := Lib.hid H5
      replace b5 := Lib.hid b5
      go_wp2
      go_roundw
      case rel => exact ⟨i + 1, l.set i (x / 4294967296), by omega, by go_num, H5.out.setWord i hlt _, b5.out.setCell (Nat.le_refl _) _, by
        have h := HI.out
        rw [show 8 - i = (8 - (i + 1)) + 1 by omega, initR, hx.out] at h
        exact h⟩
      case measure => simp [intOf]; omega
    · obtain rfl : i = 8 := by omega
      have hL : l = initI false := by
        rw [initI, HL0.out, ← HI.out]; rfl
      have HL := Lib.hid hL
      clear hL HI
      go_wp2
      go_ret2
      exact ⟨w.heap.size, Nat.le_refl _, rfl, by rw [← HL.out, HZ.out]; exact HH.out, HB.out⟩

theorem field_u64 (w : World) : (Instr.field 53 (.agg #[.int .i64 64, .int .i64 80, .int .u64 28, .int .u64 34, .int .u64 39, .int .u64 14, .int .u64 18, .int .u64 41, .int .u64 1, .int .u64 8, .int .u64 7, .int .u64 19, .int .u64 61, .int .u64 6]) 0).run Tryd.prog w = .ok (.int .i64 64) w := by kernel_rfl
set_option maxRecDepth 100000 in
set_option maxHeartbeats 1600000 in
theorem new_u64 (w : World) (hv : Vars w) : Calls Tryd.prog 10 #[.int .i64 1] w (NewPost true w) := by
  obtain ⟨X, hX⟩ : ∃ X, hashL true (List.replicate 8 0) (List.replicate 128 0) 0 = X := ⟨_, rfl⟩
  have hb := built50 1
  have hX2 : (hashL true (List.replicate 8 0) (List.replicate 128 0) 0) = .int .i64 1 :: (u64I (List.replicate 8 0) ++ (byteCells (List.replicate 128 0) ++ [.int .i64 0])) := rfl
  rw [← hX2, hX] at hb
  have HB := Lib.hid hb
  clear hX2 hb
  have HX := Lib.hid hX
  have h1 := hv.1
  have HV := Lib.hid hv
  clear hX hv
  have ca := fun w => ruleOf_any true w
  rw [show kd true = 1 from rfl, ruleC1] at ca
  have CA := Lib.hid ca
  clear ca
  go_enter Tryd.func10, Tryd.ntmps10
  have hfl := field_u64
  go_wp2_with (first
    | (refine wpList_build_to rfl 50 #[(0, .tmp 13)] rfl X.toArray ?_ ?_; (simp only [List.map_toArray, List.map_cons, List.map_nil]; exact HB.out))
    | (go_at_call 17; refine (CA.out _).mono ?_; rintro e w1 ⟨rfl, hb1⟩; have HB1 := Lib.hid hb1; clear hb1))
  clear hfl
  have h0 : HashAt w1 w.heap.size true (List.replicate 8 0) (List.replicate 128 0) 0 := by
    refine ⟨?_, by simp, by simp⟩
    rw [HB1.out.block _ (by simp), HX.out]
    exact heap_alloc_new w _
  have hb0 : Below w.heap.size w w1 := ((Below.refl _ _).alloc (Nat.le_refl _) _).trans (HB1.out.mono (by simp))
  have hsz : w.heap.size < w1.heap.size := h0.lt
  clear HB1
  generalize hz : List.replicate 128 (0 : UInt8) = z at h0 ⊢
  generalize hl0 : List.replicate 8 (0 : Int) = l0 at h0
  have H0 := Lib.hid h0
  have HB0 := Lib.hid hb0
  have HL0 := Lib.hid hl0
  have HZ := Lib.hid hz
  clear h0 hb0 hz hl0 hsz
  go_loopw [19] (fun v wr => ∃ (i : Nat) (l : List Int), i ≤ 8 ∧ v = .int .i64 i ∧ Hid (HashAt wr w.heap.size true l z 0) ∧ Hid (Below w.heap.size w wr) ∧ Hid (initR true (8 - i) i l = initR true 8 0 l0)) (fun v _ => 8 - (intOf v).toNat)
  case atStart => exact ⟨0, l0, by omega, rfl, H0.out, HB0.out, rfl⟩
  case round =>
    obtain ⟨i, l, hi, rfl, HH, HB, HI⟩ := hrel
    clear H0 HB0
    by_cases hlt : i < 8
    · obtain ⟨x, hx⟩ : ∃ x, squaresL.getD i 0 = x := ⟨_, rfl⟩
      have hsq : ∀ u : Held (From wr.drew), u.w.cell? ⟨0, i, none⟩ = some (.int .u64 x) := fun u => hx ▸ ((HV.out.below HB.out h1).from u.h.of_drew).2.2 i hlt
      replace hx := Lib.hid hx
      go_wp2
      refine wp_region_from_tail 11 (by kernel_rfl) (by kernel_rfl) ?_
      simp only [List.take_succ_cons, List.take_zero, List.drop_succ_cons, List.drop_zero]
      repeat (go_big_quiet_step (fail))
      refine wpQuiet_nil ?_
      intro w5 hw5
      have H5 := HH.out.from hw5.of_drew
      have c5 := H5.state i hlt
      have f5 := H5.frozen (1 + i)
      have b5 := HB.out.trans (hw5.of_drew.mono HB.out.size)
      replace H5 := Lib.hid H5
      replace b5 := Lib.hid b5
      go_wp2
      go_roundw
      case rel => exact ⟨i + 1, l.set i (x), by omega, by go_num, H5.out.setWord i hlt _, b5.out.setCell (Nat.le_refl _) _, by
        have h := HI.out
        rw [show 8 - i = (8 - (i + 1)) + 1 by omega, initR, hx.out] at h
        exact h⟩
      case measure => simp [intOf]; omega
    · obtain rfl : i = 8 := by omega
      have hL : l = initI true := by
        rw [initI, HL0.out, ← HI.out]; rfl
      have HL := Lib.hid hL
      clear hL HI
      go_wp2
      go_ret2
      exact ⟨w.heap.size, Nat.le_refl _, rfl, by rw [← HL.out, HZ.out]; exact HH.out, HB.out⟩
theorem new_bad (k : Int) (w : World) (h0 : k ≠ 0) (h1 : k ≠ 1) : Calls Tryd.prog 10 #[.int .i64 k] w fun e w' => e = .returned (.tuple #[.pointer none, .int .i64 30]) ∧ w = w' := by
  have e0 : (k == 0) = false := by simpa using h0
  have e1 : (k == 1) = false := by simpa using h1
  have f0 : (k != 0) = true := by simpa using h0
  have f1 : (k != 1) = true := by simpa using h1
  clear h0 h1
  go_enter Tryd.func10, Tryd.ntmps10
  go_wp2
  go_ret2
  exact ⟨rfl, rfl⟩
end Go.Proofs.YtbkaemekcjinaaaDoor
