/- Walks of package sha2: a block goes into the state. -/
import Derived.Test.YtbkaemekcjinaaaDoorS5
namespace Go.Proofs.YtbkaemekcjinaaaDoor
open Go.RowKit Go.Lib
theorem eight {α : Type} {st : List α} (h : st.length = 8) : ∃ s0 s1 s2 s3 s4 s5 s6 s7, st = [s0, s1, s2, s3, s4, s5, s6, s7] := by
  match st, h with
  | [s0, s1, s2, s3, s4, s5, s6, s7], _ => exact ⟨s0, s1, s2, s3, s4, s5, s6, s7, rfl⟩
theorem sumR_length (o : Bool) (m : List Int) : ∀ (k i : Nat) (l : List Int), (sumR o m k i l).length = l.length
  | 0, _, _ => rfl
  | k + 1, i, l => by rw [sumR, sumR_length o m k, List.length_set]
/-- Block g alone has changed, and there may be new ones. -/
def Chg (g : Nat) (w w' : World) : Prop := w.grownBy w' (some g)
section
variable {g : Nat} {a b c w w' : World}
theorem Chg.of_below (h : Below a.heap.size a b) : Chg g a b := ⟨h.os, h.tape, h.output, h.size, fun i hi _ => h.block i hi⟩
theorem Chg.refl (w : World) : Chg g w w := Chg.of_below (Below.refl _ _)
theorem Chg.trans (h : Chg g a b) (k : Chg g b c) : Chg g a c :=
  ⟨k.os.trans h.os, k.tape.trans h.tape, k.output.trans h.output, Nat.le_trans h.size k.size, fun i hi hne => (k.block i (Nat.lt_of_lt_of_le hi h.size) hne).trans (h.block i hi hne)⟩
theorem Chg.setCell (h : Chg g a b) (j : Nat) (u : Value) : Chg g a (b.setCell ⟨g, j, none⟩ u) :=
  ⟨h.os, h.tape, h.output, by simpa [World.setCell] using h.size, fun i hi hne => (Below.heap_setCell b ⟨g, j, none⟩ u i (fun e => hne (by rw [e]))).trans (h.block i hi hne)⟩
theorem Chg.setCells (h : Chg g a b) : ∀ (vs : List Value) (o : Nat), Chg g a (b.setCells g o vs) := by
  intro vs
  induction vs generalizing b with
  | nil => intro _; exact h
  | cons v r ih => intro o; exact ih (h.setCell o v) _
theorem Chg.below {B : Nat} (h : Below B a b) (k : Chg g b c) (hB : B ≤ b.heap.size) (hg : B ≤ g) : Below B a c := h.grown k hB (fun _ e => by injection e with e; omega)
theorem Chg.vars (h : Chg g w w') (hv : Vars w) (hg : 1 < g) : Vars w' := by
  have h1 := hv.1
  refine ⟨Nat.lt_of_lt_of_le h1 h.size, fun j hj => ?_, fun j hj => ?_⟩
  · exact (World.cell?_of_block (w := w) (h.block 1 h1 (by intro e; injection e; omega))).trans (hv.2.1 j hj)
  · exact (World.cell?_of_block (w := w) (h.block 0 (by omega) (by intro e; injection e; omega))).trans (hv.2.2 j hj)
theorem Chg.hash {o : Bool} {st : List Int} {bl : List UInt8} {n g' : Nat} (h : Chg g w w') (hh : HashAt w g' o st bl n) (hne : g' ≠ g) : HashAt w' g' o st bl n :=
  hh.of_heap (h.block g' hh.lt (by intro e; injection e; omega))
end
section
variable {w : World} {g : Nat} {o : Bool} {st st' : List Int} {bl : List UInt8} {n : Nat}
theorem HashAt.setState (h : HashAt w g o st bl n) (h8 : st'.length = 8) : HashAt (w.setCells g 1 (u64I st').toArray.toList) g o st' bl n := by
  obtain ⟨t0, t1, t2, t3, t4, t5, t6, t7, rfl⟩ : ∃ s0 s1 s2 s3 s4 s5 s6 s7, st' = [s0, s1, s2, s3, s4, s5, s6, s7] := by
    match st', h8 with
    | [s0, s1, s2, s3, s4, s5, s6, s7], _ => exact ⟨s0, s1, s2, s3, s4, s5, s6, s7, rfl⟩
  obtain ⟨s0, s1, s2, s3, s4, s5, s6, s7, rfl⟩ : ∃ s0 s1 s2 s3 s4 s5 s6 s7, st = [s0, s1, s2, s3, s4, s5, s6, s7] := by
    match st, h.s8 with
    | [s0, s1, s2, s3, s4, s5, s6, s7], _ => exact ⟨s0, s1, s2, s3, s4, s5, s6, s7, rfl⟩
  refine ⟨?_, rfl, h.b128⟩
  simp only [u64I, List.map_cons, List.map_nil, World.setCells]
  refine (heap_setCell_same _ _ _ _ _ _ (heap_setCell_same _ _ _ _ _ _ (heap_setCell_same _ _ _ _ _ _ (heap_setCell_same _ _ _ _ _ _ (heap_setCell_same _ _ _ _ _ _ (heap_setCell_same _ _ _ _ _ _ (heap_setCell_same _ _ _ _ _ _ (heap_setCell_same _ _ _ _ _ _ h.blk)))))))).trans ?_
  simp [hashL, u64I]
end

set_option maxRecDepth 100000 in
set_option maxHeartbeats 1600000 in
theorem mixBlock_u32 (g : Nat) (st : List Int) (bl : List UInt8) (n : Nat) (w : World) (h : HashAt w g false st bl n) (hv : Vars w) :
    Calls Tryd.prog 19 #[.pointer (some ⟨g, 0, none⟩)] w fun e w' => e = .returned (.tuple #[]) ∧ HashAt w' g false (mixI .u32 false st bl) bl n ∧ Chg g w w' := by
  obtain ⟨s0, s1, s2, s3, s4, s5, s6, s7, rfl⟩ := eight h.s8
  have hl8 : (mixI .u32 false [s0, s1, s2, s3, s4, s5, s6, s7] bl).length = 8 := by rw [mixI, sumR_length]; exact h.s8
  obtain ⟨Y, hY⟩ : ∃ Y, u64I (mixI .u32 false [s0, s1, s2, s3, s4, s5, s6, s7] bl) = Y := ⟨_, rfl⟩
  have hYl : Y.length = 8 := by rw [← hY, u64I_length]; exact hl8
  have hY1 : Y.toArray.all (·.oneCell') = true := by rw [← hY]; simp [u64I, Value.oneCell']
  have cm := fun (w' : World) (h' : HashAt w' g false [s0, s1, s2, s3, s4, s5, s6, s7] bl n) (hv' : Vars w') => mix_u32 g [s0, s1, s2, s3, s4, s5, s6, s7] bl n w' h' hv'
  rw [hY] at cm
  generalize mixI .u32 false [s0, s1, s2, s3, s4, s5, s6, s7] bl = M at hl8 hY ⊢
  have cs2 : (u64I [s0, s1, s2, s3, s4, s5, s6, s7]).toArray = #[.int .u64 s0, .int .u64 s1, .int .u64 s2, .int .u64 s3, .int .u64 s4, .int .u64 s5, .int .u64 s6, .int .u64 s7] := rfl
  rw [cs2, ruleC0] at cm
  have CM := Lib.hid cm
  have HY := Lib.hid hY
  have HYl := Lib.hid hYl
  have HM8 := Lib.hid hl8
  have HY1 := Lib.hid hY1
  have H := Lib.hid h
  have HV := Lib.hid hv
  clear cm hY hYl hY1 hl8 cs2
  have hk : w.cell? ⟨g, 0, none⟩ = some (.int .i64 0) := h.kind
  have hlt := h.lt
  clear h hv
  have ca := fun w => ruleOf_any false w
  rw [show kd false = 0 from rfl, ruleC0] at ca
  have CA := Lib.hid ca
  clear ca
  go_enter Tryd.func19, Tryd.ntmps19
  go_wp2_with (go_at_call 17; refine (CA.out _).mono ?_; rintro e w1 ⟨rfl, hb1⟩; have hk1 : w1.cell? ⟨g, 0, none⟩ = some (.int .i64 0) := (hb1.cell (p := ⟨g, 0, none⟩) hlt).trans hk; have hlt1 : g < w1.heap.size := Nat.lt_of_lt_of_le hlt hb1.size; replace hb1 := Lib.hid hb1)
  have hq : Below w.heap.size w (w1.alloc (.cells #[.int .i64 32, .int .i64 64, .int .u64 2, .int .u64 13, .int .u64 22, .int .u64 6, .int .u64 11, .int .u64 25, .int .u64 7, .int .u64 18, .int .u64 3, .int .u64 17, .int .u64 19, .int .u64 10] 53)) := hb1.out.alloc hb1.out.size _
  have hrule : (w1.alloc (.cells #[.int .i64 32, .int .i64 64, .int .u64 2, .int .u64 13, .int .u64 22, .int .u64 6, .int .u64 11, .int .u64 25, .int .u64 7, .int .u64 18, .int .u64 3, .int .u64 17, .int .u64 19, .int .u64 10] 53)).heap[w1.heap.size]? = some (.cells #[.int .i64 32, .int .i64 64, .int .u64 2, .int .u64 13, .int .u64 22, .int .u64 6, .int .u64 11, .int .u64 25, .int .u64 7, .int .u64 18, .int .u64 3, .int .u64 17, .int .u64 19, .int .u64 10] 53 (0, 0)) := heap_alloc_new w1 _
  have hgr : w1.heap.size < (w1.alloc (.cells #[.int .i64 32, .int .i64 64, .int .u64 2, .int .u64 13, .int .u64 22, .int .u64 6, .int .u64 11, .int .u64 25, .int .u64 7, .int .u64 18, .int .u64 3, .int .u64 17, .int .u64 19, .int .u64 10] 53)).heap.size := by simp
  generalize w1.alloc (.cells #[.int .i64 32, .int .i64 64, .int .u64 2, .int .u64 13, .int .u64 22, .int .u64 6, .int .u64 11, .int .u64 25, .int .u64 7, .int .u64 18, .int .u64 3, .int .u64 17, .int .u64 19, .int .u64 10] 53) = wq at hq hrule hgr ⊢
  have hgw : w.heap.size ≤ w1.heap.size := hb1.out.size
  clear hb1 hk1 hlt1
  generalize w1.heap.size = gr at hrule hgr hgw ⊢
  have hH : ∀ u : Held (From wq.drew), HashAt u.w g false [s0, s1, s2, s3, s4, s5, s6, s7] bl n := fun u => (H.out.from hq).below u.h.of_drew (Nat.lt_of_lt_of_le hlt hq.size)
  have hV : ∀ u : Held (From wq.drew), Vars u.w := fun u => (HV.out.from hq).from u.h.of_drew
  have r0 : ∀ u : Held (From wq.drew), u.w.cell? ⟨gr, 0, none⟩ = some (.int .i64 32) := fun u => by rw [cell_of_row _ _ _ _ _ _ ((u.h.of_drew.block gr hgr).trans hrule)]; rfl
  have r1 : ∀ u : Held (From wq.drew), u.w.cell? ⟨gr, 1, none⟩ = some (.int .i64 64) := fun u => by rw [cell_of_row _ _ _ _ _ _ ((u.h.of_drew.block gr hgr).trans hrule)]; rfl
  have r2 : ∀ u : Held (From wq.drew), u.w.cell? ⟨gr, 2, none⟩ = some (.int .u64 2) := fun u => by rw [cell_of_row _ _ _ _ _ _ ((u.h.of_drew.block gr hgr).trans hrule)]; rfl
  have r3 : ∀ u : Held (From wq.drew), u.w.cell? ⟨gr, 3, none⟩ = some (.int .u64 13) := fun u => by rw [cell_of_row _ _ _ _ _ _ ((u.h.of_drew.block gr hgr).trans hrule)]; rfl
  have r4 : ∀ u : Held (From wq.drew), u.w.cell? ⟨gr, 4, none⟩ = some (.int .u64 22) := fun u => by rw [cell_of_row _ _ _ _ _ _ ((u.h.of_drew.block gr hgr).trans hrule)]; rfl
  have r5 : ∀ u : Held (From wq.drew), u.w.cell? ⟨gr, 5, none⟩ = some (.int .u64 6) := fun u => by rw [cell_of_row _ _ _ _ _ _ ((u.h.of_drew.block gr hgr).trans hrule)]; rfl
  have r6 : ∀ u : Held (From wq.drew), u.w.cell? ⟨gr, 6, none⟩ = some (.int .u64 11) := fun u => by rw [cell_of_row _ _ _ _ _ _ ((u.h.of_drew.block gr hgr).trans hrule)]; rfl
  have r7 : ∀ u : Held (From wq.drew), u.w.cell? ⟨gr, 7, none⟩ = some (.int .u64 25) := fun u => by rw [cell_of_row _ _ _ _ _ _ ((u.h.of_drew.block gr hgr).trans hrule)]; rfl
  have r8 : ∀ u : Held (From wq.drew), u.w.cell? ⟨gr, 8, none⟩ = some (.int .u64 7) := fun u => by rw [cell_of_row _ _ _ _ _ _ ((u.h.of_drew.block gr hgr).trans hrule)]; rfl
  have r9 : ∀ u : Held (From wq.drew), u.w.cell? ⟨gr, 9, none⟩ = some (.int .u64 18) := fun u => by rw [cell_of_row _ _ _ _ _ _ ((u.h.of_drew.block gr hgr).trans hrule)]; rfl
  have r10 : ∀ u : Held (From wq.drew), u.w.cell? ⟨gr, 10, none⟩ = some (.int .u64 3) := fun u => by rw [cell_of_row _ _ _ _ _ _ ((u.h.of_drew.block gr hgr).trans hrule)]; rfl
  have r11 : ∀ u : Held (From wq.drew), u.w.cell? ⟨gr, 11, none⟩ = some (.int .u64 17) := fun u => by rw [cell_of_row _ _ _ _ _ _ ((u.h.of_drew.block gr hgr).trans hrule)]; rfl
  have r12 : ∀ u : Held (From wq.drew), u.w.cell? ⟨gr, 12, none⟩ = some (.int .u64 19) := fun u => by rw [cell_of_row _ _ _ _ _ _ ((u.h.of_drew.block gr hgr).trans hrule)]; rfl
  have r13 : ∀ u : Held (From wq.drew), u.w.cell? ⟨gr, 13, none⟩ = some (.int .u64 10) := fun u => by rw [cell_of_row _ _ _ _ _ _ ((u.h.of_drew.block gr hgr).trans hrule)]; rfl
  have q0 : ∀ u : Held (From wq.drew), u.w.cell? ⟨g, 1, none⟩ = some (.int .u64 s0) := fun u => (hH u).state 0 (by omega)
  have q1 : ∀ u : Held (From wq.drew), u.w.cell? ⟨g, 2, none⟩ = some (.int .u64 s1) := fun u => (hH u).state 1 (by omega)
  have q2 : ∀ u : Held (From wq.drew), u.w.cell? ⟨g, 3, none⟩ = some (.int .u64 s2) := fun u => (hH u).state 2 (by omega)
  have q3 : ∀ u : Held (From wq.drew), u.w.cell? ⟨g, 4, none⟩ = some (.int .u64 s3) := fun u => (hH u).state 3 (by omega)
  have q4 : ∀ u : Held (From wq.drew), u.w.cell? ⟨g, 5, none⟩ = some (.int .u64 s4) := fun u => (hH u).state 4 (by omega)
  have q5 : ∀ u : Held (From wq.drew), u.w.cell? ⟨g, 6, none⟩ = some (.int .u64 s5) := fun u => (hH u).state 5 (by omega)
  have q6 : ∀ u : Held (From wq.drew), u.w.cell? ⟨g, 7, none⟩ = some (.int .u64 s6) := fun u => (hH u).state 6 (by omega)
  have q7 : ∀ u : Held (From wq.drew), u.w.cell? ⟨g, 8, none⟩ = some (.int .u64 s7) := fun u => (hH u).state 7 (by omega)
  replace hH := Lib.hid hH
  replace hV := Lib.hid hV
  replace hq := Lib.hid hq
  replace hrule := Lib.hid hrule
  refine wp_region_from_tail 12 (by kernel_rfl) (by kernel_rfl) ?_
  simp only [List.take_succ_cons, List.take_zero, List.drop_succ_cons, List.drop_zero]
  repeat (go_big_quiet_step ((go_at_call 26; exact held_call _ (CM.out _ (hH.out _) (hV.out _)))))
  refine wpQuiet_nil ?_
  intro w5 hw5
  have H5 := (H.out.from hq.out).below hw5.of_drew (Nat.lt_of_lt_of_le hlt hq.out.size)
  have hb5 := hq.out.trans (hw5.of_drew.mono hq.out.size)
  have ht : w5.there g 1 8 := fun j hj => ⟨by rw [H5.state j hj]; rfl, H5.frozen _⟩
  clear r0 r1 r2 r3 r4 r5 r6 r7 r8 r9 r10 r11 r12 r13 q0 q1 q2 q3 q4 q5 q6 q7 hH hV
  replace H5 := Lib.hid H5
  replace hb5 := Lib.hid hb5
  replace ht := Lib.hid ht
  go_wp2_with (refine wpList_store_mid rfl 47 (.tmp 24) (.tmp 22) rfl g 1 Y.toArray rfl rfl ?_ ?_ HY1.out ?_; (rw [List.size_toArray, HYl.out]; exact ht.out); (rw [infoS, List.size_toArray, HYl.out]))
  go_end0
  refine ⟨rfl, ?_, ?_⟩
  · rw [← HY.out]; exact H5.out.setState HM8.out
  · exact Chg.setCells (Chg.of_below hb5.out) _ _

set_option maxRecDepth 100000 in
set_option maxHeartbeats 1600000 in
theorem mixBlock_u64 (g : Nat) (st : List Int) (bl : List UInt8) (n : Nat) (w : World) (h : HashAt w g true st bl n) (hv : Vars w) :
    Calls Tryd.prog 19 #[.pointer (some ⟨g, 0, none⟩)] w fun e w' => e = .returned (.tuple #[]) ∧ HashAt w' g true (mixI .u64 true st bl) bl n ∧ Chg g w w' := by
  obtain ⟨s0, s1, s2, s3, s4, s5, s6, s7, rfl⟩ := eight h.s8
  have hl8 : (mixI .u64 true [s0, s1, s2, s3, s4, s5, s6, s7] bl).length = 8 := by rw [mixI, sumR_length]; exact h.s8
  obtain ⟨Y, hY⟩ : ∃ Y, u64I (mixI .u64 true [s0, s1, s2, s3, s4, s5, s6, s7] bl) = Y := ⟨_, rfl⟩
  have hYl : Y.length = 8 := by rw [← hY, u64I_length]; exact hl8
  have hY1 : Y.toArray.all (·.oneCell') = true := by rw [← hY]; simp [u64I, Value.oneCell']
  have cm := fun (w' : World) (h' : HashAt w' g true [s0, s1, s2, s3, s4, s5, s6, s7] bl n) (hv' : Vars w') => mix_u64 g [s0, s1, s2, s3, s4, s5, s6, s7] bl n w' h' hv'
  rw [hY] at cm
  generalize mixI .u64 true [s0, s1, s2, s3, s4, s5, s6, s7] bl = M at hl8 hY ⊢
  have cs2 : (u64I [s0, s1, s2, s3, s4, s5, s6, s7]).toArray = #[.int .u64 s0, .int .u64 s1, .int .u64 s2, .int .u64 s3, .int .u64 s4, .int .u64 s5, .int .u64 s6, .int .u64 s7] := rfl
  rw [cs2, ruleC1] at cm
  have CM := Lib.hid cm
  have HY := Lib.hid hY
  have HYl := Lib.hid hYl
  have HM8 := Lib.hid hl8
  have HY1 := Lib.hid hY1
  have H := Lib.hid h
  have HV := Lib.hid hv
  clear cm hY hYl hY1 hl8 cs2
  have hk : w.cell? ⟨g, 0, none⟩ = some (.int .i64 1) := h.kind
  have hlt := h.lt
  clear h hv
  have ca := fun w => ruleOf_any true w
  rw [show kd true = 1 from rfl, ruleC1] at ca
  have CA := Lib.hid ca
  clear ca
  go_enter Tryd.func19, Tryd.ntmps19
  go_wp2_with (go_at_call 17; refine (CA.out _).mono ?_; rintro e w1 ⟨rfl, hb1⟩; have hk1 : w1.cell? ⟨g, 0, none⟩ = some (.int .i64 1) := (hb1.cell (p := ⟨g, 0, none⟩) hlt).trans hk; have hlt1 : g < w1.heap.size := Nat.lt_of_lt_of_le hlt hb1.size; replace hb1 := Lib.hid hb1)
  have hq : Below w.heap.size w (w1.alloc (.cells #[.int .i64 64, .int .i64 80, .int .u64 28, .int .u64 34, .int .u64 39, .int .u64 14, .int .u64 18, .int .u64 41, .int .u64 1, .int .u64 8, .int .u64 7, .int .u64 19, .int .u64 61, .int .u64 6] 53)) := hb1.out.alloc hb1.out.size _
  have hrule : (w1.alloc (.cells #[.int .i64 64, .int .i64 80, .int .u64 28, .int .u64 34, .int .u64 39, .int .u64 14, .int .u64 18, .int .u64 41, .int .u64 1, .int .u64 8, .int .u64 7, .int .u64 19, .int .u64 61, .int .u64 6] 53)).heap[w1.heap.size]? = some (.cells #[.int .i64 64, .int .i64 80, .int .u64 28, .int .u64 34, .int .u64 39, .int .u64 14, .int .u64 18, .int .u64 41, .int .u64 1, .int .u64 8, .int .u64 7, .int .u64 19, .int .u64 61, .int .u64 6] 53 (0, 0)) := heap_alloc_new w1 _
  have hgr : w1.heap.size < (w1.alloc (.cells #[.int .i64 64, .int .i64 80, .int .u64 28, .int .u64 34, .int .u64 39, .int .u64 14, .int .u64 18, .int .u64 41, .int .u64 1, .int .u64 8, .int .u64 7, .int .u64 19, .int .u64 61, .int .u64 6] 53)).heap.size := by simp
  generalize w1.alloc (.cells #[.int .i64 64, .int .i64 80, .int .u64 28, .int .u64 34, .int .u64 39, .int .u64 14, .int .u64 18, .int .u64 41, .int .u64 1, .int .u64 8, .int .u64 7, .int .u64 19, .int .u64 61, .int .u64 6] 53) = wq at hq hrule hgr ⊢
  have hgw : w.heap.size ≤ w1.heap.size := hb1.out.size
  clear hb1 hk1 hlt1
  generalize w1.heap.size = gr at hrule hgr hgw ⊢
  have hH : ∀ u : Held (From wq.drew), HashAt u.w g true [s0, s1, s2, s3, s4, s5, s6, s7] bl n := fun u => (H.out.from hq).below u.h.of_drew (Nat.lt_of_lt_of_le hlt hq.size)
  have hV : ∀ u : Held (From wq.drew), Vars u.w := fun u => (HV.out.from hq).from u.h.of_drew
  have r0 : ∀ u : Held (From wq.drew), u.w.cell? ⟨gr, 0, none⟩ = some (.int .i64 64) := fun u => by rw [cell_of_row _ _ _ _ _ _ ((u.h.of_drew.block gr hgr).trans hrule)]; rfl
  have r1 : ∀ u : Held (From wq.drew), u.w.cell? ⟨gr, 1, none⟩ = some (.int .i64 80) := fun u => by rw [cell_of_row _ _ _ _ _ _ ((u.h.of_drew.block gr hgr).trans hrule)]; rfl
  have r2 : ∀ u : Held (From wq.drew), u.w.cell? ⟨gr, 2, none⟩ = some (.int .u64 28) := fun u => by rw [cell_of_row _ _ _ _ _ _ ((u.h.of_drew.block gr hgr).trans hrule)]; rfl
  have r3 : ∀ u : Held (From wq.drew), u.w.cell? ⟨gr, 3, none⟩ = some (.int .u64 34) := fun u => by rw [cell_of_row _ _ _ _ _ _ ((u.h.of_drew.block gr hgr).trans hrule)]; rfl
  have r4 : ∀ u : Held (From wq.drew), u.w.cell? ⟨gr, 4, none⟩ = some (.int .u64 39) := fun u => by rw [cell_of_row _ _ _ _ _ _ ((u.h.of_drew.block gr hgr).trans hrule)]; rfl
  have r5 : ∀ u : Held (From wq.drew), u.w.cell? ⟨gr, 5, none⟩ = some (.int .u64 14) := fun u => by rw [cell_of_row _ _ _ _ _ _ ((u.h.of_drew.block gr hgr).trans hrule)]; rfl
  have r6 : ∀ u : Held (From wq.drew), u.w.cell? ⟨gr, 6, none⟩ = some (.int .u64 18) := fun u => by rw [cell_of_row _ _ _ _ _ _ ((u.h.of_drew.block gr hgr).trans hrule)]; rfl
  have r7 : ∀ u : Held (From wq.drew), u.w.cell? ⟨gr, 7, none⟩ = some (.int .u64 41) := fun u => by rw [cell_of_row _ _ _ _ _ _ ((u.h.of_drew.block gr hgr).trans hrule)]; rfl
  have r8 : ∀ u : Held (From wq.drew), u.w.cell? ⟨gr, 8, none⟩ = some (.int .u64 1) := fun u => by rw [cell_of_row _ _ _ _ _ _ ((u.h.of_drew.block gr hgr).trans hrule)]; rfl
  have r9 : ∀ u : Held (From wq.drew), u.w.cell? ⟨gr, 9, none⟩ = some (.int .u64 8) := fun u => by rw [cell_of_row _ _ _ _ _ _ ((u.h.of_drew.block gr hgr).trans hrule)]; rfl
  have r10 : ∀ u : Held (From wq.drew), u.w.cell? ⟨gr, 10, none⟩ = some (.int .u64 7) := fun u => by rw [cell_of_row _ _ _ _ _ _ ((u.h.of_drew.block gr hgr).trans hrule)]; rfl
  have r11 : ∀ u : Held (From wq.drew), u.w.cell? ⟨gr, 11, none⟩ = some (.int .u64 19) := fun u => by rw [cell_of_row _ _ _ _ _ _ ((u.h.of_drew.block gr hgr).trans hrule)]; rfl
  have r12 : ∀ u : Held (From wq.drew), u.w.cell? ⟨gr, 12, none⟩ = some (.int .u64 61) := fun u => by rw [cell_of_row _ _ _ _ _ _ ((u.h.of_drew.block gr hgr).trans hrule)]; rfl
  have r13 : ∀ u : Held (From wq.drew), u.w.cell? ⟨gr, 13, none⟩ = some (.int .u64 6) := fun u => by rw [cell_of_row _ _ _ _ _ _ ((u.h.of_drew.block gr hgr).trans hrule)]; rfl
  have q0 : ∀ u : Held (From wq.drew), u.w.cell? ⟨g, 1, none⟩ = some (.int .u64 s0) := fun u => (hH u).state 0 (by omega)
  have q1 : ∀ u : Held (From wq.drew), u.w.cell? ⟨g, 2, none⟩ = some (.int .u64 s1) := fun u => (hH u).state 1 (by omega)
  have q2 : ∀ u : Held (From wq.drew), u.w.cell? ⟨g, 3, none⟩ = some (.int .u64 s2) := fun u => (hH u).state 2 (by omega)
  have q3 : ∀ u : Held (From wq.drew), u.w.cell? ⟨g, 4, none⟩ = some (.int .u64 s3) := fun u => (hH u).state 3 (by omega)
  have q4 : ∀ u : Held (From wq.drew), u.w.cell? ⟨g, 5, none⟩ = some (.int .u64 s4) := fun u => (hH u).state 4 (by omega)
  have q5 : ∀ u : Held (From wq.drew), u.w.cell? ⟨g, 6, none⟩ = some (.int .u64 s5) := fun u => (hH u).state 5 (by omega)
  have q6 : ∀ u : Held (From wq.drew), u.w.cell? ⟨g, 7, none⟩ = some (.int .u64 s6) := fun u => (hH u).state 6 (by omega)
  have q7 : ∀ u : Held (From wq.drew), u.w.cell? ⟨g, 8, none⟩ = some (.int .u64 s7) := fun u => (hH u).state 7 (by omega)
  replace hH := Lib.hid hH
  replace hV := Lib.hid hV
  replace hq := Lib.hid hq
  replace hrule := Lib.hid hrule
  refine wp_region_from_tail 12 (by kernel_rfl) (by kernel_rfl) ?_
  simp only [List.take_succ_cons, List.take_zero, List.drop_succ_cons, List.drop_zero]
  repeat (go_big_quiet_step ((go_at_call 27; exact held_call _ (CM.out _ (hH.out _) (hV.out _)))))
  refine wpQuiet_nil ?_
  intro w5 hw5
  have H5 := (H.out.from hq.out).below hw5.of_drew (Nat.lt_of_lt_of_le hlt hq.out.size)
  have hb5 := hq.out.trans (hw5.of_drew.mono hq.out.size)
  have ht : w5.there g 1 8 := fun j hj => ⟨by rw [H5.state j hj]; rfl, H5.frozen _⟩
  clear r0 r1 r2 r3 r4 r5 r6 r7 r8 r9 r10 r11 r12 r13 q0 q1 q2 q3 q4 q5 q6 q7 hH hV
  replace H5 := Lib.hid H5
  replace hb5 := Lib.hid hb5
  replace ht := Lib.hid ht
  go_wp2_with (refine wpList_store_mid rfl 47 (.tmp 36) (.tmp 34) rfl g 1 Y.toArray rfl rfl ?_ ?_ HY1.out ?_; (rw [List.size_toArray, HYl.out]; exact ht.out); (rw [infoS, List.size_toArray, HYl.out]))
  go_end0
  refine ⟨rfl, ?_, ?_⟩
  · rw [← HY.out]; exact H5.out.setState HM8.out
  · exact Chg.setCells (Chg.of_below hb5.out) _ _
end Go.Proofs.YtbkaemekcjinaaaDoor
