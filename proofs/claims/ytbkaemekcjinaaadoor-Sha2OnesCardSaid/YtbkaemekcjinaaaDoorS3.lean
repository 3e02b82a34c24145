/- Walks of package sha2: a hash's cells; Size, Clone. -/
import Derived.Test.YtbkaemekcjinaaaDoorS2
namespace Go.Proofs.YtbkaemekcjinaaaDoor
open Go.RowKit Go.Lib
def u64I (l : List Int) : List Value := l.map (Value.int .u64)
theorem u64I_length (l : List Int) : (u64I l).length = l.length := by simp [u64I]
def hashL (o : Bool) (st : List Int) (bl : List UInt8) (n : Nat) : List Value := .int .i64 (kd o) :: (u64I st ++ (byteCells bl ++ [.int .i64 n]))
/-- A hash in a block: its kind, its state, its block's bytes, how many bytes there were. -/
structure HashAt (w : World) (g : Nat) (o : Bool) (st : List Int) (bl : List UInt8) (n : Nat) : Prop where
  blk : w.heap[g]? = some (.cells (hashL o st bl n).toArray 50 (0, 0))
  s8 : st.length = 8
  b128 : bl.length = 128
section
variable {w w' : World} {g : Nat} {o : Bool} {st : List Int} {bl : List UInt8} {n : Nat}
theorem hashL_length (h8 : st.length = 8) (h128 : bl.length = 128) : (hashL o st bl n).length = 138 := by
  simp [hashL, u64I, byteCells_length, h8, h128]
theorem hashL_st (h8 : st.length = 8) (j : Nat) (hj : j < 8) : (hashL o st bl n)[1 + j]? = some (.int .u64 (st.getD j 0)) := by
  rw [Nat.add_comm, hashL, List.getElem?_cons_succ, List.getElem?_append_left (by rw [u64I_length]; omega)]
  simp [u64I, h8, hj]
theorem hashL_bl (h8 : st.length = 8) (h128 : bl.length = 128) (j : Nat) (hj : j < 128) : (hashL o st bl n)[9 + j]? = some (.int .u8 ((bl.getD j 0).toNat : Nat)) := by
  rw [show 9 + j = (8 + j) + 1 by omega, hashL, List.getElem?_cons_succ, List.getElem?_append_right (by rw [u64I_length]; omega), u64I_length, h8, Nat.add_sub_cancel_left,
    List.getElem?_append_left (by rw [byteCells_length]; omega)]
  simp [byteCells, h128, hj]
theorem hashL_n (h8 : st.length = 8) (h128 : bl.length = 128) : (hashL o st bl n)[137]? = some (.int .i64 n) := by
  rw [hashL, List.getElem?_cons_succ, List.getElem?_append_right (by rw [u64I_length]; omega), u64I_length, h8,
    List.getElem?_append_right (by rw [byteCells_length]; omega), byteCells_length, h128]
  rfl
theorem HashAt.lt (h : HashAt w g o st bl n) : g < w.heap.size := (Array.getElem?_eq_some_iff.1 h.blk).1
theorem HashAt.kind (h : HashAt w g o st bl n) : w.cell? ⟨g, 0, none⟩ = some (.int .i64 (kd o)) := by
  rw [cell_of_row w g _ _ _ _ h.blk]; rfl
theorem HashAt.count (h : HashAt w g o st bl n) : w.cell? ⟨g, 137, none⟩ = some (.int .i64 n) := by
  rw [cell_of_row w g _ _ _ _ h.blk, List.getElem?_toArray]; exact hashL_n h.s8 h.b128
theorem HashAt.state (h : HashAt w g o st bl n) (j : Nat) (hj : j < 8) : w.cell? ⟨g, 1 + j, none⟩ = some (.int .u64 (st.getD j 0)) := by
  rw [cell_of_row w g _ _ _ _ h.blk, List.getElem?_toArray]; exact hashL_st h.s8 j hj
theorem HashAt.byte (h : HashAt w g o st bl n) (j : Nat) (hj : j < 128) : w.cell? ⟨g, 9 + j, none⟩ = some (.int .u8 ((bl.getD j 0).toNat : Nat)) := by
  rw [cell_of_row w g _ _ _ _ h.blk, List.getElem?_toArray]; exact hashL_bl h.s8 h.b128 j hj
theorem HashAt.frozen (h : HashAt w g o st bl n) (j : Nat) : w.frozen? ⟨g, j, none⟩ = false := frozen_of_row w g j _ _ h.blk
theorem HashAt.of_heap (h : HashAt w g o st bl n) (e : w'.heap[g]? = w.heap[g]?) : HashAt w' g o st bl n := ⟨e.trans h.blk, h.s8, h.b128⟩
theorem HashAt.below {B : Nat} (h : HashAt w g o st bl n) (hb : Below B w w') (hg : g < B) : HashAt w' g o st bl n := h.of_heap (hb.block g hg)
theorem HashAt.from (h : HashAt w g o st bl n) (hb : Below w.heap.size w w') : HashAt w' g o st bl n := h.below hb h.lt
end
theorem info50 : (Tryd.prog.info? 50).map (·.size) = some 138 := by kernel_rfl
theorem zero50 : ∃ Z : Array Value, Z.size = 138 ∧ ∀ w, (zeroValue 50).run Tryd.prog w = .ok (.agg Z) w :=
  ⟨(.int .i64 0 :: (u64I (List.replicate 8 0) ++ (byteCells (List.replicate 128 0) ++ [.int .i64 0]))).toArray, by kernel_rfl, (zero_of_info (n := 138) (by kernel_rfl)).1⟩
theorem size_any (g : Nat) (o : Bool) (st : List Int) (bl : List UInt8) (n : Nat) (w : World) (h : HashAt w g o st bl n) :
    Calls Tryd.prog 14 #[.pointer (some ⟨g, 0, none⟩)] w fun e w' => e = .returned (.int .i64 n) ∧ w = w' := by
  have hc := h.count
  clear h
  go_enter Tryd.func14, Tryd.ntmps14
  go_wp2
  go_ret
  exact ⟨rfl, rfl⟩
def ClonePost (o : Bool) (st : List Int) (bl : List UInt8) (n : Nat) (w : World) (e : Ending) (w' : World) : Prop :=
  ∃ g', w.heap.size ≤ g' ∧ e = .returned (.pointer (some ⟨g', 0, none⟩)) ∧ HashAt w' g' o st bl n ∧ Below w.heap.size w w'
theorem clone_any (g : Nat) (o : Bool) (st : List Int) (bl : List UInt8) (n : Nat) (w : World) (h : HashAt w g o st bl n) :
    Calls Tryd.prog 11 #[.pointer (some ⟨g, 0, none⟩)] w (ClonePost o st bl n w) := by
  have hc := h.kind
  have hl := hashL_length (o := o) (n := n) h.s8 h.b128
  have hb := h.blk
  have h8 := Lib.hid h.s8
  have h128 := Lib.hid h.b128
  clear h
  generalize hX : hashL o st bl n = X at hl hb
  have H1 := Lib.hid hl
  have H2 := Lib.hid hb
  have H3 := Lib.hid hX
  have h1 : X.toArray.all (·.oneCell') = true := by
    rw [← hX]
    simp [hashL, u64I, byteCells, Value.oneCell']
  have H4 := Lib.hid h1
  clear hl hb hX h1
  obtain ⟨Z, hZ, hz⟩ := zero50
  have Hz := Lib.hid hZ
  clear hZ
  go_enter Tryd.func11, Tryd.ntmps11
  go_wp2_with (first
    | (refine wpList_load_row rfl 50 (.tmp 5) rfl g rfl 50 X.toArray (0, 0) _ H2.out Tryd.underlying50 rfl ?_ ?_; (rw [info50, List.size_toArray, H1.out]))
    | (refine wpList_store_row rfl 50 (.tmp 3) (.tmp 6) rfl w.heap.size X.toArray rfl rfl 50 Z (heap_alloc_new w _) ?_ ?_ H4.out ?_; (rw [info50, List.size_toArray, H1.out]); (rw [Hz.out, List.size_toArray, H1.out])))
  rw [World.setRow_alloc_new]
  go_ret
  exact ⟨w.heap.size, Nat.le_refl _, rfl, ⟨by rw [H3.out]; exact heap_alloc_new w _, h8.out, h128.out⟩, (Below.refl _ _).alloc (Nat.le_refl _) _⟩
end Go.Proofs.YtbkaemekcjinaaaDoor
