/- Arrays of numbers in a block: rows that are read and written place by place. -/
import Derived.Test.YtbkaemekcjinaaaDoorKitB
import Derived.Test.YtbkaemekcjinaaaDoorSway
import Derived.Deep.WholeRow
import Derived.Laws.CopyOwn
import Derived.Laws.Tables
namespace Go.Proofs.YtbkaemekcjinaaaDoor
open Go.RowKit Go.Lib
def numC (k : IntKind) (l : List Nat) : List Value := l.map fun (x : Nat) => .int k (x : Int)
theorem numC_length (k : IntKind) (l : List Nat) : (numC k l).length = l.length := by simp [numC]
theorem numC_one (k : IntKind) (l : List Nat) : (numC k l).toArray.all (·.oneCell') = true := by simp [numC, Value.oneCell']
/-- An array of numbers as a value. -/
def aggN (k : IntKind) (l : List Nat) : Value := .agg (numC k l).toArray
/-- An array of numbers in block g. -/
structure Arr (w : World) (g : Nat) (t : TypeId) (k : IntKind) (l : List Nat) : Prop where
  blk : w.heap[g]? = some (.cells (numC k l).toArray t (0, 0))
section
variable {w w' : World} {g : Nat} {t : TypeId} {k : IntKind} {l : List Nat}
theorem Arr.lt (h : Arr w g t k l) : g < w.heap.size := (Array.getElem?_eq_some_iff.1 h.blk).1
theorem Arr.cell (h : Arr w g t k l) (i : Nat) (hi : i < l.length) : w.cell? ⟨g, i, none⟩ = some (.int k (l.getD i 0 : Nat)) := by
  rw [cell_of_row w g _ _ _ _ h.blk, List.getElem?_toArray]
  simp [numC, hi]
theorem Arr.frozen (h : Arr w g t k l) (i : Nat) : w.frozen? ⟨g, i, none⟩ = false := frozen_of_row w g i _ _ h.blk
theorem Arr.of_heap (h : Arr w g t k l) (e : w'.heap[g]? = w.heap[g]?) : Arr w' g t k l := ⟨e.trans h.blk⟩
theorem Arr.below {B : Nat} (h : Arr w g t k l) (hb : Below B w w') (hg : g < B) : Arr w' g t k l := h.of_heap (hb.block g hg)
theorem Arr.from (h : Arr w g t k l) (hb : Below w.heap.size w w') : Arr w' g t k l := h.below hb h.lt
theorem Arr.set (h : Arr w g t k l) (i x : Nat) : Arr (w.setCell ⟨g, i, none⟩ (.int k (x : Int))) g t k (l.set i x) := by
  refine ⟨(heap_setCell_same _ _ _ _ _ _ h.blk).trans ?_⟩
  rw [List.setIfInBounds_toArray]
  simp [numC, List.map_set]
theorem Arr.other (h : Arr w g t k l) {g' : Nat} (hne : g ≠ g') (i : Nat) (v : Value) : Arr (w.setCell ⟨g', i, none⟩ v) g t k l :=
  h.of_heap (Below.heap_setCell w ⟨g', i, none⟩ v g hne)
theorem Arr.new (w : World) (t : TypeId) (k : IntKind) (l : List Nat) : Arr (w.alloc (.cells (numC k l).toArray t)) w.heap.size t k l := ⟨heap_alloc_new w _⟩
theorem Arr.drewN (h : Arr w g t k l) (n : Nat) : Arr (w.drewN n) g t k l := ⟨h.blk⟩
end
theorem set_midS (d r : List Nat) (x y : Nat) : (d ++ x :: r).set d.length y = (d ++ [y]) ++ r := by simp
theorem val_eq {k : IntKind} {a b : Int} (h : a = b) : Value.int k a = .int k b := by rw [h]
end Go.Proofs.YtbkaemekcjinaaaDoor
