/- Arrays of numbers in a block: rows that are read and written place by place. -/
import Derived.Test.YthlkpdfdbdfbjaaKitB
import Derived.Test.YthlkpdfdbdfbjaaSway
import Derived.Deep.WholeRow
import Derived.Laws.CopyOwn
import Derived.Laws.Tables
namespace Go.Proofs.Ythlkpdfdbdfbjaa
open Go.RowKit Go.Lib
def numC (k : IntKind) (l : List Nat) : List Value := l.map fun (x : Nat) => .int k (x : Int)
theorem numC_length (k : IntKind) (l : List Nat) : (numC k l).length = l.length := by simp [numC]
theorem numC_one (k : IntKind) (l : List Nat) : (numC k l).toArray.all (·.oneCell') = true := by simp [numC, Value.oneCell']
/-- An array of numbers as a value. -/
def aggN (k : IntKind) (l : List Nat) : Value := .agg (numC k l).toArray
/-- An array of numbers in block g. -/
structure Arr (w : World) (g : Nat) (t : TypeId) (k : IntKind) (l : List Nat) : Prop where
  blk : w.heap[g]? = some (.cells (numC k l).toArray t (0, 0))
section
variable {w w' : World} {g : Nat} {t : TypeId} {k : IntKind} {l : List Nat}
theorem Arr.lt (h : Arr w g t k l) : g < w.heap.size := (Array.getElem?_eq_some_iff.1 h.blk).1
theorem Arr.cell (h : Arr w g t k l) (i : Nat) (hi : i < l.length) : w.cell? ⟨g, i, none⟩ = some (.int k (l.getD i 0 : Nat)) := by
  rw [cell_of_row w g _ _ _ _ h.blk, List.getElem?_toArray]
  simp [numC, hi]
theorem Arr.frozen (h : Arr w g t k l) (i : Nat) : w.frozen? ⟨g, i, none⟩ = false := frozen_of_row w g i _ _ h.blk
theorem Arr.of_heap (h : Arr w g t k l) (e : w'.heap[g]? = w.heap[g]?) : Arr w' g t k l := ⟨e.trans h.blk⟩
theorem Arr.below {B : Nat} (h : Arr w g t k l) (hb : Below B w w') (hg : g < B) : Arr w' g t k l := h.of_heap (hb.block g hg)
theorem Arr.from (h : Arr w g t k l) (hb : Below w.heap.size w w') : Arr w' g t k l := h.below hb h.lt
theorem Arr.set (h : Arr w g t k l) (i x : Nat) : Arr (w.setCell ⟨g, i, none⟩ (.int k (x : Int))) g t k (l.set i x) := by
  refine ⟨(heap_setCell_same _ _ _ _ _ _ h.blk).trans ?_⟩
  rw [List.setIfInBounds_toArray]
  simp [numC, List.map_set]
theorem Arr.other (h : Arr w g t k l) {g' : Nat} (hne : g ≠ g') (i : Nat) (v : Value) : Arr (w.setCell ⟨g', i, none⟩ v) g t k l :=
  h.of_heap (Below.heap_setCell w ⟨g', i, none⟩ v g hne)
theorem Arr.new (w : World) (t : TypeId) (k : IntKind) (l : List Nat) : Arr (w.alloc (.cells (numC k l).toArray t)) w.heap.size t k l := ⟨heap_alloc_new w _⟩
theorem Arr.drewN (h : Arr w g t k l) (n : Nat) : Arr (w.drewN n) g t k l := ⟨h.blk⟩
end
theorem below_drewN {B : Nat} {w w' : World} (h : Below B w w') : ∀ (n : Nat), Below B w (w'.drewN n)
  | 0 => h
  | n + 1 => (below_drewN h n).drew
theorem set_mid (d r : List Nat) (x y : Nat) : (d ++ x :: r).set d.length y = (d ++ [y]) ++ r := by simp
theorem drop_getD (l : List Nat) (i : Nat) (h : i < l.length) : l.drop i = l.getD i 0 :: l.drop (i + 1) := by
  rw [List.drop_eq_getElem_cons h]; simp [h]
theorem Arr.step {w : World} {g i : Nat} {t : TypeId} {k : IntKind} {d r r' : List Nat} {x : Nat} (h : Arr w g t k (d ++ r)) (hr : r = x :: r') (hd : d.length = i) {v : Int} (y : Nat) (hv : v = (y : Int)) :
    Arr (w.setCell ⟨g, i, none⟩ (.int k v)) g t k ((d ++ [y]) ++ r') := by
  have h2 := h.set i y
  rw [hr, ← hd, set_mid] at h2
  rw [hv, ← hd]
  exact h2
theorem Arr.cellMid {w : World} {g i : Nat} {t : TypeId} {k : IntKind} {d r r' : List Nat} {x : Nat} (h : Arr w g t k (d ++ r)) (hr : r = x :: r') (hd : d.length = i) : w.cell? ⟨g, i, none⟩ = some (.int k (x : Int)) := by
  rw [hr] at h
  have h2 := h.cell i (by rw [← hd]; simp)
  rw [h2]
  have : (d ++ x :: r').getD i 0 = x := by rw [← hd]; simp
  rw [this]
theorem val_eq {k : IntKind} {a b : Int} (h : a = b) : Value.int k a = .int k b := by rw [h]
theorem getD_ltN {l : List Nat} {B : Nat} (h : ∀ x ∈ l, x < B) (i : Nat) (hi : i < l.length) : l.getD i 0 < B := by
  refine h _ ?_
  rw [List.getD_eq_getElem?_getD, List.getElem?_eq_getElem hi]
  simp
/-- The value of limbs, the lowest first. -/
def valB (B : Nat) : List Nat → Nat
  | [] => 0
  | x :: r => x + B * valB B r
/-- The k lowest limbs of a number. -/
def limbs (B : Nat) : Nat → Nat → List Nat
  | 0, _ => []
  | k + 1, x => x % B :: limbs B k (x / B)
theorem limbs_len (B : Nat) : ∀ (k x : Nat), (limbs B k x).length = k
  | 0, _ => rfl
  | k + 1, x => by rw [limbs, List.length_cons, limbs_len B k]
theorem limbs_lt {B : Nat} (hB : 0 < B) : ∀ (k x : Nat), ∀ y ∈ limbs B k x, y < B
  | 0, _, y, h => by simp [limbs] at h
  | k + 1, x, y, h => by
    rw [limbs, List.mem_cons] at h
    rcases h with rfl | h
    · exact Nat.mod_lt _ hB
    · exact limbs_lt hB k _ y h
theorem limbs_val {B : Nat} (hB : 0 < B) : ∀ (l : List Nat), (∀ x ∈ l, x < B) → limbs B l.length (valB B l) = l
  | [], _ => rfl
  | x :: r, h => by
    have hx := h x (by simp)
    rw [List.length_cons, limbs, valB, Nat.add_mul_mod_self_left, Nat.mod_eq_of_lt hx, Nat.add_mul_div_left _ _ hB, Nat.div_eq_of_lt hx, Nat.zero_add, limbs_val hB r fun y hy => h y (by simp [hy])]
theorem val_limbs {B : Nat} : ∀ (k x : Nat), valB B (limbs B k x) = x % B ^ k
  | 0, x => by rw [Nat.pow_zero, Nat.mod_one]; rfl
  | k + 1, x => by rw [limbs, valB, val_limbs k, Nat.pow_succ, Nat.mul_comm (B ^ k) B, Nat.mod_mul]
theorem valB_lt {B : Nat} (hB : 0 < B) : ∀ (l : List Nat), (∀ x ∈ l, x < B) → valB B l < B ^ l.length
  | [], _ => by simp [valB]
  | x :: r, h => by
    have hx := h x (by simp)
    have ih := valB_lt hB r fun y hy => h y (by simp [hy])
    rw [valB, List.length_cons, Nat.pow_succ, Nat.mul_comm _ B]
    have : B * (valB B r + 1) ≤ B * B ^ r.length := Nat.mul_le_mul_left B ih
    rw [Nat.mul_add] at this
    omega
theorem limbs_eq {B : Nat} (hB : 0 < B) (l : List Nat) (k n : Nat) (hk : l.length = k) (h : ∀ x ∈ l, x < B) (hv : valB B l = n) : l = limbs B k n := by
  subst hk; subst hv; exact (limbs_val hB l h).symm
end Go.Proofs.Ythlkpdfdbdfbjaa
