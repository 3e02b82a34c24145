/- Walks of the document's answer for package sha2: a block. -/
import Derived.Test.YtbkaemekcjinaaaDoorH7
import Derived.Test.YtbkaemekcjinaaaDoorSwayP
import Derived.Test.YtbkaemekcjinaaaDoorG0
namespace Go.Proofs.YtbkaemekcjinaaaDoor
open Go.RowKit Go.Lib
def cD (o : Bool) (x : Nat) : Nat := if o = true then twoN o x 19 61 6 else twoN o x 17 19 10
def cC (o : Bool) (x : Nat) : Nat := if o = true then twoN o x 1 8 7 else twoN o x 7 18 3
def cA (o : Bool) (x : Nat) : Nat := if o = true then threeN o x 28 34 39 else threeN o x 2 13 22
def cB (o : Bool) (x : Nat) : Nat := if o = true then threeN o x 14 18 41 else threeN o x 6 11 25
def nextW (o : Bool) (l : List Nat) : Nat := wordN o (((((cD o (l.getD (l.length - 2) 0) + l.getD (l.length - 7) 0) % 18446744073709551616) + cC o (l.getD (l.length - 15) 0)) % 18446744073709551616 + l.getD (l.length - 16) 0) % 18446744073709551616)
def schN (o : Bool) : Nat → List Nat → List Nat
  | 0, l => l
  | k + 1, l => schN o k (l ++ [nextW o l])
theorem schN_len (o : Bool) : ∀ (k : Nat) (l : List Nat), (schN o k l).length = l.length + k
  | 0, l => rfl
  | k + 1, l => by rw [schN, schN_len o k, List.length_append]; simp; omega
def chN (e f g : Nat) : Nat := (e &&& f) ^^^ ((18446744073709551615 - e) &&& g)
def majN (a b c : Nat) : Nat := ((a &&& b) ^^^ (a &&& c)) ^^^ (b &&& c)
structure S8 where
  (a b c d e f g h : Nat)
def oneN (o : Bool) (k w : Nat) (s : S8) : Nat := wordN o ((((((s.h + cB o s.e) % 18446744073709551616) + chN s.e s.f s.g) % 18446744073709551616 + k) % 18446744073709551616 + w) % 18446744073709551616)
def twoS (o : Bool) (s : S8) : Nat := wordN o ((cA o s.a + majN s.a s.b s.c) % 18446744073709551616)
def roundN (o : Bool) (k w : Nat) (s : S8) : S8 := ⟨wordN o ((oneN o k w s + twoS o s) % 18446744073709551616), s.a, s.b, s.c, wordN o ((s.d + oneN o k w s) % 18446744073709551616), s.e, s.f, s.g⟩
def roundsN (o : Bool) (ks ws : List Nat) : Nat → Nat → S8 → S8
  | 0, _, s => s
  | k + 1, t, s => roundsN o ks ws k (t + 1) (roundN o (ks.getD t 0) (ws.getD t 0) s)
def S8.ok (s : S8) : Prop := s.a < 18446744073709551616 ∧ s.b < 18446744073709551616 ∧ s.c < 18446744073709551616 ∧ s.d < 18446744073709551616 ∧ s.e < 18446744073709551616 ∧ s.f < 18446744073709551616 ∧ s.g < 18446744073709551616 ∧ s.h < 18446744073709551616
def S8.list (s : S8) : List Nat := [s.a, s.b, s.c, s.d, s.e, s.f, s.g, s.h]
def S8.of (l : List Nat) : S8 := ⟨l.getD 0 0, l.getD 1 0, l.getD 2 0, l.getD 3 0, l.getD 4 0, l.getD 5 0, l.getD 6 0, l.getD 7 0⟩
def addN (o : Bool) (x y : Nat) : Nat := wordN o ((x + y) % 18446744073709551616)
def sumN (o : Bool) (sl : List Nat) : Nat → Nat → List Nat → List Nat
  | 0, _, l => l
  | k + 1, i, l => sumN o sl k (i + 1) (l.set i (addN o (l.getD i 0) (sl.getD i 0)))
def blockN (o : Bool) (ks sl ws : List Nat) : List Nat :=
  sumN o sl 8 0 (roundsN o ks (schN o (ks.length - 16) ws) ks.length 0 (S8.of sl)).list
/-- A row of words in a block. -/
def RowAt (w : World) (g : Nat) (l : List Nat) : Prop := g < w.heap.size ∧ ∀ t, t < l.length → w.cell? ⟨g, t, none⟩ = some (.int .u64 (l.getD t 0 : Nat))
theorem RowAt.below {w w' : World} {g B : Nat} {l : List Nat} (h : RowAt w g l) (hb : Below B w w') (hg : g < B) : RowAt w' g l :=
  ⟨Nat.lt_of_lt_of_le h.1 hb.size, fun t ht => (hb.cell (p := ⟨g, t, none⟩) hg).trans (h.2 t ht)⟩
def BlockPost (o : Bool) (B : Nat) (ks sl ws : List Nat) (w : World) (e : Ending) (w' : World) : Prop :=
  ∃ g c, w.heap.size ≤ g ∧ e = .returned (.slice (some ⟨g, 0, none⟩) 8 c) ∧ RowAt w' g (blockN o ks sl ws) ∧ Below B w w'
theorem wrap_add (a b : Nat) : IntKind.u64.wrap ((a : Int) + (b : Int)) = (((a + b) % 18446744073709551616 : Nat) : Int) := by
  simp [IntKind.wrap, IntKind.signed, IntKind.bits]
theorem own_pos {w : World} {base : Nat} {e : TypeId} {size : Nat} {v : Value} {n : Nat} {xs : List Value} (h : w.ownsRow base e size v n xs) (hn : 0 < n) :
    ∃ g cap, v = .slice (some ⟨g, 0, none⟩) n cap ∧ base ≤ g ∧ g < w.heap.size := by
  rcases h.2 with ⟨_, h0⟩ | ⟨g, cap, cur, hv, hb, hg, _⟩
  · omega
  · exact ⟨g, cap, hv, hb, (Array.getElem?_eq_some_iff.1 hg).1⟩
theorem own_ne {w : World} {o : Bool} {K H : Value} {B g b n cap : Nat} {xs : List Value} (h : w.ownsRow B 44 1 (.slice (some ⟨g, 0, none⟩) n cap) n xs) (hk : KAt o K H w b) : g ≠ b := by
  intro e
  subst e
  obtain ⟨fr, hk⟩ := hk
  rcases h.2 with ⟨hv, _⟩ | ⟨g', cap', cur, hv, hB, hg, _⟩
  · cases hv
  · obtain rfl : g = g' := by injection hv with e1 e2 e3; injection e1 with e1; injection e1
    rw [hg] at hk
    injection hk with hk
    injection hk with e1 e2 e3
    revert e2; decide
theorem KAt.grown {o : Bool} {K H : Value} {w w' : World} {g b : Nat} (h : KAt o K H w b) (hb : w.grownBy w' (some g)) (hg : g ≠ b) : KAt o K H w' b := by
  have hl := h.lt
  obtain ⟨fr, h⟩ := h
  exact ⟨fr, (hb.block b hl (by intro e; injection e with e; exact hg e.symm)).trans h⟩
theorem and_u64 (a b : Nat) (ha : a < 18446744073709551616) (hb : b < 18446744073709551616) : bits .and .u64 (a : Int) (b : Int) = ((a &&& b : Nat) : Int) := by
  have hx : a &&& b < 2 ^ 64 := Nat.and_lt_two_pow a (by omega)
  have h1 : (BitVec.ofInt 64 (a : Int)).toNat = a := by
    rw [BitVec.ofInt_natCast, BitVec.toNat_ofNat]; exact Nat.mod_eq_of_lt (by omega)
  have h2 : (BitVec.ofInt 64 (b : Int)).toNat = b := by
    rw [BitVec.ofInt_natCast, BitVec.toNat_ofNat]; exact Nat.mod_eq_of_lt (by omega)
  show IntKind.u64.wrap ((BitVec.ofInt 64 (a : Int) &&& BitVec.ofInt 64 (b : Int)).toNat : Int) = _
  rw [BitVec.toNat_and, h1, h2]
  simp [IntKind.wrap, IntKind.signed, IntKind.bits]
  omega
theorem not_u64 (a : Nat) (h : a < 18446744073709551616) : bits .xor .u64 IntKind.u64.max (a : Int) = ((18446744073709551615 - a : Nat) : Int) := by
  have h1 := xor_u64 18446744073709551615 a (by omega) h
  have h3 := BitVec.toNat_not (x := BitVec.ofNat 64 a)
  have h4 : (BitVec.ofNat 64 a ^^^ BitVec.allOnes 64) = ~~~ (BitVec.ofNat 64 a) := BitVec.xor_allOnes
  rw [← h4, BitVec.toNat_xor, BitVec.toNat_allOnes, BitVec.toNat_ofNat, Nat.mod_eq_of_lt (by omega), Nat.xor_comm] at h3
  have e : (2 : Nat) ^ 64 - 1 = 18446744073709551615 := by decide
  rw [e] at h3
  rw [← h3, ← h1]
  rfl
theorem word1v_any (K H : Value) (x v : Nat) (hx : x < 18446744073709551616) (hv : wordN true x = v) (w : World) : Calls Tryd.prog 23 #[.agg (kindC true K H), .int .u64 x] w (U64Post v w) := by
  have : v = x := by rw [← hv]; exact Nat.mod_eq_of_lt hx
  subst this
  exact word1_any K H v hx w
theorem word0v_any (K H : Value) (x v : Nat) (hx : x < 18446744073709551616) (hv : wordN false x = v) (w : World) : Calls Tryd.prog 23 #[.agg (kindC false K H), .int .u64 x] w (U64Post v w) := word0_any K H x v hx hv w
theorem getD_lt {l : List Nat} {M : Nat} (h : ∀ x ∈ l, x < M) (hM : 0 < M) (i : Nat) : l.getD i 0 < M := by
  rw [List.getD_eq_getElem?_getD]
  rcases Nat.lt_or_ge i l.length with hi | hi
  · rw [List.getElem?_eq_getElem hi]; exact h _ (List.getElem_mem hi)
  · rw [List.getElem?_eq_none hi]; exact hM
theorem u64C_cell {w : World} {B g n cap : Nat} {T : TypeId} {l : List Nat} (h : w.ownsRow B T 1 (.slice (some ⟨g, 0, none⟩) n cap) n (u64C l)) (i : Nat) (hi : i < l.length) (hn : n = l.length) : w.cell? ⟨g, i, none⟩ = some (.int .u64 (l.getD i 0 : Nat)) := by
  rw [h.cellAt i (by omega)]
  simp [u64C, hi]

structure BlkAt (o : Bool) (KV H : Value) (B gK gs g t cap : Nat) (ks sl tot : List Nat) (w wr : World) : Prop where
  own : wr.ownsRow B 44 1 (.slice (some ⟨g, 0, none⟩) t cap) t (u64C tot)
  k : KAt o KV H wr w.heap.size
  below : Below B w wr
  hB : B ≤ w.heap.size
  rk : RowAt wr gK ks
  rs : RowAt wr gs sl
theorem BlkAt.grow {o : Bool} {KV H : Value} {B gK gs g t cap : Nat} {ks sl tot : List Nat} {w wr wr2 : World} (h : BlkAt o KV H B gK gs g t cap ks sl tot w wr) (hb : Below wr.heap.size wr wr2) : BlkAt o KV H B gK gs g t cap ks sl tot w wr2 :=
  ⟨ownsRow_below h.own hb, h.k.below hb h.k.lt, h.below.trans (hb.mono (Nat.le_trans h.hB h.below.size)), h.hB, h.rk.below hb h.rk.1, h.rs.below hb h.rs.1⟩
theorem BlkAt.drewN {o : Bool} {KV H : Value} {B gK gs g t cap : Nat} {ks sl tot : List Nat} {w wr : World} (h : BlkAt o KV H B gK gs g t cap ks sl tot w wr) (n : Nat) : BlkAt o KV H B gK gs g t cap ks sl tot w (wr.drewN n) := h.grow ⟨rfl, rfl, rfl, Nat.le_refl _, fun _ _ => rfl⟩
structure SumAt (o : Bool) (KV H : Value) (B gs gV : Nat) (sl l : List Nat) (w wr : World) : Prop where
  k : KAt o KV H wr w.heap.size
  below : Below B w wr
  hB : B ≤ w.heap.size
  rs : RowAt wr gs sl
  hgs : gs < B
  hgV : w.heap.size < gV
  row : wr.heap[gV]? = some (.cells (u64C l).toArray 44 (0, 0))
section
variable {o : Bool} {KV H : Value} {B gs gV : Nat} {sl l : List Nat} {w wr wr2 : World}
theorem SumAt.lt (h : SumAt o KV H B gs gV sl l w wr) : gV < wr.heap.size := (Array.getElem?_eq_some_iff.1 h.row).1
theorem SumAt.grow (h : SumAt o KV H B gs gV sl l w wr) (hb : Below wr.heap.size wr wr2) : SumAt o KV H B gs gV sl l w wr2 :=
  ⟨h.k.below hb h.k.lt, h.below.trans (hb.mono (Nat.le_trans h.hB h.below.size)), h.hB, h.rs.below hb h.rs.1, h.hgs, h.hgV, (hb.block _ h.lt).trans h.row⟩
theorem SumAt.drewN (h : SumAt o KV H B gs gV sl l w wr) (n : Nat) : SumAt o KV H B gs gV sl l w (wr.drewN n) := h.grow ⟨rfl, rfl, rfl, Nat.le_refl _, fun _ _ => rfl⟩
theorem SumAt.cell (h : SumAt o KV H B gs gV sl l w wr) (j : Nat) (hj : j < l.length) : wr.cell? ⟨gV, j, none⟩ = some (.int .u64 (l.getD j 0 : Nat)) := by
  rw [cell_of_row wr _ _ _ _ _ h.row]
  simp [u64C, hj]
theorem SumAt.fr (h : SumAt o KV H B gs gV sl l w wr) (j : Nat) : wr.frozen? ⟨gV, j, none⟩ = false := frozen_of_row wr _ j _ _ h.row
theorem SumAt.set (h : SumAt o KV H B gs gV sl l w wr) (j x : Nat) : SumAt o KV H B gs gV sl (l.set j x) w (wr.setCell ⟨gV, j, none⟩ (.int .u64 (x : Nat))) := by
  have hv := h.hgV
  have hb := h.hB
  refine ⟨?_, h.below.setCell (by show B ≤ gV; omega) _, h.hB, h.rs.below ((Below.refl B _).setCell (by show B ≤ gV; omega) _) h.hgs, h.hgs, h.hgV, ?_⟩
  · obtain ⟨fr, hk⟩ := h.k
    exact ⟨fr, (heap_setCell_other wr _ _ _ (by show w.heap.size ≠ gV; omega)).trans hk⟩
  · rw [heap_setCell_same wr _ j _ _ _ h.row]; simp [u64C, List.map_set]
end
theorem and_lt64 (a b : Nat) (ha : a < 18446744073709551616) : a &&& b < 18446744073709551616 := Nat.lt_of_le_of_lt Nat.and_le_left ha
theorem xor_lt64 (a b : Nat) (ha : a < 18446744073709551616) (hb : b < 18446744073709551616) : a ^^^ b < 18446744073709551616 := by
  have h : a ^^^ b < 2 ^ 64 := Nat.xor_lt_two_pow (by omega) (by omega)
  omega
end Go.Proofs.YtbkaemekcjinaaaDoor
