/- The document's answer for package scalar: its slices of numbers, as one state of the memory; laws of the walk over it. -/
import Derived.Test.YthlkpdfdbdfbjaaFA
import Derived.Test.YthlkpdfdbdfbjaaG0
import Derived.Test.YthlkpdfdbdfbjaaSwayA
import Derived.Great.BuildSlice
set_option linter.unusedVariables false
namespace Go.Proofs.Ythlkpdfdbdfbjaa
open Go.RowKit
theorem infoI : (Try.prog.info? 3).map (fun i => (i.zero, i.size, i.bytes)) = some (some (.int .i64 0), 1, 8) := by kernel_rfl
/-- Block g begins with these numbers. -/
def AtS (w : World) (g : Nat) (l : List Nat) : Prop := ∃ cur : Array Value, w.heap[g]? = some (.cells cur 3 (0, 0)) ∧ ∀ i, i < l.length → cur[i]? = some (.int .i64 (l.getD i 0 : Nat))
section
variable {w w' : World} {g : Nat} {l : List Nat}
theorem AtS.lt (h : AtS w g l) : g < w.heap.size := by
  obtain ⟨cur, h1, _⟩ := h
  exact (Array.getElem?_eq_some_iff.1 h1).1
theorem AtS.cell (h : AtS w g l) (i : Nat) (hi : i < l.length) : w.cell? ⟨g, i, none⟩ = some (.int .i64 (l.getD i 0 : Nat)) := by
  obtain ⟨cur, h1, h2⟩ := h
  rw [cell_of_row w g _ _ _ _ h1]
  exact h2 i hi
theorem AtS.frozen (h : AtS w g l) (i : Nat) : w.frozen? ⟨g, i, none⟩ = false := by
  obtain ⟨cur, h1, _⟩ := h
  exact frozen_of_row w g i _ _ h1
theorem AtS.of_heap (h : AtS w g l) (e : w'.heap[g]? = w.heap[g]?) : AtS w' g l := by
  obtain ⟨cur, h1, h2⟩ := h
  exact ⟨cur, e.trans h1, h2⟩
theorem AtS.from (h : AtS w g l) (hb : Below w.heap.size w w') : AtS w' g l := h.of_heap (hb.block g h.lt)
theorem AtS.set (h : AtS w g l) (i x : Nat) : AtS (w.setCell ⟨g, i, none⟩ (.int .i64 (x : Int))) g (l.set i x) := by
  obtain ⟨cur, h1, h2⟩ := h
  refine ⟨cur.setIfInBounds i (.int .i64 (x : Int)), heap_setCell_same _ _ _ _ _ _ h1, fun j hj => ?_⟩
  rw [List.length_set] at hj
  rw [Array.getElem?_setIfInBounds]
  have h3 := h2 j hj
  have hjs : j < cur.size := (Array.getElem?_eq_some_iff.1 h3).1
  by_cases e : i = j
  · subst e
    rw [if_pos rfl, if_pos hjs]
    simp [hj]
  · rw [if_neg e, h3]
    simp [e]
theorem AtS.take (h : AtS w g l) (n : Nat) : AtS w g (l.take n) := by
  obtain ⟨cur, h1, h2⟩ := h
  refine ⟨cur, h1, fun i hi => ?_⟩
  rw [List.length_take] at hi
  rw [h2 i (by omega)]
  simp [show i < n by omega]
theorem AtS.new (w : World) (l : List Nat) : AtS (w.alloc (.cells (numC .i64 l).toArray 3)) w.heap.size l := by
  refine ⟨_, heap_alloc_new w _, fun i hi => ?_⟩
  simp [numC, hi]
theorem AtS.own {B n cap : Nat} (h : w.ownsRow B 3 1 (.slice (some ⟨g, 0, none⟩) n cap) n (numC .i64 l)) : AtS w g l ∧ B ≤ g ∧ l.length = n := by
  have hl : l.length = n := by have := h.1; rw [numC_length] at this; omega
  rcases h.2 with ⟨hv, _⟩ | ⟨g0, cap0, cur, hv, hB, hg, _, _, hs, ht⟩
  · cases hv
  · injection hv with e1 e2 e3
    injection e1 with e1
    injection e1 with e1
    subst e1
    refine ⟨⟨cur, hg, fun i hi => ?_⟩, hB, hl⟩
    have e : (cur.toList.take (n * 1))[i]? = (numC .i64 l)[i]? := by rw [ht]
    rw [List.getElem?_take, if_pos (by omega)] at e
    rw [← Array.getElem?_toList, e]
    simp [numC, hi]
end
/-- What the call has: since its first world what was there is as it was, and its own blocks begin with these numbers. -/
structure SM (w0 w : World) (L : List (Nat × List Nat)) : Prop where
  below : Below w0.heap.size w0 w
  holds : ∀ g x, (g, x) ∈ L → AtS w g x
  ours : ∀ g x, (g, x) ∈ L → w0.heap.size ≤ g
  apart : (L.map (·.1)).Nodup
section
variable {w0 w w' : World} {L : List (Nat × List Nat)} {g : Nat} {x y : List Nat}
theorem SM.start (w : World) : SM w w [] := ⟨Below.refl _ _, by simp, by simp, by simp⟩
theorem SM.grow (H : SM w0 w L) (hb : Below w.heap.size w w') : SM w0 w' L :=
  ⟨H.below.trans (hb.mono H.below.size), fun g x h => (H.holds g x h).from hb, H.ours, H.apart⟩
theorem SM.more (H : SM w0 w L) (hb : Below w.heap.size w w') (hg : w.heap.size ≤ g) (hx : AtS w' g x) : SM w0 w' ((g, x) :: L) := by
  have H2 := H.grow hb
  refine ⟨H2.below, fun g' y h => ?_, fun g' y h => ?_, ?_⟩
  · rcases List.mem_cons.1 h with h | h
    · injection h with h1 h2; subst h1; subst h2; exact hx
    · exact H2.holds g' y h
  · rcases List.mem_cons.1 h with h | h
    · injection h with h1 h2; subst h1; exact Nat.le_trans H.below.size hg
    · exact H.ours g' y h
  · rw [List.map_cons, List.nodup_cons]
    refine ⟨fun h => ?_, H.apart⟩
    obtain ⟨⟨g', y⟩, hm, he⟩ := List.mem_map.1 h
    have := (H.holds g' y hm).lt
    simp only at he
    omega
theorem SM.new (H : SM w0 w L) (x : List Nat) : SM w0 (w.alloc (.cells (numC .i64 x).toArray 3)) ((w.heap.size, x) :: L) :=
  H.more ((Below.refl _ w).alloc (Nat.le_refl _) _) (Nat.le_refl _) (AtS.new w x)
theorem SM.drop (p : Nat × List Nat) (H : SM w0 w (p :: L)) : SM w0 w L :=
  ⟨H.below, fun g x h => H.holds g x (List.mem_cons_of_mem _ h), fun g x h => H.ours g x (List.mem_cons_of_mem _ h), (List.nodup_cons.1 (show (p.1 :: L.map (·.1)).Nodup from H.apart)).2⟩
theorem SM.set0 (H : SM w0 w ((g, x) :: L)) (i v : Nat) (u : Int) (hu : u = (v : Int)) : SM w0 (w.setCell ⟨g, i, none⟩ (.int .i64 u)) ((g, x.set i v) :: L) := by
  subst hu
  have hn := (List.nodup_cons.1 (show (g :: L.map (·.1)).Nodup from H.apart)).1
  refine ⟨H.below.setCell (H.ours g x (by simp)) _, fun g' y h => ?_, fun g' y h => ?_, H.apart⟩
  · rcases List.mem_cons.1 h with h | h
    · injection h with h1 h2; subst h1; subst h2; exact (H.holds _ x (by simp)).set i v
    · exact (H.holds g' y (List.mem_cons_of_mem _ h)).of_heap (Below.heap_setCell w ⟨g, i, none⟩ _ g' (fun e => hn (List.mem_map.2 ⟨(g', y), h, e⟩)))
  · rcases List.mem_cons.1 h with h | h
    · injection h with h1 h2; subst h1; exact H.ours _ x (by simp)
    · exact H.ours g' y (List.mem_cons_of_mem _ h)
theorem SM.cell (H : SM w0 w L) (hm : (g, x) ∈ L) (i : Nat) (hi : i < x.length) : w.cell? ⟨g, i, none⟩ = some (.int .i64 (x.getD i 0 : Nat)) := (H.holds g x hm).cell i hi
theorem SM.frozen (H : SM w0 w L) (hm : (g, x) ∈ L) (i : Nat) : w.frozen? ⟨g, i, none⟩ = false := (H.holds g x hm).frozen i
theorem SM.from (H : SM w0 w L) (h : From w.drew w') : SM w0 w' L := H.grow h.of_drew
end
section
variable {ops : Array Oper} {rest : List Oper} {o : Oper} {a : Act} {w0 w : World} {Q : Exit → Act → World → Prop} {L : List (Nat × List Nat)}
theorem s_make (hg : o.guard = none) (l c : Operand) (ho : o.op = .makeSlice 35 l c) (n : Nat) (z : Int) (hl : a.eval l = .int .i64 z) (hc : a.eval c = .int .i64 z) (hz : z = (n : Int)) (hn : n ≤ 4096) (h0 : 0 < n) (H : SM w0 w L)
    (h : ∀ g w', SM w0 w' ((g, List.replicate n 0) :: L) → wpList Try.prog ops Q rest (a.put o.dst (.slice (some ⟨g, 0, none⟩) n n)) w') : wpList Try.prog ops Q (o :: rest) a w := by
  obtain ⟨i, hi, hz0, hz1, hz2⟩ := info_parts infoI
  refine wpList_make_full w hg l c 35 ho w.heap.size 3 i (.int .i64 0) 1 Try.underlying35 hi hz0 hz1 .i64 .i64 z z n hl hc hz hz (by rw [hz2]; omega) (Nat.le_trans hn (by decide)) (Nat.le_refl _) fun w' h1 h2 => ?_
  have e : (madeCells (Value.cells (.int .i64 0)) (n * 1)).toList = numC .i64 (List.replicate n 0) := by
    rw [numC, List.map_replicate, Nat.mul_one]
    simp [madeCells, Value.cells, Nat.mod_one, List.map_const']
  rw [e] at h1
  obtain ⟨h3, h4, _⟩ := AtS.own h1
  exact h _ w' (H.more ((Below.refl _ _).grown h2 (Nat.le_refl _) (fun k hk => by cases hk)) h4 h3)
/-- A slice literal, every place written. -/
theorem s_flat (hg : o.guard = none) (len : Nat) (parts : Array (Nat × Operand)) (ho : o.op = .buildSlice 35 len parts) (l : List Nat) (hlen : len = l.length) (hpos : 0 < len) (hsmall : len ≤ 4096)
    (hparts : parts.toList = ((l.map fun (x : Nat) => (x : Int)).zipIdx 0).map fun x => (x.2, Operand.const (Value.int .i64 x.1))) (H : SM w0 w L)
    (h : ∀ g w', SM w0 w' ((g, l) :: L) → wpList Try.prog ops Q rest (a.put o.dst (.slice (some ⟨g, 0, none⟩) len len)) w') : wpList Try.prog ops Q (o :: rest) a w := by
  refine wpList_buildFlat hg 35 3 len parts ho .i64 (l.map fun (x : Nat) => (x : Int)) Try.underlying35 (by kernel_rfl) (by kernel_rfl) (by rw [List.length_map]; exact hlen) hpos (Nat.le_trans hsmall (by decide)) hparts ?_
  have e : (l.map fun (x : Nat) => (x : Int)).map (Value.int .i64) = numC .i64 l := by
    rw [List.map_map]
    rfl
  rw [e]
  exact h _ _ (H.new l)
end
end Go.Proofs.Ythlkpdfdbdfbjaa
