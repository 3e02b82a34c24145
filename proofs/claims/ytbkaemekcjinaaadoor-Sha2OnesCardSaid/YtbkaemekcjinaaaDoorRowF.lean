/- Rows that may bear the mark of a conversion (what '[]byte(s)' makes): an append of one element onto them, whether it stays or grows. No program is spoken of. -/
import Derived.Test.YtbkaemekcjinaaaDoorKit
import Derived.ArgAppend
import Derived.Lib.ConvBytes
namespace Go.Proofs.YtbkaemekcjinaaaDoor
open Go.RowKit Go.Lib
/-- v, of n elements of one cell each, owns the cells xs; its row may bear a mark behind its end. -/
def OwnF (w : World) (B : Nat) (e : TypeId) (v : Value) (n : Nat) (xs : List Value) : Prop :=
  xs.length = n ∧ ∃ g cap cur fr, v = .slice (some ⟨g, 0, none⟩) n cap ∧ B ≤ g ∧ w.heap[g]? = some (.cells cur e fr) ∧ (fr = (0, 0) ∨ fr = (cur.size, cur.size + 1)) ∧ n ≤ cap ∧ cap ≤ cur.size ∧ cur.toList.take n = xs
theorem OwnF.of_own {w : World} {B : Nat} {e : TypeId} {g n cap : Nat} {xs : List Value} (h : w.ownsRow B e 1 (.slice (some ⟨g, 0, none⟩) n cap) n xs) : OwnF w B e (.slice (some ⟨g, 0, none⟩) n cap) n xs := by
  refine ⟨by have := h.1; omega, ?_⟩
  rcases h.2 with ⟨hv, _⟩ | ⟨g', cap', cur, hv, hB, hg, hnc, hcm, hcs, ht⟩
  · cases hv
  · exact ⟨g', cap', cur, (0, 0), hv, hB, hg, Or.inl rfl, hnc, by omega, by simpa using ht⟩
theorem OwnF.below {w w' : World} {B : Nat} {e : TypeId} {v : Value} {n : Nat} {xs : List Value} (h : OwnF w B e v n xs) (hb : Below w.heap.size w w') : OwnF w' B e v n xs := by
  obtain ⟨hl, g, cap, cur, fr, hv, hB, hg, rest⟩ := h
  exact ⟨hl, g, cap, cur, fr, hv, hB, (hb.block g (Array.getElem?_eq_some_iff.1 hg).1).trans hg, rest⟩
theorem OwnF.lt {w : World} {B : Nat} {e : TypeId} {v : Value} {n : Nat} {xs : List Value} (h : OwnF w B e v n xs) : ∀ g, v.ownBlock = some g → B ≤ g ∧ g < w.heap.size := by
  obtain ⟨hl, g, cap, cur, fr, rfl, hB, hg, rest⟩ := h
  intro k hk
  obtain rfl : g = k := by injection hk
  exact ⟨hB, (Array.getElem?_eq_some_iff.1 hg).1⟩
theorem OwnF.form {w : World} {B : Nat} {e : TypeId} {v : Value} {n : Nat} {xs : List Value} (h : OwnF w B e v n xs) : ∃ g cap, v = .slice (some ⟨g, 0, none⟩) n cap ∧ B ≤ g ∧ g < w.heap.size := by
  obtain ⟨hl, g, cap, cur, fr, rfl, hB, hg, rest⟩ := h
  exact ⟨g, cap, rfl, hB, (Array.getElem?_eq_some_iff.1 hg).1⟩
theorem OwnF.cell {w : World} {B : Nat} {e : TypeId} {g n cap : Nat} {xs : List Value} (h : OwnF w B e (.slice (some ⟨g, 0, none⟩) n cap) n xs) (j : Nat) (hj : j < n) : w.cell? ⟨g, j, none⟩ = xs[j]? := by
  obtain ⟨hl, g', cap', cur, fr, hv, hB, hg, hfr, hnc, hcs, ht⟩ := h
  obtain ⟨rfl, rfl⟩ : g = g' ∧ cap = cap' := by injection hv with e1 e2 e3; injection e1 with e1; injection e1 with e1; exact ⟨e1, e3⟩
  rw [cell_of_row w g j cur e fr hg, ← ht, List.getElem?_take, if_pos hj, Array.getElem?_toList]
/-- What '[]byte(s)' makes. -/
theorem OwnF.bytes (w : World) (B : Nat) (hB : B ≤ w.heap.size) (e : TypeId) (l : List UInt8) : OwnF (Lib.bytesWorld w e (S l)) B e (.slice (some ⟨w.heap.size, 0, none⟩) l.length (grownCap w l.length 0 e)) l.length (byteCells l) := by
  have hge := grownCap_ge w l.length 0 e
  refine ⟨byteCells_length l, w.heap.size, _, _, _, rfl, hB, Lib.bytesWorld_at_new w e _, Or.inr rfl, ?_, ?_, ?_⟩
  · omega
  · unfold Lib.bytesCells; rw [S_size, Array.size_append, Array.size_map, Array.size_replicate]; show _ ≤ l.toArray.size + _; simp; omega
  · unfold Lib.bytesCells
    rw [Array.toList_append, List.take_append_of_le_length (by simp [S])]
    simp only [S, byteCells, List.map_toArray]
    exact List.take_of_length_le (by simp)
theorem run_app1 {P : Program} (w : World) (t ty : TypeId) (B : Nat) (e : TypeId) (i : TypeInfo) (z : Value) (bytes : Nat) (ht : P.underlying t = some (.slice e)) (hi : P.info? e = some i) (hz : i.zero = some z)
    (hsize : i.size = 1) (hby : i.bytes = bytes) (hzs : z.cells.size = 1) (v : Value) (n : Nat) (xs : List Value) (hown : OwnF w B e v n xs) (ad : Addr) (c : Nat) (u : Value) (hc : w.cell? (ad.add 0) = some u) (h1 : u.oneCell' = true)
    (h63 : n + 1 ≤ maxLen) (hbytes : (n + 1) * bytes ≤ 140737488355328) (hB : B ≤ w.heap.size) :
    ∃ v' w', (Builtin.append_ #[t, t] ty #[v, .slice (some ad) 1 c]).run P w = .ok v' w' ∧ OwnF w' B e v' (n + 1) (xs ++ [u]) ∧ w.grownBy w' v.ownBlock := by
  obtain ⟨hl, g, cap, cur, fr, rfl, hBg, hg, hfr, hnc, hcs, htk⟩ := hown
  have hnews : ∀ j x, [u][j]? = some x → w.cell? (ad.add j) = some x := by
    intro j x hx
    match j, hx with
    | 0, hx => simp at hx; subst hx; exact hc
  by_cases hr : n + 1 ≤ cap
  · have hcell : w.cell? ⟨g, 0 + n * 1 + 0, none⟩ = cur[0 + n * 1 + 0]? := cell_of_row w g _ cur e fr hg
    have hrun := run_append_room_cells (P := P) w t ty e i ht hi g 0 n cap ad 1 c [u] (by rw [hsize]; rfl) hnews (by intro x hx; simp at hx; subst hx; exact h1) hr
      (by intro j hj; rw [hsize]; simp at hj; subst hj; rw [hcell, Array.getElem?_eq_getElem (by omega)]; rfl)
      (by intro j hj; rw [hsize]; simp at hj; subst hj; simp only [World.frozen?, hg]; rcases hfr with rfl | rfl <;> simp <;> omega)
    rw [hsize] at hrun
    have hset : w.setCells g (0 + n * 1) [u] = w.setCell ⟨g, n, none⟩ u := by simp [World.setCells]
    rw [hset] at hrun
    refine ⟨_, _, hrun, ⟨by simp [hl], g, cap, cur.setIfInBounds n u, fr, rfl, hBg, ?_, ?_, hr, ?_, ?_⟩, ⟨rfl, rfl, rfl, by simp [World.setCell], fun k _ hk => heap_setCell_other w ⟨g, n, none⟩ k u (fun e => hk (by simp [e, Value.ownBlock]))⟩⟩
    · rw [setCell_eq_setRow w g n cur _ _ _ hg, setRow_heap w g cur _ _ _ hg]
    · simpa using hfr
    · simpa using hcs
    · rw [Array.toList_setIfInBounds, List.take_succ_eq_append_getElem (by simp; omega), List.take_set]
      congr 1
      · rw [htk]; exact List.set_eq_of_length_le (by omega)
      · simp
  · obtain ⟨v', w', hrun, ho, hgr⟩ := run_append_arg_grows (P := P) w t ty e i z 1 bytes ht hi hz hsize hby hzs (by omega) ⟨g, 0, none⟩ n cap xs (by omega)
      (fun j x hx => by
        have hj := (List.getElem?_eq_some_iff.1 hx).1
        have : ((⟨g, 0, none⟩ : Addr).add j) = ⟨g, j, none⟩ := by unfold Addr.add; split <;> simp_all
        rw [this, cell_of_row w g j cur e fr hg, ← Array.getElem?_toList]
        rw [← htk, List.getElem?_take, if_pos (by omega)] at hx
        exact hx) ad 1 c [u] rfl hnews (by omega) h63 hbytes
    refine ⟨v', w', hrun, ?_, ⟨hgr.os, hgr.tape, hgr.output, hgr.size, fun k hk _ => hgr.block k hk (by intro e; cases e)⟩⟩
    rcases ho.2 with ⟨_, h0⟩ | ⟨g', cap', cur', rfl, hB', hg', hnc', hcm', hcs', ht'⟩
    · omega
    · exact ⟨by simp [hl], g', cap', cur', (0, 0), rfl, Nat.le_trans hB hB', hg', Or.inl rfl, hnc', by omega, by simpa using ht'⟩
/-- The walk's form: 'append(b, x)', b a row of either kind. -/
theorem wpList_app1 {P : Program} (w : World) {ops : Array Oper} {rest : List Oper} {o : Oper} {a : Act} {Q : Exit → Act → World → Prop} (hg : o.guard = none) (s x : Operand) (t : TypeId)
    (hop : o.op = Op.call { callee := Callee.builtin Builtin.append, args := #[s, x], argTypes := #[t, t] })
    (B : Nat) (e : TypeId) (i : TypeInfo) (z : Value) (bytes : Nat) (ht : P.underlying t = some (.slice e)) (hi : P.info? e = some i) (hz : i.zero = some z)
    (hsize : i.size = 1) (hby : i.bytes = bytes) (hzs : z.cells.size = 1) (v : Value) (n : Nat) (xs : List Value) (hs : a.eval s = v) (hown : OwnF w B e v n xs) (ad : Addr) (c : Nat) (u : Value) (hx : a.eval x = .slice (some ad) 1 c) (hc : w.cell? (ad.add 0) = some u) (h1 : u.oneCell' = true)
    (h63 : n + 1 ≤ maxLen) (hbytes : (n + 1) * bytes ≤ 140737488355328) (hB : B ≤ w.heap.size)
    (hK : ∀ v' w', OwnF w' B e v' (n + 1) (xs ++ [u]) → w.grownBy w' v.ownBlock → wpList P ops Q rest (a.put o.dst v') w') :
    wpList P ops Q (o :: rest) a w := by
  refine wpList_plain hg fun K hK' => ?_
  obtain ⟨v', w', hrun, r1, r2⟩ := run_app1 (P := P) w t o.type B e i z bytes ht hi hz hsize hby hzs v n xs hown ad c u hc h1 h63 hbytes hB
  unfold Oper.wp
  simp [execOp, hop, resolve, invoke, builtin, hs, hx, hrun, Result.andThen]
  exact hK' _ _ (hK v' w' r1 r2)
end Go.Proofs.YtbkaemekcjinaaaDoor
