/- A call's own blocks as one state of the memory: which block holds which cells; laws of the walk over it. No program is spoken of.
A value of one cell within one of a call's own blocks: plain, and in a region that draws its order. No program is spoken of.
Rows that may bear the mark of a conversion (what '[]byte(s)' makes): an append of one element onto them, whether it stays or grows. No program is spoken of. -/
import Derived.Test.YtgnblaaldpniiaaGreatDoorZK1
import Derived.Deep.WholeRow
import Derived.Deep.MidRow
import Derived.Great.Ranges
import Derived.Laws.Tables
import Derived.Laws.CopyOwn
import Derived.ArgAppend
import Derived.Lib.ConvBytes
section
set_option linter.unusedSimpArgs false
set_option linter.unusedVariables false
set_option maxRecDepth 100000
namespace Go.Proofs.YtgnblaaldpniiaaGreatDoor
open Go.RowKit
abbrev Cells := Nat × TypeId × List Value
structure RMem (w0 w : World) (L : List Cells) : Prop where
  below : Below w0.heap.size w0 w
  holds : ∀ g t cs, (g, t, cs) ∈ L → w.heap[g]? = some (.cells cs.toArray t (0, 0))
  ours : ∀ g t cs, (g, t, cs) ∈ L → w0.heap.size ≤ g
  apart : (L.map (·.1)).Nodup
section
variable {w0 w w' : World} {L : List Cells} {g : Nat} {t : TypeId} {x y : List Value}
theorem RMem.start (w : World) : RMem w w [] := ⟨Below.refl _ _, by simp, by simp, by simp⟩
theorem RMem.lt (H : RMem w0 w L) (h : (g, t, x) ∈ L) : g < w.heap.size := (Array.getElem?_eq_some_iff.1 (H.holds g t x h)).1
theorem RMem.grow (H : RMem w0 w L) (hb : Below w.heap.size w w') : RMem w0 w' L :=
  ⟨H.below.trans (hb.mono H.below.size), fun g t x h => (hb.block g (H.lt h)).trans (H.holds g t x h), H.ours, H.apart⟩
theorem RMem.more (H : RMem w0 w L) (hb : Below w.heap.size w w') (hg : w.heap.size ≤ g) (hx : w'.heap[g]? = some (.cells x.toArray t (0, 0))) : RMem w0 w' ((g, t, x) :: L) := by
  have H2 := H.grow hb
  refine ⟨H2.below, fun g' t' y h => ?_, fun g' t' y h => ?_, ?_⟩
  · rcases List.mem_cons.1 h with h | h
    · injection h with h1 h2; injection h2 with h2 h3; subst h1; subst h2; subst h3; exact hx
    · exact H2.holds g' t' y h
  · rcases List.mem_cons.1 h with h | h
    · injection h with h1 h2; subst h1; exact Nat.le_trans H.below.size hg
    · exact H.ours g' t' y h
  · rw [List.map_cons, List.nodup_cons]
    refine ⟨fun h => ?_, H.apart⟩
    obtain ⟨⟨g', t', y⟩, hm, he⟩ := List.mem_map.1 h
    have := H.lt hm
    simp only at he
    omega
theorem RMem.new (H : RMem w0 w L) (t : TypeId) (x : List Value) : RMem w0 (w.alloc (.cells x.toArray t)) ((w.heap.size, t, x) :: L) :=
  H.more ((Below.refl _ w).alloc (Nat.le_refl _) _) (Nat.le_refl _) (heap_alloc_new w _)
theorem RMem.from (H : RMem w0 w L) (h : From w.drew w') : RMem w0 w' L := H.grow h.of_drew
theorem RMem.drop {p : Cells} (H : RMem w0 w (p :: L)) : RMem w0 w L :=
  ⟨H.below, fun g t x h => H.holds g t x (List.mem_cons_of_mem _ h), fun g t x h => H.ours g t x (List.mem_cons_of_mem _ h), (List.nodup_cons.1 (show (p.1 :: L.map (·.1)).Nodup from H.apart)).2⟩
theorem RMem.cell (H : RMem w0 w L) (hm : (g, t, x) ∈ L) (i : Nat) (v : Value) (hi : x[i]? = some v) : w.cell? ⟨g, i, none⟩ = some v := by
  rw [cell_of_row w g _ _ _ _ (H.holds g t x hm), List.getElem?_toArray]
  exact hi
theorem RMem.frozen (H : RMem w0 w L) (hm : (g, t, x) ∈ L) (i : Nat) : w.frozen? ⟨g, i, none⟩ = false := frozen_of_row w g i _ _ (H.holds g t x hm)
theorem RMem.range (H : RMem w0 w L) (hm : (g, t, x) ∈ L) (o n : Nat) : w.rangeAt g o ((x.drop o).take n) := fun j v hj => by
  refine H.cell hm (o + j) v ?_
  rw [List.getElem?_take] at hj
  split at hj
  · rw [List.getElem?_drop] at hj
    exact hj
  · cases hj
theorem RMem.change {A B : List Cells} (H : RMem w0 w (A ++ (g, t, x) :: B)) (hb : Below w0.heap.size w0 w') (ho : ∀ g', g' ≠ g → w'.heap[g']? = w.heap[g']?) (hy : w'.heap[g]? = some (.cells y.toArray t (0, 0))) : RMem w0 w' (A ++ (g, t, y) :: B) := by
  have hk : (A ++ (g, t, y) :: B).map (·.1) = (A ++ (g, t, x) :: B).map (·.1) := by simp
  have hne : ∀ p ∈ A ++ B, p.1 ≠ g := by
    have h := H.apart
    rw [List.map_append, List.map_cons] at h
    have h2 := List.nodup_append.1 h
    intro p hp e
    rcases List.mem_append.1 hp with hp | hp
    · exact h2.2.2 p.1 (List.mem_map.2 ⟨p, hp, rfl⟩) g (List.mem_cons_self ..) e
    · exact (List.nodup_cons.1 h2.2.1).1 (List.mem_map.2 ⟨p, hp, e⟩)
  have hin : ∀ g' t' z, (g', t', z) ∈ A ++ (g, t, y) :: B → (g' = g ∧ t' = t ∧ z = y) ∨ ((g', t', z) ∈ A ++ B) := by
    intro g' t' z h
    rcases List.mem_append.1 h with h | h
    · exact .inr (List.mem_append_left _ h)
    · rcases List.mem_cons.1 h with h | h
      · injection h with h1 h2; injection h2 with h2 h3; exact .inl ⟨h1, h2, h3⟩
      · exact .inr (List.mem_append_right _ h)
  have hold : ∀ g' t' z, (g', t', z) ∈ A ++ B → (g', t', z) ∈ A ++ (g, t, x) :: B := fun g' t' z h => by
    rcases List.mem_append.1 h with h | h
    · exact List.mem_append_left _ h
    · exact List.mem_append_right _ (List.mem_cons_of_mem _ h)
  refine ⟨hb, fun g' t' z h => ?_, fun g' t' z h => ?_, by rw [hk]; exact H.apart⟩
  · rcases hin g' t' z h with ⟨rfl, rfl, rfl⟩ | h
    · exact hy
    · exact (ho g' (hne _ h)).trans (H.holds g' t' z (hold _ _ _ h))
  · rcases hin g' t' z h with ⟨rfl, rfl, rfl⟩ | h
    · exact H.ours g' t' x (by simp)
    · exact H.ours g' t' z (hold _ _ _ h)
theorem setRow_elsewhere (w : World) (g g' : Nat) (cs : Array Value) (h : g' ≠ g) : (w.setRow g cs).heap[g']? = w.heap[g']? := by
  show (w.heap.modify g _)[g']? = _
  rw [Array.getElem?_modify, if_neg (Ne.symm h)]
theorem RMem.put {A B : List Cells} (H : RMem w0 w (A ++ (g, t, x) :: B)) (y : List Value) : RMem w0 (w.setRow g y.toArray) (A ++ (g, t, y) :: B) :=
  H.change (below_setRow H.below (H.ours g t x (by simp)) _) (fun g' h => setRow_elsewhere w g g' _ h) (setRow_heap _ _ _ _ _ _ (H.holds g t x (by simp)))
theorem RMem.set {A B : List Cells} (H : RMem w0 w (A ++ (g, t, x) :: B)) (i : Nat) (v : Value) : RMem w0 (w.setCell ⟨g, i, none⟩ v) (A ++ (g, t, x.set i v) :: B) :=
  H.change (H.below.setCell (H.ours g t x (by simp)) _) (fun g' h => Below.heap_setCell w ⟨g, i, none⟩ v g' h) (by
    rw [heap_setCell_same _ _ _ _ _ _ (H.holds g t x (by simp)), List.setIfInBounds_toArray])
theorem RMem.set0 {B : List Cells} (H : RMem w0 w ((g, t, x) :: B)) (i : Nat) (v : Value) : RMem w0 (w.setCell ⟨g, i, none⟩ v) ((g, t, x.set i v) :: B) := RMem.set (A := []) H i v
end
section
variable {P : Program} {ops : Array Oper} {rest : List Oper} {o : Oper} {a : Act} {w0 w : World} {Q : Exit → Act → World → Prop} {L : List Cells}
theorem r_box (hg : o.guard = none) (T : TypeId) (x : Operand) (ho : o.op = .box T x) (cs : List Value) (hx : a.eval x = .agg cs.toArray) (H : RMem w0 w L)
    (h : ∀ g w', RMem w0 w' ((g, T, cs) :: L) → wpList P ops Q rest (a.put o.dst (.pointer (some ⟨g, 0, none⟩))) w') : wpList P ops Q (o :: rest) a w :=
  Great.wpList_boxTo hg T x ho o.dst rfl w.heap.size rfl cs.toArray (by rw [hx]; rfl) (h _ _ (H.new T cs))
theorem r_alloc (hg : o.guard = none) (T : TypeId) (ho : o.op = .alloc T) (Z : List Value) (hz : ∀ w, (zeroValue T).run P w = .ok (.agg Z.toArray) w) (H : RMem w0 w L)
    (h : ∀ g w', RMem w0 w' ((g, T, Z) :: L) → wpList P ops Q rest (a.put o.dst (.pointer (some ⟨g, 0, none⟩))) w') : wpList P ops Q (o :: rest) a w := by
  refine wpList_plain hg fun K hK => ?_
  unfold Oper.wp execOp
  simp only [ho, Instr.alloc, Sem.run_bind, hz, newVar, newRow, run_newObj_alloc, Sem.run_pure, Result.andThen_ok]
  exact hK _ _ (h _ _ (H.new T Z))
theorem r_load (hg : o.guard = none) (T : TypeId) (x : Operand) (ho : o.op = .load T x) (d : TypeDesc) (hu : P.underlying T = some d) (hd : (match d with | .struct _ | .array _ _ => true | _ => false) = true) (g : Nat) (t : TypeId) (cs : List Value)
    (hx : a.eval x = .pointer (some ⟨g, 0, none⟩)) (H : RMem w0 w L) (hm : (g, t, cs) ∈ L) (hi : (P.info? T).map (·.size) = some cs.length)
    (h : wpList P ops Q rest (a.put o.dst (.agg cs.toArray)) w) : wpList P ops Q (o :: rest) a w :=
  wpList_load_row hg T x ho g hx t cs.toArray (0, 0) d (H.holds g t cs hm) hu hd (by rw [List.size_toArray]; exact hi) h
theorem r_part (hg : o.guard = none) (T : TypeId) (x : Operand) (ho : o.op = .load T x) (d : TypeDesc) (hu : P.underlying T = some d) (hd : d.isRow = true) (g off n : Nat) (t : TypeId) (cs ys : List Value)
    (hx : a.eval x = .pointer (some ⟨g, off, none⟩)) (H : RMem w0 w L) (hm : (g, t, cs) ∈ L) (hn : (P.info? T).map (·.size) = some n) (hy : (cs.drop off).take n = ys) (hl : ys.length = n)
    (h : wpList P ops Q rest (a.put o.dst (.agg ys.toArray)) w) : wpList P ops Q (o :: rest) a w :=
  wpList_load_mid hg T x ho g off hx ys d (hy ▸ H.range hm off n) hu hd (by rw [hl]; exact hn) h
theorem r_store (hg : o.guard = none) (T : TypeId) (x v : Operand) (ho : o.op = .store T x v) (g : Nat) (t : TypeId) (old cs : List Value) (hx : a.eval x = .pointer (some ⟨g, 0, none⟩)) (hv : a.eval v = .agg cs.toArray) (A B : List Cells)
    (H : RMem w0 w (A ++ (g, t, old) :: B)) (hi : (P.info? T).map (·.size) = some cs.length) (hl : old.length = cs.length) (h1 : cs.toArray.all (·.oneCell') = true)
    (h : ∀ w', RMem w0 w' (A ++ (g, t, cs) :: B) → wpList P ops Q rest (a.put o.dst undef) w') : wpList P ops Q (o :: rest) a w :=
  wpList_store_row hg T x v ho g cs.toArray hx hv t old.toArray (H.holds g t old (by simp)) (by rw [List.size_toArray]; exact hi) (by rw [List.size_toArray, List.size_toArray, hl]) h1 (h _ (H.put cs))
theorem r_store_fin (hg : o.guard = none) (T : TypeId) (x v : Operand) (ho : o.op = .store T x v) (g : Nat) (t : TypeId) (old cs : List Value) (hx : a.eval x = .pointer (some ⟨g, 0, none⟩)) (hv : a.eval v = .agg cs.toArray)
    (H : RMem w0 w L) (hm : (g, t, old) ∈ L) (hi : (P.info? T).map (·.size) = some cs.length) (hl : old.length = cs.length) (h1 : cs.toArray.all (·.oneCell') = true)
    (h : ∀ w', RMem w0 w' [(g, t, cs)] → wpList P ops Q rest (a.put o.dst undef) w') : wpList P ops Q (o :: rest) a w := by
  obtain ⟨A, B, rfl⟩ := List.append_of_mem hm
  refine r_store hg T x v ho g t old cs hx hv A B H hi hl h1 fun w' H' => h w' ?_
  have hm' : (g, t, cs) ∈ A ++ (g, t, cs) :: B := by simp
  exact ⟨H'.below, fun g' t' z h => by rw [List.mem_singleton] at h; injection h with h1 h2; injection h2 with h2 h3; subst h1; subst h2; subst h3; exact H'.holds g' t' z hm',
    fun g' t' z h => by rw [List.mem_singleton] at h; injection h with h1 h2; injection h2 with h2 h3; subst h1; subst h2; subst h3; exact H'.ours g' t' z hm', by simp⟩
theorem r_call {f : FuncId} {args : Array Value} {v : Value} {Q : Ending → World → Prop} (H : RMem w0 w L) (c : Calls P f args w fun e w' => e = .returned v ∧ Below w.heap.size w w')
    (h : ∀ w', RMem w0 w' L → Q (.returned v) w') : Calls P f args w Q :=
  c.mono fun _ w' ⟨he, hb⟩ => he ▸ h w' (H.grow hb)
theorem r_ret {fn : Func} {p : Tmp} {T t : TypeId} {cs : List Value} {g : Nat} {d : TypeDesc} (hr : fn.results = #[.cell p T]) (hu : P.underlying T = some d) (hd : (match d with | .struct _ | .array _ _ => true | _ => false) = true) (a : Act) (hp : a.tmps.getD p undef = .pointer (some ⟨g, 0, none⟩)) (hf : a.defers = []) (H : RMem w0 w L) (hm : (g, t, cs) ∈ L)
    (hi : (P.info? T).map (·.size) = some cs.length) {R : Ending → World → Prop} (h : R (.returned (.agg cs.toArray)) w) : bodyPost P fn R .ret a w :=
  bodyPost_ret (results_cell_row hr _ _ g t cs.toArray (0, 0) d hp (H.holds g t cs hm) hu hd (by rw [List.size_toArray]; exact hi)) hf h
theorem r_build (hg : o.guard = none) (T : TypeId) (parts : Array (Nat × Operand)) (ho : o.op = .build T parts) (ps : List (Nat × Value)) (e : (parts.map fun (i, x) => (i, a.eval x)).toList = ps) (cs : List Value) (hb : P.built T ps = some cs.toArray)
    (h : wpList P ops Q rest (a.put o.dst (.agg cs.toArray)) w) : wpList P ops Q (o :: rest) a w := by
  refine wpList_build hg T parts ho ?_ ?_
  · rw [e, hb]; rfl
  · rw [e, hb]; exact h
end
section
variable {P : Program} {ops : Array Oper} {o : Oper} {a : Act} {w0 w : World} {L : List Cells} {K : Act → Prop}
theorem rq_load (T : TypeId) (x : Operand) (ho : o.op = .load T x) (d : TypeDesc) (hu : P.underlying T = some d) (hd : (match d with | .struct _ | .array _ _ => true | _ => false) = true) (g : Nat) (t : TypeId) (cs : List Value) (u : World) (hw : From w.drew u)
    (hx : a.eval x = .pointer (some ⟨g, 0, none⟩)) (H : RMem w0 w L) (hm : (g, t, cs) ∈ L) (hi : (P.info? T).map (·.size) = some cs.length)
    (h : K (a.put o.dst (.agg cs.toArray))) : o.quiet P a (fun w' => ∃ k : Held (From u), w' = k.w) K :=
  quiet_load_row T x ho g hx t cs.toArray d (fun _ ⟨k, e⟩ => ⟨(0, 0), e ▸ (H.from (hw.trans k.h)).holds g t cs hm⟩) hu hd (by rw [List.size_toArray]; exact hi) h
theorem rq_part (T : TypeId) (x : Operand) (ho : o.op = .load T x) (d : TypeDesc) (hu : P.underlying T = some d) (hd : d.isRow = true) (g off n : Nat) (t : TypeId) (cs ys : List Value) (u : World) (hw : From w.drew u)
    (hx : a.eval x = .pointer (some ⟨g, off, none⟩)) (H : RMem w0 w L) (hm : (g, t, cs) ∈ L) (hn : (P.info? T).map (·.size) = some n) (hy : (cs.drop off).take n = ys) (hl : ys.length = n)
    (h : K (a.put o.dst (.agg ys.toArray))) : o.quiet P a (fun w' => ∃ k : Held (From u), w' = k.w) K := by
  refine ⟨.agg ys.toArray, fun w' hw' => ?_, h⟩
  obtain ⟨k, rfl⟩ := hw'
  have hr := (H.from (hw.trans k.h)).range hm off n
  rw [hy] at hr
  unfold Oper.quietAt execOp
  simp only [ho, hx, Instr.loadAt, Instr.sureAddr, Sem.run_bind, Sem.run_pure, Result.andThen_ok, run_loadVar_mid k.w g off T ys d hr hu hd (by rw [hl]; exact hn)]
  exact ⟨rfl, rfl⟩
theorem rq_build (T : TypeId) (parts : Array (Nat × Operand)) (ho : o.op = .build T parts) (ps : List (Nat × Value)) (e : (parts.map fun (i, x) => (i, a.eval x)).toList = ps) (cs : List Value) (hb : P.built T ps = some cs.toArray) {C : World → Prop}
    (h : K (a.put o.dst (.agg cs.toArray))) : o.quiet P a C K := by
  refine ⟨.agg cs.toArray, fun w' _ => ?_, h⟩
  unfold Oper.quietAt execOp
  simp only [ho, Sem.run_bind, run_build w' T (parts.map fun (i, x) => (i, a.eval x)) cs.toArray (by rw [e]; exact hb), Result.andThen_ok, Sem.run_pure]
  exact ⟨rfl, rfl⟩
theorem RMem.extra {w' : World} {g : Nat} {t : TypeId} {Z : List Value} (H : RMem w0 w L) (h : From w.drew w') (hF : Fresh w t Z.toArray g w') : RMem w0 w' ((g, t, Z) :: L) := H.more h.of_drew hF.2 hF.1
end
end Go.Proofs.YtgnblaaldpniiaaGreatDoor
end
section
set_option linter.unusedVariables false
set_option maxRecDepth 100000
set_option linter.unusedSimpArgs false
namespace Go.Proofs.YtgnblaaldpniiaaGreatDoor
open Go.RowKit
theorem not_row {d : TypeDesc} (h : d.isRow = false) : ∀ P T w, @Program.underlying P T = some d → (isAgg T).run P w = .ok false w := by
  intro P T w hu
  unfold isAgg
  rw [Sem.run_bind, run_underlying hu w]
  cases d <;> simp_all
theorem run_load_cell {P : Program} (w : World) (T : TypeId) (d : TypeDesc) (hu : P.underlying T = some d) (hd : d.isRow = false) (p : Addr) (v : Value) (hc : w.cell? p = some v) : (loadVar T p).run P w = .ok v w := by
  unfold loadVar
  rw [Sem.run_bind, not_row hd P T w hu]
  simp [hc]
section
variable {P : Program} {ops : Array Oper} {rest : List Oper} {o : Oper} {a : Act} {w0 w : World} {Q : Exit → Act → World → Prop} {L : List Cells}
theorem r_cell (hg : o.guard = none) (T : TypeId) (x : Operand) (ho : o.op = .load T x) (d : TypeDesc) (hu : P.underlying T = some d) (hd : d.isRow = false) (g i : Nat) (t : TypeId) (cs : List Value) (v : Value)
    (hx : a.eval x = .pointer (some ⟨g, i, none⟩)) (H : RMem w0 w L) (hm : (g, t, cs) ∈ L) (hi : cs[i]? = some v)
    (h : wpList P ops Q rest (a.put o.dst v) w) : wpList P ops Q (o :: rest) a w := by
  refine wpList_plain hg fun K hK => ?_
  unfold Oper.wp execOp
  simp only [ho, hx, Instr.loadAt, Instr.sureAddr, Sem.run_bind, Sem.run_pure, Result.andThen_ok, run_load_cell w T d hu hd _ v (H.cell hm i v hi)]
  exact hK _ _ h
theorem rq_cell {K : Act → Prop} (T : TypeId) (x : Operand) (ho : o.op = .load T x) (d : TypeDesc) (hu : P.underlying T = some d) (hd : d.isRow = false) (g i : Nat) (t : TypeId) (cs : List Value) (v : Value) (u : World) (hw : From w.drew u)
    (hx : a.eval x = .pointer (some ⟨g, i, none⟩)) (H : RMem w0 w L) (hm : (g, t, cs) ∈ L) (hi : cs[i]? = some v)
    (h : K (a.put o.dst v)) : o.quiet P a (fun w' => ∃ k : Held (From u), w' = k.w) K := by
  refine ⟨v, fun w' hw' => ?_, h⟩
  obtain ⟨k, rfl⟩ := hw'
  unfold Oper.quietAt execOp
  simp only [ho, hx, Instr.loadAt, Instr.sureAddr, Sem.run_bind, Sem.run_pure, Result.andThen_ok, run_load_cell k.w T d hu hd _ v ((H.from (hw.trans k.h)).cell hm i v hi)]
  exact ⟨rfl, rfl⟩
end
end Go.Proofs.YtgnblaaldpniiaaGreatDoor
end
section
set_option maxRecDepth 100000
set_option linter.unusedVariables false
set_option linter.unusedSimpArgs false
namespace Go.Proofs.YtgnblaaldpniiaaGreatDoor
open Go.RowKit Go.Lib
def OwnF (w : World) (B : Nat) (e : TypeId) (v : Value) (n : Nat) (xs : List Value) : Prop :=
  xs.length = n ∧ ∃ g cap cur fr, v = .slice (some ⟨g, 0, none⟩) n cap ∧ B ≤ g ∧ w.heap[g]? = some (.cells cur e fr) ∧ (fr = (0, 0) ∨ fr = (cur.size, cur.size + 1)) ∧ n ≤ cap ∧ cap ≤ cur.size ∧ cur.toList.take n = xs
theorem OwnF.below {w w' : World} {B : Nat} {e : TypeId} {v : Value} {n : Nat} {xs : List Value} (h : OwnF w B e v n xs) (hb : Below w.heap.size w w') : OwnF w' B e v n xs := by
  obtain ⟨hl, g, cap, cur, fr, hv, hB, hg, rest⟩ := h
  exact ⟨hl, g, cap, cur, fr, hv, hB, (hb.block g (Array.getElem?_eq_some_iff.1 hg).1).trans hg, rest⟩
theorem OwnF.lt {w : World} {B : Nat} {e : TypeId} {v : Value} {n : Nat} {xs : List Value} (h : OwnF w B e v n xs) : ∀ g, v.ownBlock = some g → B ≤ g ∧ g < w.heap.size := by
  obtain ⟨hl, g, cap, cur, fr, rfl, hB, hg, rest⟩ := h
  intro k hk
  obtain rfl : g = k := by injection hk
  exact ⟨hB, (Array.getElem?_eq_some_iff.1 hg).1⟩
theorem OwnF.form {w : World} {B : Nat} {e : TypeId} {v : Value} {n : Nat} {xs : List Value} (h : OwnF w B e v n xs) : ∃ g cap, v = .slice (some ⟨g, 0, none⟩) n cap ∧ B ≤ g ∧ g < w.heap.size := by
  obtain ⟨hl, g, cap, cur, fr, rfl, hB, hg, rest⟩ := h
  exact ⟨g, cap, rfl, hB, (Array.getElem?_eq_some_iff.1 hg).1⟩
theorem OwnF.cell {w : World} {B : Nat} {e : TypeId} {g n cap : Nat} {xs : List Value} (h : OwnF w B e (.slice (some ⟨g, 0, none⟩) n cap) n xs) (j : Nat) (hj : j < n) : w.cell? ⟨g, j, none⟩ = xs[j]? := by
  obtain ⟨hl, g', cap', cur, fr, hv, hB, hg, hfr, hnc, hcs, ht⟩ := h
  obtain ⟨rfl, rfl⟩ : g = g' ∧ cap = cap' := by injection hv with e1 e2 e3; injection e1 with e1; injection e1 with e1; exact ⟨e1, e3⟩
  rw [cell_of_row w g j cur e fr hg, ← ht, List.getElem?_take, if_pos hj, Array.getElem?_toList]
theorem OwnF.bytes (w : World) (B : Nat) (hB : B ≤ w.heap.size) (e : TypeId) (l : List UInt8) : OwnF (Lib.bytesWorld w e (S l)) B e (.slice (some ⟨w.heap.size, 0, none⟩) l.length (grownCap w l.length 0 e)) l.length (byteCells l) := by
  have hge := grownCap_ge w l.length 0 e
  refine ⟨byteCells_length l, w.heap.size, _, _, _, rfl, hB, Lib.bytesWorld_at_new w e _, Or.inr rfl, ?_, ?_, ?_⟩
  · omega
  · unfold Lib.bytesCells; rw [S_size, Array.size_append, Array.size_map, Array.size_replicate]; show _ ≤ l.toArray.size + _; simp; omega
  · unfold Lib.bytesCells
    rw [Array.toList_append, List.take_append_of_le_length (by simp [S])]
    simp only [S, byteCells, List.map_toArray]
    exact List.take_of_length_le (by simp)
theorem run_app1 {P : Program} (w : World) (t ty : TypeId) (B : Nat) (e : TypeId) (i : TypeInfo) (z : Value) (bytes : Nat) (ht : P.underlying t = some (.slice e)) (hi : P.info? e = some i) (hz : i.zero = some z)
    (hsize : i.size = 1) (hby : i.bytes = bytes) (hzs : z.cells.size = 1) (v : Value) (n : Nat) (xs : List Value) (hown : OwnF w B e v n xs) (ad : Addr) (c : Nat) (u : Value) (hc : w.cell? (ad.add 0) = some u) (h1 : u.oneCell' = true)
    (h63 : n + 1 ≤ maxLen) (hbytes : (n + 1) * bytes ≤ 140737488355328) (hB : B ≤ w.heap.size) :
    ∃ v' w', (Builtin.append_ #[t, t] ty #[v, .slice (some ad) 1 c]).run P w = .ok v' w' ∧ OwnF w' B e v' (n + 1) (xs ++ [u]) ∧ w.grownBy w' v.ownBlock := by
  obtain ⟨hl, g, cap, cur, fr, rfl, hBg, hg, hfr, hnc, hcs, htk⟩ := hown
  have hnews : ∀ j x, [u][j]? = some x → w.cell? (ad.add j) = some x := by
    intro j x hx
    match j, hx with
    | 0, hx => simp at hx; subst hx; exact hc
  by_cases hr : n + 1 ≤ cap
  · have hcell : w.cell? ⟨g, 0 + n * 1 + 0, none⟩ = cur[0 + n * 1 + 0]? := cell_of_row w g _ cur e fr hg
    have hrun := run_append_room_cells (P := P) w t ty e i ht hi g 0 n cap ad 1 c [u] (by rw [hsize]; rfl) hnews (by intro x hx; simp at hx; subst hx; exact h1) hr
      (by intro j hj; rw [hsize]; simp at hj; subst hj; rw [hcell, Array.getElem?_eq_getElem (by omega)]; rfl)
      (by intro j hj; rw [hsize]; simp at hj; subst hj; simp only [World.frozen?, hg]; rcases hfr with rfl | rfl <;> simp <;> omega)
    rw [hsize] at hrun
    have hset : w.setCells g (0 + n * 1) [u] = w.setCell ⟨g, n, none⟩ u := by simp [World.setCells]
    rw [hset] at hrun
    refine ⟨_, _, hrun, ⟨by simp [hl], g, cap, cur.setIfInBounds n u, fr, rfl, hBg, ?_, ?_, hr, ?_, ?_⟩, ⟨rfl, rfl, rfl, by simp [World.setCell], fun k _ hk => heap_setCell_other w ⟨g, n, none⟩ k u (fun e => hk (by simp [e, Value.ownBlock]))⟩⟩
    · rw [setCell_eq_setRow w g n cur _ _ _ hg, setRow_heap w g cur _ _ _ hg]
    · simpa using hfr
    · simpa using hcs
    · rw [Array.toList_setIfInBounds, List.take_succ_eq_append_getElem (by simp; omega), List.take_set]
      congr 1
      · rw [htk]; exact List.set_eq_of_length_le (by omega)
      · simp
  · obtain ⟨v', w', hrun, ho, hgr⟩ := run_append_arg_grows (P := P) w t ty e i z 1 bytes ht hi hz hsize hby hzs (by omega) ⟨g, 0, none⟩ n cap xs (by omega)
      (fun j x hx => by
        have hj := (List.getElem?_eq_some_iff.1 hx).1
        have : ((⟨g, 0, none⟩ : Addr).add j) = ⟨g, j, none⟩ := by unfold Addr.add; split <;> simp_all
        rw [this, cell_of_row w g j cur e fr hg, ← Array.getElem?_toList]
        rw [← htk, List.getElem?_take, if_pos (by omega)] at hx
        exact hx) ad 1 c [u] rfl hnews (by omega) h63 hbytes
    refine ⟨v', w', hrun, ?_, ⟨hgr.os, hgr.tape, hgr.output, hgr.size, fun k hk _ => hgr.block k hk (by intro e; cases e)⟩⟩
    rcases ho.2 with ⟨_, h0⟩ | ⟨g', cap', cur', rfl, hB', hg', hnc', hcm', hcs', ht'⟩
    · omega
    · exact ⟨by simp [hl], g', cap', cur', (0, 0), rfl, Nat.le_trans hB hB', hg', Or.inl rfl, hnc', by omega, by simpa using ht'⟩
theorem wpList_app1 {P : Program} (w : World) {ops : Array Oper} {rest : List Oper} {o : Oper} {a : Act} {Q : Exit → Act → World → Prop} (hg : o.guard = none) (s x : Operand) (t : TypeId)
    (hop : o.op = Op.call { callee := Callee.builtin Builtin.append, args := #[s, x], argTypes := #[t, t] })
    (B : Nat) (e : TypeId) (i : TypeInfo) (z : Value) (bytes : Nat) (ht : P.underlying t = some (.slice e)) (hi : P.info? e = some i) (hz : i.zero = some z)
    (hsize : i.size = 1) (hby : i.bytes = bytes) (hzs : z.cells.size = 1) (v : Value) (n : Nat) (xs : List Value) (hs : a.eval s = v) (hown : OwnF w B e v n xs) (ad : Addr) (c : Nat) (u : Value) (hx : a.eval x = .slice (some ad) 1 c) (hc : w.cell? (ad.add 0) = some u) (h1 : u.oneCell' = true)
    (h63 : n + 1 ≤ maxLen) (hbytes : (n + 1) * bytes ≤ 140737488355328) (hB : B ≤ w.heap.size)
    (hK : ∀ v' w', OwnF w' B e v' (n + 1) (xs ++ [u]) → w.grownBy w' v.ownBlock → wpList P ops Q rest (a.put o.dst v') w') :
    wpList P ops Q (o :: rest) a w := by
  refine wpList_plain hg fun K hK' => ?_
  obtain ⟨v', w', hrun, r1, r2⟩ := run_app1 (P := P) w t o.type B e i z bytes ht hi hz hsize hby hzs v n xs hown ad c u hc h1 h63 hbytes hB
  unfold Oper.wp
  simp [execOp, hop, resolve, invoke, builtin, hs, hx, hrun, Result.andThen]
  exact hK' _ _ (hK v' w' r1 r2)
end Go.Proofs.YtgnblaaldpniiaaGreatDoor
end
