/- The document's answer for package field: its numbers (16 digits) in blocks, as one state of the memory; laws of the walk over it. -/
import Derived.Test.YtbkaemekcjinaaaFV
import Derived.Test.YtbkaemekcjinaaaG0
import Derived.Test.YtbkaemekcjinaaaSwayA
import Derived.Great.Ranges
set_option linter.unusedVariables false
namespace Go.Proofs.Ytbkaemekcjinaaa
open Go.RowKit
theorem infoR : (Try.prog.info? 41).map (·.size) = some 16 := by kernel_rfl
def arrA (l : List Nat) : Array Value := (numC .i64 l).toArray
def arrV (l : List Nat) : Value := .agg (arrA l)
def z16 : List Nat := List.replicate 16 0
theorem z16_len : z16.length = 16 := rfl
theorem arrA_size (l : List Nat) : (arrA l).size = l.length := by rw [arrA, List.size_toArray, numC_length]
theorem arrA_one (l : List Nat) : (arrA l).all (·.oneCell') = true := numC_one _ _
theorem arrA_info (l : List Nat) (h : l.length = 16) : (Try.prog.info? 41).map (·.size) = some (arrA l).size := by rw [infoR, arrA_size, h]
theorem zero_arr : ∀ w, (zeroValue 41).run Try.prog w = .ok (.agg (arrA z16)) w := by
  have h : (arrA z16) = (numC .i64 (List.replicate 16 0)).toArray := rfl
  rw [h]
  exact (zero_of_info (n := 16) (by kernel_rfl)).1
theorem built_arr : Try.prog.built 41 [] = some (arrA z16) := by kernel_rfl
def AtA (w : World) (g : Nat) (l : List Nat) : Prop := Arr w g 41 .i64 l
/-- What the call has: since its first world what was there is as it was, and of its own blocks these hold these numbers. -/
structure AMem (w0 w : World) (L : List (Nat × List Nat)) : Prop where
  below : Below w0.heap.size w0 w
  holds : ∀ g x, (g, x) ∈ L → AtA w g x
  len : ∀ g x, (g, x) ∈ L → x.length = 16
  ours : ∀ g x, (g, x) ∈ L → w0.heap.size ≤ g
  apart : (L.map (·.1)).Nodup
section
variable {w0 w w' : World} {L : List (Nat × List Nat)} {g : Nat} {x y : List Nat}
theorem AMem.start (w : World) : AMem w w [] := ⟨Below.refl _ _, by simp, by simp, by simp, by simp⟩
theorem AMem.grow (H : AMem w0 w L) (hb : Below w.heap.size w w') : AMem w0 w' L :=
  ⟨H.below.trans (hb.mono H.below.size), fun g x h => (H.holds g x h).from hb, H.len, H.ours, H.apart⟩
theorem AMem.new (H : AMem w0 w L) (x : List Nat) (hx : x.length = 16) : AMem w0 (w.alloc (.cells (arrA x) 41)) ((w.heap.size, x) :: L) := by
  have H2 := H.grow ((Below.refl _ w).alloc (Nat.le_refl _) (.cells (arrA x) 41))
  refine ⟨H2.below, fun g y h => ?_, fun g y h => ?_, fun g y h => ?_, ?_⟩
  · rcases List.mem_cons.1 h with h | h
    · injection h with h1 h2; subst h1; subst h2; exact Arr.new w _ _ _
    · exact H2.holds g y h
  · rcases List.mem_cons.1 h with h | h
    · injection h with h1 h2; subst h2; exact hx
    · exact H.len g y h
  · rcases List.mem_cons.1 h with h | h
    · injection h with h1 h2; subst h1; exact H.below.size
    · exact H.ours g y h
  · rw [List.map_cons, List.nodup_cons]
    refine ⟨fun h => ?_, H.apart⟩
    obtain ⟨⟨g, y⟩, hm, he⟩ := List.mem_map.1 h
    have := (H.holds g y hm).lt
    simp only at he
    omega
theorem nodup_mid {A B : List (Nat × List Nat)} (h : ((A ++ (g, x) :: B).map (·.1)).Nodup) : ∀ p ∈ A ++ B, p.1 ≠ g := by
  rw [List.map_append, List.map_cons] at h
  obtain ⟨h1, h2, h3⟩ := List.nodup_append.1 h
  rw [List.nodup_cons] at h2
  intro p hp e
  rcases List.mem_append.1 hp with hp | hp
  · exact h3 p.1 (List.mem_map.2 ⟨p, hp, rfl⟩) g (List.mem_cons_self ..) e
  · exact h2.1 (List.mem_map.2 ⟨p, hp, e⟩)
theorem AMem.change {A B : List (Nat × List Nat)} (H : AMem w0 w (A ++ (g, x) :: B)) (hb : Below w0.heap.size w0 w') (ho : ∀ g', g' ≠ g → w'.heap[g']? = w.heap[g']?) (hy : AtA w' g y) (hl : y.length = 16) : AMem w0 w' (A ++ (g, y) :: B) := by
  have hne := nodup_mid H.apart
  have hk : (A ++ (g, y) :: B).map (·.1) = (A ++ (g, x) :: B).map (·.1) := by simp
  have key : ∀ g' z, (g', z) ∈ A ++ (g, y) :: B → (g' = g ∧ z = y) ∨ ((g', z) ∈ A ++ (g, x) :: B ∧ g' ≠ g) := by
    intro g' z hm
    rcases List.mem_append.1 hm with h | h
    · exact .inr ⟨List.mem_append_left _ h, hne _ (List.mem_append_left _ h)⟩
    · rcases List.mem_cons.1 h with h | h
      · injection h with e1 e2; exact .inl ⟨e1, e2⟩
      · exact .inr ⟨List.mem_append_right _ (List.mem_cons_of_mem _ h), hne _ (List.mem_append_right _ h)⟩
  refine ⟨hb, fun g' z hm => ?_, fun g' z hm => ?_, fun g' z hm => ?_, by rw [hk]; exact H.apart⟩
  · rcases key g' z hm with ⟨rfl, rfl⟩ | ⟨h, hn⟩
    · exact hy
    · exact (H.holds g' z h).of_heap (ho g' hn)
  · rcases key g' z hm with ⟨rfl, rfl⟩ | ⟨h, hn⟩
    · exact hl
    · exact H.len g' z h
  · rcases key g' z hm with ⟨rfl, rfl⟩ | ⟨h, hn⟩
    · exact H.ours g' x (by simp)
    · exact H.ours g' z h
theorem setRow_otherR (w : World) (g g' : Nat) (cs : Array Value) (h : g' ≠ g) : (w.setRow g cs).heap[g']? = w.heap[g']? := by
  show (w.heap.modify g _)[g']? = _
  rw [Array.getElem?_modify, if_neg (Ne.symm h)]
theorem AMem.put {A B : List (Nat × List Nat)} (H : AMem w0 w (A ++ (g, x) :: B)) (y : List Nat) (hy : y.length = 16) : AMem w0 (w.setRow g (arrA y)) (A ++ (g, y) :: B) :=
  H.change (below_setRow H.below (H.ours g x (by simp)) _) (fun g' h => setRow_otherR w g g' _ h) ⟨setRow_heap _ _ _ _ _ _ (H.holds g x (by simp)).blk⟩ hy
theorem AMem.cellAt {A B : List (Nat × List Nat)} (H : AMem w0 w (A ++ (g, x) :: B)) (i v : Nat) : AMem w0 (w.setCell ⟨g, i, none⟩ (.int .i64 (v : Int))) (A ++ (g, x.set i v) :: B) :=
  H.change (H.below.setCell (H.ours g x (by simp)) _) (fun g' h => Below.heap_setCell w ⟨g, i, none⟩ _ g' h) ((H.holds g x (by simp)).set i v) (by rw [List.length_set]; exact H.len g x (by simp))
theorem AMem.cellAtI {A B : List (Nat × List Nat)} (H : AMem w0 w (A ++ (g, x) :: B)) (i v : Nat) (u : Int) (hu : u = (v : Int)) : AMem w0 (w.setCell ⟨g, i, none⟩ (.int .i64 u)) (A ++ (g, x.set i v) :: B) := by subst hu; exact H.cellAt i v
theorem AMem.cell0 {B : List (Nat × List Nat)} (H : AMem w0 w ((g, x) :: B)) (i v : Nat) (u : Int) (hu : u = (v : Int)) : AMem w0 (w.setCell ⟨g, i, none⟩ (.int .i64 u)) ((g, x.set i v) :: B) := AMem.cellAtI (A := []) H i v u hu
theorem AMem.cell1 {p : Nat × List Nat} {B : List (Nat × List Nat)} (H : AMem w0 w (p :: (g, x) :: B)) (i v : Nat) (u : Int) (hu : u = (v : Int)) : AMem w0 (w.setCell ⟨g, i, none⟩ (.int .i64 u)) (p :: (g, x.set i v) :: B) := AMem.cellAtI (A := [p]) H i v u hu
theorem AMem.cell2 {p q : Nat × List Nat} {B : List (Nat × List Nat)} (H : AMem w0 w (p :: q :: (g, x) :: B)) (i v : Nat) (u : Int) (hu : u = (v : Int)) : AMem w0 (w.setCell ⟨g, i, none⟩ (.int .i64 u)) (p :: q :: (g, x.set i v) :: B) := AMem.cellAtI (A := [p, q]) H i v u hu
theorem AMem.cell (H : AMem w0 w L) (hm : (g, x) ∈ L) (i : Nat) (hi : i < 16) : w.cell? ⟨g, i, none⟩ = some (.int .i64 (x.getD i 0 : Nat)) := (H.holds g x hm).cell i (by rw [H.len g x hm]; exact hi)
theorem AMem.frozen (H : AMem w0 w L) (hm : (g, x) ∈ L) (i : Nat) : w.frozen? ⟨g, i, none⟩ = false := (H.holds g x hm).frozen i
theorem AMem.from (H : AMem w0 w L) (h : From w.drew w') : AMem w0 w' L := H.grow h.of_drew
theorem AMem.hcell (H : AMem w0 w L) (hm : (g, x) ∈ L) (i v : Nat) (hi : i < 16) (hv : x.getD i 0 = v) : ∀ u : Held (From w.drew), u.w.cell? ⟨g, i, none⟩ = some (.int .i64 (v : Int)) := fun u => hv ▸ (H.from u.h).cell hm i hi
end
section
variable {ops : Array Oper} {rest : List Oper} {o : Oper} {a : Act} {w0 w : World} {Q : Exit → Act → World → Prop} {L : List (Nat × List Nat)}
theorem a_box (hg : o.guard = none) (x : Operand) (ho : o.op = .box 41 x) (y : List Nat) (hx : a.eval x = .agg (arrA y)) (H : AMem w0 w L) (hy : y.length = 16)
    (h : ∀ g w', AMem w0 w' ((g, y) :: L) → wpList Try.prog ops Q rest (a.put o.dst (.pointer (some ⟨g, 0, none⟩))) w') : wpList Try.prog ops Q (o :: rest) a w :=
  Great.wpList_boxTo hg 41 x ho o.dst rfl w.heap.size rfl (arrA y) (by rw [hx]; rfl) (h _ _ (H.new y hy))
theorem a_alloc (hg : o.guard = none) (ho : o.op = .alloc 41) (H : AMem w0 w L)
    (h : ∀ g w', AMem w0 w' ((g, z16) :: L) → wpList Try.prog ops Q rest (a.put o.dst (.pointer (some ⟨g, 0, none⟩))) w') : wpList Try.prog ops Q (o :: rest) a w := by
  refine wpList_plain hg fun K hK => ?_
  unfold Oper.wp execOp
  simp only [ho, Instr.alloc, Sem.run_bind, zero_arr, newVar, newRow, run_newObj_alloc, Sem.run_pure, Result.andThen_ok]
  exact hK _ _ (h _ _ (H.new z16 z16_len))
theorem a_load (hg : o.guard = none) (x : Operand) (ho : o.op = .load 41 x) (g : Nat) (y : List Nat) (hx : a.eval x = .pointer (some ⟨g, 0, none⟩)) (H : AMem w0 w L) (hm : (g, y) ∈ L)
    (h : wpList Try.prog ops Q rest (a.put o.dst (.agg (arrA y))) w) : wpList Try.prog ops Q (o :: rest) a w :=
  wpList_load_row hg 41 x ho g hx 41 (arrA y) (0, 0) _ (H.holds g y hm).blk Try.underlying41 rfl (arrA_info y (H.len g y hm)) h
theorem a_store (hg : o.guard = none) (x v : Operand) (ho : o.op = .store 41 x v) (g : Nat) (old y : List Nat) (hx : a.eval x = .pointer (some ⟨g, 0, none⟩)) (hv : a.eval v = .agg (arrA y)) (A B : List (Nat × List Nat)) (H : AMem w0 w (A ++ (g, old) :: B)) (hy : y.length = 16)
    (h : ∀ w', AMem w0 w' (A ++ (g, y) :: B) → wpList Try.prog ops Q rest (a.put o.dst undef) w') : wpList Try.prog ops Q (o :: rest) a w :=
  wpList_store_row hg 41 x v ho g (arrA y) hx hv 41 (arrA old) (H.holds g old (by simp)).blk (arrA_info y hy) (by rw [arrA_size, arrA_size, hy]; exact H.len g old (by simp)) (arrA_one y) (h _ (H.put y hy))
theorem a_store0 (hg : o.guard = none) (x v : Operand) (ho : o.op = .store 41 x v) (g : Nat) (old y : List Nat) (hx : a.eval x = .pointer (some ⟨g, 0, none⟩)) (hv : a.eval v = .agg (arrA y)) (B : List (Nat × List Nat)) (H : AMem w0 w ((g, old) :: B)) (hy : y.length = 16)
    (h : ∀ w', AMem w0 w' ((g, y) :: B) → wpList Try.prog ops Q rest (a.put o.dst undef) w') : wpList Try.prog ops Q (o :: rest) a w := a_store hg x v ho g old y hx hv [] B H hy h
theorem a_store1 (hg : o.guard = none) (x v : Operand) (ho : o.op = .store 41 x v) (g : Nat) (old y : List Nat) (hx : a.eval x = .pointer (some ⟨g, 0, none⟩)) (hv : a.eval v = .agg (arrA y)) (p : Nat × List Nat) (B : List (Nat × List Nat)) (H : AMem w0 w (p :: (g, old) :: B)) (hy : y.length = 16)
    (h : ∀ w', AMem w0 w' (p :: (g, y) :: B) → wpList Try.prog ops Q rest (a.put o.dst undef) w') : wpList Try.prog ops Q (o :: rest) a w := a_store hg x v ho g old y hx hv [p] B H hy h
theorem a_store2 (hg : o.guard = none) (x v : Operand) (ho : o.op = .store 41 x v) (g : Nat) (old y : List Nat) (hx : a.eval x = .pointer (some ⟨g, 0, none⟩)) (hv : a.eval v = .agg (arrA y)) (p q : Nat × List Nat) (B : List (Nat × List Nat)) (H : AMem w0 w (p :: q :: (g, old) :: B)) (hy : y.length = 16)
    (h : ∀ w', AMem w0 w' (p :: q :: (g, y) :: B) → wpList Try.prog ops Q rest (a.put o.dst undef) w') : wpList Try.prog ops Q (o :: rest) a w := a_store hg x v ho g old y hx hv [p, q] B H hy h
theorem a_build (hg : o.guard = none) (ho : o.op = .build 41 #[]) (h : wpList Try.prog ops Q rest (a.put o.dst (.agg (arrA z16))) w) : wpList Try.prog ops Q (o :: rest) a w :=
  wpList_build hg 41 #[] ho (by rw [Array.map_empty, built_arr]; rfl) (by rw [Array.map_empty, built_arr]; exact h)
theorem a_call {f : FuncId} {args : Array Value} {v : Value} {Q : Ending → World → Prop} (H : AMem w0 w L) (c : Calls Try.prog f args w fun e w' => e = .returned v ∧ Below w.heap.size w w')
    (h : ∀ w', AMem w0 w' L → Q (.returned v) w') : Calls Try.prog f args w Q :=
  c.mono fun _ w' ⟨he, hb⟩ => he ▸ h w' (H.grow hb)
theorem a_quiet_load {K : Act → Prop} (x : Operand) (ho : o.op = .load 41 x) (g : Nat) (y : List Nat) (hx : a.eval x = .pointer (some ⟨g, 0, none⟩)) (H : AMem w0 w L) (hm : (g, y) ∈ L)
    (h : K (a.put o.dst (.agg (arrA y)))) : o.quiet Try.prog a (fun w' => ∃ u : Held (From w.drew), w' = u.w) K :=
  quiet_load_row 41 x ho g hx 41 (arrA y) _ (fun _ ⟨u, e⟩ => ⟨(0, 0), e ▸ ((H.from u.h).holds g y hm).blk⟩) Try.underlying41 rfl (arrA_info y (H.len g y hm)) h
def AP (l : List Nat) (w : World) (e : Ending) (w' : World) : Prop := e = .returned (arrV l) ∧ Below w.heap.size w w'
/-- The end: the result stands in a block. -/
theorem a_ret {fn : Func} {p : Tmp} {x y : List Nat} {g : Nat} (hr : fn.results = #[.cell p 41]) (a : Act) (hp : a.tmps.getD p undef = .pointer (some ⟨g, 0, none⟩)) (hd : a.defers = []) (H : AMem w0 w L) (hm : (g, x) ∈ L) (he : x = y) :
    bodyPost Try.prog fn (AP y w0) .ret a w := by
  subst he
  exact bodyPost_ret (results_cell_row hr _ _ g 41 (arrA x) (0, 0) _ hp (H.holds g x hm).blk Try.underlying41 rfl (arrA_info x (H.len g x hm))) hd ⟨rfl, H.below⟩
end
end Go.Proofs.Ytbkaemekcjinaaa
