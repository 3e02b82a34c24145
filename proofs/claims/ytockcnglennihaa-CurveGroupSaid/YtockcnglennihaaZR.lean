/- The document's answer for package field: its numbers (16 digits) in blocks, as one state of the memory; laws of the walk over it.
Walks of the document's answer for package field: p, small numbers, which is below.
Walks of the document's answer for package field: small numbers; which is below; differences.
Walks of the document's answer for package field: differences.
Walks of the document's answer for package field: digits that are too great, modulo p.
Walks of the document's answer for package field: sums and differences modulo p.
Walks of the document's answer for package field: the bytes of a number. -/
import Derived.Test.YtockcnglennihaaZA
import Derived.Test.YtockcnglennihaaZK
import Derived.Great.Ranges
import Derived.Deep.LoopGhost
import Derived.Test.YtockcnglennihaaZB
import Derived.Deep.OwnRows
section
set_option linter.unusedVariables false
namespace Go.Proofs.Ytockcnglennihaa
open Go.RowKit
theorem infoR : (Try.prog.info? 46).map (·.size) = some 16 := by kernel_rfl
def arrA (l : List Nat) : Array Value := (numC .i64 l).toArray
def arrV (l : List Nat) : Value := .agg (arrA l)
def z16 : List Nat := List.replicate 16 0
theorem z16_len : z16.length = 16 := rfl
theorem arrA_size (l : List Nat) : (arrA l).size = l.length := by rw [arrA, List.size_toArray, numC_length]
theorem arrA_one (l : List Nat) : (arrA l).all (·.oneCell') = true := numC_one _ _
theorem arrA_info (l : List Nat) (h : l.length = 16) : (Try.prog.info? 46).map (·.size) = some (arrA l).size := by rw [infoR, arrA_size, h]
theorem zero_arr : ∀ w, (zeroValue 46).run Try.prog w = .ok (.agg (arrA z16)) w := by
  have h : (arrA z16) = (numC .i64 (List.replicate 16 0)).toArray := rfl
  rw [h]
  exact (zero_of_info (n := 16) (by kernel_rfl)).1
theorem built_arr : Try.prog.built 46 [] = some (arrA z16) := by kernel_rfl
def AtA (w : World) (g : Nat) (l : List Nat) : Prop := Arr w g 46 .i64 l
/-- What the call has: since its first world what was there is as it was, and of its own blocks these hold these numbers. -/
structure AMem (w0 w : World) (L : List (Nat × List Nat)) : Prop where
  below : Below w0.heap.size w0 w
  holds : ∀ g x, (g, x) ∈ L → AtA w g x
  len : ∀ g x, (g, x) ∈ L → x.length = 16
  ours : ∀ g x, (g, x) ∈ L → w0.heap.size ≤ g
  apart : (L.map (·.1)).Nodup
section
variable {w0 w w' : World} {L : List (Nat × List Nat)} {g : Nat} {x y : List Nat}
theorem AMem.start (w : World) : AMem w w [] := ⟨Below.refl _ _, by simp, by simp, by simp, by simp⟩
theorem AMem.grow (H : AMem w0 w L) (hb : Below w.heap.size w w') : AMem w0 w' L :=
  ⟨H.below.trans (hb.mono H.below.size), fun g x h => (H.holds g x h).from hb, H.len, H.ours, H.apart⟩
theorem AMem.new (H : AMem w0 w L) (x : List Nat) (hx : x.length = 16) : AMem w0 (w.alloc (.cells (arrA x) 46)) ((w.heap.size, x) :: L) := by
  have H2 := H.grow ((Below.refl _ w).alloc (Nat.le_refl _) (.cells (arrA x) 46))
  refine ⟨H2.below, fun g y h => ?_, fun g y h => ?_, fun g y h => ?_, ?_⟩
  · rcases List.mem_cons.1 h with h | h
    · injection h with h1 h2; subst h1; subst h2; exact Arr.new w _ _ _
    · exact H2.holds g y h
  · rcases List.mem_cons.1 h with h | h
    · injection h with h1 h2; subst h2; exact hx
    · exact H.len g y h
  · rcases List.mem_cons.1 h with h | h
    · injection h with h1 h2; subst h1; exact H.below.size
    · exact H.ours g y h
  · rw [List.map_cons, List.nodup_cons]
    refine ⟨fun h => ?_, H.apart⟩
    obtain ⟨⟨g, y⟩, hm, he⟩ := List.mem_map.1 h
    have := (H.holds g y hm).lt
    simp only at he
    omega
theorem nodup_mid {A B : List (Nat × List Nat)} (h : ((A ++ (g, x) :: B).map (·.1)).Nodup) : ∀ p ∈ A ++ B, p.1 ≠ g := by
  rw [List.map_append, List.map_cons] at h
  obtain ⟨h1, h2, h3⟩ := List.nodup_append.1 h
  rw [List.nodup_cons] at h2
  intro p hp e
  rcases List.mem_append.1 hp with hp | hp
  · exact h3 p.1 (List.mem_map.2 ⟨p, hp, rfl⟩) g (List.mem_cons_self ..) e
  · exact h2.1 (List.mem_map.2 ⟨p, hp, e⟩)
theorem AMem.change {A B : List (Nat × List Nat)} (H : AMem w0 w (A ++ (g, x) :: B)) (hb : Below w0.heap.size w0 w') (ho : ∀ g', g' ≠ g → w'.heap[g']? = w.heap[g']?) (hy : AtA w' g y) (hl : y.length = 16) : AMem w0 w' (A ++ (g, y) :: B) := by
  have hne := nodup_mid H.apart
  have hk : (A ++ (g, y) :: B).map (·.1) = (A ++ (g, x) :: B).map (·.1) := by simp
  have key : ∀ g' z, (g', z) ∈ A ++ (g, y) :: B → (g' = g ∧ z = y) ∨ ((g', z) ∈ A ++ (g, x) :: B ∧ g' ≠ g) := by
    intro g' z hm
    rcases List.mem_append.1 hm with h | h
    · exact .inr ⟨List.mem_append_left _ h, hne _ (List.mem_append_left _ h)⟩
    · rcases List.mem_cons.1 h with h | h
      · injection h with e1 e2; exact .inl ⟨e1, e2⟩
      · exact .inr ⟨List.mem_append_right _ (List.mem_cons_of_mem _ h), hne _ (List.mem_append_right _ h)⟩
  refine ⟨hb, fun g' z hm => ?_, fun g' z hm => ?_, fun g' z hm => ?_, by rw [hk]; exact H.apart⟩
  · rcases key g' z hm with ⟨rfl, rfl⟩ | ⟨h, hn⟩
    · exact hy
    · exact (H.holds g' z h).of_heap (ho g' hn)
  · rcases key g' z hm with ⟨rfl, rfl⟩ | ⟨h, hn⟩
    · exact hl
    · exact H.len g' z h
  · rcases key g' z hm with ⟨rfl, rfl⟩ | ⟨h, hn⟩
    · exact H.ours g' x (by simp)
    · exact H.ours g' z h
theorem setRow_otherR (w : World) (g g' : Nat) (cs : Array Value) (h : g' ≠ g) : (w.setRow g cs).heap[g']? = w.heap[g']? := by
  show (w.heap.modify g _)[g']? = _
  rw [Array.getElem?_modify, if_neg (Ne.symm h)]
theorem AMem.put {A B : List (Nat × List Nat)} (H : AMem w0 w (A ++ (g, x) :: B)) (y : List Nat) (hy : y.length = 16) : AMem w0 (w.setRow g (arrA y)) (A ++ (g, y) :: B) :=
  H.change (below_setRow H.below (H.ours g x (by simp)) _) (fun g' h => setRow_otherR w g g' _ h) ⟨setRow_heap _ _ _ _ _ _ (H.holds g x (by simp)).blk⟩ hy
theorem AMem.cellAt {A B : List (Nat × List Nat)} (H : AMem w0 w (A ++ (g, x) :: B)) (i v : Nat) : AMem w0 (w.setCell ⟨g, i, none⟩ (.int .i64 (v : Int))) (A ++ (g, x.set i v) :: B) :=
  H.change (H.below.setCell (H.ours g x (by simp)) _) (fun g' h => Below.heap_setCell w ⟨g, i, none⟩ _ g' h) ((H.holds g x (by simp)).set i v) (by rw [List.length_set]; exact H.len g x (by simp))
theorem AMem.cellAtI {A B : List (Nat × List Nat)} (H : AMem w0 w (A ++ (g, x) :: B)) (i v : Nat) (u : Int) (hu : u = (v : Int)) : AMem w0 (w.setCell ⟨g, i, none⟩ (.int .i64 u)) (A ++ (g, x.set i v) :: B) := by subst hu; exact H.cellAt i v
theorem AMem.cell0 {B : List (Nat × List Nat)} (H : AMem w0 w ((g, x) :: B)) (i v : Nat) (u : Int) (hu : u = (v : Int)) : AMem w0 (w.setCell ⟨g, i, none⟩ (.int .i64 u)) ((g, x.set i v) :: B) := AMem.cellAtI (A := []) H i v u hu
theorem AMem.cell1 {p : Nat × List Nat} {B : List (Nat × List Nat)} (H : AMem w0 w (p :: (g, x) :: B)) (i v : Nat) (u : Int) (hu : u = (v : Int)) : AMem w0 (w.setCell ⟨g, i, none⟩ (.int .i64 u)) (p :: (g, x.set i v) :: B) := AMem.cellAtI (A := [p]) H i v u hu
theorem AMem.cell2 {p q : Nat × List Nat} {B : List (Nat × List Nat)} (H : AMem w0 w (p :: q :: (g, x) :: B)) (i v : Nat) (u : Int) (hu : u = (v : Int)) : AMem w0 (w.setCell ⟨g, i, none⟩ (.int .i64 u)) (p :: q :: (g, x.set i v) :: B) := AMem.cellAtI (A := [p, q]) H i v u hu
theorem AMem.cell (H : AMem w0 w L) (hm : (g, x) ∈ L) (i : Nat) (hi : i < 16) : w.cell? ⟨g, i, none⟩ = some (.int .i64 (x.getD i 0 : Nat)) := (H.holds g x hm).cell i (by rw [H.len g x hm]; exact hi)
theorem AMem.frozen (H : AMem w0 w L) (hm : (g, x) ∈ L) (i : Nat) : w.frozen? ⟨g, i, none⟩ = false := (H.holds g x hm).frozen i
theorem AMem.from (H : AMem w0 w L) (h : From w.drew w') : AMem w0 w' L := H.grow h.of_drew
theorem AMem.hcell (H : AMem w0 w L) (hm : (g, x) ∈ L) (i v : Nat) (hi : i < 16) (hv : x.getD i 0 = v) : ∀ u : Held (From w.drew), u.w.cell? ⟨g, i, none⟩ = some (.int .i64 (v : Int)) := fun u => hv ▸ (H.from u.h).cell hm i hi
end
section
variable {ops : Array Oper} {rest : List Oper} {o : Oper} {a : Act} {w0 w : World} {Q : Exit → Act → World → Prop} {L : List (Nat × List Nat)}
theorem a_box (hg : o.guard = none) (x : Operand) (ho : o.op = .box 46 x) (y : List Nat) (hx : a.eval x = .agg (arrA y)) (H : AMem w0 w L) (hy : y.length = 16)
    (h : ∀ g w', AMem w0 w' ((g, y) :: L) → wpList Try.prog ops Q rest (a.put o.dst (.pointer (some ⟨g, 0, none⟩))) w') : wpList Try.prog ops Q (o :: rest) a w :=
  Great.wpList_boxTo hg 46 x ho o.dst rfl w.heap.size rfl (arrA y) (by rw [hx]; rfl) (h _ _ (H.new y hy))
theorem a_alloc (hg : o.guard = none) (ho : o.op = .alloc 46) (H : AMem w0 w L)
    (h : ∀ g w', AMem w0 w' ((g, z16) :: L) → wpList Try.prog ops Q rest (a.put o.dst (.pointer (some ⟨g, 0, none⟩))) w') : wpList Try.prog ops Q (o :: rest) a w := by
  refine wpList_plain hg fun K hK => ?_
  unfold Oper.wp execOp
  simp only [ho, Instr.alloc, Sem.run_bind, zero_arr, newVar, newRow, run_newObj_alloc, Sem.run_pure, Result.andThen_ok]
  exact hK _ _ (h _ _ (H.new z16 z16_len))
theorem a_load (hg : o.guard = none) (x : Operand) (ho : o.op = .load 46 x) (g : Nat) (y : List Nat) (hx : a.eval x = .pointer (some ⟨g, 0, none⟩)) (H : AMem w0 w L) (hm : (g, y) ∈ L)
    (h : wpList Try.prog ops Q rest (a.put o.dst (.agg (arrA y))) w) : wpList Try.prog ops Q (o :: rest) a w :=
  wpList_load_row hg 46 x ho g hx 46 (arrA y) (0, 0) _ (H.holds g y hm).blk Try.underlying46 rfl (arrA_info y (H.len g y hm)) h
theorem a_store (hg : o.guard = none) (x v : Operand) (ho : o.op = .store 46 x v) (g : Nat) (old y : List Nat) (hx : a.eval x = .pointer (some ⟨g, 0, none⟩)) (hv : a.eval v = .agg (arrA y)) (A B : List (Nat × List Nat)) (H : AMem w0 w (A ++ (g, old) :: B)) (hy : y.length = 16)
    (h : ∀ w', AMem w0 w' (A ++ (g, y) :: B) → wpList Try.prog ops Q rest (a.put o.dst undef) w') : wpList Try.prog ops Q (o :: rest) a w :=
  wpList_store_row hg 46 x v ho g (arrA y) hx hv 46 (arrA old) (H.holds g old (by simp)).blk (arrA_info y hy) (by rw [arrA_size, arrA_size, hy]; exact H.len g old (by simp)) (arrA_one y) (h _ (H.put y hy))
theorem a_store0 (hg : o.guard = none) (x v : Operand) (ho : o.op = .store 46 x v) (g : Nat) (old y : List Nat) (hx : a.eval x = .pointer (some ⟨g, 0, none⟩)) (hv : a.eval v = .agg (arrA y)) (B : List (Nat × List Nat)) (H : AMem w0 w ((g, old) :: B)) (hy : y.length = 16)
    (h : ∀ w', AMem w0 w' ((g, y) :: B) → wpList Try.prog ops Q rest (a.put o.dst undef) w') : wpList Try.prog ops Q (o :: rest) a w := a_store hg x v ho g old y hx hv [] B H hy h
theorem a_store1 (hg : o.guard = none) (x v : Operand) (ho : o.op = .store 46 x v) (g : Nat) (old y : List Nat) (hx : a.eval x = .pointer (some ⟨g, 0, none⟩)) (hv : a.eval v = .agg (arrA y)) (p : Nat × List Nat) (B : List (Nat × List Nat)) (H : AMem w0 w (p :: (g, old) :: B)) (hy : y.length = 16)
    (h : ∀ w', AMem w0 w' (p :: (g, y) :: B) → wpList Try.prog ops Q rest (a.put o.dst undef) w') : wpList Try.prog ops Q (o :: rest) a w := a_store hg x v ho g old y hx hv [p] B H hy h
theorem a_store2 (hg : o.guard = none) (x v : Operand) (ho : o.op = .store 46 x v) (g : Nat) (old y : List Nat) (hx : a.eval x = .pointer (some ⟨g, 0, none⟩)) (hv : a.eval v = .agg (arrA y)) (p q : Nat × List Nat) (B : List (Nat × List Nat)) (H : AMem w0 w (p :: q :: (g, old) :: B)) (hy : y.length = 16)
    (h : ∀ w', AMem w0 w' (p :: q :: (g, y) :: B) → wpList Try.prog ops Q rest (a.put o.dst undef) w') : wpList Try.prog ops Q (o :: rest) a w := a_store hg x v ho g old y hx hv [p, q] B H hy h
theorem a_build (hg : o.guard = none) (ho : o.op = .build 46 #[]) (h : wpList Try.prog ops Q rest (a.put o.dst (.agg (arrA z16))) w) : wpList Try.prog ops Q (o :: rest) a w :=
  wpList_build hg 46 #[] ho (by rw [Array.map_empty, built_arr]; rfl) (by rw [Array.map_empty, built_arr]; exact h)
theorem a_call {f : FuncId} {args : Array Value} {v : Value} {Q : Ending → World → Prop} (H : AMem w0 w L) (c : Calls Try.prog f args w fun e w' => e = .returned v ∧ Below w.heap.size w w')
    (h : ∀ w', AMem w0 w' L → Q (.returned v) w') : Calls Try.prog f args w Q :=
  c.mono fun _ w' ⟨he, hb⟩ => he ▸ h w' (H.grow hb)
theorem a_quiet_load {K : Act → Prop} (x : Operand) (ho : o.op = .load 46 x) (g : Nat) (y : List Nat) (hx : a.eval x = .pointer (some ⟨g, 0, none⟩)) (H : AMem w0 w L) (hm : (g, y) ∈ L)
    (h : K (a.put o.dst (.agg (arrA y)))) : o.quiet Try.prog a (fun w' => ∃ u : Held (From w.drew), w' = u.w) K :=
  quiet_load_row 46 x ho g hx 46 (arrA y) _ (fun _ ⟨u, e⟩ => ⟨(0, 0), e ▸ ((H.from u.h).holds g y hm).blk⟩) Try.underlying46 rfl (arrA_info y (H.len g y hm)) h
def AP (l : List Nat) (w : World) (e : Ending) (w' : World) : Prop := e = .returned (arrV l) ∧ Below w.heap.size w w'
/-- The end: the result stands in a block. -/
theorem a_ret {fn : Func} {p : Tmp} {x y : List Nat} {g : Nat} (hr : fn.results = #[.cell p 46]) (a : Act) (hp : a.tmps.getD p undef = .pointer (some ⟨g, 0, none⟩)) (hd : a.defers = []) (H : AMem w0 w L) (hm : (g, x) ∈ L) (he : x = y) :
    bodyPost Try.prog fn (AP y w0) .ret a w := by
  subst he
  exact bodyPost_ret (results_cell_row hr _ _ g 46 (arrA x) (0, 0) _ hp (H.holds g x hm).blk Try.underlying46 rfl (arrA_info x (H.len g x hm))) hd ⟨rfl, H.below⟩
end
end Go.Proofs.Ytockcnglennihaa
end
section
set_option linter.unusedSimpArgs false
set_option linter.unusedVariables false
namespace Go.Proofs.Ytockcnglennihaa
open Go.RowKit
/-- The digits of a number. -/
def Md (x : Nat) : List Nat := limbs 65536 16 x
theorem Md_len (x : Nat) : (Md x).length = 16 := limbs_len _ _ _
theorem Md_lt (x : Nat) : ∀ y ∈ Md x, y < 65536 := limbs_lt (by decide) _ _
theorem big16 : (65536 : Nat) ^ 16 = big := by decide +kernel
theorem Md_val (x : Nat) (h : x < big) : valB 65536 (Md x) = x := by
  unfold Md
  rw [val_limbs, big16, Nat.mod_eq_of_lt h]
theorem Md_of (l : List Nat) (n : Nat) (hk : l.length = 16) (h : ∀ x ∈ l, x < 65536) (hv : valB 65536 l = n) : l = Md n := limbs_eq (by decide) l 16 n hk h hv
theorem Md_p : Md pF = [65517, 65535, 65535, 65535, 65535, 65535, 65535, 65535, 65535, 65535, 65535, 65535, 65535, 65535, 65535, 32767] := by decide +kernel
theorem set_at (l : List Nat) (i x : Nat) (h : i < l.length) : (l.set i x) = l.take i ++ x :: l.drop (i + 1) := by
  rw [List.set_eq_take_append_cons_drop, if_pos h]
def fillP (i : Nat) : List Nat := List.replicate i 65535 ++ List.replicate (16 - i) 0
theorem fillP_set (i : Nat) (h : i < 16) : (fillP i).set i 65535 = fillP (i + 1) := by
  unfold fillP
  rw [show 16 - i = (16 - (i + 1)) + 1 by omega, List.replicate_succ]
  have : (List.replicate i 65535 ++ 0 :: List.replicate (16 - (i + 1)) 0).set i 65535 = List.replicate i 65535 ++ 65535 :: List.replicate (16 - (i + 1)) 0 := by
    have e := set_mid (List.replicate i 65535) (List.replicate (16 - (i + 1)) 0) 0 65535
    rw [List.length_replicate] at e
    rw [e]; simp
  rw [this, List.replicate_succ']
  simp
set_option maxHeartbeats 1000000 in
theorem P_any (wS : World) : Calls Try.prog 60 #[] wS (AP (Md pF) wS) := by
  have H := AMem.start wS
  go_enter Try.func60, Try.ntmps60
  go_wp2_with (first
    | (refine a_box rfl _ rfl _ rfl (by assumption) (by first | assumption | exact limbs_len _ _ _ | exact z16_len) ?_; intro g w H; try simp only [Act.put, List.setIfInBounds_toArray, List.set_cons_succ, List.set_cons_zero])
    | (refine a_alloc rfl rfl (by assumption) ?_; intro g w H; try simp only [Act.put, List.setIfInBounds_toArray, List.set_cons_succ, List.set_cons_zero])
    | (refine a_build rfl rfl ?_; try simp only [Act.put, List.setIfInBounds_toArray, List.set_cons_succ, List.set_cons_zero])
    | (refine a_load rfl _ rfl _ _ rfl (by assumption) (by (first | exact .head _ | exact .tail _ (.head _) | exact .tail _ (.tail _ (.head _)) | exact .tail _ (.tail _ (.tail _ (.head _))) | exact .tail _ (.tail _ (.tail _ (.tail _ (.head _)))))) ?_; try simp only [Act.put, List.setIfInBounds_toArray, List.set_cons_succ, List.set_cons_zero])
    | (refine a_store0 rfl _ _ rfl _ _ _ rfl rfl _ (by assumption) (by first | assumption | exact limbs_len _ _ _ | exact z16_len) ?_; intro w H; try simp only [Act.put, List.setIfInBounds_toArray, List.set_cons_succ, List.set_cons_zero])
    | (refine a_store1 rfl _ _ rfl _ _ _ rfl rfl _ _ (by assumption) (by first | assumption | exact limbs_len _ _ _ | exact z16_len) ?_; intro w H; try simp only [Act.put, List.setIfInBounds_toArray, List.set_cons_succ, List.set_cons_zero])
    | (refine a_store2 rfl _ _ rfl _ _ _ rfl rfl _ _ _ (by assumption) (by first | assumption | exact limbs_len _ _ _ | exact z16_len) ?_; intro w H; try simp only [Act.put, List.setIfInBounds_toArray, List.set_cons_succ, List.set_cons_zero]))
  rename_i gr _ _ _ _ K _
  go_loopw [2] (fun v2 wr => ∃ (i : Nat), i ≤ 16 ∧ v2 = .int .i64 (i : Int) ∧ AMem wS wr [(g, fillP i), (gr, z16)]) (fun v2 _ => 16 - (RowKit.intOf v2).toNat)
  case atStart => exact ⟨0, by omega, rfl, H⟩
  case round =>
    clear H
    obtain ⟨i, hi, rfl, H⟩ := hrel
    by_cases hlt : i < 16
    · have hlti : (i : Int) < 16 := by omega
      have c1 := H.cell (.head _) i hlt
      have f1 := H.frozen (.head _) i
      have Hn := H.cell0 i 65535 65535 rfl
      rw [fillP_set i hlt] at Hn
      clear hi
      go_wp2
      go_roundw
      case rel => exact ⟨i + 1, hlt, val_eq (by omega), Hn⟩
      case measure => simp [RowKit.intOf]; omega
    · obtain rfl : i = 16 := by omega
      have c1 := H.cell (.head _) 0 (by omega)
      have f1 := H.frozen (.head _) 0
      have c2 := H.cell (.head _) 15 (by omega)
      have f2 := H.frozen (.head _) 15
      have Hm := (H.cell0 0 65517 65517 rfl).cell0 15 32767 32767 rfl
      have hl : (((fillP 16).set 0 65517).set 15 32767).length = 16 := by simp [fillP]
      have he : ((fillP 16).set 0 65517).set 15 32767 = Md pF := by rw [Md_p]; rfl
      replace he := Kept.mk he
      go_wp2_with (first
        | (refine a_box rfl _ rfl _ rfl (by assumption) (by first | assumption | exact limbs_len _ _ _ | exact z16_len) ?_; intro g w H; try simp only [Act.put, List.setIfInBounds_toArray, List.set_cons_succ, List.set_cons_zero])
        | (refine a_alloc rfl rfl (by assumption) ?_; intro g w H; try simp only [Act.put, List.setIfInBounds_toArray, List.set_cons_succ, List.set_cons_zero])
        | (refine a_build rfl rfl ?_; try simp only [Act.put, List.setIfInBounds_toArray, List.set_cons_succ, List.set_cons_zero])
        | (refine a_load rfl _ rfl _ _ rfl (by assumption) (by (first | exact .head _ | exact .tail _ (.head _) | exact .tail _ (.tail _ (.head _)) | exact .tail _ (.tail _ (.tail _ (.head _))) | exact .tail _ (.tail _ (.tail _ (.tail _ (.head _)))))) ?_; try simp only [Act.put, List.setIfInBounds_toArray, List.set_cons_succ, List.set_cons_zero])
        | (refine a_store0 rfl _ _ rfl _ _ _ rfl rfl _ (by assumption) (by first | assumption | exact limbs_len _ _ _ | exact z16_len) ?_; intro w H; try simp only [Act.put, List.setIfInBounds_toArray, List.set_cons_succ, List.set_cons_zero])
        | (refine a_store1 rfl _ _ rfl _ _ _ rfl rfl _ _ (by assumption) (by first | assumption | exact limbs_len _ _ _ | exact z16_len) ?_; intro w H; try simp only [Act.put, List.setIfInBounds_toArray, List.set_cons_succ, List.set_cons_zero])
        | (refine a_store2 rfl _ _ rfl _ _ _ rfl rfl _ _ _ (by assumption) (by first | assumption | exact limbs_len _ _ _ | exact z16_len) ?_; intro w H; try simp only [Act.put, List.setIfInBounds_toArray, List.set_cons_succ, List.set_cons_zero]))
      exact a_ret Try.results60 _ rfl rfl (by assumption) (by (first | exact .head _ | exact .tail _ (.head _) | exact .tail _ (.tail _ (.head _)) | exact .tail _ (.tail _ (.tail _ (.head _))) | exact .tail _ (.tail _ (.tail _ (.tail _ (.head _)))))) (he.out)
end Go.Proofs.Ytockcnglennihaa
end
section
set_option linter.unusedSimpArgs false
set_option linter.unusedVariables false
namespace Go.Proofs.Ytockcnglennihaa
open Go.RowKit
theorem small_list (n : Nat) (h : n < 4294967296) : ((z16.set 0 (n % 65536)).set 1 (n / 65536)) = Md n := by
  refine Md_of _ _ (by simp [z16_len]) ?_ ?_
  · intro x hx
    simp [z16, List.replicate] at hx
    rcases hx with rfl | rfl | rfl
    · omega
    · omega
    · omega
  · simp [z16, List.replicate, valB]
    omega
set_option maxHeartbeats 1000000 in
theorem Small_any (n : Nat) (h : n < 4294967296) (wS : World) : Calls Try.prog 39 #[.int .i64 (n : Int)] wS (AP (Md n) wS) := by
  have H := AMem.start wS
  have he := Kept.mk (small_list n h)
  have h0 : (0 : Int) ≤ (n : Int) := by omega
  have h1 : (n : Int) < 4294967296 := by omega
  clear h
  go_enter Try.func39, Try.ntmps39
  go_wp2_with (first
    | (refine a_box rfl _ rfl _ rfl (by assumption) (by first | assumption | exact limbs_len _ _ _ | exact z16_len) ?_; intro g w H; try simp only [Act.put, List.setIfInBounds_toArray, List.set_cons_succ, List.set_cons_zero])
    | (refine a_alloc rfl rfl (by assumption) ?_; intro g w H; try simp only [Act.put, List.setIfInBounds_toArray, List.set_cons_succ, List.set_cons_zero])
    | (refine a_build rfl rfl ?_; try simp only [Act.put, List.setIfInBounds_toArray, List.set_cons_succ, List.set_cons_zero])
    | (refine a_load rfl _ rfl _ _ rfl (by assumption) (by (first | exact .head _ | exact .tail _ (.head _) | exact .tail _ (.tail _ (.head _)) | exact .tail _ (.tail _ (.tail _ (.head _))) | exact .tail _ (.tail _ (.tail _ (.tail _ (.head _)))))) ?_; try simp only [Act.put, List.setIfInBounds_toArray, List.set_cons_succ, List.set_cons_zero])
    | (refine a_store0 rfl _ _ rfl _ _ _ rfl rfl _ (by assumption) (by first | assumption | exact limbs_len _ _ _ | exact z16_len) ?_; intro w H; have c0 := H.cell (.head _) 0 (by omega); have f0 := H.frozen (.head _) 0; have c1 := H.cell (.head _) 1 (by omega); have f1 := H.frozen (.head _) 1; have Hm := (H.cell0 0 (n % 65536) ((n : Int) % 65536) (by omega)).cell0 1 (n / 65536) ((n : Int) / 65536) (by omega); have hl : ((z16.set 0 (n % 65536)).set 1 (n / 65536)).length = 16 := by simp [z16_len]; try simp only [Act.put, List.setIfInBounds_toArray, List.set_cons_succ, List.set_cons_zero])
    | (refine a_store1 rfl _ _ rfl _ _ _ rfl rfl _ _ (by assumption) (by first | assumption | exact limbs_len _ _ _ | exact z16_len) ?_; intro w H; try simp only [Act.put, List.setIfInBounds_toArray, List.set_cons_succ, List.set_cons_zero]))
  exact a_ret Try.results39 _ rfl rfl (by assumption) (by (first | exact .head _ | exact .tail _ (.head _) | exact .tail _ (.tail _ (.head _)) | exact .tail _ (.tail _ (.tail _ (.head _))) | exact .tail _ (.tail _ (.tail _ (.tail _ (.head _)))))) (he.out)
theorem top_ltB (B : Nat) (hB : 0 < B) (a b : List Nat) (k : Nat) (hl : a.length = b.length) (hk : k < a.length) (ha : ∀ x ∈ a, x < B) (h : a.drop (k + 1) = b.drop (k + 1)) (hlt : a.getD k 0 < b.getD k 0) : valB B a < valB B b := by
  have split : ∀ (l : List Nat) (k : Nat), k ≤ l.length → valB B l = valB B (l.take k) + B ^ k * valB B (l.drop k) := by
    intro l k
    induction k generalizing l with
    | zero => intro _; simp [valB]
    | succ k ih =>
      intro h
      cases l with
      | nil => simp at h
      | cons x r =>
        rw [List.take_succ_cons, List.drop_succ_cons, valB, valB, ih r (by simpa using h), Nat.mul_add, Nat.pow_succ, Nat.mul_comm (B ^ k) B, Nat.mul_assoc]
        omega
  rw [split a k (by omega), split b k (by omega), drop_getD a k hk, drop_getD b k (by omega), valB, valB, h]
  have h1 := valB_lt hB (a.take k) fun x hx => ha x (List.mem_of_mem_take hx)
  rw [List.length_take, Nat.min_eq_left (by omega)] at h1
  generalize B * valB B (b.drop (k + 1)) = v
  have h2 : B ^ k * (a.getD k 0 + v + 1) ≤ B ^ k * (b.getD k 0 + v) := Nat.mul_le_mul_left _ (by omega)
  rw [Nat.mul_add _ _ 1, Nat.mul_one] at h2
  omega
set_option maxHeartbeats 1000000 in
theorem Below_any (x y : Nat) (hx : x < big) (hy : y < big) (wS : World) : Calls Try.prog 69 #[arrV (Md x), arrV (Md y)] wS fun e w' => e = .returned (.bool (decide (x < y))) ∧ Below wS.heap.size wS w' := by
  have H := AMem.start wS
  obtain ⟨a, ha⟩ : ∃ a, Md x = a := ⟨_, rfl⟩
  obtain ⟨b, hb⟩ : ∃ b, Md y = b := ⟨_, rfl⟩
  have hal : a.length = 16 := by rw [← ha, Md_len]
  have hbl : b.length = 16 := by rw [← hb, Md_len]
  have haW : ∀ x ∈ a, x < 65536 := ha ▸ Md_lt x
  have hbW : ∀ x ∈ b, x < 65536 := hb ▸ Md_lt y
  have hav : valB 65536 a = x := by rw [← ha]; exact Md_val x hx
  have hbv : valB 65536 b = y := by rw [← hb]; exact Md_val y hy
  rw [ha, hb]
  have hlt1 : ∀ k, k < 16 → a.drop (k + 1) = b.drop (k + 1) → a.getD k 0 < b.getD k 0 → x < y := fun k hk h h2 => by
    rw [← hav, ← hbv]; exact top_ltB 65536 (by decide) a b k (by rw [hal, hbl]) (by rw [hal]; exact hk) haW h h2
  have hlt2 : ∀ k, k < 16 → a.drop (k + 1) = b.drop (k + 1) → b.getD k 0 < a.getD k 0 → y < x := fun k hk h h2 => by
    rw [← hav, ← hbv]; exact top_ltB 65536 (by decide) b a k (by rw [hal, hbl]) (by rw [hbl]; exact hk) hbW h.symm h2
  have hcc := Kept.mk (And.intro hlt1 hlt2)
  replace hav := Kept.mk hav
  replace hbv := Kept.mk hbv
  replace haW := Kept.mk haW
  replace hbW := Kept.mk hbW
  replace ha := Kept.mk ha
  replace hb := Kept.mk hb
  have hll := Kept.mk (And.intro hal hbl)
  clear hx hy hlt1 hlt2
  unfold arrV
  go_enter Try.func69, Try.ntmps69
  go_wp2_with (first
    | (refine a_box rfl _ rfl _ rfl (by assumption) (by first | assumption | exact limbs_len _ _ _ | exact z16_len) ?_; intro g w H; try simp only [Act.put, List.setIfInBounds_toArray, List.set_cons_succ, List.set_cons_zero])
    | (refine a_alloc rfl rfl (by assumption) ?_; intro g w H; try simp only [Act.put, List.setIfInBounds_toArray, List.set_cons_succ, List.set_cons_zero])
    | (refine a_build rfl rfl ?_; try simp only [Act.put, List.setIfInBounds_toArray, List.set_cons_succ, List.set_cons_zero])
    | (refine a_load rfl _ rfl _ _ rfl (by assumption) (by (first | exact .head _ | exact .tail _ (.head _) | exact .tail _ (.tail _ (.head _)) | exact .tail _ (.tail _ (.tail _ (.head _))) | exact .tail _ (.tail _ (.tail _ (.tail _ (.head _)))))) ?_; try simp only [Act.put, List.setIfInBounds_toArray, List.set_cons_succ, List.set_cons_zero])
    | (refine a_store0 rfl _ _ rfl _ _ _ rfl rfl _ (by assumption) (by first | assumption | exact limbs_len _ _ _ | exact z16_len) ?_; intro w H; try simp only [Act.put, List.setIfInBounds_toArray, List.set_cons_succ, List.set_cons_zero])
    | (refine a_store1 rfl _ _ rfl _ _ _ rfl rfl _ _ (by assumption) (by first | assumption | exact limbs_len _ _ _ | exact z16_len) ?_; intro w H; try simp only [Act.put, List.setIfInBounds_toArray, List.set_cons_succ, List.set_cons_zero])
    | (refine a_store2 rfl _ _ rfl _ _ _ rfl rfl _ _ _ (by assumption) (by first | assumption | exact limbs_len _ _ _ | exact z16_len) ?_; intro w H; try simp only [Act.put, List.setIfInBounds_toArray, List.set_cons_succ, List.set_cons_zero]))
  clear hal hbl
  rename_i ga _ _ K _
  go_loopw [5] (fun v5 wr => ∃ (k : Nat), k ≤ 16 ∧ v5 = .int .i64 ((k : Int) - 1) ∧ Kept (a.drop k = b.drop k) ∧ AMem wS wr [(g, b), (ga, a)]) (fun v5 _ => (RowKit.intOf v5 + 1).toNat)
  case atStart => exact ⟨16, by omega, rfl, ⟨by rw [List.drop_eq_nil_of_le (by rw [hll.out.1]; omega), List.drop_eq_nil_of_le (by rw [hll.out.2]; omega)]⟩, H⟩
  case round =>
    clear H
    obtain ⟨k, hk, rfl, HD, H⟩ := hrel
    cases k with
    | zero =>
      rw [show ((0 : Nat) : Int) - 1 = -1 from rfl]
      go_wp2
      go_ret
      refine ⟨?_, H.below⟩
      have hab : a = b := HD.out
      have : ¬ x < y := by rw [← hav.out, ← hbv.out, hab]; omega
      rw [decide_eq_false this]
      rfl
    | succ k =>
      rw [show ((k + 1 : Nat) : Int) - 1 = (k : Int) by omega]
      obtain ⟨p, hp⟩ : ∃ p, a.getD k 0 = p := ⟨_, rfl⟩
      obtain ⟨q, hq⟩ : ∃ q, b.getD k 0 = q := ⟨_, rfl⟩
      have c1 := H.hcell (.tail _ (.head _)) k p (by omega) hp
      have c2 := H.hcell (.head _) k q (by omega) hq
      have hkI : (0 : Int) ≤ (k : Int) := by omega
      have hkJ : (k : Int) < 16 := by omega
      by_cases hyz : p = q
      · have e1 : ((p : Int) != (q : Int)) = false := by simp [hyz]
        have hdr : a.drop k = b.drop k := by rw [drop_getD a k (by rw [hll.out.1]; omega), drop_getD b k (by rw [hll.out.2]; omega), hp, hq, hyz, HD.out]
        replace hyz := Kept.mk hyz
        replace hdr := Kept.mk hdr
        replace hp := Kept.mk hp
        replace hq := Kept.mk hq
        go_wp2
        refine wp_region_from (by kernel_rfl) (by kernel_rfl) ?_
        repeat (first
          | (go_big_quiet_want; (refine a_quiet_load _ rfl _ _ rfl (by assumption) (by (first | exact .head _ | exact .tail _ (.head _) | exact .tail _ (.tail _ (.head _)) | exact .tail _ (.tail _ (.tail _ (.head _))) | exact .tail _ (.tail _ (.tail _ (.tail _ (.head _)))))) ?_); try simp only [Act.put, List.setIfInBounds_toArray, List.set_cons_succ, List.set_cons_zero]; go_big_quiet_on)
          | go_big_quiet_step ((fail)))
        refine wpQuiet_nil ?_
        intro w5 hw5
        have H := H.from hw5
        clear hw5
        clear c1 c2
        go_wp2
        go_roundw
        case rel => exact ⟨k, by omega, rfl, hdr, H⟩
        case measure => first | (simp [RowKit.intOf]; done) | (simp [RowKit.intOf]; omega)
      · have e1 : ((p : Int) != (q : Int)) = true := by simp; omega
        have hres : (x < y) = (p < q) := by
          have g1 := hcc.out.1 k (by omega) HD.out
          have g2 := hcc.out.2 k (by omega) HD.out
          rw [hp, hq] at g1 g2
          apply propext
          constructor
          · intro h
            have : ¬ q < p := fun h2 => by have := g2 h2; omega
            omega
          · exact g1
        replace hyz := Kept.mk hyz
        replace hres := Kept.mk hres
        have hp2 := Kept.mk hp
        have hq2 := Kept.mk hq
        clear hp hq
        go_wp2
        refine wp_region_from (by kernel_rfl) (by kernel_rfl) ?_
        repeat (first
          | (go_big_quiet_want; (refine a_quiet_load _ rfl _ _ rfl (by assumption) (by (first | exact .head _ | exact .tail _ (.head _) | exact .tail _ (.tail _ (.head _)) | exact .tail _ (.tail _ (.tail _ (.head _))) | exact .tail _ (.tail _ (.tail _ (.tail _ (.head _)))))) ?_); try simp only [Act.put, List.setIfInBounds_toArray, List.set_cons_succ, List.set_cons_zero]; go_big_quiet_on)
          | go_big_quiet_step ((fail)))
        refine wpQuiet_nil ?_
        intro w5 hw5
        have H := H.from hw5
        clear hw5
        clear c1 c2
        have c1 := H.hcell (.tail _ (.head _)) k p (by omega) hp2.out
        have c2 := H.hcell (.head _) k q (by omega) hq2.out
        go_wp2
        refine wp_region_from (by kernel_rfl) (by kernel_rfl) ?_
        repeat (first
          | (go_big_quiet_want; (refine a_quiet_load _ rfl _ _ rfl (by assumption) (by (first | exact .head _ | exact .tail _ (.head _) | exact .tail _ (.tail _ (.head _)) | exact .tail _ (.tail _ (.tail _ (.head _))) | exact .tail _ (.tail _ (.tail _ (.tail _ (.head _)))))) ?_); try simp only [Act.put, List.setIfInBounds_toArray, List.set_cons_succ, List.set_cons_zero]; go_big_quiet_on)
          | go_big_quiet_step ((fail)))
        refine wpQuiet_nil ?_
        intro w5 hw5
        have H := H.from hw5
        clear hw5
        clear c1 c2
        go_wp2
        go_ret
        refine ⟨?_, H.below⟩
        exact bool_ret (decide_eq_decide.2 (by rw [hres.out]))
end Go.Proofs.Ytockcnglennihaa
end
section
set_option linter.unusedSimpArgs false
set_option linter.unusedVariables false
namespace Go.Proofs.Ytockcnglennihaa
open Go.RowKit
def lessL : List Nat → List Nat → Nat → List Nat
  | x :: xs, y :: ys, c => (if x < y + c then x + 65536 - y - c else x - y - c) :: lessL xs ys (if x < y + c then 1 else 0)
  | _, _, _ => []
theorem lessL_nil (ys : List Nat) (c : Nat) : lessL [] ys c = [] := by cases ys <;> rfl
theorem lessL_len : ∀ (xs ys : List Nat) (c : Nat), xs.length = ys.length → (lessL xs ys c).length = xs.length
  | [], _, _, _ => by rw [lessL_nil]
  | x :: xs, [], _, h => by simp at h
  | x :: xs, y :: ys, c, h => by rw [lessL, List.length_cons, List.length_cons, lessL_len xs ys _ (by simpa using h)]
theorem lessL_lt : ∀ (xs ys : List Nat) (c : Nat), (∀ x ∈ xs, x < 65536) → ∀ z ∈ lessL xs ys c, z < 65536
  | [], _, _, _, z, h => by rw [lessL_nil] at h; simp at h
  | x :: xs, [], _, _, z, h => by simp [lessL] at h
  | x :: xs, y :: ys, c, hx, z, h => by
    rw [lessL, List.mem_cons] at h
    have := hx x (by simp)
    rcases h with rfl | h
    · split <;> omega
    · exact lessL_lt xs ys _ (fun q hq => hx q (by simp [hq])) z h
theorem lessL_val : ∀ (xs ys : List Nat) (c : Nat), xs.length = ys.length → (∀ x ∈ xs, x < 65536) → (∀ x ∈ ys, x < 65536) → c ≤ 1 → valB 65536 ys + c ≤ valB 65536 xs →
    valB 65536 (lessL xs ys c) + valB 65536 ys + c = valB 65536 xs
  | [], [], c, _, _, _, _, hle => by simp [valB, lessL] at hle ⊢; omega
  | [], y :: ys, _, h, _, _, _, _ => by simp at h
  | x :: xs, [], _, h, _, _, _, _ => by simp at h
  | x :: xs, y :: ys, c, h, hx, hy, hc, hle => by
    have h1 := hx x (by simp)
    have h2 := hy y (by simp)
    simp only [valB] at hle
    by_cases hb : x < y + c
    · have ih := lessL_val xs ys 1 (by simpa using h) (fun z hz => hx z (by simp [hz])) (fun z hz => hy z (by simp [hz])) (by omega) (by omega)
      rw [lessL, if_pos hb, if_pos hb]
      simp only [valB]
      omega
    · have ih := lessL_val xs ys 0 (by simpa using h) (fun z hz => hx z (by simp [hz])) (fun z hz => hy z (by simp [hz])) (by omega) (by omega)
      rw [lessL, if_neg hb, if_neg hb]
      simp only [valB]
      omega
theorem step_set {d l r : List Nat} {i x : Nat} (hd : d.length = i) (hl : l = x :: r) (v : Nat) : (d ++ l).set i v = (d ++ [v]) ++ r := by
  rw [hl, ← hd, set_mid]
theorem step_get {d l r : List Nat} {i x : Nat} (hd : d.length = i) (hl : l = x :: r) : (d ++ l).getD i 0 = x := by
  rw [hl, ← hd]; simp
set_option maxHeartbeats 1000000 in
theorem lessL_any (a b : List Nat) (hal : a.length = 16) (hbl : b.length = 16) (haW : ∀ x ∈ a, x < 65536) (hbW : ∀ x ∈ b, x < 65536) (wS : World) : Calls Try.prog 59 #[arrV a, arrV b] wS (AP (lessL a b 0) wS) := by
  have H := AMem.start wS
  have hll := Kept.mk (And.intro hal hbl)
  have hres : (lessL a b 0).length = 16 := by rw [lessL_len a b 0 (by rw [hal, hbl]), hal]
  obtain ⟨R, hR⟩ : ∃ R, lessL a b 0 = R := ⟨_, rfl⟩
  rw [hR] at hres ⊢
  replace hR := Kept.mk hR
  replace haW := Kept.mk haW
  replace hbW := Kept.mk hbW
  unfold arrV
  go_enter Try.func59, Try.ntmps59
  go_wp2_with (first
    | (refine a_box rfl _ rfl _ rfl (by assumption) (by first | assumption | exact limbs_len _ _ _ | exact z16_len) ?_; intro g w H; try simp only [Act.put, List.setIfInBounds_toArray, List.set_cons_succ, List.set_cons_zero])
    | (refine a_alloc rfl rfl (by assumption) ?_; intro g w H; try simp only [Act.put, List.setIfInBounds_toArray, List.set_cons_succ, List.set_cons_zero])
    | (refine a_build rfl rfl ?_; try simp only [Act.put, List.setIfInBounds_toArray, List.set_cons_succ, List.set_cons_zero])
    | (refine a_load rfl _ rfl _ _ rfl (by assumption) (by (first | exact .head _ | exact .tail _ (.head _) | exact .tail _ (.tail _ (.head _)) | exact .tail _ (.tail _ (.tail _ (.head _))) | exact .tail _ (.tail _ (.tail _ (.tail _ (.head _)))))) ?_; try simp only [Act.put, List.setIfInBounds_toArray, List.set_cons_succ, List.set_cons_zero])
    | (refine a_store0 rfl _ _ rfl _ _ _ rfl rfl _ (by assumption) (by first | assumption | exact limbs_len _ _ _ | exact z16_len) ?_; intro w H; try simp only [Act.put, List.setIfInBounds_toArray, List.set_cons_succ, List.set_cons_zero])
    | (refine a_store1 rfl _ _ rfl _ _ _ rfl rfl _ _ (by assumption) (by first | assumption | exact limbs_len _ _ _ | exact z16_len) ?_; intro w H; try simp only [Act.put, List.setIfInBounds_toArray, List.set_cons_succ, List.set_cons_zero])
    | (refine a_store2 rfl _ _ rfl _ _ _ rfl rfl _ _ _ (by assumption) (by first | assumption | exact limbs_len _ _ _ | exact z16_len) ?_; intro w H; try simp only [Act.put, List.setIfInBounds_toArray, List.set_cons_succ, List.set_cons_zero]))
  clear hal hbl
  rename_i ga _ _ gb _ _ K _
  go_loopw [5, 6] (fun v5 v6 wr => ∃ (i c : Nat) (d : List Nat), i ≤ 16 ∧ c ≤ 1 ∧ v5 = .int .i64 (c : Int) ∧ v6 = .int .i64 (i : Int) ∧ Kept (d.length = i) ∧ AMem wS wr [(g, z16), (gb, b), (ga, d ++ a.drop i)] ∧ Kept (d ++ lessL (a.drop i) (b.drop i) c = R)) (fun _ v6 _ => 16 - (RowKit.intOf v6).toNat)
  case atStart => exact ⟨0, 0, [], by omega, by omega, rfl, rfl, ⟨rfl⟩, H, hR⟩
  case round =>
    clear H
    obtain ⟨i, c, d, hi, hc, rfl, rfl, HD, H, HE⟩ := hrel
    by_cases hlt : i < 16
    · obtain ⟨p, hp⟩ : ∃ p, a.getD i 0 = p := ⟨_, rfl⟩
      obtain ⟨q, hq⟩ : ∃ q, b.getD i 0 = q := ⟨_, rfl⟩
      have hda := drop_getD a i (by rw [hll.out.1]; omega)
      have hdb := drop_getD b i (by rw [hll.out.2]; omega)
      rw [hp] at hda
      rw [hq] at hdb
      have hpl : p < 65536 := hp ▸ getD_ltN haW.out i (by rw [hll.out.1]; omega)
      have hql : q < 65536 := hq ▸ getD_ltN hbW.out i (by rw [hll.out.2]; omega)
      have c1 := H.hcell (.tail _ (.tail _ (.head _))) i p hlt (step_get HD.out hda)
      have c2 := H.hcell (.tail _ (.head _)) i q hlt hq
      have hlti : (i : Int) < 16 := by omega
      have k1 : IntKind.i64.wrap ((p : Int) - (q : Int)) = (p : Int) - (q : Int) := by simp [IntKind.wrap, IntKind.signed, IntKind.bits]; omega
      have k2 : IntKind.i64.wrap ((p : Int) - (q : Int) - (c : Int)) = (p : Int) - (q : Int) - (c : Int) := by simp [IntKind.wrap, IntKind.signed, IntKind.bits]; omega
      replace hp := Kept.mk hp
      replace hq := Kept.mk hq
      replace hda := Kept.mk hda
      replace hdb := Kept.mk hdb
      go_wp2
      refine wp_region_from (by kernel_rfl) (by kernel_rfl) ?_
      repeat (first
        | (go_big_quiet_want; (refine a_quiet_load _ rfl _ _ rfl (by assumption) (by (first | exact .head _ | exact .tail _ (.head _) | exact .tail _ (.tail _ (.head _)) | exact .tail _ (.tail _ (.tail _ (.head _))) | exact .tail _ (.tail _ (.tail _ (.tail _ (.head _)))))) ?_); try simp only [Act.put, List.setIfInBounds_toArray, List.set_cons_succ, List.set_cons_zero]; go_big_quiet_on)
        | go_big_quiet_step ((fail)))
      refine wpQuiet_nil ?_
      intro w5 hw5
      have H := H.from hw5
      clear hw5
      clear c1 c2
      have c3 := H.cell (.tail _ (.tail _ (.head _))) i hlt
      have f3 := H.frozen (.tail _ (.tail _ (.head _))) i
      rw [step_get HD.out hda.out] at c3
      by_cases hu : p < q + c
      · have hn : (p : Int) - (q : Int) - (c : Int) < 0 := by omega
        have hE : d ++ [p + 65536 - q - c] ++ lessL (a.drop (i + 1)) (b.drop (i + 1)) 1 = R := by
          have h := HE.out
          rw [hda.out, hdb.out, lessL, if_pos hu, if_pos hu] at h
          rw [List.append_assoc]; exact h
        have Hn := H.cell2 i (p + 65536 - q - c) ((p : Int) - (q : Int) - (c : Int) + 65536) (by omega)
        rw [step_set HD.out hda.out] at Hn
        replace hE := Kept.mk hE
        go_wp2
        go_roundw
        case rel => exact ⟨i + 1, 1, d ++ [p + 65536 - q - c], by omega, by omega, rfl, val_eq (by omega), ⟨by rw [List.length_append, HD.out]; rfl⟩, Hn, hE⟩
        case measure => simp [RowKit.intOf]; omega
      · have hn : ¬ ((p : Int) - (q : Int) - (c : Int) < 0) := by omega
        have hE : d ++ [p - q - c] ++ lessL (a.drop (i + 1)) (b.drop (i + 1)) 0 = R := by
          have h := HE.out
          rw [hda.out, hdb.out, lessL, if_neg hu, if_neg hu] at h
          rw [List.append_assoc]; exact h
        have Hn := H.cell2 i (p - q - c) ((p : Int) - (q : Int) - (c : Int)) (by omega)
        rw [step_set HD.out hda.out] at Hn
        replace hE := Kept.mk hE
        go_wp2
        go_roundw
        case rel => exact ⟨i + 1, 0, d ++ [p - q - c], by omega, by omega, rfl, val_eq (by omega), ⟨by rw [List.length_append, HD.out]; rfl⟩, Hn, hE⟩
        case measure => simp [RowKit.intOf]; omega
    · obtain rfl : i = 16 := by omega
      have hd : d = R := by
        have h := HE.out
        rw [List.drop_eq_nil_of_le (show a.length ≤ 16 by rw [hll.out.1]; omega), lessL_nil, List.append_nil] at h
        exact h
      have hdl : (d ++ a.drop 16).length = 16 := by rw [List.length_append, HD.out, List.length_drop, hll.out.1]
      have hfin : d ++ a.drop 16 = R := by rw [List.drop_eq_nil_of_le (by rw [hll.out.1]; omega), List.append_nil, hd]
      rw [hfin] at H
      clear hdl hfin hd HE
      go_wp2_with (first
        | (refine a_box rfl _ rfl _ rfl (by assumption) (by first | assumption | exact limbs_len _ _ _ | exact z16_len) ?_; intro g w H; try simp only [Act.put, List.setIfInBounds_toArray, List.set_cons_succ, List.set_cons_zero])
        | (refine a_alloc rfl rfl (by assumption) ?_; intro g w H; try simp only [Act.put, List.setIfInBounds_toArray, List.set_cons_succ, List.set_cons_zero])
        | (refine a_build rfl rfl ?_; try simp only [Act.put, List.setIfInBounds_toArray, List.set_cons_succ, List.set_cons_zero])
        | (refine a_load rfl _ rfl _ _ rfl (by assumption) (by (first | exact .head _ | exact .tail _ (.head _) | exact .tail _ (.tail _ (.head _)) | exact .tail _ (.tail _ (.tail _ (.head _))) | exact .tail _ (.tail _ (.tail _ (.tail _ (.head _)))))) ?_; try simp only [Act.put, List.setIfInBounds_toArray, List.set_cons_succ, List.set_cons_zero])
        | (refine a_store0 rfl _ _ rfl _ _ _ rfl rfl _ (by assumption) (by first | assumption | exact limbs_len _ _ _ | exact z16_len) ?_; intro w H; try simp only [Act.put, List.setIfInBounds_toArray, List.set_cons_succ, List.set_cons_zero])
        | (refine a_store1 rfl _ _ rfl _ _ _ rfl rfl _ _ (by assumption) (by first | assumption | exact limbs_len _ _ _ | exact z16_len) ?_; intro w H; try simp only [Act.put, List.setIfInBounds_toArray, List.set_cons_succ, List.set_cons_zero])
        | (refine a_store2 rfl _ _ rfl _ _ _ rfl rfl _ _ _ (by assumption) (by first | assumption | exact limbs_len _ _ _ | exact z16_len) ?_; intro w H; try simp only [Act.put, List.setIfInBounds_toArray, List.set_cons_succ, List.set_cons_zero]))
      exact a_ret Try.results59 _ rfl rfl (by assumption) (by (first | exact .head _ | exact .tail _ (.head _) | exact .tail _ (.tail _ (.head _)) | exact .tail _ (.tail _ (.tail _ (.head _))) | exact .tail _ (.tail _ (.tail _ (.tail _ (.head _)))))) (rfl)
theorem less_any (x y : Nat) (hx : x < big) (hle : y ≤ x) (wS : World) : Calls Try.prog 59 #[arrV (Md x), arrV (Md y)] wS (AP (Md (x - y)) wS) := by
  have h := lessL_any (Md x) (Md y) (Md_len x) (Md_len y) (Md_lt x) (Md_lt y) wS
  have hv := lessL_val (Md x) (Md y) 0 (by rw [Md_len, Md_len]) (Md_lt x) (Md_lt y) (by omega) (by rw [Md_val x hx, Md_val y (by omega)]; exact hle)
  rw [Md_val x hx, Md_val y (by omega)] at hv
  rw [Md_of (lessL (Md x) (Md y) 0) (x - y) (by rw [lessL_len _ _ _ (by rw [Md_len, Md_len]), Md_len]) (lessL_lt _ _ _ (Md_lt x)) (by omega)] at h
  exact h
end Go.Proofs.Ytockcnglennihaa
end
section
set_option linter.unusedSimpArgs false
set_option linter.unusedVariables false
namespace Go.Proofs.Ytockcnglennihaa
open Go.RowKit
def dA : List Nat → Nat → List Nat
  | x :: xs, c => (x + c) % 65536 :: dA xs ((x + c) / 65536)
  | [], _ => []
def dK : List Nat → Nat → Nat
  | x :: xs, c => dK xs ((x + c) / 65536)
  | [], c => c
theorem dA_len : ∀ (l : List Nat) (c : Nat), (dA l c).length = l.length
  | [], _ => rfl
  | x :: xs, c => by rw [dA, List.length_cons, List.length_cons, dA_len xs]
theorem dA_lt : ∀ (l : List Nat) (c : Nat), ∀ x ∈ dA l c, x < 65536
  | [], _, x, h => by simp [dA] at h
  | y :: ys, c, x, h => by
    rw [dA, List.mem_cons] at h
    rcases h with rfl | h
    · exact Nat.mod_lt _ (by decide)
    · exact dA_lt ys _ x h
theorem d_val : ∀ (xs : List Nat) (c : Nat), valB 65536 (dA xs c) + 65536 ^ xs.length * dK xs c = valB 65536 xs + c
  | [], c => by simp [dA, dK, valB]
  | x :: xs, c => by
    have ih := d_val xs ((x + c) / 65536)
    rw [dA, dK, List.length_cons]
    simp only [valB]
    rw [Nat.pow_succ, Nat.mul_comm (65536 ^ xs.length) 65536, Nat.mul_assoc]
    generalize 65536 ^ xs.length * dK xs ((x + c) / 65536) = p at ih ⊢
    omega
theorem dK_lt : ∀ (l : List Nat) (c : Nat), (∀ x ∈ l, x < 281474976710656) → c < 8589934592 → dK l c < 8589934592
  | [], c, _, h => h
  | x :: xs, c, hx, h => by
    have := hx x (by simp)
    rw [dK]
    exact dK_lt xs _ (fun y hy => hx y (by simp [hy])) (by omega)
theorem set0_val (l : List Nat) (h : 0 < l.length) (v : Nat) : valB 65536 (l.set 0 (l.getD 0 0 + v)) = valB 65536 l + v := by
  cases l with
  | nil => simp at h
  | cons x r => simp [valB]; omega
theorem set0_lt (l : List Nat) (B v : Nat) (hl : ∀ x ∈ l, x < 65536) (hB : 65536 ≤ B) (hv : v < B) : ∀ x ∈ l.set 0 v, x < B := by
  intro x hx
  rcases List.mem_or_eq_of_mem_set hx with h | rfl
  · exact Nat.lt_of_lt_of_le (hl x h) hB
  · exact hv
theorem p_bigR : pF < big := by decide +kernel
def flag (c : Nat) : Nat := if c = 0 then 0 else 1
set_option maxHeartbeats 2000000 in
theorem mod_any (l : List Nat) (hl : l.length = 16) (hlW : ∀ x ∈ l, x < 281474976710656) (wS : World) : Calls Try.prog 61 #[arrV l] wS (AP (Md (valB 65536 l % pF)) wS) := by
  have H := AMem.start wS
  have hll := Kept.mk hl
  replace hlW := Kept.mk hlW
  obtain ⟨V, hV⟩ : ∃ V, valB 65536 l = V := ⟨_, rfl⟩
  rw [hV]
  replace hV := Kept.mk hV
  unfold arrV
  go_enter Try.func61, Try.ntmps61
  go_wp2_with (first
    | (refine a_box rfl _ rfl _ rfl (by assumption) (by first | assumption | exact limbs_len _ _ _ | exact z16_len) ?_; intro g w H; try simp only [Act.put, List.setIfInBounds_toArray, List.set_cons_succ, List.set_cons_zero])
    | (refine a_alloc rfl rfl (by assumption) ?_; intro g w H; try simp only [Act.put, List.setIfInBounds_toArray, List.set_cons_succ, List.set_cons_zero])
    | (refine a_build rfl rfl ?_; try simp only [Act.put, List.setIfInBounds_toArray, List.set_cons_succ, List.set_cons_zero])
    | (refine a_load rfl _ rfl _ _ rfl (by assumption) (by (first | exact .head _ | exact .tail _ (.head _) | exact .tail _ (.tail _ (.head _)) | exact .tail _ (.tail _ (.tail _ (.head _))) | exact .tail _ (.tail _ (.tail _ (.tail _ (.head _)))))) ?_; try simp only [Act.put, List.setIfInBounds_toArray, List.set_cons_succ, List.set_cons_zero])
    | (refine a_store0 rfl _ _ rfl _ _ _ rfl rfl _ (by assumption) (by first | assumption | exact limbs_len _ _ _ | exact z16_len) ?_; intro w H; try simp only [Act.put, List.setIfInBounds_toArray, List.set_cons_succ, List.set_cons_zero])
    | (refine a_store1 rfl _ _ rfl _ _ _ rfl rfl _ _ (by assumption) (by first | assumption | exact limbs_len _ _ _ | exact z16_len) ?_; intro w H; try simp only [Act.put, List.setIfInBounds_toArray, List.set_cons_succ, List.set_cons_zero])
    | (refine a_store2 rfl _ _ rfl _ _ _ rfl rfl _ _ _ (by assumption) (by first | assumption | exact limbs_len _ _ _ | exact z16_len) ?_; intro w H; try simp only [Act.put, List.setIfInBounds_toArray, List.set_cons_succ, List.set_cons_zero]))
  clear hl
  rename_i gy _ _ K _
  rename Nat => gr
  go_loopg [3] (2 * V + 1) (fun k v3 wr => ∃ (o : Nat) (y : List Nat), o < 8589934592 ∧ v3 = .int .i64 (o : Int) ∧ Kept (∀ x ∈ y, x < 281474976710656) ∧ AMem wS wr [(gr, z16), (gy, y)] ∧ Kept (valB 65536 y % pF = V % pF) ∧ Kept (o = 0 → ∀ x ∈ y, x < 65536) ∧ Kept (2 * valB 65536 y + flag o = k))
  case atStart => exact ⟨1, l, by omega, rfl, hlW, H, ⟨by rw [hV.out]⟩, ⟨fun h => absurd h (by decide)⟩, ⟨by rw [hV.out]; rfl⟩⟩
  case round =>
    clear H hlW
    obtain ⟨o, y, ho, rfl, HW, H, HV, HZ, HK⟩ := hrel
    have hyl := Kept.mk (H.len gy y (.tail _ (.head _)))
    by_cases ho0 : o = 0
    · subst ho0
      rw [show ((0 : Nat) : Int) = 0 from rfl]
      have hz := HZ.out rfl
      obtain ⟨v, hv⟩ : ∃ v, valB 65536 y = v := ⟨_, rfl⟩
      have hyM : y = Md v := Md_of y v hyl.out hz hv
      have hvb : v < big := by
        have h := valB_lt (B := 65536) (by decide) y hz
        rw [hyl.out, big16, hv] at h
        exact h
      have hvV := HV.out
      rw [hv] at hvV
      have hv3 : v < (2 + 1) * pF := by
        have := big_p
        have h2 : 38 < pF := by decide +kernel
        omega
      subst hyM
      replace hvV := Kept.mk hvV
      clear hz hv HV HZ HK HW hyl
      have hPl := Md_len pF
      go_wp2_with (first
        | (refine a_box rfl _ rfl _ rfl (by assumption) (by first | assumption | exact limbs_len _ _ _ | exact z16_len) ?_; intro g w H; try simp only [Act.put, List.setIfInBounds_toArray, List.set_cons_succ, List.set_cons_zero])
        | (refine a_alloc rfl rfl (by assumption) ?_; intro g w H; try simp only [Act.put, List.setIfInBounds_toArray, List.set_cons_succ, List.set_cons_zero])
        | (refine a_build rfl rfl ?_; try simp only [Act.put, List.setIfInBounds_toArray, List.set_cons_succ, List.set_cons_zero])
        | (refine a_load rfl _ rfl _ _ rfl (by assumption) (by (first | exact .head _ | exact .tail _ (.head _) | exact .tail _ (.tail _ (.head _)) | exact .tail _ (.tail _ (.tail _ (.head _))) | exact .tail _ (.tail _ (.tail _ (.tail _ (.head _)))))) ?_; try simp only [Act.put, List.setIfInBounds_toArray, List.set_cons_succ, List.set_cons_zero])
        | (refine a_store0 rfl _ _ rfl _ _ _ rfl rfl _ (by assumption) (by first | assumption | exact limbs_len _ _ _ | exact z16_len) ?_; intro w H; try simp only [Act.put, List.setIfInBounds_toArray, List.set_cons_succ, List.set_cons_zero])
        | (refine a_store1 rfl _ _ rfl _ _ _ rfl rfl _ _ (by assumption) (by first | assumption | exact limbs_len _ _ _ | exact z16_len) ?_; intro w H; try simp only [Act.put, List.setIfInBounds_toArray, List.set_cons_succ, List.set_cons_zero])
        | (refine a_store2 rfl _ _ rfl _ _ _ rfl rfl _ _ _ (by assumption) (by first | assumption | exact limbs_len _ _ _ | exact z16_len) ?_; intro w H; try simp only [Act.put, List.setIfInBounds_toArray, List.set_cons_succ, List.set_cons_zero])
        | (go_at_call 60; refine a_call (by assumption) (P_any _) ?_; intro w H))
      clear hPl
      rename Nat => gp
      go_loopg [] 2 (fun k wr => ∃ y, y < big ∧ y < (k + 1) * pF ∧ Kept (y % pF = V % pF) ∧ AMem wS wr [(gp, Md pF), (gr, z16), (gy, Md y)])
      case atStart => exact ⟨v, hvb, hv3, hvV, H⟩
      case round =>
        clear H hvb hv3 hvV
        obtain ⟨y, hyb, hyk, HY, H⟩ := hrel
        by_cases hr : y < pF
        · have hres := HY.out
          rw [Nat.mod_eq_of_lt hr] at hres
          replace hres := Kept.mk hres
          have cB := fun w => Below_any y pF hyb p_bigR w
          rw [decide_eq_true hr] at cB
          replace cB := Kept.mk cB
          have hyl := Md_len y
          clear hyb hyk hr
          go_wp2_with (first
            | (refine a_box rfl _ rfl _ rfl (by assumption) (by first | assumption | exact limbs_len _ _ _ | exact z16_len) ?_; intro g w H; try simp only [Act.put, List.setIfInBounds_toArray, List.set_cons_succ, List.set_cons_zero])
            | (refine a_alloc rfl rfl (by assumption) ?_; intro g w H; try simp only [Act.put, List.setIfInBounds_toArray, List.set_cons_succ, List.set_cons_zero])
            | (refine a_build rfl rfl ?_; try simp only [Act.put, List.setIfInBounds_toArray, List.set_cons_succ, List.set_cons_zero])
            | (refine a_load rfl _ rfl _ _ rfl (by assumption) (by (first | exact .head _ | exact .tail _ (.head _) | exact .tail _ (.tail _ (.head _)) | exact .tail _ (.tail _ (.tail _ (.head _))) | exact .tail _ (.tail _ (.tail _ (.tail _ (.head _)))))) ?_; try simp only [Act.put, List.setIfInBounds_toArray, List.set_cons_succ, List.set_cons_zero])
            | (refine a_store0 rfl _ _ rfl _ _ _ rfl rfl _ (by assumption) (by first | assumption | exact limbs_len _ _ _ | exact z16_len) ?_; intro w H; try simp only [Act.put, List.setIfInBounds_toArray, List.set_cons_succ, List.set_cons_zero])
            | (refine a_store1 rfl _ _ rfl _ _ _ rfl rfl _ _ (by assumption) (by first | assumption | exact limbs_len _ _ _ | exact z16_len) ?_; intro w H; try simp only [Act.put, List.setIfInBounds_toArray, List.set_cons_succ, List.set_cons_zero])
            | (refine a_store2 rfl _ _ rfl _ _ _ rfl rfl _ _ _ (by assumption) (by first | assumption | exact limbs_len _ _ _ | exact z16_len) ?_; intro w H; try simp only [Act.put, List.setIfInBounds_toArray, List.set_cons_succ, List.set_cons_zero])
            | (go_at_call 69; refine a_call (by assumption) (cB.out _) ?_; intro w H))
          rw [← hres.out]
          exact a_ret Try.results61 _ rfl rfl (by assumption) (by (first | exact .head _ | exact .tail _ (.head _) | exact .tail _ (.tail _ (.head _)) | exact .tail _ (.tail _ (.tail _ (.head _))) | exact .tail _ (.tail _ (.tail _ (.tail _ (.head _)))))) (rfl)
        · obtain ⟨k, rfl⟩ : ∃ k, gk = k + 1 := by
            cases gk with
            | zero => rw [Nat.zero_add, Nat.one_mul] at hyk; exact absurd hyk hr
            | succ k => exact ⟨k, rfl⟩
          have cB := fun w => Below_any y pF hyb p_bigR w
          rw [decide_eq_false hr] at cB
          replace cB := Kept.mk cB
          have cL := Kept.mk fun w => less_any y pF hyb (Nat.not_lt.1 hr) w
          have n1 : y - pF < big := by omega
          have n2 : y - pF < (k + 1) * pF := by rw [Nat.add_mul (k + 1), Nat.one_mul] at hyk; omega
          have n3 : (y - pF) % pF = V % pF := by
            have h := HY.out
            rw [← Nat.sub_add_cancel (Nat.not_lt.1 hr), Nat.add_mod_right] at h
            exact h
          replace n3 := Kept.mk n3
          have hyl := Md_len (y - pF)
          clear hyb hyk hr HY
          go_wp2_with (first
            | (refine a_box rfl _ rfl _ rfl (by assumption) (by first | assumption | exact limbs_len _ _ _ | exact z16_len) ?_; intro g w H; try simp only [Act.put, List.setIfInBounds_toArray, List.set_cons_succ, List.set_cons_zero])
            | (refine a_alloc rfl rfl (by assumption) ?_; intro g w H; try simp only [Act.put, List.setIfInBounds_toArray, List.set_cons_succ, List.set_cons_zero])
            | (refine a_build rfl rfl ?_; try simp only [Act.put, List.setIfInBounds_toArray, List.set_cons_succ, List.set_cons_zero])
            | (refine a_load rfl _ rfl _ _ rfl (by assumption) (by (first | exact .head _ | exact .tail _ (.head _) | exact .tail _ (.tail _ (.head _)) | exact .tail _ (.tail _ (.tail _ (.head _))) | exact .tail _ (.tail _ (.tail _ (.tail _ (.head _)))))) ?_; try simp only [Act.put, List.setIfInBounds_toArray, List.set_cons_succ, List.set_cons_zero])
            | (refine a_store0 rfl _ _ rfl _ _ _ rfl rfl _ (by assumption) (by first | assumption | exact limbs_len _ _ _ | exact z16_len) ?_; intro w H; try simp only [Act.put, List.setIfInBounds_toArray, List.set_cons_succ, List.set_cons_zero])
            | (refine a_store1 rfl _ _ rfl _ _ _ rfl rfl _ _ (by assumption) (by first | assumption | exact limbs_len _ _ _ | exact z16_len) ?_; intro w H; try simp only [Act.put, List.setIfInBounds_toArray, List.set_cons_succ, List.set_cons_zero])
            | (refine a_store2 rfl _ _ rfl _ _ _ rfl rfl _ _ _ (by assumption) (by first | assumption | exact limbs_len _ _ _ | exact z16_len) ?_; intro w H; try simp only [Act.put, List.setIfInBounds_toArray, List.set_cons_succ, List.set_cons_zero])
            | (go_at_call 69; refine a_call (by assumption) (cB.out _) ?_; intro w H)
            | (go_at_call 59; refine a_call (by assumption) (cL.out _) ?_; intro w H))
          go_roundg k
          case rel => exact ⟨y - pF, n1, n2, n3, H⟩
          case measure => omega
    · have hgt : (0 : Int) < (o : Int) := by omega
      have hyW := HW.out
      go_wp2
      clear hgt
      obtain ⟨wo, rfl⟩ : ∃ wo : World, wo = wr := ⟨_, rfl⟩
      go_loopw [3, 4] (fun v3 v4 wr => ∃ (i c : Nat) (d : List Nat), i ≤ 16 ∧ c < 8589934592 ∧ v3 = .int .i64 (c : Int) ∧ v4 = .int .i64 (i : Int) ∧ Kept (d.length = i) ∧ AMem wS wr [(gr, z16), (gy, d ++ y.drop i)] ∧ Kept (d ++ dA (y.drop i) c = dA y 0) ∧ Kept (dK (y.drop i) c = dK y 0)) (fun _ v4 _ => 16 - (RowKit.intOf v4).toNat)
      case atStart => exact ⟨0, 0, [], by omega, by omega, rfl, rfl, ⟨rfl⟩, H, ⟨rfl⟩, ⟨rfl⟩⟩
      case round =>
        clear H hyW
        obtain ⟨i, c, d, hi, hc, rfl, rfl, HD, H, HE, HC⟩ := hrel
        by_cases hlt : i < 16
        · obtain ⟨p, hp⟩ : ∃ p, y.getD i 0 = p := ⟨_, rfl⟩
          have hda := drop_getD y i (by rw [hyl.out]; omega)
          rw [hp] at hda
          have hpl : p < 281474976710656 := hp ▸ getD_ltN HW.out i (by rw [hyl.out]; omega)
          have c1 := H.cell (.tail _ (.head _)) i hlt
          rw [step_get HD.out hda] at c1
          have f1 := H.frozen (.tail _ (.head _)) i
          have hlti : (i : Int) < 16 := by omega
          have Hn := (H.cell1 i (p + c) ((p : Int) + (c : Int)) (by omega)).cell1 i ((p + c) % 65536) (((p : Int) + (c : Int)) % 65536) (by omega)
          rw [List.set_set, step_set HD.out hda] at Hn
          have hE : d ++ [(p + c) % 65536] ++ dA (y.drop (i + 1)) ((p + c) / 65536) = dA y 0 := by
            have h := HE.out
            rw [hda, dA] at h
            rw [List.append_assoc]; exact h
          have hC : dK (y.drop (i + 1)) ((p + c) / 65536) = dK y 0 := by
            have h := HC.out
            rw [hda, dK] at h
            exact h
          replace hE := Kept.mk hE
          replace hC := Kept.mk hC
          replace hp := Kept.mk hp
          replace hda := Kept.mk hda
          go_wp2
          go_roundw
          case rel => exact ⟨i + 1, (p + c) / 65536, d ++ [(p + c) % 65536], by omega, by omega, val_eq (by omega), val_eq (by omega), ⟨by rw [List.length_append, HD.out]; rfl⟩, Hn, hE, hC⟩
          case measure => simp [RowKit.intOf]; omega
        · obtain rfl : i = 16 := by omega
          have hn : y.drop 16 = [] := List.drop_eq_nil_of_le (by rw [hyl.out]; omega)
          have hE := HE.out
          have hC := HC.out
          rw [hn, dA, List.append_nil] at hE
          rw [hn, dK] at hC
          rw [hn, List.append_nil] at H
          have hdW : ∀ x ∈ d, x < 65536 := hE ▸ dA_lt y 0
          have hdl : d.length = 16 := HD.out
          obtain ⟨q, hq⟩ : ∃ q, d.getD 0 0 = q := ⟨_, rfl⟩
          have hql : q < 65536 := hq ▸ getD_ltN hdW 0 (by omega)
          have c1 := H.cell (.tail _ (.head _)) 0 (by omega)
          rw [hq] at c1
          have f1 := H.frozen (.tail _ (.head _)) 0
          have k1 : IntKind.i64.wrap (38 * (c : Int)) = 38 * (c : Int) := by simp [IntKind.wrap, IntKind.signed, IntKind.bits]; omega
          have Hn := H.cell1 0 (q + 38 * c) ((q : Int) + 38 * (c : Int)) (by omega)
          have hval := d_val y 0
          rw [hE.symm, hC.symm, hyl.out, big16] at hval
          have hs0 := set0_val d (by omega) (38 * c)
          rw [hq] at hs0
          have hlt2 := set0_lt d 281474976710656 (q + 38 * c) hdW (by omega) (by omega)
          have hmod : valB 65536 (d.set 0 (q + 38 * c)) % pF = V % pF := by
            rw [hs0, ← HV.out, show valB 65536 y = valB 65536 d + big * c by omega, big_mod]
          have hz : c = 0 → ∀ x ∈ d.set 0 (q + 38 * c), x < 65536 := fun h => by
            rw [h]; exact set0_lt d 65536 (q + 38 * 0) hdW (by omega) (by omega)
          have hmeas : 2 * valB 65536 (d.set 0 (q + 38 * c)) + flag c < gk := by
            rw [hs0, ← HK.out, show valB 65536 y = valB 65536 d + big * c by omega]
            have hb : 38 < big := by decide +kernel
            have hfo : flag o = 1 := if_neg ho0
            rw [hfo]
            by_cases h : c = 0
            · subst h; simp [flag]
            · have hfc : flag c = 1 := if_neg h
              rw [hfc]
              have : 39 * c ≤ big * c := Nat.mul_le_mul_right c hb
              omega
          replace hmod := Kept.mk hmod
          replace hz := Kept.mk hz
          replace hmeas := Kept.mk hmeas
          replace hlt2 := Kept.mk hlt2
          replace hE := Kept.mk hE
          replace hC := Kept.mk hC
          replace hq := Kept.mk hq
          clear hs0 hval hdl hdW hn
          go_wp2
          go_roundg (2 * valB 65536 (d.set 0 (q + 38 * c)) + flag c)
          case rel => exact ⟨c, d.set 0 (q + 38 * c), hc, rfl, hlt2, Hn, hmod, hz, ⟨rfl⟩⟩
          case measure => exact hmeas.out
end Go.Proofs.Ytockcnglennihaa
end
section
set_option linter.unusedSimpArgs false
set_option linter.unusedVariables false
namespace Go.Proofs.Ytockcnglennihaa
open Go.RowKit
def zipA : List Nat → List Nat → List Nat
  | x :: xs, y :: ys => (x + y) :: zipA xs ys
  | _, _ => []
theorem zipA_nil (ys : List Nat) : zipA [] ys = [] := by cases ys <;> rfl
theorem zipA_len : ∀ (xs ys : List Nat), xs.length = ys.length → (zipA xs ys).length = xs.length
  | [], _, _ => by rw [zipA_nil]
  | x :: xs, [], h => by simp at h
  | x :: xs, y :: ys, h => by rw [zipA, List.length_cons, List.length_cons, zipA_len xs ys (by simpa using h)]
theorem zipA_val (B : Nat) : ∀ (xs ys : List Nat), xs.length = ys.length → valB B (zipA xs ys) = valB B xs + valB B ys
  | [], [], _ => rfl
  | [], y :: ys, h => by simp at h
  | x :: xs, [], h => by simp at h
  | x :: xs, y :: ys, h => by
    rw [zipA, valB, zipA_val B xs ys (by simpa using h), valB, valB, Nat.mul_add]
    omega
theorem zipA_lt : ∀ (xs ys : List Nat), (∀ x ∈ xs, x < 65536) → (∀ x ∈ ys, x < 65536) → ∀ z ∈ zipA xs ys, z < 281474976710656
  | [], _, _, _, z, h => by rw [zipA_nil] at h; simp at h
  | x :: xs, [], _, _, z, h => by simp [zipA] at h
  | x :: xs, y :: ys, hx, hy, z, h => by
    rw [zipA, List.mem_cons] at h
    have h1 := hx x (by simp)
    have h2 := hy y (by simp)
    rcases h with rfl | h
    · omega
    · exact zipA_lt xs ys (fun q hq => hx q (by simp [hq])) (fun q hq => hy q (by simp [hq])) z h
set_option maxHeartbeats 1000000 in
theorem Plus_any (x y : Nat) (hx : x < big) (hy : y < big) (wS : World) : Calls Try.prog 57 #[arrV (Md x), arrV (Md y)] wS (AP (Md ((x + y) % pF)) wS) := by
  have H := AMem.start wS
  obtain ⟨a, ha⟩ : ∃ a, Md x = a := ⟨_, rfl⟩
  obtain ⟨b, hb⟩ : ∃ b, Md y = b := ⟨_, rfl⟩
  have hal : a.length = 16 := by rw [← ha, Md_len]
  have hbl : b.length = 16 := by rw [← hb, Md_len]
  have haW : ∀ x ∈ a, x < 65536 := ha ▸ Md_lt x
  have hbW : ∀ x ∈ b, x < 65536 := hb ▸ Md_lt y
  have hzl : (zipA a b).length = 16 := by rw [zipA_len a b (by rw [hal, hbl]), hal]
  have cM := fun w => mod_any (zipA a b) hzl (zipA_lt a b haW hbW) w
  rw [zipA_val 65536 a b (by rw [hal, hbl]), ← ha, ← hb, Md_val x hx, Md_val y hy, ha, hb] at cM
  rw [ha, hb]
  obtain ⟨R, hR⟩ : ∃ R, zipA a b = R := ⟨_, rfl⟩
  rw [hR] at cM hzl
  replace cM := Kept.mk cM
  replace hR := Kept.mk hR
  replace haW := Kept.mk haW
  replace hbW := Kept.mk hbW
  replace ha := Kept.mk ha
  replace hb := Kept.mk hb
  have hll := Kept.mk (And.intro hal hbl)
  have hml := Md_len ((x + y) % pF)
  clear hx hy
  unfold arrV
  go_enter Try.func57, Try.ntmps57
  go_wp2_with (first
    | (refine a_box rfl _ rfl _ rfl (by assumption) (by first | assumption | exact limbs_len _ _ _ | exact z16_len) ?_; intro g w H; try simp only [Act.put, List.setIfInBounds_toArray, List.set_cons_succ, List.set_cons_zero])
    | (refine a_alloc rfl rfl (by assumption) ?_; intro g w H; try simp only [Act.put, List.setIfInBounds_toArray, List.set_cons_succ, List.set_cons_zero])
    | (refine a_build rfl rfl ?_; try simp only [Act.put, List.setIfInBounds_toArray, List.set_cons_succ, List.set_cons_zero])
    | (refine a_load rfl _ rfl _ _ rfl (by assumption) (by (first | exact .head _ | exact .tail _ (.head _) | exact .tail _ (.tail _ (.head _)) | exact .tail _ (.tail _ (.tail _ (.head _))) | exact .tail _ (.tail _ (.tail _ (.tail _ (.head _)))))) ?_; try simp only [Act.put, List.setIfInBounds_toArray, List.set_cons_succ, List.set_cons_zero])
    | (refine a_store0 rfl _ _ rfl _ _ _ rfl rfl _ (by assumption) (by first | assumption | exact limbs_len _ _ _ | exact z16_len) ?_; intro w H; try simp only [Act.put, List.setIfInBounds_toArray, List.set_cons_succ, List.set_cons_zero])
    | (refine a_store1 rfl _ _ rfl _ _ _ rfl rfl _ _ (by assumption) (by first | assumption | exact limbs_len _ _ _ | exact z16_len) ?_; intro w H; try simp only [Act.put, List.setIfInBounds_toArray, List.set_cons_succ, List.set_cons_zero])
    | (refine a_store2 rfl _ _ rfl _ _ _ rfl rfl _ _ _ (by assumption) (by first | assumption | exact limbs_len _ _ _ | exact z16_len) ?_; intro w H; try simp only [Act.put, List.setIfInBounds_toArray, List.set_cons_succ, List.set_cons_zero]))
  clear hal hbl
  rename_i ga _ _ gb _ _ K _
  rename Nat => gr
  go_loopw [5] (fun v5 wr => ∃ (i : Nat) (d : List Nat), i ≤ 16 ∧ v5 = .int .i64 (i : Int) ∧ Kept (d.length = i) ∧ AMem wS wr [(gr, z16), (gb, b), (ga, d ++ a.drop i)] ∧ Kept (d ++ zipA (a.drop i) (b.drop i) = R)) (fun v5 _ => 16 - (RowKit.intOf v5).toNat)
  case atStart => exact ⟨0, [], by omega, rfl, ⟨rfl⟩, H, hR⟩
  case round =>
    clear H
    obtain ⟨i, d, hi, rfl, HD, H, HE⟩ := hrel
    by_cases hlt : i < 16
    · obtain ⟨p, hp⟩ : ∃ p, a.getD i 0 = p := ⟨_, rfl⟩
      obtain ⟨q, hq⟩ : ∃ q, b.getD i 0 = q := ⟨_, rfl⟩
      have hda := drop_getD a i (by rw [hll.out.1]; omega)
      have hdb := drop_getD b i (by rw [hll.out.2]; omega)
      rw [hp] at hda
      rw [hq] at hdb
      have hpl : p < 65536 := hp ▸ getD_ltN haW.out i (by rw [hll.out.1]; omega)
      have hql : q < 65536 := hq ▸ getD_ltN hbW.out i (by rw [hll.out.2]; omega)
      have c1 := H.hcell (.tail _ (.tail _ (.head _))) i p hlt (step_get HD.out hda)
      have c2 := H.hcell (.tail _ (.head _)) i q hlt hq
      have hlti : (i : Int) < 16 := by omega
      have hE : d ++ [p + q] ++ zipA (a.drop (i + 1)) (b.drop (i + 1)) = R := by
        have h := HE.out
        rw [hda, hdb, zipA] at h
        rw [List.append_assoc]; exact h
      replace hE := Kept.mk hE
      replace hp := Kept.mk hp
      replace hq := Kept.mk hq
      replace hda := Kept.mk hda
      replace hdb := Kept.mk hdb
      go_wp2
      refine wp_region_from_tail 8 (by kernel_rfl) (by kernel_rfl) ?_
      simp only [List.take_succ_cons, List.take_zero, List.drop_succ_cons, List.drop_zero]
      repeat (first
        | (go_big_quiet_want; (refine a_quiet_load _ rfl _ _ rfl (by assumption) (by (first | exact .head _ | exact .tail _ (.head _) | exact .tail _ (.tail _ (.head _)) | exact .tail _ (.tail _ (.tail _ (.head _))) | exact .tail _ (.tail _ (.tail _ (.tail _ (.head _)))))) ?_); try simp only [Act.put, List.setIfInBounds_toArray, List.set_cons_succ, List.set_cons_zero]; go_big_quiet_on)
        | go_big_quiet_step ((fail)))
      refine wpQuiet_nil ?_
      intro w5 hw5
      have H := H.from hw5
      clear hw5
      clear c1 c2
      have c3 := H.cell (.tail _ (.tail _ (.head _))) i hlt
      have f3 := H.frozen (.tail _ (.tail _ (.head _))) i
      rw [step_get HD.out hda.out] at c3
      have Hn := H.cell2 i (p + q) ((p : Int) + (q : Int)) (by omega)
      rw [step_set HD.out hda.out] at Hn
      go_wp2
      go_roundw
      case rel => exact ⟨i + 1, d ++ [p + q], by omega, val_eq (by omega), ⟨by rw [List.length_append, HD.out]; rfl⟩, Hn, hE⟩
      case measure => simp [RowKit.intOf]; omega
    · obtain rfl : i = 16 := by omega
      have hfin : d ++ a.drop 16 = R := by
        have h := HE.out
        rw [List.drop_eq_nil_of_le (show a.length ≤ 16 by rw [hll.out.1]; omega), zipA_nil] at h
        rw [List.drop_eq_nil_of_le (show a.length ≤ 16 by rw [hll.out.1]; omega)]
        exact h
      rw [hfin] at H
      clear hfin HE
      go_wp2_with (first
        | (refine a_box rfl _ rfl _ rfl (by assumption) (by first | assumption | exact limbs_len _ _ _ | exact z16_len) ?_; intro g w H; try simp only [Act.put, List.setIfInBounds_toArray, List.set_cons_succ, List.set_cons_zero])
        | (refine a_alloc rfl rfl (by assumption) ?_; intro g w H; try simp only [Act.put, List.setIfInBounds_toArray, List.set_cons_succ, List.set_cons_zero])
        | (refine a_build rfl rfl ?_; try simp only [Act.put, List.setIfInBounds_toArray, List.set_cons_succ, List.set_cons_zero])
        | (refine a_load rfl _ rfl _ _ rfl (by assumption) (by (first | exact .head _ | exact .tail _ (.head _) | exact .tail _ (.tail _ (.head _)) | exact .tail _ (.tail _ (.tail _ (.head _))) | exact .tail _ (.tail _ (.tail _ (.tail _ (.head _)))))) ?_; try simp only [Act.put, List.setIfInBounds_toArray, List.set_cons_succ, List.set_cons_zero])
        | (refine a_store0 rfl _ _ rfl _ _ _ rfl rfl _ (by assumption) (by first | assumption | exact limbs_len _ _ _ | exact z16_len) ?_; intro w H; try simp only [Act.put, List.setIfInBounds_toArray, List.set_cons_succ, List.set_cons_zero])
        | (refine a_store1 rfl _ _ rfl _ _ _ rfl rfl _ _ (by assumption) (by first | assumption | exact limbs_len _ _ _ | exact z16_len) ?_; intro w H; try simp only [Act.put, List.setIfInBounds_toArray, List.set_cons_succ, List.set_cons_zero])
        | (refine a_store2 rfl _ _ rfl _ _ _ rfl rfl _ _ _ (by assumption) (by first | assumption | exact limbs_len _ _ _ | exact z16_len) ?_; intro w H; try simp only [Act.put, List.setIfInBounds_toArray, List.set_cons_succ, List.set_cons_zero])
        | (go_at_call 61; refine a_call (by assumption) (cM.out _) ?_; intro w H))
      exact a_ret Try.results57 _ rfl rfl (by assumption) (by (first | exact .head _ | exact .tail _ (.head _) | exact .tail _ (.tail _ (.head _)) | exact .tail _ (.tail _ (.tail _ (.head _))) | exact .tail _ (.tail _ (.tail _ (.tail _ (.head _)))))) (rfl)
set_option maxHeartbeats 1000000 in
theorem Minus_any (x y : Nat) (hx : x < big) (hy : y ≤ pF) (wS : World) : Calls Try.prog 38 #[arrV (Md x), arrV (Md y)] wS (AP (Md ((x + (pF - y)) % pF)) wS) := by
  have H := AMem.start wS
  have cL := Kept.mk fun w => less_any pF y p_bigR hy w
  have cP := Kept.mk fun w => Plus_any x (pF - y) hx (by have := p_bigR; omega) w
  have h1 := Md_len x
  have h2 := Md_len y
  have h3 := Md_len ((x + (pF - y)) % pF)
  clear hx hy
  unfold arrV
  go_enter Try.func38, Try.ntmps38
  go_wp2_with (first
    | (refine a_box rfl _ rfl _ rfl (by assumption) (by first | assumption | exact limbs_len _ _ _ | exact z16_len) ?_; intro g w H; try simp only [Act.put, List.setIfInBounds_toArray, List.set_cons_succ, List.set_cons_zero])
    | (refine a_alloc rfl rfl (by assumption) ?_; intro g w H; try simp only [Act.put, List.setIfInBounds_toArray, List.set_cons_succ, List.set_cons_zero])
    | (refine a_build rfl rfl ?_; try simp only [Act.put, List.setIfInBounds_toArray, List.set_cons_succ, List.set_cons_zero])
    | (refine a_load rfl _ rfl _ _ rfl (by assumption) (by (first | exact .head _ | exact .tail _ (.head _) | exact .tail _ (.tail _ (.head _)) | exact .tail _ (.tail _ (.tail _ (.head _))) | exact .tail _ (.tail _ (.tail _ (.tail _ (.head _)))))) ?_; try simp only [Act.put, List.setIfInBounds_toArray, List.set_cons_succ, List.set_cons_zero])
    | (refine a_store0 rfl _ _ rfl _ _ _ rfl rfl _ (by assumption) (by first | assumption | exact limbs_len _ _ _ | exact z16_len) ?_; intro w H; try simp only [Act.put, List.setIfInBounds_toArray, List.set_cons_succ, List.set_cons_zero])
    | (refine a_store1 rfl _ _ rfl _ _ _ rfl rfl _ _ (by assumption) (by first | assumption | exact limbs_len _ _ _ | exact z16_len) ?_; intro w H; try simp only [Act.put, List.setIfInBounds_toArray, List.set_cons_succ, List.set_cons_zero])
    | (refine a_store2 rfl _ _ rfl _ _ _ rfl rfl _ _ _ (by assumption) (by first | assumption | exact limbs_len _ _ _ | exact z16_len) ?_; intro w H; try simp only [Act.put, List.setIfInBounds_toArray, List.set_cons_succ, List.set_cons_zero]))
  refine wp_region_from_tail 5 (by kernel_rfl) (by kernel_rfl) ?_
  simp only [List.take_succ_cons, List.take_zero, List.drop_succ_cons, List.drop_zero]
  repeat (first
    | (go_big_quiet_want; (refine a_quiet_load _ rfl _ _ rfl (by assumption) (by (first | exact .head _ | exact .tail _ (.head _) | exact .tail _ (.tail _ (.head _)) | exact .tail _ (.tail _ (.tail _ (.head _))) | exact .tail _ (.tail _ (.tail _ (.tail _ (.head _)))))) ?_); try simp only [Act.put, List.setIfInBounds_toArray, List.set_cons_succ, List.set_cons_zero]; go_big_quiet_on)
    | go_big_quiet_step (((first | (go_at_call 60; exact held_call _ (P_any _)) | (go_at_call 59; exact held_call _ (cL.out _)) | (go_at_call 57; exact held_call _ (cP.out _))))))
  refine wpQuiet_nil ?_
  intro w5 hw5
  have H := H.from hw5
  clear hw5
  go_wp2_with (first
    | (refine a_box rfl _ rfl _ rfl (by assumption) (by first | assumption | exact limbs_len _ _ _ | exact z16_len) ?_; intro g w H; try simp only [Act.put, List.setIfInBounds_toArray, List.set_cons_succ, List.set_cons_zero])
    | (refine a_alloc rfl rfl (by assumption) ?_; intro g w H; try simp only [Act.put, List.setIfInBounds_toArray, List.set_cons_succ, List.set_cons_zero])
    | (refine a_build rfl rfl ?_; try simp only [Act.put, List.setIfInBounds_toArray, List.set_cons_succ, List.set_cons_zero])
    | (refine a_load rfl _ rfl _ _ rfl (by assumption) (by (first | exact .head _ | exact .tail _ (.head _) | exact .tail _ (.tail _ (.head _)) | exact .tail _ (.tail _ (.tail _ (.head _))) | exact .tail _ (.tail _ (.tail _ (.tail _ (.head _)))))) ?_; try simp only [Act.put, List.setIfInBounds_toArray, List.set_cons_succ, List.set_cons_zero])
    | (refine a_store0 rfl _ _ rfl _ _ _ rfl rfl _ (by assumption) (by first | assumption | exact limbs_len _ _ _ | exact z16_len) ?_; intro w H; try simp only [Act.put, List.setIfInBounds_toArray, List.set_cons_succ, List.set_cons_zero])
    | (refine a_store1 rfl _ _ rfl _ _ _ rfl rfl _ _ (by assumption) (by first | assumption | exact limbs_len _ _ _ | exact z16_len) ?_; intro w H; try simp only [Act.put, List.setIfInBounds_toArray, List.set_cons_succ, List.set_cons_zero])
    | (refine a_store2 rfl _ _ rfl _ _ _ rfl rfl _ _ _ (by assumption) (by first | assumption | exact limbs_len _ _ _ | exact z16_len) ?_; intro w H; try simp only [Act.put, List.setIfInBounds_toArray, List.set_cons_succ, List.set_cons_zero]))
  exact a_ret Try.results38 _ rfl rfl (by assumption) (by (first | exact .head _ | exact .tail _ (.head _) | exact .tail _ (.tail _ (.head _)) | exact .tail _ (.tail _ (.tail _ (.head _))) | exact .tail _ (.tail _ (.tail _ (.tail _ (.head _)))))) (rfl)
end Go.Proofs.Ytockcnglennihaa
end
section
set_option linter.unusedSimpArgs false
set_option linter.unusedVariables false
namespace Go.Proofs.Ytockcnglennihaa
open Go.RowKit
def b2 (y : Nat) : List Nat := [y % 256, y / 256]
theorem flat2_len : ∀ (ws : List Nat), (ws.flatMap b2).length = 2 * ws.length
  | [] => rfl
  | y :: r => by rw [List.flatMap_cons, List.length_append, flat2_len r, List.length_cons]; simp [b2]; omega
theorem flat2_val : ∀ (ws : List Nat), valB 256 (ws.flatMap b2) = valB 65536 ws
  | [] => rfl
  | y :: r => by
    have ih := flat2_val r
    rw [List.flatMap_cons, valB, ← ih]
    simp [b2, valB]
    omega
theorem flat2_lt : ∀ (ws : List Nat), (∀ x ∈ ws, x < 65536) → ∀ x ∈ ws.flatMap b2, x < 256
  | [], _, x, h => by simp at h
  | y :: r, hy, x, h => by
    rw [List.flatMap_cons, List.mem_append] at h
    have h1 := hy y (by simp)
    rcases h with h | h
    · simp [b2] at h
      rcases h with rfl | rfl
      · omega
      · omega
    · exact flat2_lt r (fun z hz => hy z (by simp [hz])) x h
theorem Md_bytes (x : Nat) (h : x < big) : (Md x).flatMap b2 = (leB x).map (·.toNat) := by
  have e1 := limbs_val (B := 256) (by decide) ((Md x).flatMap b2) (flat2_lt _ (Md_lt x))
  rw [flat2_len, Md_len, flat2_val, Md_val x h] at e1
  have e2 := limbs_val (B := 256) (by decide) ((leB x).map (·.toNat)) (fun y hy => by obtain ⟨b, _, rfl⟩ := List.mem_map.1 hy; exact b.toNat_lt)
  rw [List.length_map, leB_len] at e2
  rw [show valB 256 ((leB x).map (·.toNat)) = numB (leB x) from rfl, numB_leB x h] at e2
  rw [← e1, ← e2]
theorem AMem.setOther {w0 w : World} {L : List (Nat × List Nat)} (H : AMem w0 w L) (g' i : Nat) (v : Value) (hne : ∀ g x, (g, x) ∈ L → g ≠ g') (hle : w0.heap.size ≤ g') : AMem w0 (w.setCell ⟨g', i, none⟩ v) L :=
  ⟨H.below.setCell hle _, fun g x h => (H.holds g x h).other (hne g x h) i v, H.len, H.ours, H.apart⟩
def z32 : List Nat := List.replicate 32 0
theorem made32 : madeCells #[Value.int .u8 0] 32 = (numC .u8 z32).toArray := by kernel_rfl
theorem two_set (d r : List Nat) (k x y p q : Nat) (hd : d.length = k) : ((d ++ p :: q :: r).set k x).set (k + 1) y = (d ++ [x, y]) ++ r := by
  subst hd
  rw [set_mid]
  have := set_mid (d ++ [x]) r q y
  rw [List.length_append] at this
  rw [show d.length + 1 = d.length + [x].length from rfl, this]
  simp
set_option maxHeartbeats 1000000 in
theorem Bytes_any (x : Nat) (hx : x < big) (wS : World) : Calls Try.prog 40 #[arrV (Md x)] wS (BytesPost x wS) := by
  have H := AMem.start wS
  obtain ⟨i0, hi0, hz0, hz1, hz2⟩ := info_parts info5
  have hBY := Md_bytes x hx
  obtain ⟨a, ha⟩ : ∃ a, Md x = a := ⟨_, rfl⟩
  have hal : a.length = 16 := by rw [← ha, Md_len]
  have haW : ∀ x ∈ a, x < 65536 := ha ▸ Md_lt x
  rw [ha] at hBY ⊢
  obtain ⟨tot, htot⟩ : ∃ t, leB x = t := ⟨_, rfl⟩
  have htl : tot.length = 32 := by rw [← htot, leB_len]
  unfold BytesPost
  rw [htot] at hBY ⊢
  replace hBY := Kept.mk hBY
  replace htot := Kept.mk htot
  replace htl := Kept.mk htl
  replace haW := Kept.mk haW
  replace ha := Kept.mk ha
  have hll := Kept.mk hal
  clear hx
  unfold arrV
  go_enter Try.func40, Try.ntmps40
  go_wp2_with (first
    | (refine a_box rfl _ rfl _ rfl (by assumption) (by first | assumption | exact limbs_len _ _ _ | exact z16_len) ?_; intro g w H; try simp only [Act.put, List.setIfInBounds_toArray, List.set_cons_succ, List.set_cons_zero])
    | (refine a_alloc rfl rfl (by assumption) ?_; intro g w H; try simp only [Act.put, List.setIfInBounds_toArray, List.set_cons_succ, List.set_cons_zero])
    | (refine a_build rfl rfl ?_; try simp only [Act.put, List.setIfInBounds_toArray, List.set_cons_succ, List.set_cons_zero])
    | (refine a_load rfl _ rfl _ _ rfl (by assumption) (by (first | exact .head _ | exact .tail _ (.head _) | exact .tail _ (.tail _ (.head _)) | exact .tail _ (.tail _ (.tail _ (.head _))) | exact .tail _ (.tail _ (.tail _ (.tail _ (.head _)))))) ?_; try simp only [Act.put, List.setIfInBounds_toArray, List.set_cons_succ, List.set_cons_zero])
    | (refine a_store0 rfl _ _ rfl _ _ _ rfl rfl _ (by assumption) (by first | assumption | exact limbs_len _ _ _ | exact z16_len) ?_; intro w H; try simp only [Act.put, List.setIfInBounds_toArray, List.set_cons_succ, List.set_cons_zero])
    | (refine a_store1 rfl _ _ rfl _ _ _ rfl rfl _ _ (by assumption) (by first | assumption | exact limbs_len _ _ _ | exact z16_len) ?_; intro w H; try simp only [Act.put, List.setIfInBounds_toArray, List.set_cons_succ, List.set_cons_zero])
    | (refine a_store2 rfl _ _ rfl _ _ _ rfl rfl _ _ _ (by assumption) (by first | assumption | exact limbs_len _ _ _ | exact z16_len) ?_; intro w H; try simp only [Act.put, List.setIfInBounds_toArray, List.set_cons_succ, List.set_cons_zero])
    | (refine wpList_make_row _ rfl _ _ 36 rfl 5 i0 (.int .u8 0) Try.underlying36 hi0 hz0 hz1 rfl .i64 .i64 32 rfl rfl (by rw [hz2]; omega) (by omega) ?_; rw [made32]))
  have hB := Arr.new w 5 .u8 z32
  have hne : g < w.heap.size := (H.holds g a (.head _)).lt
  have hsz := H.below.size
  have H := H.grow ((Below.refl _ w).alloc (Nat.le_refl _) (.cells (numC .u8 z32).toArray 5))
  generalize w.alloc (.cells (numC .u8 z32).toArray 5) = w1 at hB H ⊢
  generalize w.heap.size = gb at hB hne hsz ⊢
  replace hB := Kept.mk hB
  clear hal
  go_loopw [4] (fun v4 wr => ∃ (i : Nat) (d : List Nat), i ≤ 16 ∧ v4 = .int .i64 (i : Int) ∧ Kept (d.length = 2 * i) ∧ AMem wS wr [(g, a)] ∧ Kept (Arr wr gb 5 .u8 (d ++ z32.drop (2 * i))) ∧ Kept (d ++ (a.drop i).flatMap b2 = tot.map (·.toNat))) (fun v4 _ => 16 - (RowKit.intOf v4).toNat)
  case atStart => exact ⟨0, [], by omega, rfl, ⟨rfl⟩, H, hB, hBY⟩
  case round =>
    clear H hB
    obtain ⟨i, d, hi, rfl, HD, H, HB, HT⟩ := hrel
    by_cases hlt : i < 16
    · obtain ⟨y, hy⟩ : ∃ y, a.getD i 0 = y := ⟨_, rfl⟩
      have hda := drop_getD a i (by rw [hll.out]; exact hlt)
      rw [hy] at hda
      have hyl : y < 65536 := hy ▸ getD_ltN haW.out i (by rw [hll.out]; exact hlt)
      have c1 := H.cell (.head _) i hlt
      rw [hy] at c1
      have hlti : (i : Int) < 16 := by omega
      have k1 : IntKind.i64.wrap (2 * (i : Int)) = 2 * (i : Int) := by simp [IntKind.wrap, IntKind.signed, IntKind.bits]; omega
      have k2 : IntKind.i64.wrap (2 * (i : Int) + 1) = 2 * (i : Int) + 1 := by simp [IntKind.wrap, IntKind.signed, IntKind.bits]; omega
      have k3 : (2 * (i : Int)).toNat = 2 * i := by omega
      have k4 : (2 * (i : Int) + 1).toNat = 2 * i + 1 := by omega
      have hz0 := drop_getD z32 (2 * i) (by show 2 * i < 32; omega)
      have hz1 := drop_getD z32 (2 * i + 1) (by show 2 * i + 1 < 32; omega)
      rw [hz1] at hz0
      have e0 := HB.out.cellMid hz0 HD.out
      have e1 := HB.out.cell (2 * i + 1) (by rw [List.length_append, HD.out, List.length_drop]; show 2 * i + 1 < 2 * i + (32 - 2 * i); omega)
      have f0 := HB.out.frozen (2 * i)
      have f1 := HB.out.frozen (2 * i + 1)
      have hBn : Arr ((wr.setCell ⟨gb, 2 * i, none⟩ (.int .u8 ((y : Int) % 256))).setCell ⟨gb, 2 * i + 1, none⟩ (.int .u8 ((y : Int) / 256))) gb 5 .u8 ((d ++ b2 y) ++ z32.drop (2 * (i + 1))) := by
        have h := (HB.out.set (2 * i) (y % 256)).set (2 * i + 1) (y / 256)
        rw [hz0, two_set d _ (2 * i) (y % 256) (y / 256) _ _ HD.out] at h
        rw [show (y : Int) % 256 = ((y % 256 : Nat) : Int) by omega, show (y : Int) / 256 = ((y / 256 : Nat) : Int) by omega]
        exact h
      have hne2 : ∀ g' x', (g', x') ∈ [(g, a)] → g' ≠ gb := by
        intro g' x' h
        simp at h
        omega
      have Hn := (H.setOther gb (2 * i) (.int .u8 ((y : Int) % 256)) hne2 hsz).setOther gb (2 * i + 1) (.int .u8 ((y : Int) / 256)) hne2 hsz
      have hT : d ++ b2 y ++ (a.drop (i + 1)).flatMap b2 = tot.map (·.toNat) := by
        have h := HT.out
        rw [hda, List.flatMap_cons] at h
        rw [List.append_assoc]; exact h
      have hDl : (d ++ b2 y).length = 2 * (i + 1) := by rw [List.length_append, HD.out]; simp [b2]; omega
      replace hT := Kept.mk hT
      replace hDl := Kept.mk hDl
      replace hBn := Kept.mk hBn
      replace hy := Kept.mk hy
      replace hda := Kept.mk hda
      clear hz0 hz1 hne2
      go_wp2
      go_roundw
      case rel => exact ⟨i + 1, d ++ b2 y, by omega, val_eq (by omega), hDl, Hn, hBn, hT⟩
      case measure => simp [RowKit.intOf]; omega
    · obtain rfl : i = 16 := by omega
      have hd : d = tot.map (·.toNat) := by
        have h := HT.out
        rw [List.drop_eq_nil_of_le (by rw [hll.out]; omega), List.flatMap_nil, List.append_nil] at h
        exact h
      have hA := HB.out
      rw [show z32.drop (2 * 16) = [] from rfl, List.append_nil, hd] at hA
      have hcv := run_convert_bytes_back (P := Try.prog) wr 36 9 5 ⟨gb, 0, none⟩ 32 tot Try.underlying36 Try.underlying5 Try.underlying9 (fun j hj => by
        have h := hA.cell j (by rw [List.length_map]; exact hj)
        rw [show ((⟨gb, 0, none⟩ : Addr).add j) = ⟨gb, j, none⟩ by unfold Addr.add; split <;> simp_all]
        rw [h]
        simp [hj])
      rw [htl.out] at hcv
      have hcv2 : (convert 36 9 (.slice (some ⟨gb, 0, none⟩) 32 32)).run Try.prog wr = .ok (.string (S tot)) wr := hcv
      clear hcv hA hd HT HB
      go_wp2
      go_ret
      exact ⟨rfl, H.below⟩
end Go.Proofs.Ytockcnglennihaa
end
