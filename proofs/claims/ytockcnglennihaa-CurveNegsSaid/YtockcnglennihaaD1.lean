/- The document's answer for package curve: numbers and points in blocks; laws of the walk over them. -/
import Derived.Test.YtockcnglennihaaZK
import Derived.Test.YtockcnglennihaaZT
import Derived.Test.YtockcnglennihaaZM
import Derived.Great.FillDense
set_option linter.unusedSimpArgs false
set_option linter.unusedVariables false
set_option maxRecDepth 100000
namespace Go.Proofs.Ytockcnglennihaa
open Go.RowKit
/-- A number's cells, a point's. -/
def nC (x : Nat) : List Value := numC .i64 (Md x)
def ptC (x y z : Nat) : List Value := nC x ++ (nC y ++ nC z)
def NV (x : Nat) : Value := .agg (nC x).toArray
def PV (x y z : Nat) : Value := .agg (ptC x y z).toArray
theorem nC_len (x : Nat) : (nC x).length = 16 := by rw [nC, numC_length, Md_len]
theorem ptC_len (x y z : Nat) : (ptC x y z).length = 48 := by rw [ptC, List.length_append, List.length_append, nC_len, nC_len, nC_len]
theorem nC_one (x : Nat) : (nC x).toArray.all (·.oneCell') = true := numC_one _ _
theorem ptC_one (x y z : Nat) : (ptC x y z).toArray.all (·.oneCell') = true := by
  have e : ptC x y z = numC .i64 (Md x ++ (Md y ++ Md z)) := by simp [ptC, nC, numC]
  rw [e]; exact numC_one _ _
theorem infoPt : (Try.prog.info? 48).map (·.size) = some 48 := by kernel_rfl
theorem infoN' : (Try.prog.info? 46).map (·.size) = some 16 := by kernel_rfl
theorem zero_nC : ∀ w, (zeroValue 46).run Try.prog w = .ok (.agg (nC 0).toArray) w := zero_arr
theorem zero_ptC : ∀ w, (zeroValue 48).run Try.prog w = .ok (.agg (ptC 0 0 0).toArray) w := (zero_of_info (n := 48) (by kernel_rfl)).1
theorem pt_part0 (x y z : Nat) : ((ptC x y z).drop 0).take 16 = nC x := by
  rw [List.drop_zero, ptC, List.take_append_of_le_length (by rw [nC_len]; omega), List.take_of_length_le (by rw [nC_len]; omega)]
theorem pt_part1 (x y z : Nat) : ((ptC x y z).drop 16).take 16 = nC y := by
  rw [ptC, List.drop_append_of_le_length (by rw [nC_len]; omega), List.drop_eq_nil_of_le (by rw [nC_len]; omega), List.nil_append, List.take_append_of_le_length (by rw [nC_len]; omega), List.take_of_length_le (by rw [nC_len]; omega)]
theorem pt_part2 (x y z : Nat) : ((ptC x y z).drop 32).take 16 = nC z := by
  rw [ptC, ← List.append_assoc, List.drop_append, List.drop_eq_nil_of_le (by rw [List.length_append, nC_len, nC_len]; omega), List.nil_append, List.length_append, nC_len, nC_len]
  rw [show 32 - (16 + 16) = 0 from rfl, List.drop_zero, List.take_of_length_le (by rw [nC_len]; omega)]
theorem fill_place (p p' : Nat → Option (Nat × Nat)) (h : ∀ i, i < 3 → p i = p' i) : ∀ (l : List (Nat × Value)) (cells : Array Value), (∀ x ∈ l, x.1 < 3) → Instr.fill p cells l = Instr.fill p' cells l
  | [], _, _ => rfl
  | (i, v) :: r, cells, hl => by
    unfold Instr.fill
    rw [h i (hl (i, v) (List.mem_cons_self ..))]
    cases p' i with
    | none => rfl
    | some os => simp only [fill_place p p' h r _ (fun x hx => hl x (List.mem_cons_of_mem _ hx))]
theorem zero48 : numC .i64 (List.replicate 48 0) = ptC 0 0 0 := rfl
theorem built_pt : (fun ps => Try.prog.built 48 ps) = fun ps => Instr.fill (fun i => (#[(0, 16), (16, 16), (32, 16)] : Array (Nat × Nat))[i]?) (numC .i64 (List.replicate 48 0)).toArray ps := by kernel_rfl
theorem places3 (i : Nat) (h : i < 3) : (#[(0, 16), (16, 16), (32, 16)] : Array (Nat × Nat))[i]? = some (i * 16, 16) := by
  obtain rfl | rfl | rfl : i = 0 ∨ i = 1 ∨ i = 2 := by omega
  · rfl
  · rfl
  · rfl
theorem built_letters (X Y Z C : List Value) (hX : X.length = 16) (hY : Y.length = 16) (hZ : Z.length = 16) (hC : C.length = 48) :
    Instr.fill (fun i => (#[(0, 16), (16, 16), (32, 16)] : Array (Nat × Nat))[i]?) C.toArray [(0, .agg X.toArray), (1, .agg Y.toArray), (2, .agg Z.toArray)] = some (X ++ (Y ++ Z)).toArray := by
  rw [fill_place _ (fun i => some (i * 16, 16)) places3 _ _ (fun x hx => by
    simp only [List.mem_cons, List.not_mem_nil, or_false] at hx
    rcases hx with rfl | rfl | rfl <;> simp)]
  have h := Great.fill_whole (s := 16) (by omega) [.agg X.toArray, .agg Y.toArray, .agg Z.toArray] C.toArray (fun v hv => by
    simp only [List.mem_cons, List.not_mem_nil, or_false] at hv
    rcases hv with rfl | rfl | rfl <;> simp [Value.cells, hX, hY, hZ]) (by simp [hC])
  refine Eq.trans h ?_
  congr 1
  simp [Value.cells]
theorem built_letter (X Y Z : List Value) (hX : X.length = 16) (hY : Y.length = 32) (hZ : Z.length = 16) :
    Instr.fill (fun i => (#[(0, 16), (16, 16), (32, 16)] : Array (Nat × Nat))[i]?) (Z ++ Y).toArray [(0, .agg X.toArray)] = some (X ++ Y).toArray := by
  rw [fill_place _ (fun i => some (i * 16, 16)) places3 _ _ (fun x hx => by
    simp only [List.mem_cons, List.not_mem_nil, or_false] at hx
    subst hx; simp)]
  obtain ⟨r, hr, hsz, hk⟩ := Great.fill_dense (s := 16) (by omega) [.agg X.toArray] 0 (Z ++ Y).toArray (fun v hv => by
    simp only [List.mem_cons, List.not_mem_nil, or_false] at hv
    subst hv
    simp [Value.cells, hX]) (by simp [hY, hZ])
  refine Eq.trans hr ?_
  congr 1
  apply Array.ext_getElem?
  intro k
  rw [hk k, List.getElem?_toArray, List.getElem?_toArray]
  by_cases h : k < 16
  · rw [if_pos ⟨by omega, by show k < (0 + 1) * 16; omega⟩, show k / 16 - 0 = 0 by omega, show k % 16 = k by omega]
    show X.toArray[k]? = _
    rw [List.getElem?_toArray, List.getElem?_append_left (by omega)]
  · rw [if_neg (by show ¬ (0 * 16 ≤ k ∧ k < (0 + 1) * 16); omega)]
    have e1 : (Z ++ Y)[k]? = Y[k - 16]? := by rw [List.getElem?_append_right (by omega), hZ]
    have e2 : (X ++ Y)[k]? = Y[k - 16]? := by rw [List.getElem?_append_right (by omega), hX]
    rw [e1, e2]
theorem built3 (x y z : Nat) : Try.prog.built 48 [(0, .agg (nC x).toArray), (1, .agg (nC y).toArray), (2, .agg (nC z).toArray)] = some (ptC x y z).toArray :=
  (congrFun built_pt _).trans (built_letters (nC x) (nC y) (nC z) _ (nC_len x) (nC_len y) (nC_len z) (by rw [numC_length, List.length_replicate]))
theorem built1 (x : Nat) : Try.prog.built 48 [(0, .agg (nC x).toArray)] = some (ptC x 0 0).toArray := by
  refine (congrFun built_pt _).trans ?_
  rw [zero48]
  exact built_letter (nC x) (nC 0 ++ nC 0) (nC 0) (nC_len x) (by rw [List.length_append, nC_len]) (nC_len 0)
section
variable {ops : Array Oper} {rest : List Oper} {o : Oper} {a : Act} {w0 w : World} {Q : Exit → Act → World → Prop} {L : List Cells}
abbrev tN : TypeId := 46
abbrev tP : TypeId := 48
theorem p_boxP (hg : o.guard = none) (v : Operand) (ho : o.op = .box 48 v) (x y z : Nat) (hv : a.eval v = .agg (ptC x y z).toArray) (H : RMem w0 w L)
    (h : ∀ g w', RMem w0 w' ((g, 48, ptC x y z) :: L) → wpList Try.prog ops Q rest (a.put o.dst (.pointer (some ⟨g, 0, none⟩))) w') : wpList Try.prog ops Q (o :: rest) a w := r_box hg _ v ho _ hv H h
theorem p_boxN (hg : o.guard = none) (v : Operand) (ho : o.op = .box 46 v) (x : Nat) (hv : a.eval v = .agg (nC x).toArray) (H : RMem w0 w L)
    (h : ∀ g w', RMem w0 w' ((g, 46, nC x) :: L) → wpList Try.prog ops Q rest (a.put o.dst (.pointer (some ⟨g, 0, none⟩))) w') : wpList Try.prog ops Q (o :: rest) a w := r_box hg _ v ho _ hv H h
theorem p_allocN (hg : o.guard = none) (ho : o.op = .alloc 46) (H : RMem w0 w L)
    (h : ∀ g w', RMem w0 w' ((g, 46, nC 0) :: L) → wpList Try.prog ops Q rest (a.put o.dst (.pointer (some ⟨g, 0, none⟩))) w') : wpList Try.prog ops Q (o :: rest) a w := r_alloc hg _ ho _ zero_nC H h
theorem p_allocP (hg : o.guard = none) (ho : o.op = .alloc 48) (H : RMem w0 w L)
    (h : ∀ g w', RMem w0 w' ((g, 48, ptC 0 0 0) :: L) → wpList Try.prog ops Q rest (a.put o.dst (.pointer (some ⟨g, 0, none⟩))) w') : wpList Try.prog ops Q (o :: rest) a w := r_alloc hg _ ho _ zero_ptC H h
theorem p_loadN (hg : o.guard = none) (v : Operand) (ho : o.op = .load 46 v) (g x : Nat) (hv : a.eval v = .pointer (some ⟨g, 0, none⟩)) (H : RMem w0 w L) (hm : (g, 46, nC x) ∈ L)
    (h : wpList Try.prog ops Q rest (a.put o.dst (.agg (nC x).toArray)) w) : wpList Try.prog ops Q (o :: rest) a w := r_load hg _ v ho _ Try.underlying46 rfl g _ _ hv H hm (by rw [nC_len]; exact infoN') h
theorem p_loadP (hg : o.guard = none) (v : Operand) (ho : o.op = .load 48 v) (g x y z : Nat) (hv : a.eval v = .pointer (some ⟨g, 0, none⟩)) (H : RMem w0 w L) (hm : (g, 48, ptC x y z) ∈ L)
    (h : wpList Try.prog ops Q rest (a.put o.dst (.agg (ptC x y z).toArray)) w) : wpList Try.prog ops Q (o :: rest) a w := r_load hg _ v ho _ Try.underlying48 rfl g _ _ hv H hm (by rw [ptC_len]; exact infoPt) h
theorem p_part0 (hg : o.guard = none) (v : Operand) (ho : o.op = .load 46 v) (g x y z : Nat) (hv : a.eval v = .pointer (some ⟨g, 0, none⟩)) (H : RMem w0 w L) (hm : (g, 48, ptC x y z) ∈ L)
    (h : wpList Try.prog ops Q rest (a.put o.dst (.agg (nC x).toArray)) w) : wpList Try.prog ops Q (o :: rest) a w := r_part hg _ v ho _ Try.underlying46 rfl g 0 16 _ _ _ hv H hm infoN' (pt_part0 x y z) (nC_len _) h
theorem p_part1 (hg : o.guard = none) (v : Operand) (ho : o.op = .load 46 v) (g x y z : Nat) (hv : a.eval v = .pointer (some ⟨g, 16, none⟩)) (H : RMem w0 w L) (hm : (g, 48, ptC x y z) ∈ L)
    (h : wpList Try.prog ops Q rest (a.put o.dst (.agg (nC y).toArray)) w) : wpList Try.prog ops Q (o :: rest) a w := r_part hg _ v ho _ Try.underlying46 rfl g 16 16 _ _ _ hv H hm infoN' (pt_part1 x y z) (nC_len _) h
theorem p_part2 (hg : o.guard = none) (v : Operand) (ho : o.op = .load 46 v) (g x y z : Nat) (hv : a.eval v = .pointer (some ⟨g, 32, none⟩)) (H : RMem w0 w L) (hm : (g, 48, ptC x y z) ∈ L)
    (h : wpList Try.prog ops Q rest (a.put o.dst (.agg (nC z).toArray)) w) : wpList Try.prog ops Q (o :: rest) a w := r_part hg _ v ho _ Try.underlying46 rfl g 32 16 _ _ _ hv H hm infoN' (pt_part2 x y z) (nC_len _) h
theorem p_storeN (hg : o.guard = none) (v u : Operand) (ho : o.op = .store 46 v u) (g old x : Nat) (hv : a.eval v = .pointer (some ⟨g, 0, none⟩)) (hu : a.eval u = .agg (nC x).toArray) (A B : List Cells) (H : RMem w0 w (A ++ (g, 46, nC old) :: B))
    (h : ∀ w', RMem w0 w' (A ++ (g, 46, nC x) :: B) → wpList Try.prog ops Q rest (a.put o.dst undef) w') : wpList Try.prog ops Q (o :: rest) a w := r_store hg _ v u ho g _ _ _ hv hu A B H (by rw [nC_len]; exact infoN') (by rw [nC_len, nC_len]) (nC_one x) h
theorem p_storeN0 (hg : o.guard = none) (v u : Operand) (ho : o.op = .store 46 v u) (g old x : Nat) (hv : a.eval v = .pointer (some ⟨g, 0, none⟩)) (hu : a.eval u = .agg (nC x).toArray) (B : List Cells) (H : RMem w0 w ((g, 46, nC old) :: B))
    (h : ∀ w', RMem w0 w' ((g, 46, nC x) :: B) → wpList Try.prog ops Q rest (a.put o.dst undef) w') : wpList Try.prog ops Q (o :: rest) a w := p_storeN hg v u ho g old x hv hu [] B H h
theorem p_storeN1 (hg : o.guard = none) (v u : Operand) (ho : o.op = .store 46 v u) (g old x : Nat) (hv : a.eval v = .pointer (some ⟨g, 0, none⟩)) (hu : a.eval u = .agg (nC x).toArray) (p : Cells) (B : List Cells) (H : RMem w0 w (p :: (g, 46, nC old) :: B))
    (h : ∀ w', RMem w0 w' (p :: (g, 46, nC x) :: B) → wpList Try.prog ops Q rest (a.put o.dst undef) w') : wpList Try.prog ops Q (o :: rest) a w := p_storeN hg v u ho g old x hv hu [p] B H h
theorem p_storeP0 (hg : o.guard = none) (v u : Operand) (ho : o.op = .store 48 v u) (g x' y' z' x y z : Nat) (hv : a.eval v = .pointer (some ⟨g, 0, none⟩)) (hu : a.eval u = .agg (ptC x y z).toArray) (B : List Cells) (H : RMem w0 w ((g, 48, ptC x' y' z') :: B))
    (h : ∀ w', RMem w0 w' ((g, 48, ptC x y z) :: B) → wpList Try.prog ops Q rest (a.put o.dst undef) w') : wpList Try.prog ops Q (o :: rest) a w := r_store hg _ v u ho g _ _ _ hv hu [] B H (by rw [ptC_len]; exact infoPt) (by rw [ptC_len, ptC_len]) (ptC_one x y z) h
theorem p_storeP_fin (hg : o.guard = none) (v u : Operand) (ho : o.op = .store 48 v u) (g x' y' z' x y z : Nat) (hv : a.eval v = .pointer (some ⟨g, 0, none⟩)) (hu : a.eval u = .agg (ptC x y z).toArray) (H : RMem w0 w L) (hm : (g, 48, ptC x' y' z') ∈ L)
    (h : ∀ w', RMem w0 w' [(g, 48, ptC x y z)] → wpList Try.prog ops Q rest (a.put o.dst undef) w') : wpList Try.prog ops Q (o :: rest) a w := r_store_fin hg _ v u ho g _ _ _ hv hu H hm (by rw [ptC_len]; exact infoPt) (by rw [ptC_len, ptC_len]) (ptC_one x y z) h
theorem p_storeN_fin (hg : o.guard = none) (v u : Operand) (ho : o.op = .store 46 v u) (g x' x : Nat) (hv : a.eval v = .pointer (some ⟨g, 0, none⟩)) (hu : a.eval u = .agg (nC x).toArray) (H : RMem w0 w L) (hm : (g, 46, nC x') ∈ L)
    (h : ∀ w', RMem w0 w' [(g, 46, nC x)] → wpList Try.prog ops Q rest (a.put o.dst undef) w') : wpList Try.prog ops Q (o :: rest) a w := r_store_fin hg _ v u ho g _ _ _ hv hu H hm (by rw [nC_len]; exact infoN') (by rw [nC_len, nC_len]) (nC_one x) h
theorem p_build3 (hg : o.guard = none) (parts : Array (Nat × Operand)) (ho : o.op = .build 48 parts) (x y z : Nat) (e : (parts.map fun (i, x) => (i, a.eval x)).toList = [(0, .agg (nC x).toArray), (1, .agg (nC y).toArray), (2, .agg (nC z).toArray)])
    (h : wpList Try.prog ops Q rest (a.put o.dst (.agg (ptC x y z).toArray)) w) : wpList Try.prog ops Q (o :: rest) a w := r_build hg _ parts ho _ e _ (built3 x y z) h
theorem p_build1 (hg : o.guard = none) (parts : Array (Nat × Operand)) (ho : o.op = .build 48 parts) (x : Nat) (e : (parts.map fun (i, x) => (i, a.eval x)).toList = [(0, .agg (nC x).toArray)])
    (h : wpList Try.prog ops Q rest (a.put o.dst (.agg (ptC x 0 0).toArray)) w) : wpList Try.prog ops Q (o :: rest) a w := r_build hg _ parts ho _ e _ (built1 x) h
theorem RMem.extra2 {w' : World} {g g' : Nat} {t : TypeId} {Z : List Value} (hne : g ≠ g') (H : RMem w0 w L) (h : From w.drew w') (hF : Fresh w t Z.toArray g w') (hF' : Fresh w t Z.toArray g' w') : RMem w0 w' ((g, t, Z) :: (g', t, Z) :: L) := by
  have H2 := H.extra h hF'
  refine ⟨H2.below, fun k t' y hk => ?_, fun k t' y hk => ?_, ?_⟩
  · rcases List.mem_cons.1 hk with hk | hk
    · injection hk with h1 h2; injection h2 with h2 h3; subst h1; subst h2; subst h3; exact hF.1
    · exact H2.holds k t' y hk
  · rcases List.mem_cons.1 hk with hk | hk
    · injection hk with h1 h2; subst h1; exact Nat.le_trans H.below.size hF.2
    · exact H2.ours k t' y hk
  · rw [List.map_cons, List.nodup_cons]
    refine ⟨fun hk => ?_, H2.apart⟩
    rcases List.mem_cons.1 hk with hk | hk
    · exact hne hk
    · obtain ⟨⟨k, t', y⟩, hm, he⟩ := List.mem_map.1 hk
      have h1 := H.lt hm
      have h2 := hF.2
      simp only at he
      omega
end
section
variable {o : Oper} {a : Act} {w0 w : World} {L : List Cells} {K : Act → Prop}
theorem q_loadN (v : Operand) (ho : o.op = .load 46 v) (g x : Nat) (u : World) (hw : From w.drew u) (hv : a.eval v = .pointer (some ⟨g, 0, none⟩)) (H : RMem w0 w L) (hm : (g, 46, nC x) ∈ L)
    (h : K (a.put o.dst (.agg (nC x).toArray))) : o.quiet Try.prog a (fun w' => ∃ k : Held (From u), w' = k.w) K := rq_load _ v ho _ Try.underlying46 rfl g _ _ u hw hv H hm (by rw [nC_len]; exact infoN') h
theorem q_loadP (v : Operand) (ho : o.op = .load 48 v) (g x y z : Nat) (u : World) (hw : From w.drew u) (hv : a.eval v = .pointer (some ⟨g, 0, none⟩)) (H : RMem w0 w L) (hm : (g, 48, ptC x y z) ∈ L)
    (h : K (a.put o.dst (.agg (ptC x y z).toArray))) : o.quiet Try.prog a (fun w' => ∃ k : Held (From u), w' = k.w) K := rq_load _ v ho _ Try.underlying48 rfl g _ _ u hw hv H hm (by rw [ptC_len]; exact infoPt) h
theorem q_part0 (v : Operand) (ho : o.op = .load 46 v) (g x y z : Nat) (u : World) (hw : From w.drew u) (hv : a.eval v = .pointer (some ⟨g, 0, none⟩)) (H : RMem w0 w L) (hm : (g, 48, ptC x y z) ∈ L)
    (h : K (a.put o.dst (.agg (nC x).toArray))) : o.quiet Try.prog a (fun w' => ∃ k : Held (From u), w' = k.w) K := rq_part _ v ho _ Try.underlying46 rfl g 0 16 _ _ _ u hw hv H hm infoN' (pt_part0 x y z) (nC_len _) h
theorem q_part1 (v : Operand) (ho : o.op = .load 46 v) (g x y z : Nat) (u : World) (hw : From w.drew u) (hv : a.eval v = .pointer (some ⟨g, 16, none⟩)) (H : RMem w0 w L) (hm : (g, 48, ptC x y z) ∈ L)
    (h : K (a.put o.dst (.agg (nC y).toArray))) : o.quiet Try.prog a (fun w' => ∃ k : Held (From u), w' = k.w) K := rq_part _ v ho _ Try.underlying46 rfl g 16 16 _ _ _ u hw hv H hm infoN' (pt_part1 x y z) (nC_len _) h
theorem q_part2 (v : Operand) (ho : o.op = .load 46 v) (g x y z : Nat) (u : World) (hw : From w.drew u) (hv : a.eval v = .pointer (some ⟨g, 32, none⟩)) (H : RMem w0 w L) (hm : (g, 48, ptC x y z) ∈ L)
    (h : K (a.put o.dst (.agg (nC z).toArray))) : o.quiet Try.prog a (fun w' => ∃ k : Held (From u), w' = k.w) K := rq_part _ v ho _ Try.underlying46 rfl g 32 16 _ _ _ u hw hv H hm infoN' (pt_part2 x y z) (nC_len _) h
theorem q_build3 (parts : Array (Nat × Operand)) (ho : o.op = .build 48 parts) (x y z : Nat) (e : (parts.map fun (i, x) => (i, a.eval x)).toList = [(0, .agg (nC x).toArray), (1, .agg (nC y).toArray), (2, .agg (nC z).toArray)]) {C : World → Prop}
    (h : K (a.put o.dst (.agg (ptC x y z).toArray))) : o.quiet Try.prog a C K := rq_build _ parts ho _ e _ (built3 x y z) h
theorem q_build1 (parts : Array (Nat × Operand)) (ho : o.op = .build 48 parts) (x : Nat) (e : (parts.map fun (i, x) => (i, a.eval x)).toList = [(0, .agg (nC x).toArray)]) {C : World → Prop}
    (h : K (a.put o.dst (.agg (ptC x 0 0).toArray))) : o.quiet Try.prog a C K := rq_build _ parts ho _ e _ (built1 x) h
end
def RetV (v : Value) (w : World) (e : Ending) (w' : World) : Prop := e = .returned v ∧ Below w.heap.size w w'
theorem p_retN {fn : Func} {p : Tmp} {x : Nat} {g : Nat} {w0 w : World} {L : List Cells} (hr : fn.results = #[.cell p 46]) (a : Act) (hp : a.tmps.getD p undef = .pointer (some ⟨g, 0, none⟩)) (hf : a.defers = []) (H : RMem w0 w L) (hm : (g, 46, nC x) ∈ L) : bodyPost Try.prog fn (RetV (NV x) w0) .ret a w :=
  r_ret hr Try.underlying46 rfl a hp hf H hm (by rw [nC_len]; exact infoN') ⟨rfl, H.below⟩
theorem p_retP {fn : Func} {p : Tmp} {x y z : Nat} {g : Nat} {w0 w : World} {L : List Cells} (hr : fn.results = #[.cell p 48]) (a : Act) (hp : a.tmps.getD p undef = .pointer (some ⟨g, 0, none⟩)) (hf : a.defers = []) (H : RMem w0 w L) (hm : (g, 48, ptC x y z) ∈ L) : bodyPost Try.prog fn (RetV (PV x y z) w0) .ret a w :=
  r_ret hr Try.underlying48 rfl a hp hf H hm (by rw [ptC_len]; exact infoPt) ⟨rfl, H.below⟩
end Go.Proofs.Ytockcnglennihaa
