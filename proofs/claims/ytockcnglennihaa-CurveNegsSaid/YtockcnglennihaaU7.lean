/- Package curve: what its calls answer. -/
import Derived.Test.YtockcnglennihaaU6
import Derived.Great.Walk
set_option linter.unusedSimpArgs false
set_option linter.unusedVariables false
set_option maxRecDepth 100000
namespace Go.Proofs.Ytockcnglennihaa
open Go.RowKit
theorem litX : (⟨#[26, 213, 37, 143, 96, 45, 86, 201, 178, 167, 37, 149, 96, 199, 44, 105, 92, 220, 214, 253, 49, 226, 164, 192, 254, 83, 110, 205, 211, 54, 105, 33]⟩ : ByteArray) = S (leB pbase.x) := by decide +kernel
theorem litY : (⟨#[88, 102, 102, 102, 102, 102, 102, 102, 102, 102, 102, 102, 102, 102, 102, 102, 102, 102, 102, 102, 102, 102, 102, 102, 102, 102, 102, 102, 102, 102, 102, 102]⟩ : ByteArray) = S (leB pbase.y) := by decide +kernel
theorem at_base (w : World) : Calls Try.prog 45 #[.string ⟨#[26, 213, 37, 143, 96, 45, 86, 201, 178, 167, 37, 149, 96, 199, 44, 105, 92, 220, 214, 253, 49, 226, 164, 192, 254, 83, 110, 205, 211, 54, 105, 33]⟩, .string ⟨#[88, 102, 102, 102, 102, 102, 102, 102, 102, 102, 102, 102, 102, 102, 102, 102, 102, 102, 102, 102, 102, 102, 102, 102, 102, 102, 102, 102, 102, 102, 102, 102]⟩] w (RetV (.agg (tC4 (tof pbase)).toArray) w) := by
  rw [litX, litY]
  exact at_any pbase.x pbase.y pbase_on.xl pbase_on.yl w
theorem builtM (s : ByteArray) (x y z t : ByteArray) : Try.prog.built 62 [(0, .string s), (1, (.func (.func 30) #[.agg (qC x y z t).toArray] #[]))] = some (mC s (.func (.func 30) #[.agg (qC x y z t).toArray] #[])).toArray := by kernel_rfl
theorem builtS1 (s : ByteArray) (x y z t : ByteArray) : Try.prog.builtSlice 62 1 [(0, .agg (mC s (.func (.func 30) #[.agg (qC x y z t).toArray] #[])).toArray)] = some (mC s (.func (.func 30) #[.agg (qC x y z t).toArray] #[])).toArray := by kernel_rfl
theorem builtS2 (s : ByteArray) (x y z t : ByteArray) (s' : ByteArray) (x' y' z' t' : ByteArray) : Try.prog.builtSlice 62 2 [(0, .agg (mC s (.func (.func 30) #[.agg (qC x y z t).toArray] #[])).toArray), (1, .agg (mC s' (.func (.func 30) #[.agg (qC x' y' z' t').toArray] #[])).toArray)] = some (mC s (.func (.func 30) #[.agg (qC x y z t).toArray] #[]) ++ mC s' (.func (.func 30) #[.agg (qC x' y' z' t').toArray] #[])).toArray := by kernel_rfl
section
variable {ops : Array Oper} {rest : List Oper} {o : Oper} {a : Act} {w0 w : World} {Q : Exit → Act → World → Prop} {L : List Cells}
theorem m_build (hg : o.guard = none) (parts : Array (Nat × Operand)) (ho : o.op = .build 62 parts) (s x y z t : ByteArray) (e : (parts.map fun (i, x) => (i, a.eval x)).toList = [(0, .string s), (1, (.func (.func 30) #[.agg (qC x y z t).toArray] #[]))])
    (h : wpList Try.prog ops Q rest (a.put o.dst (.agg (mC s (.func (.func 30) #[.agg (qC x y z t).toArray] #[])).toArray)) w) : wpList Try.prog ops Q (o :: rest) a w := r_build hg _ parts ho _ e _ (builtM s x y z t) h
theorem m_slice1 (hg : o.guard = none) (parts : Array (Nat × Operand)) (ho : o.op = .buildSlice 75 1 parts) (s x y z t : ByteArray) (e : (parts.map fun (i, x) => (i, a.eval x)).toList = [(0, .agg (mC s (.func (.func 30) #[.agg (qC x y z t).toArray] #[])).toArray)]) (H : RMem w0 w L)
    (h : ∀ g w', RMem w0 w' ((g, 62, mC s (.func (.func 30) #[.agg (qC x y z t).toArray] #[])) :: L) → wpList Try.prog ops Q rest (a.put o.dst (.slice (some ⟨g, 0, none⟩) 1 1)) w') : wpList Try.prog ops Q (o :: rest) a w :=
  Great.wpList_buildSliceTo hg 75 62 1 parts ho _ rfl _ rfl Try.underlying75 _ (by rw [e]; exact builtS1 s x y z t) (h _ _ (H.new 62 _))
theorem m_slice2 (hg : o.guard = none) (parts : Array (Nat × Operand)) (ho : o.op = .buildSlice 75 2 parts) (s x y z t s' x' y' z' t' : ByteArray) (e : (parts.map fun (i, x) => (i, a.eval x)).toList = [(0, .agg (mC s (.func (.func 30) #[.agg (qC x y z t).toArray] #[])).toArray), (1, .agg (mC s' (.func (.func 30) #[.agg (qC x' y' z' t').toArray] #[])).toArray)]) (H : RMem w0 w L)
    (h : ∀ g w', RMem w0 w' ((g, 62, mC s (.func (.func 30) #[.agg (qC x y z t).toArray] #[]) ++ mC s' (.func (.func 30) #[.agg (qC x' y' z' t').toArray] #[])) :: L) → wpList Try.prog ops Q rest (a.put o.dst (.slice (some ⟨g, 0, none⟩) 2 2)) w') : wpList Try.prog ops Q (o :: rest) a w :=
  Great.wpList_buildSliceTo hg 75 62 2 parts ho _ rfl _ rfl Try.underlying75 _ (by rw [e]; exact builtS2 s x y z t s' x' y' z' t') (h _ _ (H.new 62 _))
end
/-- What a total tells has these bytes. -/
def UPost (u : ByteArray) (w : World) (e : Ending) (w' : World) : Prop := ∃ x y z t : ByteArray, e = .returned (.agg (qC x y z t).toArray) ∧ Below w.heap.size w w' ∧ ∀ w, Calls Try.prog 31 #[.agg (qC x y z t).toArray] w (RetV (.string u) w)
theorem upost_of {P : Pt} (hP : OnC P) {f : FuncId} {args : Array Value} {w : World} (h : Calls Try.prog f args w (TPost P w)) : Calls Try.prog f args w (UPost (S (encP P)) w) := by
  refine h.mono ?_
  rintro _ w' ⟨t, ht, hr, rfl, hb⟩
  exact ⟨_, _, _, _, rfl, hb, fun w => bytes_T4 ht hP hr w⟩
set_option maxHeartbeats 4000000 in
theorem uis_core (s : ByteArray) (b : Bool) (x1 y1 z1 t1 : ByteArray) (c1 : ∀ w, Calls Try.prog 29 #[.string s] w (RetV (.tuple #[.agg (qC x1 y1 z1 t1).toArray, .bool b]) w)) (wS : World) : Calls Try.prog 15 #[.string s] wS (RetV (.bool b) wS) := by
  have H := RMem.start wS
  replace c1 := Kept.mk c1
  go_enter Try.func15, Try.ntmps15
  go_wp2_with (first
    | (refine u_box rfl _ rfl _ _ _ _ rfl (by assumption) ?_; intro g w H; try simp only [Act.put, List.setIfInBounds_toArray, List.set_cons_succ, List.set_cons_zero])
    | (refine u_alloc rfl rfl (by assumption) ?_; intro g w H; try simp only [Act.put, List.setIfInBounds_toArray, List.set_cons_succ, List.set_cons_zero])
    | (refine u_load rfl _ rfl _ _ _ _ _ rfl (by assumption) (by (repeat (first | exact .head _ | refine .tail _ ?_))) ?_; try simp only [Act.put, List.setIfInBounds_toArray, List.set_cons_succ, List.set_cons_zero])
    | (refine u_store0 rfl _ _ rfl _ _ _ _ _ _ _ _ _ rfl rfl _ (by assumption) ?_; intro w H; try simp only [Act.put, List.setIfInBounds_toArray, List.set_cons_succ, List.set_cons_zero])
    | (refine u_build rfl _ rfl _ _ _ _ (by rw [Array.toList_map]; rfl) ?_; try simp only [Act.put, List.setIfInBounds_toArray, List.set_cons_succ, List.set_cons_zero])
    | (refine u_build0 rfl _ rfl (by rw [Array.toList_map]; rfl) ?_; try simp only [Act.put, List.setIfInBounds_toArray, List.set_cons_succ, List.set_cons_zero])
    | (refine m_build rfl _ rfl _ _ _ _ _ (by rw [Array.toList_map]; rfl) ?_; try simp only [Act.put, List.setIfInBounds_toArray, List.set_cons_succ, List.set_cons_zero])
    | (refine m_slice1 rfl _ rfl _ _ _ _ _ (by rw [Array.toList_map]; rfl) (by assumption) ?_; intro g w H; try simp only [Act.put, List.setIfInBounds_toArray, List.set_cons_succ, List.set_cons_zero])
    | (refine m_build rfl _ rfl _ _ _ _ _ (by rw [Array.toList_map]; rfl) ?_; try simp only [Act.put, List.setIfInBounds_toArray, List.set_cons_succ, List.set_cons_zero])
    | (refine m_slice2 rfl _ rfl _ _ _ _ _ _ _ _ _ _ (by rw [Array.toList_map]; rfl) (by assumption) ?_; intro g w H; try simp only [Act.put, List.setIfInBounds_toArray, List.set_cons_succ, List.set_cons_zero])
    | (go_at_call 29; (with_reducible refine r_call (by assumption) (c1.out _) ?_); intro w H))
  go_ret
  exact ⟨rfl, H.below⟩
theorem uZero (wS : World) : Calls Try.prog 19 #[] wS (RetV (.string ⟨#[1, 0, 0, 0, 0, 0, 0, 0, 0, 0, 0, 0, 0, 0, 0, 0, 0, 0, 0, 0, 0, 0, 0, 0, 0, 0, 0, 0, 0, 0, 0, 0]⟩) wS) := by
  have H := RMem.start wS
  go_enter Try.func19, Try.ntmps19
  go_wp2
  go_ret
  exact ⟨rfl, H.below⟩
theorem uBase (wS : World) : Calls Try.prog 17 #[] wS (RetV (.string ⟨#[88, 102, 102, 102, 102, 102, 102, 102, 102, 102, 102, 102, 102, 102, 102, 102, 102, 102, 102, 102, 102, 102, 102, 102, 102, 102, 102, 102, 102, 102, 102, 102]⟩) wS) := by
  have H := RMem.start wS
  go_enter Try.func17, Try.ntmps17
  go_wp2
  go_ret
  exact ⟨rfl, H.below⟩
set_option maxHeartbeats 4000000 in
theorem uadd_core (s t u : ByteArray) (x1 y1 z1 t1 x2 y2 z2 t2 x3 y3 z3 t3 : ByteArray) (c1 : ∀ w, Calls Try.prog 29 #[.string s] w (RetV (.tuple #[.agg (qC x1 y1 z1 t1).toArray, .bool true]) w)) (c2 : ∀ w, Calls Try.prog 29 #[.string t] w (RetV (.tuple #[.agg (qC x2 y2 z2 t2).toArray, .bool true]) w)) (cP : ∀ w, Calls Try.prog 30 #[.agg (qC x1 y1 z1 t1).toArray, .agg (qC x2 y2 z2 t2).toArray] w (RetV (.agg (qC x3 y3 z3 t3).toArray) w)) (cB : ∀ w, Calls Try.prog 31 #[.agg (qC x3 y3 z3 t3).toArray] w (RetV (.string u) w)) (wS : World) : Calls Try.prog 10 #[.string s, .string t] wS (RetV (.tuple #[.string u, .int .i64 0]) wS) := by
  have H := RMem.start wS
  replace c1 := Kept.mk c1
  replace c2 := Kept.mk c2
  replace cP := Kept.mk cP
  replace cB := Kept.mk cB
  go_enter Try.func10, Try.ntmps10
  go_wp2_with (first
    | (refine u_box rfl _ rfl _ _ _ _ rfl (by assumption) ?_; intro g w H; try simp only [Act.put, List.setIfInBounds_toArray, List.set_cons_succ, List.set_cons_zero])
    | (refine u_alloc rfl rfl (by assumption) ?_; intro g w H; try simp only [Act.put, List.setIfInBounds_toArray, List.set_cons_succ, List.set_cons_zero])
    | (refine u_load rfl _ rfl _ _ _ _ _ rfl (by assumption) (by (repeat (first | exact .head _ | refine .tail _ ?_))) ?_; try simp only [Act.put, List.setIfInBounds_toArray, List.set_cons_succ, List.set_cons_zero])
    | (refine u_store0 rfl _ _ rfl _ _ _ _ _ _ _ _ _ rfl rfl _ (by assumption) ?_; intro w H; try simp only [Act.put, List.setIfInBounds_toArray, List.set_cons_succ, List.set_cons_zero])
    | (refine u_build rfl _ rfl _ _ _ _ (by rw [Array.toList_map]; rfl) ?_; try simp only [Act.put, List.setIfInBounds_toArray, List.set_cons_succ, List.set_cons_zero])
    | (refine u_build0 rfl _ rfl (by rw [Array.toList_map]; rfl) ?_; try simp only [Act.put, List.setIfInBounds_toArray, List.set_cons_succ, List.set_cons_zero])
    | (refine m_build rfl _ rfl _ _ _ _ _ (by rw [Array.toList_map]; rfl) ?_; try simp only [Act.put, List.setIfInBounds_toArray, List.set_cons_succ, List.set_cons_zero])
    | (refine m_slice1 rfl _ rfl _ _ _ _ _ (by rw [Array.toList_map]; rfl) (by assumption) ?_; intro g w H; try simp only [Act.put, List.setIfInBounds_toArray, List.set_cons_succ, List.set_cons_zero])
    | (refine m_build rfl _ rfl _ _ _ _ _ (by rw [Array.toList_map]; rfl) ?_; try simp only [Act.put, List.setIfInBounds_toArray, List.set_cons_succ, List.set_cons_zero])
    | (refine m_slice2 rfl _ rfl _ _ _ _ _ _ _ _ _ _ (by rw [Array.toList_map]; rfl) (by assumption) ?_; intro g w H; try simp only [Act.put, List.setIfInBounds_toArray, List.set_cons_succ, List.set_cons_zero])
    | (go_at_call 29; (with_reducible refine r_call (by assumption) (c1.out _) ?_); intro w H)
    | (go_at_call 29; (with_reducible refine r_call (by assumption) (c2.out _) ?_); intro w H)
    | (go_at_call 30; (with_reducible refine r_call (by assumption) (cP.out _) ?_); intro w H)
    | (go_at_call 31; (with_reducible refine r_call (by assumption) (cB.out _) ?_); intro w H))
  go_ret2
  exact ⟨rfl, H.below⟩
set_option maxHeartbeats 4000000 in
theorem uadd_no1 (s t : ByteArray) (b : Bool) (x1 y1 z1 t1 x2 y2 z2 t2 : ByteArray) (c1 : ∀ w, Calls Try.prog 29 #[.string s] w (RetV (.tuple #[.agg (qC x1 y1 z1 t1).toArray, .bool false]) w)) (c2 : ∀ w, Calls Try.prog 29 #[.string t] w (RetV (.tuple #[.agg (qC x2 y2 z2 t2).toArray, .bool b]) w)) (wS : World) : Calls Try.prog 10 #[.string s, .string t] wS (RetV (.tuple #[.string ⟨#[]⟩, .int .i64 60]) wS) := by
  have H := RMem.start wS
  replace c1 := Kept.mk c1
  replace c2 := Kept.mk c2
  go_enter Try.func10, Try.ntmps10
  go_wp2_with (first
    | (refine u_box rfl _ rfl _ _ _ _ rfl (by assumption) ?_; intro g w H; try simp only [Act.put, List.setIfInBounds_toArray, List.set_cons_succ, List.set_cons_zero])
    | (refine u_alloc rfl rfl (by assumption) ?_; intro g w H; try simp only [Act.put, List.setIfInBounds_toArray, List.set_cons_succ, List.set_cons_zero])
    | (refine u_load rfl _ rfl _ _ _ _ _ rfl (by assumption) (by (repeat (first | exact .head _ | refine .tail _ ?_))) ?_; try simp only [Act.put, List.setIfInBounds_toArray, List.set_cons_succ, List.set_cons_zero])
    | (refine u_store0 rfl _ _ rfl _ _ _ _ _ _ _ _ _ rfl rfl _ (by assumption) ?_; intro w H; try simp only [Act.put, List.setIfInBounds_toArray, List.set_cons_succ, List.set_cons_zero])
    | (refine u_build rfl _ rfl _ _ _ _ (by rw [Array.toList_map]; rfl) ?_; try simp only [Act.put, List.setIfInBounds_toArray, List.set_cons_succ, List.set_cons_zero])
    | (refine u_build0 rfl _ rfl (by rw [Array.toList_map]; rfl) ?_; try simp only [Act.put, List.setIfInBounds_toArray, List.set_cons_succ, List.set_cons_zero])
    | (refine m_build rfl _ rfl _ _ _ _ _ (by rw [Array.toList_map]; rfl) ?_; try simp only [Act.put, List.setIfInBounds_toArray, List.set_cons_succ, List.set_cons_zero])
    | (refine m_slice1 rfl _ rfl _ _ _ _ _ (by rw [Array.toList_map]; rfl) (by assumption) ?_; intro g w H; try simp only [Act.put, List.setIfInBounds_toArray, List.set_cons_succ, List.set_cons_zero])
    | (refine m_build rfl _ rfl _ _ _ _ _ (by rw [Array.toList_map]; rfl) ?_; try simp only [Act.put, List.setIfInBounds_toArray, List.set_cons_succ, List.set_cons_zero])
    | (refine m_slice2 rfl _ rfl _ _ _ _ _ _ _ _ _ _ (by rw [Array.toList_map]; rfl) (by assumption) ?_; intro g w H; try simp only [Act.put, List.setIfInBounds_toArray, List.set_cons_succ, List.set_cons_zero])
    | (go_at_call 29; (with_reducible refine r_call (by assumption) (c1.out _) ?_); intro w H)
    | (go_at_call 29; (with_reducible refine r_call (by assumption) (c2.out _) ?_); intro w H))
  go_ret2
  exact ⟨rfl, H.below⟩
set_option maxHeartbeats 4000000 in
theorem uadd_no2 (s t : ByteArray) (x1 y1 z1 t1 x2 y2 z2 t2 : ByteArray) (c1 : ∀ w, Calls Try.prog 29 #[.string s] w (RetV (.tuple #[.agg (qC x1 y1 z1 t1).toArray, .bool true]) w)) (c2 : ∀ w, Calls Try.prog 29 #[.string t] w (RetV (.tuple #[.agg (qC x2 y2 z2 t2).toArray, .bool false]) w)) (wS : World) : Calls Try.prog 10 #[.string s, .string t] wS (RetV (.tuple #[.string ⟨#[]⟩, .int .i64 60]) wS) := by
  have H := RMem.start wS
  replace c1 := Kept.mk c1
  replace c2 := Kept.mk c2
  go_enter Try.func10, Try.ntmps10
  go_wp2_with (first
    | (refine u_box rfl _ rfl _ _ _ _ rfl (by assumption) ?_; intro g w H; try simp only [Act.put, List.setIfInBounds_toArray, List.set_cons_succ, List.set_cons_zero])
    | (refine u_alloc rfl rfl (by assumption) ?_; intro g w H; try simp only [Act.put, List.setIfInBounds_toArray, List.set_cons_succ, List.set_cons_zero])
    | (refine u_load rfl _ rfl _ _ _ _ _ rfl (by assumption) (by (repeat (first | exact .head _ | refine .tail _ ?_))) ?_; try simp only [Act.put, List.setIfInBounds_toArray, List.set_cons_succ, List.set_cons_zero])
    | (refine u_store0 rfl _ _ rfl _ _ _ _ _ _ _ _ _ rfl rfl _ (by assumption) ?_; intro w H; try simp only [Act.put, List.setIfInBounds_toArray, List.set_cons_succ, List.set_cons_zero])
    | (refine u_build rfl _ rfl _ _ _ _ (by rw [Array.toList_map]; rfl) ?_; try simp only [Act.put, List.setIfInBounds_toArray, List.set_cons_succ, List.set_cons_zero])
    | (refine u_build0 rfl _ rfl (by rw [Array.toList_map]; rfl) ?_; try simp only [Act.put, List.setIfInBounds_toArray, List.set_cons_succ, List.set_cons_zero])
    | (refine m_build rfl _ rfl _ _ _ _ _ (by rw [Array.toList_map]; rfl) ?_; try simp only [Act.put, List.setIfInBounds_toArray, List.set_cons_succ, List.set_cons_zero])
    | (refine m_slice1 rfl _ rfl _ _ _ _ _ (by rw [Array.toList_map]; rfl) (by assumption) ?_; intro g w H; try simp only [Act.put, List.setIfInBounds_toArray, List.set_cons_succ, List.set_cons_zero])
    | (refine m_build rfl _ rfl _ _ _ _ _ (by rw [Array.toList_map]; rfl) ?_; try simp only [Act.put, List.setIfInBounds_toArray, List.set_cons_succ, List.set_cons_zero])
    | (refine m_slice2 rfl _ rfl _ _ _ _ _ _ _ _ _ _ (by rw [Array.toList_map]; rfl) (by assumption) ?_; intro g w H; try simp only [Act.put, List.setIfInBounds_toArray, List.set_cons_succ, List.set_cons_zero])
    | (go_at_call 29; (with_reducible refine r_call (by assumption) (c1.out _) ?_); intro w H)
    | (go_at_call 29; (with_reducible refine r_call (by assumption) (c2.out _) ?_); intro w H))
  go_ret2
  exact ⟨rfl, H.below⟩
set_option maxHeartbeats 4000000 in
theorem uneg_core (s u : ByteArray) (x1 y1 z1 t1 x3 y3 z3 t3 : ByteArray) (c1 : ∀ w, Calls Try.prog 29 #[.string s] w (RetV (.tuple #[.agg (qC x1 y1 z1 t1).toArray, .bool true]) w)) (cN : ∀ w, Calls Try.prog 36 #[.agg (qC x1 y1 z1 t1).toArray] w (RetV (.agg (qC x3 y3 z3 t3).toArray) w)) (cB : ∀ w, Calls Try.prog 31 #[.agg (qC x3 y3 z3 t3).toArray] w (RetV (.string u) w)) (wS : World) : Calls Try.prog 12 #[.string s] wS (RetV (.tuple #[.string u, .int .i64 0]) wS) := by
  have H := RMem.start wS
  replace c1 := Kept.mk c1
  replace cN := Kept.mk cN
  replace cB := Kept.mk cB
  go_enter Try.func12, Try.ntmps12
  go_wp2_with (first
    | (refine u_box rfl _ rfl _ _ _ _ rfl (by assumption) ?_; intro g w H; try simp only [Act.put, List.setIfInBounds_toArray, List.set_cons_succ, List.set_cons_zero])
    | (refine u_alloc rfl rfl (by assumption) ?_; intro g w H; try simp only [Act.put, List.setIfInBounds_toArray, List.set_cons_succ, List.set_cons_zero])
    | (refine u_load rfl _ rfl _ _ _ _ _ rfl (by assumption) (by (repeat (first | exact .head _ | refine .tail _ ?_))) ?_; try simp only [Act.put, List.setIfInBounds_toArray, List.set_cons_succ, List.set_cons_zero])
    | (refine u_store0 rfl _ _ rfl _ _ _ _ _ _ _ _ _ rfl rfl _ (by assumption) ?_; intro w H; try simp only [Act.put, List.setIfInBounds_toArray, List.set_cons_succ, List.set_cons_zero])
    | (refine u_build rfl _ rfl _ _ _ _ (by rw [Array.toList_map]; rfl) ?_; try simp only [Act.put, List.setIfInBounds_toArray, List.set_cons_succ, List.set_cons_zero])
    | (refine u_build0 rfl _ rfl (by rw [Array.toList_map]; rfl) ?_; try simp only [Act.put, List.setIfInBounds_toArray, List.set_cons_succ, List.set_cons_zero])
    | (refine m_build rfl _ rfl _ _ _ _ _ (by rw [Array.toList_map]; rfl) ?_; try simp only [Act.put, List.setIfInBounds_toArray, List.set_cons_succ, List.set_cons_zero])
    | (refine m_slice1 rfl _ rfl _ _ _ _ _ (by rw [Array.toList_map]; rfl) (by assumption) ?_; intro g w H; try simp only [Act.put, List.setIfInBounds_toArray, List.set_cons_succ, List.set_cons_zero])
    | (refine m_build rfl _ rfl _ _ _ _ _ (by rw [Array.toList_map]; rfl) ?_; try simp only [Act.put, List.setIfInBounds_toArray, List.set_cons_succ, List.set_cons_zero])
    | (refine m_slice2 rfl _ rfl _ _ _ _ _ _ _ _ _ _ (by rw [Array.toList_map]; rfl) (by assumption) ?_; intro g w H; try simp only [Act.put, List.setIfInBounds_toArray, List.set_cons_succ, List.set_cons_zero])
    | (go_at_call 29; (with_reducible refine r_call (by assumption) (c1.out _) ?_); intro w H)
    | (go_at_call 36; (with_reducible refine r_call (by assumption) (cN.out _) ?_); intro w H)
    | (go_at_call 31; (with_reducible refine r_call (by assumption) (cB.out _) ?_); intro w H))
  go_ret2
  exact ⟨rfl, H.below⟩
set_option maxHeartbeats 4000000 in
theorem uneg_no (s : ByteArray) (x1 y1 z1 t1 : ByteArray) (c1 : ∀ w, Calls Try.prog 29 #[.string s] w (RetV (.tuple #[.agg (qC x1 y1 z1 t1).toArray, .bool false]) w)) (wS : World) : Calls Try.prog 12 #[.string s] wS (RetV (.tuple #[.string ⟨#[]⟩, .int .i64 60]) wS) := by
  have H := RMem.start wS
  replace c1 := Kept.mk c1
  go_enter Try.func12, Try.ntmps12
  go_wp2_with (first
    | (refine u_box rfl _ rfl _ _ _ _ rfl (by assumption) ?_; intro g w H; try simp only [Act.put, List.setIfInBounds_toArray, List.set_cons_succ, List.set_cons_zero])
    | (refine u_alloc rfl rfl (by assumption) ?_; intro g w H; try simp only [Act.put, List.setIfInBounds_toArray, List.set_cons_succ, List.set_cons_zero])
    | (refine u_load rfl _ rfl _ _ _ _ _ rfl (by assumption) (by (repeat (first | exact .head _ | refine .tail _ ?_))) ?_; try simp only [Act.put, List.setIfInBounds_toArray, List.set_cons_succ, List.set_cons_zero])
    | (refine u_store0 rfl _ _ rfl _ _ _ _ _ _ _ _ _ rfl rfl _ (by assumption) ?_; intro w H; try simp only [Act.put, List.setIfInBounds_toArray, List.set_cons_succ, List.set_cons_zero])
    | (refine u_build rfl _ rfl _ _ _ _ (by rw [Array.toList_map]; rfl) ?_; try simp only [Act.put, List.setIfInBounds_toArray, List.set_cons_succ, List.set_cons_zero])
    | (refine u_build0 rfl _ rfl (by rw [Array.toList_map]; rfl) ?_; try simp only [Act.put, List.setIfInBounds_toArray, List.set_cons_succ, List.set_cons_zero])
    | (refine m_build rfl _ rfl _ _ _ _ _ (by rw [Array.toList_map]; rfl) ?_; try simp only [Act.put, List.setIfInBounds_toArray, List.set_cons_succ, List.set_cons_zero])
    | (refine m_slice1 rfl _ rfl _ _ _ _ _ (by rw [Array.toList_map]; rfl) (by assumption) ?_; intro g w H; try simp only [Act.put, List.setIfInBounds_toArray, List.set_cons_succ, List.set_cons_zero])
    | (refine m_build rfl _ rfl _ _ _ _ _ (by rw [Array.toList_map]; rfl) ?_; try simp only [Act.put, List.setIfInBounds_toArray, List.set_cons_succ, List.set_cons_zero])
    | (refine m_slice2 rfl _ rfl _ _ _ _ _ _ _ _ _ _ (by rw [Array.toList_map]; rfl) (by assumption) ?_; intro g w H; try simp only [Act.put, List.setIfInBounds_toArray, List.set_cons_succ, List.set_cons_zero])
    | (go_at_call 29; (with_reducible refine r_call (by assumption) (c1.out _) ?_); intro w H))
  go_ret2
  exact ⟨rfl, H.below⟩
set_option maxHeartbeats 4000000 in
theorem umul_core (k s u : ByteArray) (x1 y1 z1 t1 : ByteArray) (hk : k.size = 32) (c1 : ∀ w, Calls Try.prog 29 #[.string s] w (RetV (.tuple #[.agg (qC x1 y1 z1 t1).toArray, .bool true]) w)) (cT : ∀ (g : Nat) (w : World), w.heap[g]? = some (.cells (mC k (.func (.func 30) #[.agg (qC x1 y1 z1 t1).toArray] #[])).toArray 62 (0, 0)) → Calls Try.prog 43 #[.slice (some ⟨g, 0, none⟩) 1 1] w (UPost u w)) (wS : World) : Calls Try.prog 21 #[.string k, .string s] wS (RetV (.tuple #[.string u, .int .i64 0]) wS) := by
  have H := RMem.start wS
  replace c1 := Kept.mk c1
  go_enter Try.func21, Try.ntmps21
  go_wp2_with (first
    | (refine u_box rfl _ rfl _ _ _ _ rfl (by assumption) ?_; intro g w H; try simp only [Act.put, List.setIfInBounds_toArray, List.set_cons_succ, List.set_cons_zero])
    | (refine u_alloc rfl rfl (by assumption) ?_; intro g w H; try simp only [Act.put, List.setIfInBounds_toArray, List.set_cons_succ, List.set_cons_zero])
    | (refine u_load rfl _ rfl _ _ _ _ _ rfl (by assumption) (by (repeat (first | exact .head _ | refine .tail _ ?_))) ?_; try simp only [Act.put, List.setIfInBounds_toArray, List.set_cons_succ, List.set_cons_zero])
    | (refine u_store0 rfl _ _ rfl _ _ _ _ _ _ _ _ _ rfl rfl _ (by assumption) ?_; intro w H; try simp only [Act.put, List.setIfInBounds_toArray, List.set_cons_succ, List.set_cons_zero])
    | (refine u_build rfl _ rfl _ _ _ _ (by rw [Array.toList_map]; rfl) ?_; try simp only [Act.put, List.setIfInBounds_toArray, List.set_cons_succ, List.set_cons_zero])
    | (refine u_build0 rfl _ rfl (by rw [Array.toList_map]; rfl) ?_; try simp only [Act.put, List.setIfInBounds_toArray, List.set_cons_succ, List.set_cons_zero])
    | (refine m_build rfl _ rfl _ _ _ _ _ (by rw [Array.toList_map]; rfl) ?_; try simp only [Act.put, List.setIfInBounds_toArray, List.set_cons_succ, List.set_cons_zero])
    | (refine m_slice1 rfl _ rfl _ _ _ _ _ (by rw [Array.toList_map]; rfl) (by assumption) ?_; intro g w H; try simp only [Act.put, List.setIfInBounds_toArray, List.set_cons_succ, List.set_cons_zero])
    | (refine m_build rfl _ rfl _ _ _ _ _ (by rw [Array.toList_map]; rfl) ?_; try simp only [Act.put, List.setIfInBounds_toArray, List.set_cons_succ, List.set_cons_zero])
    | (refine m_slice2 rfl _ rfl _ _ _ _ _ _ _ _ _ _ (by rw [Array.toList_map]; rfl) (by assumption) ?_; intro g w H; try simp only [Act.put, List.setIfInBounds_toArray, List.set_cons_succ, List.set_cons_zero])
    | (go_at_call 29; (with_reducible refine r_call (by assumption) (c1.out _) ?_); intro w H)
    | (go_at_call 43; refine (cT _ _ (H.holds _ _ _ (.head _))).mono ?_; rintro _ w2 ⟨xt, yt, zt, tt, rfl, hb2, cB⟩; have H := H.grow hb2; replace cB := Kept.mk cB; clear hb2)
    | (go_at_call 31; (with_reducible refine r_call (by assumption) (cB.out _) ?_); intro w H))
  go_ret2
  exact ⟨rfl, H.below⟩
set_option maxHeartbeats 4000000 in
theorem umul_no1 (k s : ByteArray) (x1 y1 z1 t1 : ByteArray) (c1 : ∀ w, Calls Try.prog 29 #[.string s] w (RetV (.tuple #[.agg (qC x1 y1 z1 t1).toArray, .bool false]) w)) (wS : World) : Calls Try.prog 21 #[.string k, .string s] wS (RetV (.tuple #[.string ⟨#[]⟩, .int .i64 60]) wS) := by
  have H := RMem.start wS
  replace c1 := Kept.mk c1
  go_enter Try.func21, Try.ntmps21
  go_wp2_with (first
    | (refine u_box rfl _ rfl _ _ _ _ rfl (by assumption) ?_; intro g w H; try simp only [Act.put, List.setIfInBounds_toArray, List.set_cons_succ, List.set_cons_zero])
    | (refine u_alloc rfl rfl (by assumption) ?_; intro g w H; try simp only [Act.put, List.setIfInBounds_toArray, List.set_cons_succ, List.set_cons_zero])
    | (refine u_load rfl _ rfl _ _ _ _ _ rfl (by assumption) (by (repeat (first | exact .head _ | refine .tail _ ?_))) ?_; try simp only [Act.put, List.setIfInBounds_toArray, List.set_cons_succ, List.set_cons_zero])
    | (refine u_store0 rfl _ _ rfl _ _ _ _ _ _ _ _ _ rfl rfl _ (by assumption) ?_; intro w H; try simp only [Act.put, List.setIfInBounds_toArray, List.set_cons_succ, List.set_cons_zero])
    | (refine u_build rfl _ rfl _ _ _ _ (by rw [Array.toList_map]; rfl) ?_; try simp only [Act.put, List.setIfInBounds_toArray, List.set_cons_succ, List.set_cons_zero])
    | (refine u_build0 rfl _ rfl (by rw [Array.toList_map]; rfl) ?_; try simp only [Act.put, List.setIfInBounds_toArray, List.set_cons_succ, List.set_cons_zero])
    | (refine m_build rfl _ rfl _ _ _ _ _ (by rw [Array.toList_map]; rfl) ?_; try simp only [Act.put, List.setIfInBounds_toArray, List.set_cons_succ, List.set_cons_zero])
    | (refine m_slice1 rfl _ rfl _ _ _ _ _ (by rw [Array.toList_map]; rfl) (by assumption) ?_; intro g w H; try simp only [Act.put, List.setIfInBounds_toArray, List.set_cons_succ, List.set_cons_zero])
    | (refine m_build rfl _ rfl _ _ _ _ _ (by rw [Array.toList_map]; rfl) ?_; try simp only [Act.put, List.setIfInBounds_toArray, List.set_cons_succ, List.set_cons_zero])
    | (refine m_slice2 rfl _ rfl _ _ _ _ _ _ _ _ _ _ (by rw [Array.toList_map]; rfl) (by assumption) ?_; intro g w H; try simp only [Act.put, List.setIfInBounds_toArray, List.set_cons_succ, List.set_cons_zero])
    | (go_at_call 29; (with_reducible refine r_call (by assumption) (c1.out _) ?_); intro w H))
  go_ret2
  exact ⟨rfl, H.below⟩
set_option maxHeartbeats 4000000 in
theorem umul_no2 (k s : ByteArray) (x1 y1 z1 t1 : ByteArray) (hk : ((k.size : Int) != 32) = true) (c1 : ∀ w, Calls Try.prog 29 #[.string s] w (RetV (.tuple #[.agg (qC x1 y1 z1 t1).toArray, .bool true]) w)) (wS : World) : Calls Try.prog 21 #[.string k, .string s] wS (RetV (.tuple #[.string ⟨#[]⟩, .int .i64 60]) wS) := by
  have H := RMem.start wS
  replace c1 := Kept.mk c1
  go_enter Try.func21, Try.ntmps21
  go_wp2_with (first
    | (refine u_box rfl _ rfl _ _ _ _ rfl (by assumption) ?_; intro g w H; try simp only [Act.put, List.setIfInBounds_toArray, List.set_cons_succ, List.set_cons_zero])
    | (refine u_alloc rfl rfl (by assumption) ?_; intro g w H; try simp only [Act.put, List.setIfInBounds_toArray, List.set_cons_succ, List.set_cons_zero])
    | (refine u_load rfl _ rfl _ _ _ _ _ rfl (by assumption) (by (repeat (first | exact .head _ | refine .tail _ ?_))) ?_; try simp only [Act.put, List.setIfInBounds_toArray, List.set_cons_succ, List.set_cons_zero])
    | (refine u_store0 rfl _ _ rfl _ _ _ _ _ _ _ _ _ rfl rfl _ (by assumption) ?_; intro w H; try simp only [Act.put, List.setIfInBounds_toArray, List.set_cons_succ, List.set_cons_zero])
    | (refine u_build rfl _ rfl _ _ _ _ (by rw [Array.toList_map]; rfl) ?_; try simp only [Act.put, List.setIfInBounds_toArray, List.set_cons_succ, List.set_cons_zero])
    | (refine u_build0 rfl _ rfl (by rw [Array.toList_map]; rfl) ?_; try simp only [Act.put, List.setIfInBounds_toArray, List.set_cons_succ, List.set_cons_zero])
    | (refine m_build rfl _ rfl _ _ _ _ _ (by rw [Array.toList_map]; rfl) ?_; try simp only [Act.put, List.setIfInBounds_toArray, List.set_cons_succ, List.set_cons_zero])
    | (refine m_slice1 rfl _ rfl _ _ _ _ _ (by rw [Array.toList_map]; rfl) (by assumption) ?_; intro g w H; try simp only [Act.put, List.setIfInBounds_toArray, List.set_cons_succ, List.set_cons_zero])
    | (refine m_build rfl _ rfl _ _ _ _ _ (by rw [Array.toList_map]; rfl) ?_; try simp only [Act.put, List.setIfInBounds_toArray, List.set_cons_succ, List.set_cons_zero])
    | (refine m_slice2 rfl _ rfl _ _ _ _ _ _ _ _ _ _ (by rw [Array.toList_map]; rfl) (by assumption) ?_; intro g w H; try simp only [Act.put, List.setIfInBounds_toArray, List.set_cons_succ, List.set_cons_zero])
    | (go_at_call 29; (with_reducible refine r_call (by assumption) (c1.out _) ?_); intro w H))
  go_ret2
  exact ⟨rfl, H.below⟩
set_option maxHeartbeats 4000000 in
theorem uboth_core (a s b u : ByteArray) (x1 y1 z1 t1 x2 y2 z2 t2 : ByteArray) (ha : a.size = 32) (hb : b.size = 32) (c1 : ∀ w, Calls Try.prog 29 #[.string s] w (RetV (.tuple #[.agg (qC x1 y1 z1 t1).toArray, .bool true]) w)) (cA : ∀ w, Calls Try.prog 45 #[.string ⟨#[26, 213, 37, 143, 96, 45, 86, 201, 178, 167, 37, 149, 96, 199, 44, 105, 92, 220, 214, 253, 49, 226, 164, 192, 254, 83, 110, 205, 211, 54, 105, 33]⟩, .string ⟨#[88, 102, 102, 102, 102, 102, 102, 102, 102, 102, 102, 102, 102, 102, 102, 102, 102, 102, 102, 102, 102, 102, 102, 102, 102, 102, 102, 102, 102, 102, 102, 102]⟩] w (RetV (.agg (qC x2 y2 z2 t2).toArray) w)) (cT : ∀ (g : Nat) (w : World), w.heap[g]? = some (.cells (mC a (.func (.func 30) #[.agg (qC x1 y1 z1 t1).toArray] #[]) ++ mC b (.func (.func 30) #[.agg (qC x2 y2 z2 t2).toArray] #[])).toArray 62 (0, 0)) → Calls Try.prog 43 #[.slice (some ⟨g, 0, none⟩) 2 2] w (UPost u w)) (wS : World) : Calls Try.prog 23 #[.string a, .string s, .string b] wS (RetV (.tuple #[.string u, .int .i64 0]) wS) := by
  have H := RMem.start wS
  replace c1 := Kept.mk c1
  replace cA := Kept.mk cA
  go_enter Try.func23, Try.ntmps23
  go_wp2_with (first
    | (refine u_box rfl _ rfl _ _ _ _ rfl (by assumption) ?_; intro g w H; try simp only [Act.put, List.setIfInBounds_toArray, List.set_cons_succ, List.set_cons_zero])
    | (refine u_alloc rfl rfl (by assumption) ?_; intro g w H; try simp only [Act.put, List.setIfInBounds_toArray, List.set_cons_succ, List.set_cons_zero])
    | (refine u_load rfl _ rfl _ _ _ _ _ rfl (by assumption) (by (repeat (first | exact .head _ | refine .tail _ ?_))) ?_; try simp only [Act.put, List.setIfInBounds_toArray, List.set_cons_succ, List.set_cons_zero])
    | (refine u_store0 rfl _ _ rfl _ _ _ _ _ _ _ _ _ rfl rfl _ (by assumption) ?_; intro w H; try simp only [Act.put, List.setIfInBounds_toArray, List.set_cons_succ, List.set_cons_zero])
    | (refine u_build rfl _ rfl _ _ _ _ (by rw [Array.toList_map]; rfl) ?_; try simp only [Act.put, List.setIfInBounds_toArray, List.set_cons_succ, List.set_cons_zero])
    | (refine u_build0 rfl _ rfl (by rw [Array.toList_map]; rfl) ?_; try simp only [Act.put, List.setIfInBounds_toArray, List.set_cons_succ, List.set_cons_zero])
    | (refine m_build rfl _ rfl _ _ _ _ _ (by rw [Array.toList_map]; rfl) ?_; try simp only [Act.put, List.setIfInBounds_toArray, List.set_cons_succ, List.set_cons_zero])
    | (refine m_slice1 rfl _ rfl _ _ _ _ _ (by rw [Array.toList_map]; rfl) (by assumption) ?_; intro g w H; try simp only [Act.put, List.setIfInBounds_toArray, List.set_cons_succ, List.set_cons_zero])
    | (refine m_build rfl _ rfl _ _ _ _ _ (by rw [Array.toList_map]; rfl) ?_; try simp only [Act.put, List.setIfInBounds_toArray, List.set_cons_succ, List.set_cons_zero])
    | (refine m_slice2 rfl _ rfl _ _ _ _ _ _ _ _ _ _ (by rw [Array.toList_map]; rfl) (by assumption) ?_; intro g w H; try simp only [Act.put, List.setIfInBounds_toArray, List.set_cons_succ, List.set_cons_zero])
    | (go_at_call 29; (with_reducible refine r_call (by assumption) (c1.out _) ?_); intro w H)
    | (go_at_call 45; (with_reducible refine r_call (by assumption) (cA.out _) ?_); intro w H)
    | (go_at_call 43; refine (cT _ _ (H.holds _ _ _ (.head _))).mono ?_; rintro _ w2 ⟨xt, yt, zt, tt, rfl, hb2, cB⟩; have H := H.grow hb2; replace cB := Kept.mk cB; clear hb2)
    | (go_at_call 31; (with_reducible refine r_call (by assumption) (cB.out _) ?_); intro w H))
  go_ret2
  exact ⟨rfl, H.below⟩
set_option maxHeartbeats 4000000 in
theorem uboth_no1 (a s b : ByteArray) (x1 y1 z1 t1 : ByteArray) (c1 : ∀ w, Calls Try.prog 29 #[.string s] w (RetV (.tuple #[.agg (qC x1 y1 z1 t1).toArray, .bool false]) w)) (wS : World) : Calls Try.prog 23 #[.string a, .string s, .string b] wS (RetV (.tuple #[.string ⟨#[]⟩, .int .i64 60]) wS) := by
  have H := RMem.start wS
  replace c1 := Kept.mk c1
  go_enter Try.func23, Try.ntmps23
  go_wp2_with (first
    | (refine u_box rfl _ rfl _ _ _ _ rfl (by assumption) ?_; intro g w H; try simp only [Act.put, List.setIfInBounds_toArray, List.set_cons_succ, List.set_cons_zero])
    | (refine u_alloc rfl rfl (by assumption) ?_; intro g w H; try simp only [Act.put, List.setIfInBounds_toArray, List.set_cons_succ, List.set_cons_zero])
    | (refine u_load rfl _ rfl _ _ _ _ _ rfl (by assumption) (by (repeat (first | exact .head _ | refine .tail _ ?_))) ?_; try simp only [Act.put, List.setIfInBounds_toArray, List.set_cons_succ, List.set_cons_zero])
    | (refine u_store0 rfl _ _ rfl _ _ _ _ _ _ _ _ _ rfl rfl _ (by assumption) ?_; intro w H; try simp only [Act.put, List.setIfInBounds_toArray, List.set_cons_succ, List.set_cons_zero])
    | (refine u_build rfl _ rfl _ _ _ _ (by rw [Array.toList_map]; rfl) ?_; try simp only [Act.put, List.setIfInBounds_toArray, List.set_cons_succ, List.set_cons_zero])
    | (refine u_build0 rfl _ rfl (by rw [Array.toList_map]; rfl) ?_; try simp only [Act.put, List.setIfInBounds_toArray, List.set_cons_succ, List.set_cons_zero])
    | (refine m_build rfl _ rfl _ _ _ _ _ (by rw [Array.toList_map]; rfl) ?_; try simp only [Act.put, List.setIfInBounds_toArray, List.set_cons_succ, List.set_cons_zero])
    | (refine m_slice1 rfl _ rfl _ _ _ _ _ (by rw [Array.toList_map]; rfl) (by assumption) ?_; intro g w H; try simp only [Act.put, List.setIfInBounds_toArray, List.set_cons_succ, List.set_cons_zero])
    | (refine m_build rfl _ rfl _ _ _ _ _ (by rw [Array.toList_map]; rfl) ?_; try simp only [Act.put, List.setIfInBounds_toArray, List.set_cons_succ, List.set_cons_zero])
    | (refine m_slice2 rfl _ rfl _ _ _ _ _ _ _ _ _ _ (by rw [Array.toList_map]; rfl) (by assumption) ?_; intro g w H; try simp only [Act.put, List.setIfInBounds_toArray, List.set_cons_succ, List.set_cons_zero])
    | (go_at_call 29; (with_reducible refine r_call (by assumption) (c1.out _) ?_); intro w H))
  go_ret2
  exact ⟨rfl, H.below⟩
set_option maxHeartbeats 4000000 in
theorem uboth_no2 (a s b : ByteArray) (x1 y1 z1 t1 : ByteArray) (ha : ((a.size : Int) != 32) = true) (c1 : ∀ w, Calls Try.prog 29 #[.string s] w (RetV (.tuple #[.agg (qC x1 y1 z1 t1).toArray, .bool true]) w)) (wS : World) : Calls Try.prog 23 #[.string a, .string s, .string b] wS (RetV (.tuple #[.string ⟨#[]⟩, .int .i64 60]) wS) := by
  have H := RMem.start wS
  replace c1 := Kept.mk c1
  go_enter Try.func23, Try.ntmps23
  go_wp2_with (first
    | (refine u_box rfl _ rfl _ _ _ _ rfl (by assumption) ?_; intro g w H; try simp only [Act.put, List.setIfInBounds_toArray, List.set_cons_succ, List.set_cons_zero])
    | (refine u_alloc rfl rfl (by assumption) ?_; intro g w H; try simp only [Act.put, List.setIfInBounds_toArray, List.set_cons_succ, List.set_cons_zero])
    | (refine u_load rfl _ rfl _ _ _ _ _ rfl (by assumption) (by (repeat (first | exact .head _ | refine .tail _ ?_))) ?_; try simp only [Act.put, List.setIfInBounds_toArray, List.set_cons_succ, List.set_cons_zero])
    | (refine u_store0 rfl _ _ rfl _ _ _ _ _ _ _ _ _ rfl rfl _ (by assumption) ?_; intro w H; try simp only [Act.put, List.setIfInBounds_toArray, List.set_cons_succ, List.set_cons_zero])
    | (refine u_build rfl _ rfl _ _ _ _ (by rw [Array.toList_map]; rfl) ?_; try simp only [Act.put, List.setIfInBounds_toArray, List.set_cons_succ, List.set_cons_zero])
    | (refine u_build0 rfl _ rfl (by rw [Array.toList_map]; rfl) ?_; try simp only [Act.put, List.setIfInBounds_toArray, List.set_cons_succ, List.set_cons_zero])
    | (refine m_build rfl _ rfl _ _ _ _ _ (by rw [Array.toList_map]; rfl) ?_; try simp only [Act.put, List.setIfInBounds_toArray, List.set_cons_succ, List.set_cons_zero])
    | (refine m_slice1 rfl _ rfl _ _ _ _ _ (by rw [Array.toList_map]; rfl) (by assumption) ?_; intro g w H; try simp only [Act.put, List.setIfInBounds_toArray, List.set_cons_succ, List.set_cons_zero])
    | (refine m_build rfl _ rfl _ _ _ _ _ (by rw [Array.toList_map]; rfl) ?_; try simp only [Act.put, List.setIfInBounds_toArray, List.set_cons_succ, List.set_cons_zero])
    | (refine m_slice2 rfl _ rfl _ _ _ _ _ _ _ _ _ _ (by rw [Array.toList_map]; rfl) (by assumption) ?_; intro g w H; try simp only [Act.put, List.setIfInBounds_toArray, List.set_cons_succ, List.set_cons_zero])
    | (go_at_call 29; (with_reducible refine r_call (by assumption) (c1.out _) ?_); intro w H))
  go_ret2
  exact ⟨rfl, H.below⟩
set_option maxHeartbeats 4000000 in
theorem uboth_no3 (a s b : ByteArray) (x1 y1 z1 t1 : ByteArray) (ha : a.size = 32) (hb : ((b.size : Int) != 32) = true) (c1 : ∀ w, Calls Try.prog 29 #[.string s] w (RetV (.tuple #[.agg (qC x1 y1 z1 t1).toArray, .bool true]) w)) (wS : World) : Calls Try.prog 23 #[.string a, .string s, .string b] wS (RetV (.tuple #[.string ⟨#[]⟩, .int .i64 60]) wS) := by
  have H := RMem.start wS
  replace c1 := Kept.mk c1
  go_enter Try.func23, Try.ntmps23
  go_wp2_with (first
    | (refine u_box rfl _ rfl _ _ _ _ rfl (by assumption) ?_; intro g w H; try simp only [Act.put, List.setIfInBounds_toArray, List.set_cons_succ, List.set_cons_zero])
    | (refine u_alloc rfl rfl (by assumption) ?_; intro g w H; try simp only [Act.put, List.setIfInBounds_toArray, List.set_cons_succ, List.set_cons_zero])
    | (refine u_load rfl _ rfl _ _ _ _ _ rfl (by assumption) (by (repeat (first | exact .head _ | refine .tail _ ?_))) ?_; try simp only [Act.put, List.setIfInBounds_toArray, List.set_cons_succ, List.set_cons_zero])
    | (refine u_store0 rfl _ _ rfl _ _ _ _ _ _ _ _ _ rfl rfl _ (by assumption) ?_; intro w H; try simp only [Act.put, List.setIfInBounds_toArray, List.set_cons_succ, List.set_cons_zero])
    | (refine u_build rfl _ rfl _ _ _ _ (by rw [Array.toList_map]; rfl) ?_; try simp only [Act.put, List.setIfInBounds_toArray, List.set_cons_succ, List.set_cons_zero])
    | (refine u_build0 rfl _ rfl (by rw [Array.toList_map]; rfl) ?_; try simp only [Act.put, List.setIfInBounds_toArray, List.set_cons_succ, List.set_cons_zero])
    | (refine m_build rfl _ rfl _ _ _ _ _ (by rw [Array.toList_map]; rfl) ?_; try simp only [Act.put, List.setIfInBounds_toArray, List.set_cons_succ, List.set_cons_zero])
    | (refine m_slice1 rfl _ rfl _ _ _ _ _ (by rw [Array.toList_map]; rfl) (by assumption) ?_; intro g w H; try simp only [Act.put, List.setIfInBounds_toArray, List.set_cons_succ, List.set_cons_zero])
    | (refine m_build rfl _ rfl _ _ _ _ _ (by rw [Array.toList_map]; rfl) ?_; try simp only [Act.put, List.setIfInBounds_toArray, List.set_cons_succ, List.set_cons_zero])
    | (refine m_slice2 rfl _ rfl _ _ _ _ _ _ _ _ _ _ (by rw [Array.toList_map]; rfl) (by assumption) ?_; intro g w H; try simp only [Act.put, List.setIfInBounds_toArray, List.set_cons_succ, List.set_cons_zero])
    | (go_at_call 29; (with_reducible refine r_call (by assumption) (c1.out _) ?_); intro w H))
  go_ret2
  exact ⟨rfl, H.below⟩
end Go.Proofs.Ytockcnglennihaa
