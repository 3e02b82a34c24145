/- Package curve: what its calls answer.
Package curve answers by points as the group asks: what the laws are proved from. -/
import Derived.Test.YtgnblaaldpniiaaGreatDoorU6
import Derived.Great.Walk
section
set_option linter.unusedSimpArgs false
set_option linter.unusedVariables false
set_option maxRecDepth 100000
namespace Go.Proofs.YtgnblaaldpniiaaGreatDoor
open Go.RowKit
theorem litX : (⟨#[26, 213, 37, 143, 96, 45, 86, 201, 178, 167, 37, 149, 96, 199, 44, 105, 92, 220, 214, 253, 49, 226, 164, 192, 254, 83, 110, 205, 211, 54, 105, 33]⟩ : ByteArray) = S (leB pbase.x) := by decide +kernel
theorem litY : (⟨#[88, 102, 102, 102, 102, 102, 102, 102, 102, 102, 102, 102, 102, 102, 102, 102, 102, 102, 102, 102, 102, 102, 102, 102, 102, 102, 102, 102, 102, 102, 102, 102]⟩ : ByteArray) = S (leB pbase.y) := by decide +kernel
theorem at_base (w : World) : Calls Tryz.prog 48 #[.string ⟨#[26, 213, 37, 143, 96, 45, 86, 201, 178, 167, 37, 149, 96, 199, 44, 105, 92, 220, 214, 253, 49, 226, 164, 192, 254, 83, 110, 205, 211, 54, 105, 33]⟩, .string ⟨#[88, 102, 102, 102, 102, 102, 102, 102, 102, 102, 102, 102, 102, 102, 102, 102, 102, 102, 102, 102, 102, 102, 102, 102, 102, 102, 102, 102, 102, 102, 102, 102]⟩] w (RetV (.agg (tC4 (tof pbase)).toArray) w) := by
  rw [litX, litY]
  exact at_any pbase.x pbase.y pbase_on.xl pbase_on.yl w
theorem builtM (s : ByteArray) (x y z t : ByteArray) : Tryz.prog.built 65 [(0, .string s), (1, (.func (.func 50) #[.agg (qC x y z t).toArray] #[]))] = some (mC s (.func (.func 50) #[.agg (qC x y z t).toArray] #[])).toArray := by kernel_rfl
theorem builtS1 (s : ByteArray) (x y z t : ByteArray) : Tryz.prog.builtSlice 65 1 [(0, .agg (mC s (.func (.func 50) #[.agg (qC x y z t).toArray] #[])).toArray)] = some (mC s (.func (.func 50) #[.agg (qC x y z t).toArray] #[])).toArray := by kernel_rfl
theorem builtS2 (s : ByteArray) (x y z t : ByteArray) (s' : ByteArray) (x' y' z' t' : ByteArray) : Tryz.prog.builtSlice 65 2 [(0, .agg (mC s (.func (.func 50) #[.agg (qC x y z t).toArray] #[])).toArray), (1, .agg (mC s' (.func (.func 50) #[.agg (qC x' y' z' t').toArray] #[])).toArray)] = some (mC s (.func (.func 50) #[.agg (qC x y z t).toArray] #[]) ++ mC s' (.func (.func 50) #[.agg (qC x' y' z' t').toArray] #[])).toArray := by kernel_rfl
section
variable {ops : Array Oper} {rest : List Oper} {o : Oper} {a : Act} {w0 w : World} {Q : Exit → Act → World → Prop} {L : List Cells}
theorem m_build (hg : o.guard = none) (parts : Array (Nat × Operand)) (ho : o.op = .build 65 parts) (s x y z t : ByteArray) (e : (parts.map fun (i, x) => (i, a.eval x)).toList = [(0, .string s), (1, (.func (.func 50) #[.agg (qC x y z t).toArray] #[]))])
    (h : wpList Tryz.prog ops Q rest (a.put o.dst (.agg (mC s (.func (.func 50) #[.agg (qC x y z t).toArray] #[])).toArray)) w) : wpList Tryz.prog ops Q (o :: rest) a w := r_build hg _ parts ho _ e _ (builtM s x y z t) h
theorem m_slice1 (hg : o.guard = none) (parts : Array (Nat × Operand)) (ho : o.op = .buildSlice 98 1 parts) (s x y z t : ByteArray) (e : (parts.map fun (i, x) => (i, a.eval x)).toList = [(0, .agg (mC s (.func (.func 50) #[.agg (qC x y z t).toArray] #[])).toArray)]) (H : RMem w0 w L)
    (h : ∀ g w', RMem w0 w' ((g, 65, mC s (.func (.func 50) #[.agg (qC x y z t).toArray] #[])) :: L) → wpList Tryz.prog ops Q rest (a.put o.dst (.slice (some ⟨g, 0, none⟩) 1 1)) w') : wpList Tryz.prog ops Q (o :: rest) a w :=
  Great.wpList_buildSliceTo hg 98 65 1 parts ho _ rfl _ rfl Tryz.underlying98 _ (by rw [e]; exact builtS1 s x y z t) (h _ _ (H.new 65 _))
theorem m_slice2 (hg : o.guard = none) (parts : Array (Nat × Operand)) (ho : o.op = .buildSlice 98 2 parts) (s x y z t s' x' y' z' t' : ByteArray) (e : (parts.map fun (i, x) => (i, a.eval x)).toList = [(0, .agg (mC s (.func (.func 50) #[.agg (qC x y z t).toArray] #[])).toArray), (1, .agg (mC s' (.func (.func 50) #[.agg (qC x' y' z' t').toArray] #[])).toArray)]) (H : RMem w0 w L)
    (h : ∀ g w', RMem w0 w' ((g, 65, mC s (.func (.func 50) #[.agg (qC x y z t).toArray] #[]) ++ mC s' (.func (.func 50) #[.agg (qC x' y' z' t').toArray] #[])) :: L) → wpList Tryz.prog ops Q rest (a.put o.dst (.slice (some ⟨g, 0, none⟩) 2 2)) w') : wpList Tryz.prog ops Q (o :: rest) a w :=
  Great.wpList_buildSliceTo hg 98 65 2 parts ho _ rfl _ rfl Tryz.underlying98 _ (by rw [e]; exact builtS2 s x y z t s' x' y' z' t') (h _ _ (H.new 65 _))
end
def UPost (u : ByteArray) (w : World) (e : Ending) (w' : World) : Prop := ∃ x y z t : ByteArray, e = .returned (.agg (qC x y z t).toArray) ∧ Below w.heap.size w w' ∧ ∀ w, Calls Tryz.prog 47 #[.agg (qC x y z t).toArray] w (RetV (.string u) w)
theorem upost_of {P : Pt} (hP : OnC P) {f : FuncId} {args : Array Value} {w : World} (h : Calls Tryz.prog f args w (TPost P w)) : Calls Tryz.prog f args w (UPost (S (encP P)) w) := by
  refine h.mono ?_
  rintro _ w' ⟨t, ht, hr, rfl, hb⟩
  exact ⟨_, _, _, _, rfl, hb, fun w => bytes_T4 ht hP hr w⟩
theorem uBase (wS : World) : Calls Tryz.prog 31 #[] wS (RetV (.string ⟨#[88, 102, 102, 102, 102, 102, 102, 102, 102, 102, 102, 102, 102, 102, 102, 102, 102, 102, 102, 102, 102, 102, 102, 102, 102, 102, 102, 102, 102, 102, 102, 102]⟩) wS) := by
  have H := RMem.start wS
  go_enter Tryz.func31, Tryz.ntmps31
  go_wp2
  go_ret
  exact ⟨rfl, H.below⟩
set_option maxHeartbeats 4000000 in
theorem uneg_core (s u : ByteArray) (x1 y1 z1 t1 x3 y3 z3 t3 : ByteArray) (c1 : ∀ w, Calls Tryz.prog 45 #[.string s] w (RetV (.tuple #[.agg (qC x1 y1 z1 t1).toArray, .bool true]) w)) (cN : ∀ w, Calls Tryz.prog 46 #[.agg (qC x1 y1 z1 t1).toArray] w (RetV (.agg (qC x3 y3 z3 t3).toArray) w)) (cB : ∀ w, Calls Tryz.prog 47 #[.agg (qC x3 y3 z3 t3).toArray] w (RetV (.string u) w)) (wS : World) : Calls Tryz.prog 23 #[.string s] wS (RetV (.tuple #[.string u, .int .i64 0]) wS) := by
  have H := RMem.start wS
  replace c1 := Kept.mk c1
  replace cN := Kept.mk cN
  replace cB := Kept.mk cB
  go_enter Tryz.func23, Tryz.ntmps23
  go_wp2_with (first
    | (refine u_alloc rfl rfl (by assumption) ?_; intro g w H; try simp only [Act.put, yI, yC, yZ])
    | (refine u_load rfl _ rfl _ _ _ _ _ rfl (by assumption) (by (repeat (first | exact .head _ | refine .tail _ ?_))) ?_; try simp only [Act.put, yI, yC, yZ])
    | (refine u_store0 rfl _ _ rfl _ _ _ _ _ _ _ _ _ rfl rfl _ (by assumption) ?_; intro w H; try simp only [Act.put, yI, yC, yZ])
    | (go_at_call 45; (with_reducible refine r_call (by assumption) (c1.out _) ?_); intro w H)
    | (go_at_call 46; (with_reducible refine r_call (by assumption) (cN.out _) ?_); intro w H)
    | (go_at_call 47; (with_reducible refine r_call (by assumption) (cB.out _) ?_); intro w H))
  go_ret2
  exact ⟨rfl, H.below⟩
set_option maxHeartbeats 4000000 in
theorem uneg_no (s : ByteArray) (x1 y1 z1 t1 : ByteArray) (c1 : ∀ w, Calls Tryz.prog 45 #[.string s] w (RetV (.tuple #[.agg (qC x1 y1 z1 t1).toArray, .bool false]) w)) (wS : World) : Calls Tryz.prog 23 #[.string s] wS (RetV (.tuple #[.string ⟨#[]⟩, .int .i64 60]) wS) := by
  have H := RMem.start wS
  replace c1 := Kept.mk c1
  go_enter Tryz.func23, Tryz.ntmps23
  go_wp2_with (first
    | (refine u_alloc rfl rfl (by assumption) ?_; intro g w H; try simp only [Act.put, yI, yC, yZ])
    | (refine u_store0 rfl _ _ rfl _ _ _ _ _ _ _ _ _ rfl rfl _ (by assumption) ?_; intro w H; try simp only [Act.put, yI, yC, yZ])
    | (go_at_call 45; (with_reducible refine r_call (by assumption) (c1.out _) ?_); intro w H))
  go_ret2
  exact ⟨rfl, H.below⟩
set_option maxHeartbeats 4000000 in
theorem umul_core (k s u : ByteArray) (x1 y1 z1 t1 : ByteArray) (hk : k.size = 32) (c1 : ∀ w, Calls Tryz.prog 45 #[.string s] w (RetV (.tuple #[.agg (qC x1 y1 z1 t1).toArray, .bool true]) w)) (cT : ∀ (g : Nat) (w : World), w.heap[g]? = some (.cells (mC k (.func (.func 50) #[.agg (qC x1 y1 z1 t1).toArray] #[])).toArray 65 (0, 0)) → Calls Tryz.prog 49 #[.slice (some ⟨g, 0, none⟩) 1 1] w (UPost u w)) (wS : World) : Calls Tryz.prog 30 #[.string k, .string s] wS (RetV (.tuple #[.string u, .int .i64 0]) wS) := by
  have H := RMem.start wS
  replace c1 := Kept.mk c1
  go_enter Tryz.func30, Tryz.ntmps30
  go_wp2_with (first
    | (refine u_alloc rfl rfl (by assumption) ?_; intro g w H; try simp only [Act.put, yI, yC, yZ])
    | (refine u_load rfl _ rfl _ _ _ _ _ rfl (by assumption) (by (repeat (first | exact .head _ | refine .tail _ ?_))) ?_; try simp only [Act.put, yI, yC, yZ])
    | (refine u_store0 rfl _ _ rfl _ _ _ _ _ _ _ _ _ rfl rfl _ (by assumption) ?_; intro w H; try simp only [Act.put, yI, yC, yZ])
    | (refine m_build rfl _ rfl _ _ _ _ _ (by rw [Array.toList_map]; rfl) ?_; try simp only [Act.put, yI, yC, yZ])
    | (refine m_slice1 rfl _ rfl _ _ _ _ _ (by rw [Array.toList_map]; rfl) (by assumption) ?_; intro g w H; try simp only [Act.put, yI, yC, yZ])
    | (go_at_call 45; (with_reducible refine r_call (by assumption) (c1.out _) ?_); intro w H)
    | (go_at_call 49; refine (cT _ _ (H.holds _ _ _ (.head _))).mono ?_; rintro _ w2 ⟨xt, yt, zt, tt, rfl, hb2, cB⟩; have H := H.grow hb2; replace cB := Kept.mk cB; clear hb2)
    | (go_at_call 47; (with_reducible refine r_call (by assumption) (cB.out _) ?_); intro w H))
  go_ret2
  exact ⟨rfl, H.below⟩
set_option maxHeartbeats 4000000 in
theorem umul_no1 (k s : ByteArray) (x1 y1 z1 t1 : ByteArray) (c1 : ∀ w, Calls Tryz.prog 45 #[.string s] w (RetV (.tuple #[.agg (qC x1 y1 z1 t1).toArray, .bool false]) w)) (wS : World) : Calls Tryz.prog 30 #[.string k, .string s] wS (RetV (.tuple #[.string ⟨#[]⟩, .int .i64 60]) wS) := by
  have H := RMem.start wS
  replace c1 := Kept.mk c1
  go_enter Tryz.func30, Tryz.ntmps30
  go_wp2_with (first
    | (refine u_alloc rfl rfl (by assumption) ?_; intro g w H; try simp only [Act.put, yI, yC, yZ])
    | (refine u_store0 rfl _ _ rfl _ _ _ _ _ _ _ _ _ rfl rfl _ (by assumption) ?_; intro w H; try simp only [Act.put, yI, yC, yZ])
    | (go_at_call 45; (with_reducible refine r_call (by assumption) (c1.out _) ?_); intro w H))
  go_ret2
  exact ⟨rfl, H.below⟩
set_option maxHeartbeats 4000000 in
theorem umul_no2 (k s : ByteArray) (x1 y1 z1 t1 : ByteArray) (hk : ((k.size : Int) != 32) = true) (c1 : ∀ w, Calls Tryz.prog 45 #[.string s] w (RetV (.tuple #[.agg (qC x1 y1 z1 t1).toArray, .bool true]) w)) (wS : World) : Calls Tryz.prog 30 #[.string k, .string s] wS (RetV (.tuple #[.string ⟨#[]⟩, .int .i64 60]) wS) := by
  have H := RMem.start wS
  replace c1 := Kept.mk c1
  go_enter Tryz.func30, Tryz.ntmps30
  go_wp2_with (first
    | (refine u_alloc rfl rfl (by assumption) ?_; intro g w H; try simp only [Act.put, yI, yC, yZ])
    | (refine u_store0 rfl _ _ rfl _ _ _ _ _ _ _ _ _ rfl rfl _ (by assumption) ?_; intro w H; try simp only [Act.put, yI, yC, yZ])
    | (go_at_call 45; (with_reducible refine r_call (by assumption) (c1.out _) ?_); intro w H))
  go_ret2
  exact ⟨rfl, H.below⟩
set_option maxHeartbeats 4000000 in
theorem uboth_core (a s b u : ByteArray) (x1 y1 z1 t1 x2 y2 z2 t2 : ByteArray) (ha : a.size = 32) (hb : b.size = 32) (c1 : ∀ w, Calls Tryz.prog 45 #[.string s] w (RetV (.tuple #[.agg (qC x1 y1 z1 t1).toArray, .bool true]) w)) (cA : ∀ w, Calls Tryz.prog 48 #[.string ⟨#[26, 213, 37, 143, 96, 45, 86, 201, 178, 167, 37, 149, 96, 199, 44, 105, 92, 220, 214, 253, 49, 226, 164, 192, 254, 83, 110, 205, 211, 54, 105, 33]⟩, .string ⟨#[88, 102, 102, 102, 102, 102, 102, 102, 102, 102, 102, 102, 102, 102, 102, 102, 102, 102, 102, 102, 102, 102, 102, 102, 102, 102, 102, 102, 102, 102, 102, 102]⟩] w (RetV (.agg (qC x2 y2 z2 t2).toArray) w)) (cT : ∀ (g : Nat) (w : World), w.heap[g]? = some (.cells (mC a (.func (.func 50) #[.agg (qC x1 y1 z1 t1).toArray] #[]) ++ mC b (.func (.func 50) #[.agg (qC x2 y2 z2 t2).toArray] #[])).toArray 65 (0, 0)) → Calls Tryz.prog 49 #[.slice (some ⟨g, 0, none⟩) 2 2] w (UPost u w)) (wS : World) : Calls Tryz.prog 25 #[.string a, .string s, .string b] wS (RetV (.tuple #[.string u, .int .i64 0]) wS) := by
  have H := RMem.start wS
  replace c1 := Kept.mk c1
  replace cA := Kept.mk cA
  go_enter Tryz.func25, Tryz.ntmps25
  go_wp2_with (first
    | (refine u_alloc rfl rfl (by assumption) ?_; intro g w H; try simp only [Act.put, yI, yC, yZ])
    | (refine u_load rfl _ rfl _ _ _ _ _ rfl (by assumption) (by (repeat (first | exact .head _ | refine .tail _ ?_))) ?_; try simp only [Act.put, yI, yC, yZ])
    | (refine u_store0 rfl _ _ rfl _ _ _ _ _ _ _ _ _ rfl rfl _ (by assumption) ?_; intro w H; try simp only [Act.put, yI, yC, yZ])
    | (refine m_build rfl _ rfl _ _ _ _ _ (by rw [Array.toList_map]; rfl) ?_; try simp only [Act.put, yI, yC, yZ])
    | (refine m_slice2 rfl _ rfl _ _ _ _ _ _ _ _ _ _ (by rw [Array.toList_map]; rfl) (by assumption) ?_; intro g w H; try simp only [Act.put, yI, yC, yZ])
    | (go_at_call 45; (with_reducible refine r_call (by assumption) (c1.out _) ?_); intro w H)
    | (go_at_call 48; (with_reducible refine r_call (by assumption) (cA.out _) ?_); intro w H)
    | (go_at_call 49; refine (cT _ _ (H.holds _ _ _ (.head _))).mono ?_; rintro _ w2 ⟨xt, yt, zt, tt, rfl, hb2, cB⟩; have H := H.grow hb2; replace cB := Kept.mk cB; clear hb2)
    | (go_at_call 47; (with_reducible refine r_call (by assumption) (cB.out _) ?_); intro w H))
  go_ret2
  exact ⟨rfl, H.below⟩
set_option maxHeartbeats 4000000 in
theorem uboth_no1 (a s b : ByteArray) (x1 y1 z1 t1 : ByteArray) (c1 : ∀ w, Calls Tryz.prog 45 #[.string s] w (RetV (.tuple #[.agg (qC x1 y1 z1 t1).toArray, .bool false]) w)) (wS : World) : Calls Tryz.prog 25 #[.string a, .string s, .string b] wS (RetV (.tuple #[.string ⟨#[]⟩, .int .i64 60]) wS) := by
  have H := RMem.start wS
  replace c1 := Kept.mk c1
  go_enter Tryz.func25, Tryz.ntmps25
  go_wp2_with (first
    | (refine u_alloc rfl rfl (by assumption) ?_; intro g w H; try simp only [Act.put, yI, yC, yZ])
    | (refine u_store0 rfl _ _ rfl _ _ _ _ _ _ _ _ _ rfl rfl _ (by assumption) ?_; intro w H; try simp only [Act.put, yI, yC, yZ])
    | (go_at_call 45; (with_reducible refine r_call (by assumption) (c1.out _) ?_); intro w H))
  go_ret2
  exact ⟨rfl, H.below⟩
set_option maxHeartbeats 4000000 in
theorem uboth_no2 (a s b : ByteArray) (x1 y1 z1 t1 : ByteArray) (ha : ((a.size : Int) != 32) = true) (c1 : ∀ w, Calls Tryz.prog 45 #[.string s] w (RetV (.tuple #[.agg (qC x1 y1 z1 t1).toArray, .bool true]) w)) (wS : World) : Calls Tryz.prog 25 #[.string a, .string s, .string b] wS (RetV (.tuple #[.string ⟨#[]⟩, .int .i64 60]) wS) := by
  have H := RMem.start wS
  replace c1 := Kept.mk c1
  go_enter Tryz.func25, Tryz.ntmps25
  go_wp2_with (first
    | (refine u_alloc rfl rfl (by assumption) ?_; intro g w H; try simp only [Act.put, yI, yC, yZ])
    | (refine u_store0 rfl _ _ rfl _ _ _ _ _ _ _ _ _ rfl rfl _ (by assumption) ?_; intro w H; try simp only [Act.put, yI, yC, yZ])
    | (go_at_call 45; (with_reducible refine r_call (by assumption) (c1.out _) ?_); intro w H))
  go_ret2
  exact ⟨rfl, H.below⟩
set_option maxHeartbeats 4000000 in
theorem uboth_no3 (a s b : ByteArray) (x1 y1 z1 t1 : ByteArray) (ha : a.size = 32) (hb : ((b.size : Int) != 32) = true) (c1 : ∀ w, Calls Tryz.prog 45 #[.string s] w (RetV (.tuple #[.agg (qC x1 y1 z1 t1).toArray, .bool true]) w)) (wS : World) : Calls Tryz.prog 25 #[.string a, .string s, .string b] wS (RetV (.tuple #[.string ⟨#[]⟩, .int .i64 60]) wS) := by
  have H := RMem.start wS
  replace c1 := Kept.mk c1
  go_enter Tryz.func25, Tryz.ntmps25
  go_wp2_with (first
    | (refine u_alloc rfl rfl (by assumption) ?_; intro g w H; try simp only [Act.put, yI, yC, yZ])
    | (refine u_store0 rfl _ _ rfl _ _ _ _ _ _ _ _ _ rfl rfl _ (by assumption) ?_; intro w H; try simp only [Act.put, yI, yC, yZ])
    | (go_at_call 45; (with_reducible refine r_call (by assumption) (c1.out _) ?_); intro w H))
  go_ret2
  exact ⟨rfl, H.below⟩
end Go.Proofs.YtgnblaaldpniiaaGreatDoor
end
section
set_option linter.unusedSimpArgs false
set_option linter.unusedVariables false
set_option maxRecDepth 100000
namespace Go.Proofs.YtgnblaaldpniiaaGreatDoor
open Go.RowKit
theorem up_some {l : List UInt8} {P : Pt} (h : dec l = some P) (w : World) : Calls Tryz.prog 45 #[.string (S l)] w (RetV (.tuple #[.agg (tC4 (tof P)).toArray, .bool true]) w) := by
  have h2 := uparse_any l w
  rw [upt_some' h] at h2
  exact h2
theorem up_none {l : List UInt8} (h : dec l = none) (w : World) : Calls Tryz.prog 45 #[.string (S l)] w (RetV (.tuple #[.agg (qC ⟨#[]⟩ ⟨#[]⟩ ⟨#[]⟩ ⟨#[]⟩).toArray, .bool false]) w) := by
  have h2 := uparse_any l w
  rw [upt_none h] at h2
  exact h2
theorem usize_ne {k : List UInt8} (h : k.length ≠ 32) : (((S k).size : Int) != 32) = true := by rw [S_size]; simp; omega
theorem usize_is {k : List UInt8} (h : k.length = 32) : (S k).size = 32 := by rw [S_size, h]
theorem curveOk : CurveOk where
  base w := by
    have h := uBase w
    rw [litY, ← enc_base] at h
    exact h
  neg := by
    intro s P hs w
    have hP := (dec_some hs).1
    exact uneg_core _ _ _ _ _ _ _ _ _ _ (up_some hs) (fun w => neg_T4 hP w) (fun w => bytes_T4 (tof_ok (pneg_on hP)) (pneg_on hP) (tof_rep _) w) w
  neg0 := by
    intro s hs w
    exact uneg_no _ _ _ _ _ (up_none hs) w
  mul := by
    intro k s P hk hs w
    have hP := (dec_some hs).1
    exact umul_core _ _ _ _ _ _ _ (usize_is hk) (up_some hs) (fun g w hg => upost_of (pmul_on hP _) (total1 k hk (tof P) P (tof_ok hP) hP (tof_rep P) g w hg)) w
  mul0 k s h w := by
    by_cases hs : dec s = none
    · exact umul_no1 _ _ _ _ _ _ (up_none hs) w
    · obtain ⟨P, hP⟩ := Option.ne_none_iff_exists'.1 hs
      exact umul_no2 _ _ _ _ _ _ (usize_ne (h.resolve_right hs)) (up_some hP) w
  both := by
    intro a s b P ha hs hb w
    have hP := (dec_some hs).1
    exact uboth_core _ _ _ _ _ _ _ _ _ _ _ _ (usize_is ha) (usize_is hb) (up_some hs) at_base (fun g w hg => upost_of (padd_on (pmul_on hP _) (pmul_on pbase_on _)) (total2 a ha (tof P) P (tof_ok hP) hP (tof_rep P) b hb (tof pbase) pbase (tof_ok pbase_on) pbase_on (tof_rep pbase) g w hg)) w
  both0 a s b h w := by
    by_cases hs : dec s = none
    · exact uboth_no1 _ _ _ _ _ _ _ (up_none hs) w
    · obtain ⟨P, hP⟩ := Option.ne_none_iff_exists'.1 hs
      by_cases ha : a.length = 32
      · have hb : b.length ≠ 32 := (h.resolve_left (fun h => h ha)).resolve_left hs
        exact uboth_no3 _ _ _ _ _ _ _ (usize_is ha) (usize_ne hb) (up_some hP) w
      · exact uboth_no2 _ _ _ _ _ _ _ (usize_ne ha) (up_some hP) w
end Go.Proofs.YtgnblaaldpniiaaGreatDoor
end
