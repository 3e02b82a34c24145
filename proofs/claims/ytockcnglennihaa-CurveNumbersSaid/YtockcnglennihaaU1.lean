/- Package curve: points of four strings in blocks; laws of the walk over them; its elements' methods. -/
import Derived.Test.YtockcnglennihaaZK
import Derived.Test.YtockcnglennihaaD17
set_option linter.unusedSimpArgs false
set_option linter.unusedVariables false
set_option maxRecDepth 100000
namespace Go.Proofs.Ytockcnglennihaa
open Go.RowKit
def qC (a b c d : ByteArray) : List Value := [.string a, .string b, .string c, .string d]
theorem infoQ : (Try.prog.info? 41).map (·.size) = some 4 := by kernel_rfl
theorem zero_qC : ∀ w, (zeroValue 41).run Try.prog w = .ok (.agg (qC ⟨#[]⟩ ⟨#[]⟩ ⟨#[]⟩ ⟨#[]⟩).toArray) w := (zero_of_info (n := 4) (by kernel_rfl)).1
theorem builtQ (a b c d : ByteArray) : Try.prog.built 41 [(0, .string a), (1, .string b), (2, .string c), (3, .string d)] = some (qC a b c d).toArray := by kernel_rfl
theorem builtQ0 : Try.prog.built 41 [] = some (qC ⟨#[]⟩ ⟨#[]⟩ ⟨#[]⟩ ⟨#[]⟩).toArray := by kernel_rfl
theorem qC_one (a b c d : ByteArray) : (qC a b c d).toArray.all (·.oneCell') = true := by simp [qC, Value.oneCell']
theorem not_row {d : TypeDesc} (h : d.isRow = false) : ∀ P T w, @Program.underlying P T = some d → (isAgg T).run P w = .ok false w := by
  intro P T w hu
  unfold isAgg
  rw [Sem.run_bind, run_underlying hu w]
  cases d <;> simp_all
theorem run_load_cell {P : Program} (w : World) (T : TypeId) (d : TypeDesc) (hu : P.underlying T = some d) (hd : d.isRow = false) (p : Addr) (v : Value) (hc : w.cell? p = some v) : (loadVar T p).run P w = .ok v w := by
  unfold loadVar
  rw [Sem.run_bind, not_row hd P T w hu]
  simp [hc]
section
variable {P : Program} {ops : Array Oper} {rest : List Oper} {o : Oper} {a : Act} {w0 w : World} {Q : Exit → Act → World → Prop} {L : List Cells}
theorem r_cell (hg : o.guard = none) (T : TypeId) (x : Operand) (ho : o.op = .load T x) (d : TypeDesc) (hu : P.underlying T = some d) (hd : d.isRow = false) (g i : Nat) (t : TypeId) (cs : List Value) (v : Value)
    (hx : a.eval x = .pointer (some ⟨g, i, none⟩)) (H : RMem w0 w L) (hm : (g, t, cs) ∈ L) (hi : cs[i]? = some v)
    (h : wpList P ops Q rest (a.put o.dst v) w) : wpList P ops Q (o :: rest) a w := by
  refine wpList_plain hg fun K hK => ?_
  unfold Oper.wp execOp
  simp only [ho, hx, Instr.loadAt, Instr.sureAddr, Sem.run_bind, Sem.run_pure, Result.andThen_ok, run_load_cell w T d hu hd _ v (H.cell hm i v hi)]
  exact hK _ _ h
theorem rq_cell {K : Act → Prop} (T : TypeId) (x : Operand) (ho : o.op = .load T x) (d : TypeDesc) (hu : P.underlying T = some d) (hd : d.isRow = false) (g i : Nat) (t : TypeId) (cs : List Value) (v : Value) (u : World) (hw : From w.drew u)
    (hx : a.eval x = .pointer (some ⟨g, i, none⟩)) (H : RMem w0 w L) (hm : (g, t, cs) ∈ L) (hi : cs[i]? = some v)
    (h : K (a.put o.dst v)) : o.quiet P a (fun w' => ∃ k : Held (From u), w' = k.w) K := by
  refine ⟨v, fun w' hw' => ?_, h⟩
  obtain ⟨k, rfl⟩ := hw'
  unfold Oper.quietAt execOp
  simp only [ho, hx, Instr.loadAt, Instr.sureAddr, Sem.run_bind, Sem.run_pure, Result.andThen_ok, run_load_cell k.w T d hu hd _ v ((H.from (hw.trans k.h)).cell hm i v hi)]
  exact ⟨rfl, rfl⟩
end
section
variable {ops : Array Oper} {rest : List Oper} {o : Oper} {a : Act} {w0 w : World} {Q : Exit → Act → World → Prop} {L : List Cells} {K : Act → Prop}
theorem u_box (hg : o.guard = none) (v : Operand) (ho : o.op = .box 41 v) (x y z t : ByteArray) (hv : a.eval v = .agg (qC x y z t).toArray) (H : RMem w0 w L)
    (h : ∀ g w', RMem w0 w' ((g, 41, qC x y z t) :: L) → wpList Try.prog ops Q rest (a.put o.dst (.pointer (some ⟨g, 0, none⟩))) w') : wpList Try.prog ops Q (o :: rest) a w := r_box hg _ v ho _ hv H h
theorem u_alloc (hg : o.guard = none) (ho : o.op = .alloc 41) (H : RMem w0 w L)
    (h : ∀ g w', RMem w0 w' ((g, 41, qC ⟨#[]⟩ ⟨#[]⟩ ⟨#[]⟩ ⟨#[]⟩) :: L) → wpList Try.prog ops Q rest (a.put o.dst (.pointer (some ⟨g, 0, none⟩))) w') : wpList Try.prog ops Q (o :: rest) a w := r_alloc hg _ ho _ zero_qC H h
theorem u_load (hg : o.guard = none) (v : Operand) (ho : o.op = .load 41 v) (g : Nat) (x y z t : ByteArray) (hv : a.eval v = .pointer (some ⟨g, 0, none⟩)) (H : RMem w0 w L) (hm : (g, 41, qC x y z t) ∈ L)
    (h : wpList Try.prog ops Q rest (a.put o.dst (.agg (qC x y z t).toArray)) w) : wpList Try.prog ops Q (o :: rest) a w := r_load hg _ v ho _ Try.underlying41 rfl g _ _ hv H hm infoQ h
theorem u_store0 (hg : o.guard = none) (v u : Operand) (ho : o.op = .store 41 v u) (g : Nat) (x' y' z' t' x y z t : ByteArray) (hv : a.eval v = .pointer (some ⟨g, 0, none⟩)) (hu : a.eval u = .agg (qC x y z t).toArray) (B : List Cells) (H : RMem w0 w ((g, 41, qC x' y' z' t') :: B))
    (h : ∀ w', RMem w0 w' ((g, 41, qC x y z t) :: B) → wpList Try.prog ops Q rest (a.put o.dst undef) w') : wpList Try.prog ops Q (o :: rest) a w := r_store hg _ v u ho g _ _ _ hv hu [] B H infoQ rfl (qC_one x y z t) h
theorem u_store1 (hg : o.guard = none) (v u : Operand) (ho : o.op = .store 41 v u) (g : Nat) (x' y' z' t' x y z t : ByteArray) (hv : a.eval v = .pointer (some ⟨g, 0, none⟩)) (hu : a.eval u = .agg (qC x y z t).toArray) (p : Cells) (B : List Cells) (H : RMem w0 w (p :: (g, 41, qC x' y' z' t') :: B))
    (h : ∀ w', RMem w0 w' (p :: (g, 41, qC x y z t) :: B) → wpList Try.prog ops Q rest (a.put o.dst undef) w') : wpList Try.prog ops Q (o :: rest) a w := r_store hg _ v u ho g _ _ _ hv hu [p] B H infoQ rfl (qC_one x y z t) h
theorem u_store_fin (hg : o.guard = none) (v u : Operand) (ho : o.op = .store 41 v u) (g : Nat) (x' y' z' t' x y z t : ByteArray) (hv : a.eval v = .pointer (some ⟨g, 0, none⟩)) (hu : a.eval u = .agg (qC x y z t).toArray) (H : RMem w0 w L) (hm : (g, 41, qC x' y' z' t') ∈ L)
    (h : ∀ w', RMem w0 w' [(g, 41, qC x y z t)] → wpList Try.prog ops Q rest (a.put o.dst undef) w') : wpList Try.prog ops Q (o :: rest) a w := r_store_fin hg _ v u ho g _ _ _ hv hu H hm infoQ rfl (qC_one x y z t) h
theorem u_build (hg : o.guard = none) (parts : Array (Nat × Operand)) (ho : o.op = .build 41 parts) (x y z t : ByteArray) (e : (parts.map fun (i, x) => (i, a.eval x)).toList = [(0, .string x), (1, .string y), (2, .string z), (3, .string t)])
    (h : wpList Try.prog ops Q rest (a.put o.dst (.agg (qC x y z t).toArray)) w) : wpList Try.prog ops Q (o :: rest) a w := r_build hg _ parts ho _ e _ (builtQ x y z t) h
theorem u_build0 (hg : o.guard = none) (parts : Array (Nat × Operand)) (ho : o.op = .build 41 parts) (e : (parts.map fun (i, x) => (i, a.eval x)).toList = [])
    (h : wpList Try.prog ops Q rest (a.put o.dst (.agg (qC ⟨#[]⟩ ⟨#[]⟩ ⟨#[]⟩ ⟨#[]⟩).toArray)) w) : wpList Try.prog ops Q (o :: rest) a w := r_build hg _ parts ho _ e _ builtQ0 h
theorem v_load (v : Operand) (ho : o.op = .load 41 v) (g : Nat) (x y z t : ByteArray) (u : World) (hw : From w.drew u) (hv : a.eval v = .pointer (some ⟨g, 0, none⟩)) (H : RMem w0 w L) (hm : (g, 41, qC x y z t) ∈ L)
    (h : K (a.put o.dst (.agg (qC x y z t).toArray))) : o.quiet Try.prog a (fun w' => ∃ k : Held (From u), w' = k.w) K := rq_load _ v ho _ Try.underlying41 rfl g _ _ u hw hv H hm infoQ h
theorem v_build (parts : Array (Nat × Operand)) (ho : o.op = .build 41 parts) (x y z t : ByteArray) (e : (parts.map fun (i, x) => (i, a.eval x)).toList = [(0, .string x), (1, .string y), (2, .string z), (3, .string t)]) {C : World → Prop}
    (h : K (a.put o.dst (.agg (qC x y z t).toArray))) : o.quiet Try.prog a C K := rq_build _ parts ho _ e _ (builtQ x y z t) h
theorem u_cell0 (hg : o.guard = none) (v : Operand) (ho : o.op = .load 39 v) (g : Nat) (x y z t : ByteArray) (hv : a.eval v = .pointer (some ⟨g, 0, none⟩)) (H : RMem w0 w L) (hm : (g, 41, qC x y z t) ∈ L)
    (h : wpList Try.prog ops Q rest (a.put o.dst (.string x)) w) : wpList Try.prog ops Q (o :: rest) a w := r_cell hg _ v ho _ Try.underlying39 rfl g 0 _ _ _ hv H hm rfl h
theorem v_cell0 (v : Operand) (ho : o.op = .load 39 v) (g : Nat) (x y z t : ByteArray) (u : World) (hw : From w.drew u) (hv : a.eval v = .pointer (some ⟨g, 0, none⟩)) (H : RMem w0 w L) (hm : (g, 41, qC x y z t) ∈ L)
    (h : K (a.put o.dst (.string x))) : o.quiet Try.prog a (fun w' => ∃ k : Held (From u), w' = k.w) K := rq_cell _ v ho _ Try.underlying39 rfl g 0 _ _ _ u hw hv H hm rfl h
theorem u_cell1 (hg : o.guard = none) (v : Operand) (ho : o.op = .load 39 v) (g : Nat) (x y z t : ByteArray) (hv : a.eval v = .pointer (some ⟨g, 1, none⟩)) (H : RMem w0 w L) (hm : (g, 41, qC x y z t) ∈ L)
    (h : wpList Try.prog ops Q rest (a.put o.dst (.string y)) w) : wpList Try.prog ops Q (o :: rest) a w := r_cell hg _ v ho _ Try.underlying39 rfl g 1 _ _ _ hv H hm rfl h
theorem v_cell1 (v : Operand) (ho : o.op = .load 39 v) (g : Nat) (x y z t : ByteArray) (u : World) (hw : From w.drew u) (hv : a.eval v = .pointer (some ⟨g, 1, none⟩)) (H : RMem w0 w L) (hm : (g, 41, qC x y z t) ∈ L)
    (h : K (a.put o.dst (.string y))) : o.quiet Try.prog a (fun w' => ∃ k : Held (From u), w' = k.w) K := rq_cell _ v ho _ Try.underlying39 rfl g 1 _ _ _ u hw hv H hm rfl h
theorem u_cell2 (hg : o.guard = none) (v : Operand) (ho : o.op = .load 39 v) (g : Nat) (x y z t : ByteArray) (hv : a.eval v = .pointer (some ⟨g, 2, none⟩)) (H : RMem w0 w L) (hm : (g, 41, qC x y z t) ∈ L)
    (h : wpList Try.prog ops Q rest (a.put o.dst (.string z)) w) : wpList Try.prog ops Q (o :: rest) a w := r_cell hg _ v ho _ Try.underlying39 rfl g 2 _ _ _ hv H hm rfl h
theorem v_cell2 (v : Operand) (ho : o.op = .load 39 v) (g : Nat) (x y z t : ByteArray) (u : World) (hw : From w.drew u) (hv : a.eval v = .pointer (some ⟨g, 2, none⟩)) (H : RMem w0 w L) (hm : (g, 41, qC x y z t) ∈ L)
    (h : K (a.put o.dst (.string z))) : o.quiet Try.prog a (fun w' => ∃ k : Held (From u), w' = k.w) K := rq_cell _ v ho _ Try.underlying39 rfl g 2 _ _ _ u hw hv H hm rfl h
theorem u_cell3 (hg : o.guard = none) (v : Operand) (ho : o.op = .load 39 v) (g : Nat) (x y z t : ByteArray) (hv : a.eval v = .pointer (some ⟨g, 3, none⟩)) (H : RMem w0 w L) (hm : (g, 41, qC x y z t) ∈ L)
    (h : wpList Try.prog ops Q rest (a.put o.dst (.string t)) w) : wpList Try.prog ops Q (o :: rest) a w := r_cell hg _ v ho _ Try.underlying39 rfl g 3 _ _ _ hv H hm rfl h
theorem v_cell3 (v : Operand) (ho : o.op = .load 39 v) (g : Nat) (x y z t : ByteArray) (u : World) (hw : From w.drew u) (hv : a.eval v = .pointer (some ⟨g, 3, none⟩)) (H : RMem w0 w L) (hm : (g, 41, qC x y z t) ∈ L)
    (h : K (a.put o.dst (.string t))) : o.quiet Try.prog a (fun w' => ∃ k : Held (From u), w' = k.w) K := rq_cell _ v ho _ Try.underlying39 rfl g 3 _ _ _ u hw hv H hm rfl h
end
theorem u_ret {fn : Func} {p : Tmp} {x y z t : ByteArray} {g : Nat} {w0 w : World} {L : List Cells} (hr : fn.results = #[.cell p 41]) (a : Act) (hp : a.tmps.getD p undef = .pointer (some ⟨g, 0, none⟩)) (hf : a.defers = []) (H : RMem w0 w L) (hm : (g, 41, qC x y z t) ∈ L) : bodyPost Try.prog fn (RetV (.agg (qC x y z t).toArray) w0) .ret a w :=
  r_ret hr Try.underlying41 rfl a hp hf H hm infoQ ⟨rfl, H.below⟩
theorem el_plus (s t u : ByteArray) (c : ∀ w, Calls Try.prog 66 #[.string s, .string t] w (RetV (.tuple #[.string u, .int .i64 0]) w)) (w : World) : Calls Try.prog 50 #[.string s, .string t] w (RetV (.string u) w) := by
  have H := RMem.start w
  replace c := Kept.mk c
  go_enter Try.func50, Try.ntmps50
  go_wp2_with ((go_at_call 66; (with_reducible refine r_call (by assumption) (c.out _) ?_); intro w H))
  go_ret
  exact ⟨rfl, H.below⟩
theorem el_minus (s t u : ByteArray) (c : ∀ w, Calls Try.prog 67 #[.string s, .string t] w (RetV (.tuple #[.string u, .int .i64 0]) w)) (w : World) : Calls Try.prog 51 #[.string s, .string t] w (RetV (.string u) w) := by
  have H := RMem.start w
  replace c := Kept.mk c
  go_enter Try.func51, Try.ntmps51
  go_wp2_with ((go_at_call 67; (with_reducible refine r_call (by assumption) (c.out _) ?_); intro w H))
  go_ret
  exact ⟨rfl, H.below⟩
theorem el_times (s t u : ByteArray) (c : ∀ w, Calls Try.prog 65 #[.string s, .string t] w (RetV (.tuple #[.string u, .int .i64 0]) w)) (w : World) : Calls Try.prog 49 #[.string s, .string t] w (RetV (.string u) w) := by
  have H := RMem.start w
  replace c := Kept.mk c
  go_enter Try.func49, Try.ntmps49
  go_wp2_with ((go_at_call 65; (with_reducible refine r_call (by assumption) (c.out _) ?_); intro w H))
  go_ret
  exact ⟨rfl, H.below⟩
theorem el_inv (s u : ByteArray) (c : ∀ w, Calls Try.prog 68 #[.string s] w (RetV (.tuple #[.string u, .int .i64 0]) w)) (w : World) : Calls Try.prog 52 #[.string s] w (RetV (.string u) w) := by
  have H := RMem.start w
  replace c := Kept.mk c
  go_enter Try.func52, Try.ntmps52
  go_wp2_with ((go_at_call 68; (with_reducible refine r_call (by assumption) (c.out _) ?_); intro w H))
  go_ret
  exact ⟨rfl, H.below⟩
theorem el_root (s u : ByteArray) (b : Bool) (c : ∀ w, Calls Try.prog 74 #[.string s] w (RetV (.tuple #[.string u, .bool b, .int .i64 0]) w)) (w : World) : Calls Try.prog 64 #[.string s] w (RetV (.tuple #[.string u, .bool b]) w) := by
  have H := RMem.start w
  replace c := Kept.mk c
  go_enter Try.func64, Try.ntmps64
  go_wp2_with ((go_at_call 74; (with_reducible refine r_call (by assumption) (c.out _) ?_); intro w H))
  go_ret2
  exact ⟨rfl, H.below⟩
theorem ePlus (x y : Nat) (hx : x < pF) (hy : y < pF) (w : World) : Calls Try.prog 50 #[.string (S (leB x)), .string (S (leB y))] w (RetV (.string (S (leB (ad x y)))) w) := el_plus _ _ _ (fAdd x y hx hy) w
theorem eMinus (x y : Nat) (hx : x < pF) (hy : y < pF) (w : World) : Calls Try.prog 51 #[.string (S (leB x)), .string (S (leB y))] w (RetV (.string (S (leB (sb x y)))) w) := el_minus _ _ _ (fSub x y hx hy) w
theorem eTimes (x y : Nat) (hx : x < pF) (hy : y < pF) (w : World) : Calls Try.prog 49 #[.string (S (leB x)), .string (S (leB y))] w (RetV (.string (S (leB (ml x y)))) w) := el_times _ _ _ (fMul x y hx hy) w
theorem eInv (x : Nat) (hx : x < pF) (w : World) : Calls Try.prog 52 #[.string (S (leB x))] w (RetV (.string (S (leB (fi x)))) w) := el_inv _ _ (fInv x hx) w
theorem eRoot (q : Nat) (hq : q < pF) (hs : cand q * cand q % pF = q) (w : World) : Calls Try.prog 64 #[.string (S (leB q))] w (RetV (.tuple #[.string (S (leB (evenN (cand q)))), .bool true]) w) := el_root _ _ _ (fRoot q hq hs) w
theorem eRoot_no (q : Nat) (hq : q < pF) (hs : ¬ cand q * cand q % pF = q) (w : World) : Calls Try.prog 64 #[.string (S (leB q))] w (RetV (.tuple #[.string ⟨#[]⟩, .bool false]) w) := el_root _ _ _ (fRoot_no q hq hs) w
end Go.Proofs.Ytockcnglennihaa
