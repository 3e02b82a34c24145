/- Package field: whether two numbers are the same. -/
import Derived.Test.YtbkaemekcjinaaaF7
import Derived.ChangeKeysEq
import Derived.Laws.StructEq
set_option linter.unusedVariables false
namespace Go.Proofs.Ytbkaemekcjinaaa
open Go.RowKit
theorem cells33 : Try.prog.cellsOf 33 = 1 := by kernel_rfl
theorem plain33 : Try.prog.plainKey 33 = true := by kernel_rfl
theorem eq_u32 (d : Nat) (x y : Int) (w : World) : (Op.equalIn (d + 1) 33 (.int .u32 x) (.int .u32 y)).run Try.prog w = .ok (x == y) w := by
  simp only [Op.equalIn, Sem.run_bind, run_underlying Try.underlying33, Result.andThen_ok, if_true, Sem.run_pure]
theorem eqItems_num (d : Nat) (a b : List Nat) (hl : a.length = b.length) (w : World) : ∀ (m k : Nat), k + m = a.length →
    (Op.eqItems (d + 1) 33 (Try.prog.cellsOf 33) (numC .u32 a).toArray (numC .u32 b).toArray (List.range' k m)).run Try.prog w = .ok (decide (a.drop k = b.drop k)) w
  | 0, k, h => by
    rw [List.range'_zero, Op.eqItems, List.drop_eq_nil_of_le (by omega), List.drop_eq_nil_of_le (by omega)]
    rfl
  | m + 1, k, h => by
    have hka : (numC .u32 a).toArray[k * 1]? = some (.int .u32 (a.getD k 0 : Nat)) := by
      rw [Nat.mul_one]; simp [numC, show k < a.length by omega]
    have hkb : (numC .u32 b).toArray[k * 1]? = some (.int .u32 (b.getD k 0 : Nat)) := by
      rw [Nat.mul_one]; simp [numC, show k < b.length by omega]
    have ih := eqItems_num d a b hl w m (k + 1) (by omega)
    rw [cells33] at ih ⊢
    rw [List.range'_succ]
    simp only [Op.eqItems, Sem.run_bind, run_part_plain w plain33 hka, run_part_plain w plain33 hkb, eq_u32, Result.andThen_ok]
    rw [drop_getD a k (by omega), drop_getD b k (by omega)]
    generalize a.getD k 0 = p
    generalize b.getD k 0 = q
    by_cases he : p = q
    · rw [show ((p : Int) == (q : Int)) = true by rw [he]; simp]
      simp only [Bool.not_true, Bool.false_eq_true, if_false]
      rw [ih]
      congr 1
      simp [he]
    · rw [show ((p : Int) == (q : Int)) = false by simp; omega]
      simp only [Bool.not_false, if_true, Sem.run_pure]
      congr 1
      simp only [List.cons.injEq, he, false_and, decide_false]
theorem equal_num (x y : Nat) (hx : x < big) (hy : y < big) (w : World) : (Op.equal 35 (.agg (numA x)) (.agg (numA y))).run Try.prog w = .ok (decide (x = y)) w := by
  obtain ⟨i, hi⟩ : ∃ i, Try.prog.info? 33 = some i := by
    have h : (Try.prog.info? 33).isSome = true := by kernel_rfl
    exact Option.isSome_iff_exists.1 h
  unfold Op.equal
  rw [show Op.maxDepth = 9998 + 1 + 1 from rfl, run_equalIn_array w (9998 + 1) (n := 8) (e := 33) (numA x) (numA y) Try.underlying35 hi]
  have h := eqItems_num 9998 (nL x) (nL y) (by rw [nL_len, nL_len]) w 8 0 (by rw [nL_len])
  rw [List.range_eq_range']
  unfold numA
  rw [h]
  congr 1
  rw [List.drop_zero, List.drop_zero, decide_eq_decide]
  constructor
  · intro h
    rw [← nL_val x hx, ← nL_val y hy, h]
  · intro h; rw [h]
theorem run_neq_num (x y : Nat) (hx : x < big) (hy : y < big) (w : World) : (binOp .neq 35 (.agg (numA x)) (.agg (numA y))).run Try.prog w = .ok (.bool (!decide (x = y))) w := by
  unfold binOp
  simp only [Sem.run_bind, equal_num x y hx hy, Result.andThen_ok, Sem.run_pure]
theorem quiet_neq_num {o : Oper} {a : Act} {C : World → Prop} {K : Act → Prop} (x y : Operand) (rt : TypeId) (ho : o.op = .binOp .neq 35 x y rt) (m n : Nat) (hx : a.eval x = .agg (numA m)) (hy : a.eval y = .agg (numA n)) (hm : m < big) (hn : n < big)
    (h : K (a.put o.dst (.bool (!decide (m = n))))) : o.quiet Try.prog a C K := by
  refine ⟨.bool (!decide (m = n)), fun w _ => ?_, h⟩
  unfold Oper.quietAt execOp
  simp only [ho, hx, hy]
  have hg := fun x y => run_eqGuard_agg (P := Try.prog) w .neq 35 x y (numA m) (numA n) (by kernel_rfl)
  simp only [Sem.run_bind, hg, Result.andThen_ok, run_neq_num m n hm hn, Sem.run_pure]
  exact ⟨rfl, rfl⟩
section
variable {ops : Array Oper} {rest : List Oper} {o : Oper} {a : Act} {w0 w : World} {Q : Exit → Act → World → Prop} {L : List (Nat × Nat)}
theorem built_num : Try.prog.built 35 [] = some (numA 0) := by kernel_rfl
theorem mem_build (hg : o.guard = none) (ho : o.op = .build 35 #[]) (h : wpList Try.prog ops Q rest (a.put o.dst (.agg (numA 0))) w) : wpList Try.prog ops Q (o :: rest) a w :=
  wpList_build hg 35 #[] ho (by rw [Array.map_empty, built_num]; rfl) (by rw [Array.map_empty, built_num]; exact h)
/-- The end: a number in a block, and what stands in a slot. -/
theorem mem_ret2 {R : Ending → World → Prop} {fn : Func} {p q : Tmp} {x : Nat} {v : Value} {g : Nat} (hr : fn.results = #[.cell p 35, .tmp q]) (a : Act) (hp : a.tmps.getD p undef = .pointer (some ⟨g, 0, none⟩)) (hq : a.tmps.getD q undef = v) (hd : a.defers = []) (H : Mem w0 w L) (hm : (g, x) ∈ L)
    (h : R (.returned (.tuple #[.agg (numA x), v])) w) : bodyPost Try.prog fn R .ret a w := by
  have hp' : a.tmps[p]?.getD undef = .pointer (some ⟨g, 0, none⟩) := by simpa using hp
  have hq' : a.tmps[q]?.getD undef = v := by simpa using hq
  have hl := run_loadVar_row (P := Try.prog) w g 35 35 (numA x) (0, 0) _ (H.holds g x hm) Try.underlying35 rfl (numA_info x)
  refine bodyPost_ret (v := .tuple #[.agg (numA x), v]) ?_ hd h
  simp [results, hr, hp', hq', asAddr, hl]
theorem mem_ret3 {R : Ending → World → Prop} {fn : Func} {p r q : Tmp} {x y : Nat} {v : Value} {g g' : Nat} (hr : fn.results = #[.cell p 35, .cell r 35, .tmp q]) (a : Act) (hp : a.tmps.getD p undef = .pointer (some ⟨g, 0, none⟩)) (hp2 : a.tmps.getD r undef = .pointer (some ⟨g', 0, none⟩)) (hq : a.tmps.getD q undef = v) (hd : a.defers = []) (H : Mem w0 w L) (hm : (g, x) ∈ L) (hm2 : (g', y) ∈ L)
    (h : R (.returned (.tuple #[.agg (numA x), .agg (numA y), v])) w) : bodyPost Try.prog fn R .ret a w := by
  have hp' : a.tmps[p]?.getD undef = .pointer (some ⟨g, 0, none⟩) := by simpa using hp
  have hp2' : a.tmps[r]?.getD undef = .pointer (some ⟨g', 0, none⟩) := by simpa using hp2
  have hq' : a.tmps[q]?.getD undef = v := by simpa using hq
  have hl := run_loadVar_row (P := Try.prog) w g 35 35 (numA x) (0, 0) _ (H.holds g x hm) Try.underlying35 rfl (numA_info x)
  have hl2 := run_loadVar_row (P := Try.prog) w g' 35 35 (numA y) (0, 0) _ (H.holds g' y hm2) Try.underlying35 rfl (numA_info y)
  refine bodyPost_ret (v := .tuple #[.agg (numA x), .agg (numA y), v]) ?_ hd h
  simp [results, hr, hp', hp2', hq', asAddr, hl, hl2]
end
end Go.Proofs.Ytbkaemekcjinaaa
