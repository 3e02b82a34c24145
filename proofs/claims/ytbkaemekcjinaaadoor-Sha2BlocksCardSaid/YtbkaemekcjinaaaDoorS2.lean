/- Walks of package sha2: a kind's rule, a hash's cells. -/
import Derived.Test.YtbkaemekcjinaaaDoorS1
import Derived.Deep.MidRow
import Derived.Deep.WholeRow
namespace Go.Proofs.YtbkaemekcjinaaaDoor
open Go.RowKit Go.Lib
/-- A kind: false is Sha256, true is Sha512. -/
def kd (o : Bool) : Int := if o = true then 1 else 0
def wdI (o : Bool) : Nat := if o = true then 64 else 32
def rnds (o : Bool) : Nat := if o = true then 80 else 64
def ruleC (o : Bool) : Array Value := if o = true then
  #[.int .i64 64, .int .i64 80, .int .u64 28, .int .u64 34, .int .u64 39, .int .u64 14, .int .u64 18, .int .u64 41, .int .u64 1, .int .u64 8, .int .u64 7, .int .u64 19, .int .u64 61, .int .u64 6]
  else #[.int .i64 32, .int .i64 64, .int .u64 2, .int .u64 13, .int .u64 22, .int .u64 6, .int .u64 11, .int .u64 25, .int .u64 7, .int .u64 18, .int .u64 3, .int .u64 17, .int .u64 19, .int .u64 10]
theorem ruleC0 : ruleC false = #[.int .i64 32, .int .i64 64, .int .u64 2, .int .u64 13, .int .u64 22, .int .u64 6, .int .u64 11, .int .u64 25, .int .u64 7, .int .u64 18, .int .u64 3, .int .u64 17, .int .u64 19, .int .u64 10] := rfl
theorem ruleC1 : ruleC true = #[.int .i64 64, .int .i64 80, .int .u64 28, .int .u64 34, .int .u64 39, .int .u64 14, .int .u64 18, .int .u64 41, .int .u64 1, .int .u64 8, .int .u64 7, .int .u64 19, .int .u64 61, .int .u64 6] := rfl
theorem ruleOf_any (o : Bool) (w : World) : Calls Tryd.prog 17 #[.int .i64 (kd o)] w fun e w' => e = .returned (.agg (ruleC o)) ∧ Below w.heap.size w w' := by
  cases o
  · show Calls Tryd.prog 17 #[.int .i64 0] w _
    rw [ruleC0]
    go_enter Tryd.func17, Tryd.ntmps17
    go_wp2
    refine bodyPost_ret (v := .agg (ruleC false)) (by rw [ruleC0]; simp [results, Tryd.results17, go_sem]) rfl ⟨rfl, (Below.refl _ _).alloc (Nat.le_refl _) _⟩
  · show Calls Tryd.prog 17 #[.int .i64 1] w _
    rw [ruleC1]
    go_enter Tryd.func17, Tryd.ntmps17
    go_wp2
    refine bodyPost_ret (v := .agg (ruleC true)) (by rw [ruleC1]; simp [results, Tryd.results17, go_sem]) rfl ⟨rfl, (Below.refl _ _).alloc (Nat.le_refl _) _⟩
theorem blockBytes_any (o : Bool) (w : World) : Calls Tryd.prog 18 #[.agg (ruleC o)] w fun e w' => e = .returned (.int .i64 (2 * wdI o : Nat)) ∧ Below w.heap.size w w' := by
  cases o
  · rw [ruleC0]
    go_enter Tryd.func18, Tryd.ntmps18
    go_wp2
    go_ret
    exact ⟨rfl, (Below.refl _ _).alloc (Nat.le_refl _) _⟩
  · rw [ruleC1]
    go_enter Tryd.func18, Tryd.ntmps18
    go_wp2
    go_ret
    exact ⟨rfl, (Below.refl _ _).alloc (Nat.le_refl _) _⟩
end Go.Proofs.YtbkaemekcjinaaaDoor
