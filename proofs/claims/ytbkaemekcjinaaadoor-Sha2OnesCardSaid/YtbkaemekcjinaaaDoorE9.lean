/- The constants: the first primes, their roots. No walk. -/
import Derived.Test.YtbkaemekcjinaaaDoorG4
import Derived.Test.YtbkaemekcjinaaaDoorS5
namespace Go.Proofs.YtbkaemekcjinaaaDoor
open Go.RowKit Go.Lib
theorem pl64 : (plN 312).length = 64 := by kernel_rfl
theorem pl80 : (plN 410).length = 80 := by kernel_rfl
theorem pl_pre : (plN 410).take 64 = plN 312 := by kernel_rfl
theorem cubes_all : ((plN 410).map fun p => ((rootN p 3 : Nat) : Int)) = cubesL := by kernel_rfl
theorem squares_all : (((plN 410).take 8).map fun p => ((rootN p 2 : Nat) : Int)) = squaresL := by kernel_rfl
end Go.Proofs.YtbkaemekcjinaaaDoor
