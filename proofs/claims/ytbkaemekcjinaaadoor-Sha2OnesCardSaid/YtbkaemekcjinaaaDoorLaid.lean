/- Package sha2's tables, as the rows list them: what a walk reads; a world that holds them. -/
import Derived.Test.YtbkaemekcjinaaaDoorRows
import Derived.Test.YtbkaemekcjinaaaDoorS6
import Derived.ProofKit
import Derived.OpenShut
import Derived.Deep.DeepHandedRow
import Derived.Lib.LaidTab
import Derived.LaidSub
namespace Go.Proofs.YtbkaemekcjinaaaDoor
open Go.ChangeShapes Go.WideShapes Go.ChangeAt Go.RowKit
abbrev theLaid : List (String × DataW Unit) := [("farrier/sha2.cubes", Rows.laid_farrier_sha2_cubes), ("farrier/sha2.squares", Rows.laid_farrier_sha2_squares)]
theorem gCubes : Tryd.prog.globalNamed "farrier/sha2.cubes" = some 1 := by kernel_rfl
theorem gSquares : Tryd.prog.globalNamed "farrier/sha2.squares" = some 0 := by kernel_rfl
theorem gCubesT : (Tryd.prog.globals[1]?).map (·.type) = some 74 := by kernel_rfl
theorem gSquaresT : (Tryd.prog.globals[0]?).map (·.type) = some 47 := by kernel_rfl
theorem cells80 : Tryd.prog.cellsOf 74 = 80 := by kernel_rfl
theorem cells8 : Tryd.prog.cellsOf 47 = 8 := by kernel_rfl
theorem cells1 : Tryd.prog.cellsOf 44 = 1 := by kernel_rfl
theorem vars_of_laid {W : World} (h : laidMetH Tryd.prog theLaid W) : Vars W := by
  have h1 : laidMet Tryd.prog (("farrier/sha2.cubes", Lib.tabData .u64 cubesL) :: [("farrier/sha2.squares", Rows.laid_farrier_sha2_squares)]) W := h
  have h2 : laidMet Tryd.prog (("farrier/sha2.squares", Lib.tabData .u64 squaresL) :: []) W := laidMetH.filter (fun x => x.1 == "farrier/sha2.squares") h
  have t1 := Lib.tabIs_of_head gCubes gCubesT Tryd.underlying74 Tryd.underlying44 cells1 cells80 h1
  have t2 := Lib.tabIs_of_head gSquares gSquaresT Tryd.underlying47 Tryd.underlying44 cells1 cells8 h2
  have c1 : ∀ j, j < 80 → W.cell? ⟨1, j, none⟩ = some (.int .u64 (cubesL.getD j 0)) := fun j hj => t1.cell gCubes j hj
  have c2 : ∀ j, j < 8 → W.cell? ⟨0, j, none⟩ = some (.int .u64 (squaresL.getD j 0)) := fun j hj => t2.cell gSquares j hj
  exact ⟨block_lt_of_cell (c1 0 (by omega)), c1, c2⟩
def layCells (cs : Array Value) : Obj → Obj
  | .cells _ t frozen => .cells cs t frozen
  | o => o
noncomputable def laidHeap (h : Array Obj) : Array Obj := (h.modify 0 (layCells #[.int .u64 7640891576956012808, .int .u64 13503953896175478587, .int .u64 4354685564936845355, .int .u64 11912009170470909681, .int .u64 5840696475078001361, .int .u64 11170449401992604703, .int .u64 2270897969802886507, .int .u64 6620516959819538809])).modify 1 (layCells #[.int .u64 4794697086780616226, .int .u64 8158064640168781261, .int .u64 13096744586834688815, .int .u64 16840607885511220156, .int .u64 4131703408338449720, .int .u64 6480981068601479193, .int .u64 10538285296894168987, .int .u64 12329834152419229976, .int .u64 15566598209576043074, .int .u64 1334009975649890238, .int .u64 2608012711638119052, .int .u64 6128411473006802146, .int .u64 8268148722764581231, .int .u64 9286055187155687089, .int .u64 11230858885718282805, .int .u64 13951009754708518548, .int .u64 16472876342353939154, .int .u64 17275323862435702243, .int .u64 1135362057144423861, .int .u64 2597628984639134821, .int .u64 3308224258029322869, .int .u64 5365058923640841347, .int .u64 6679025012923562964, .int .u64 8573033837759648693, .int .u64 10970295158949994411, .int .u64 12119686244451234320, .int .u64 12683024718118986047, .int .u64 13788192230050041572, .int .u64 14330467153632333762, .int .u64 15395433587784984357, .int .u64 489312712824947311, .int .u64 1452737877330783856, .int .u64 2861767655752347644, .int .u64 3322285676063803686, .int .u64 5560940570517711597, .int .u64 5996557281743188959, .int .u64 7280758554555802590, .int .u64 8532644243296465576, .int .u64 9350256976987008742, .int .u64 10552545826968843579, .int .u64 11727347734174303076, .int .u64 12113106623233404929, .int .u64 14000437183269869457, .int .u64 14369950271660146224, .int .u64 15101387698204529176, .int .u64 15463397548674623760, .int .u64 17586052441742319658, .int .u64 1182934255886127544, .int .u64 1847814050463011016, .int .u64 2177327727835720531, .int .u64 2830643537854262169, .int .u64 3796741975233480872, .int .u64 4115178125766777443, .int .u64 5681478168544905931, .int .u64 6601373596472566643, .int .u64 7507060721942968483, .int .u64 8399075790359081724, .int .u64 8693463985226723168, .int .u64 9568029438360202098, .int .u64 10144078919501101548, .int .u64 10430055236837252648, .int .u64 11840083180663258601, .int .u64 13761210420658862357, .int .u64 14299343276471374635, .int .u64 14566680578165727644, .int .u64 15097957966210449927, .int .u64 16922976911328602910, .int .u64 17689382322260857208, .int .u64 500013540394364858, .int .u64 748580250866718886, .int .u64 1242879168328830382, .int .u64 1977374033974150939, .int .u64 2944078676154940804, .int .u64 3659926193048069267, .int .u64 4368137639120453308, .int .u64 4836135668995329356, .int .u64 5532061633213252278, .int .u64 6448918945643986474, .int .u64 6902733635092675308, .int .u64 7801388544844847127])
noncomputable def laidWorld (os : Os) : World := { World.holding Tryd.prog os ⟨#[], #[], []⟩ with heap := laidHeap (World.holding Tryd.prog os ⟨#[], #[], []⟩).heap }
theorem laid_met (os : Os) (args : Array Value) : laidMet Tryd.prog theLaid ((laidWorld os).forCall (fun _ _ => 0) ⟨#[], args, []⟩).memory :=
  laidMet_of_run' 90 (by kernel_rfl) (by kernel_rfl)
theorem own : ownKnob Tryd.prog.godebug = none := by kernel_rfl
end Go.Proofs.YtbkaemekcjinaaaDoor
