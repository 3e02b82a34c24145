/- The document's sum and the program's: the padding is the same. No walk.
The constants: the first primes, their roots. No walk.
The document's sum and the program's: the constants; both sums are the same. No walk.
Arrays of numbers in a block: rows that are read and written place by place.
Package sha2's tables, as the rows list them: what a walk reads; a world that holds them. -/
import Derived.Test.YtgnblaaldpniiaaDoorZS4
import Derived.Test.YtgnblaaldpniiaaDoorZS2
import Derived.Test.YtgnblaaldpniiaaDoorZK1
import Derived.Deep.WholeRow
import Derived.Laws.CopyOwn
import Derived.Laws.Tables
import Derived.Test.YtgnblaaldpniiaaDoorRows
import Derived.ProofKit
import Derived.OpenShut
import Derived.Deep.DeepHandedRow
import Derived.Lib.LaidTab
import Derived.LaidSub
section
set_option maxRecDepth 100000
set_option linter.unusedVariables false
set_option linter.unusedSimpArgs false
namespace Go.Proofs.YtgnblaaldpniiaaDoor.Sh
open Go.RowKit Go.Lib
def revB (bits : Nat) : Nat → Nat → List UInt8
  | 0, _ => []
  | k + 1, i => revB bits k (i + 1) ++ [UInt8.ofNat (bits / 2 ^ (8 * i))]
theorem padRK (bits m : Nat) : ∀ (k i : Nat) (pre suf : List UInt8), pre.length + k + i = m → padR bits m k i (pre ++ List.replicate k 0 ++ suf) = pre ++ revB bits k i ++ suf
  | 0, i, pre, suf, _ => by rw [padR, revB, List.replicate_zero]
  | k + 1, i, pre, suf, h => by
    have e : (pre ++ List.replicate (k + 1) 0 ++ suf).set (m - 1 - i) (UInt8.ofNat (bits / 2 ^ (8 * i))) = pre ++ List.replicate k 0 ++ (UInt8.ofNat (bits / 2 ^ (8 * i)) :: suf) := by
      rw [List.replicate_succ', ← List.append_assoc, List.append_assoc (pre ++ List.replicate k 0), List.set_append_right _ _ (by simp; omega)]
      rw [show m - 1 - i - (pre ++ List.replicate k (0 : UInt8)).length = 0 by (simp; omega)]
      rfl
    rw [padR, e, padRK bits m k (i + 1) pre _ (by omega), revB]
    simp
theorem pad_same (o : Bool) (s : List UInt8) (hs : s.length ≤ 2000) : s ++ padL o s.length = dPadL o s := by
  unfold dPadL padL
  rw [Nat.mod_eq_of_lt (a := s.length * 8) (by omega), List.append_assoc, List.append_assoc]
  congr 1
  have hz : (room o - (s.length + 1 + wdI o / 4) % room o) % room o = dPadZ o s.length := by unfold dPadZ; cases o <;> rfl
  rw [hz]
  generalize s.length * 8 = bits
  generalize dPadZ o s.length = Z
  cases o
  · show padR bits (1 + Z + 8) 8 0 ((List.replicate (1 + Z + 8) 0).set 0 128) = [128] ++ (List.replicate Z 0 ++ lenR bits 8)
    have e : (List.replicate (1 + Z + 8) (0 : UInt8)).set 0 128 = ([128] ++ List.replicate Z 0) ++ List.replicate 8 0 ++ [] := by
      rw [show 1 + Z + 8 = (Z + 8) + 1 by omega, List.replicate_succ, List.set_cons_zero, ← List.replicate_append_replicate]
      simp
    rw [e, padRK bits _ 8 0 _ _ (by simp; omega)]
    simp [revB, lenR]
  · show padR bits (1 + Z + 16) 8 0 ((List.replicate (1 + Z + 16) 0).set 0 128) = [128] ++ (List.replicate Z 0 ++ lenR bits 16)
    have e : (List.replicate (1 + Z + 16) (0 : UInt8)).set 0 128 = ([128] ++ List.replicate Z 0 ++ List.replicate 8 0) ++ List.replicate 8 0 ++ [] := by
      rw [show 1 + Z + 16 = (Z + 16) + 1 by omega, List.replicate_succ, List.set_cons_zero, ← List.replicate_append_replicate, show List.replicate 16 (0 : UInt8) = List.replicate 8 0 ++ List.replicate 8 0 from rfl]
      simp only [List.append_nil, List.cons_append, List.append_assoc, List.nil_append]
    rw [e, padRK bits _ 8 0 _ _ (by simp; omega)]
    simp [revB, lenR]
end Go.Proofs.YtgnblaaldpniiaaDoor.Sh
end
section
set_option maxRecDepth 100000
set_option linter.unusedVariables false
set_option linter.unusedSimpArgs false
namespace Go.Proofs.YtgnblaaldpniiaaDoor.Sh
open Go.RowKit Go.Lib
theorem pl64 : (plN 312).length = 64 := by kernel_rfl
theorem pl80 : (plN 410).length = 80 := by kernel_rfl
theorem pl_pre : (plN 410).take 64 = plN 312 := by kernel_rfl
theorem cubes_all : ((plN 410).map fun p => ((rootN p 3 : Nat) : Int)) = cubesL := by kernel_rfl
theorem squares_all : (((plN 410).take 8).map fun p => ((rootN p 2 : Nat) : Int)) = squaresL := by kernel_rfl
end Go.Proofs.YtgnblaaldpniiaaDoor.Sh
end
section
set_option linter.unusedVariables false
set_option maxRecDepth 100000
set_option linter.unusedSimpArgs false
namespace Go.Proofs.YtgnblaaldpniiaaDoor.Sh
open Go.RowKit Go.Lib
def prO (o : Bool) : List Nat := if o = true then plN 410 else plN 312
theorem prO_t : prO true = plN 410 := by unfold prO; rw [if_pos rfl]
theorem prO_f : prO false = plN 312 := by unfold prO; rw [if_neg (by decide)]
theorem prO_len (o : Bool) : (prO o).length = rnds o := by
  cases o
  · rw [prO_f, pl64]; rfl
  · rw [prO_t, pl80]; rfl
theorem take_getD (l : List Nat) (n t : Nat) (h : t < n) : (l.take n).getD t 0 = l.getD t 0 := by
  simp [List.getD, h]
theorem map_getD (f : Nat → Nat) (l : List Nat) (t : Nat) (h : t < l.length) : (l.map f).getD t 0 = f (l.getD t 0) := by
  simp [List.getD, h]
theorem map_getDI (f : Nat → Int) (l : List Nat) (t : Nat) (h : t < l.length) : (l.map f).getD t 0 = f (l.getD t 0) := by
  simp [List.getD, h]
theorem prO_get (o : Bool) (t : Nat) (h : t < rnds o) : (prO o).getD t 0 = (plN 410).getD t 0 := by
  cases o
  · rw [prO_f, ← pl_pre]
    exact take_getD _ 64 t h
  · rw [prO_t]
theorem rootN_lt (n p : Nat) : rootN n p < 18446744073709551616 := Nat.mod_lt _ (by decide)
theorem cubes_get (t : Nat) (h : t < 80) : cubesL.getD t 0 = ((rootN ((plN 410).getD t 0) 3 : Nat) : Int) := by
  rw [← cubes_all]
  exact map_getDI _ _ t (by rw [pl80]; exact h)
theorem constK_get (o : Bool) (t : Nat) (h : t < rnds o) : (constK o (prO o)).getD t 0 = rootN ((plN 410).getD t 0) 3 / 2 ^ (64 - wd o) := by
  rw [← prO_get o t h]
  exact map_getD _ _ t (by rw [prO_len]; exact h)
theorem kc_same (o : Bool) (t : Nat) (h : t < rnds o) : kcI o t = (((constK o (prO o)).getD t 0 : Nat) : Int) := by
  rw [constK_get o t h]
  unfold kcI
  cases o
  · have h2 : t < 64 := h
    rw [if_neg (by decide), cubes_get t (by omega)]
    have hr := rootN_lt ((plN 410).getD t 0) 3
    generalize rootN ((plN 410).getD t 0) 3 = r at hr ⊢
    show IntKind.u32.wrap ((r : Int) / 4294967296) = ((r / 4294967296 : Nat) : Int)
    simp [IntKind.wrap, IntKind.signed, IntKind.bits]
    omega
  · have h2 : t < 80 := h
    rw [if_pos rfl, cubes_get t h2]
    show _ = ((rootN ((plN 410).getD t 0) 3 / 1 : Nat) : Int)
    rw [Nat.div_one]
theorem take8 (o : Bool) : (prO o).take 8 = (plN 410).take 8 := by
  cases o
  · rw [prO_f, ← pl_pre, List.take_take]
    rfl
  · rw [prO_t]
theorem initI_eq (o : Bool) : initI o = squaresL.map fun x => if o = true then x else x / 4294967296 := by cases o <;> kernel_rfl
theorem init_same (o : Bool) : initI o = (constH o (prO o)).map (fun x : Nat => (x : Int)) := by
  rw [initI_eq, ← squares_all]
  unfold constH
  rw [take8, List.map_map, List.map_map]
  refine List.map_congr_left fun p _ => ?_
  simp only [Function.comp]
  unfold constR
  cases o
  · rw [if_neg (by decide)]
    show ((rootN p 2 : Nat) : Int) / 4294967296 = ((rootN p 2 / 4294967296 : Nat) : Int)
    omega
  · rw [if_pos rfl]
    show _ = ((rootN p 2 / 1 : Nat) : Int)
    rw [Nat.div_one]
theorem constK_len (o : Bool) : (constK o (prO o)).length = rnds o := by unfold constK; rw [List.length_map, prO_len]
theorem constH_len (o : Bool) : (constH o (prO o)).length = 8 := by
  unfold constH
  rw [List.length_map, List.length_take, prO_len]
  cases o <;> rfl
theorem constR_lt (o : Bool) (p n : Nat) : constR o p n < 2 ^ wd o := by
  have h := rootN_lt n p
  unfold constR
  cases o
  · show rootN n p / 4294967296 < 4294967296
    omega
  · show rootN n p / 1 < 18446744073709551616
    rw [Nat.div_one]; exact h
theorem doc_same (o : Bool) (s : List UInt8) (hs : s.length ≤ 2000) : shaL o s = docSum o (constK o (prO o)) (constH o (prO o)) s :=
  sums_same o _ _ s (constK_len o) (fun t ht => kc_same o t ht) (init_same o) (constH_len o) (fun x hx => by obtain ⟨n, _, rfl⟩ := List.mem_map.1 hx; exact constR_lt o 2 n) (pad_same o s hs)
end Go.Proofs.YtgnblaaldpniiaaDoor.Sh
end
section
set_option maxRecDepth 100000
set_option linter.unusedVariables false
set_option linter.unusedSimpArgs false
namespace Go.Proofs.YtgnblaaldpniiaaDoor.Sh
open Go.RowKit Go.Lib
def numC (k : IntKind) (l : List Nat) : List Value := l.map fun (x : Nat) => .int k (x : Int)
theorem numC_length (k : IntKind) (l : List Nat) : (numC k l).length = l.length := by simp [numC]
theorem numC_one (k : IntKind) (l : List Nat) : (numC k l).toArray.all (·.oneCell') = true := by simp [numC, Value.oneCell']
def aggN (k : IntKind) (l : List Nat) : Value := .agg (numC k l).toArray
structure Arr (w : World) (g : Nat) (t : TypeId) (k : IntKind) (l : List Nat) : Prop where
  blk : w.heap[g]? = some (.cells (numC k l).toArray t (0, 0))
section
variable {w w' : World} {g : Nat} {t : TypeId} {k : IntKind} {l : List Nat}
theorem Arr.lt (h : Arr w g t k l) : g < w.heap.size := (Array.getElem?_eq_some_iff.1 h.blk).1
theorem Arr.cell (h : Arr w g t k l) (i : Nat) (hi : i < l.length) : w.cell? ⟨g, i, none⟩ = some (.int k (l.getD i 0 : Nat)) := by
  rw [cell_of_row w g _ _ _ _ h.blk, List.getElem?_toArray]
  simp [numC, hi]
theorem Arr.frozen (h : Arr w g t k l) (i : Nat) : w.frozen? ⟨g, i, none⟩ = false := frozen_of_row w g i _ _ h.blk
theorem Arr.of_heap (h : Arr w g t k l) (e : w'.heap[g]? = w.heap[g]?) : Arr w' g t k l := ⟨e.trans h.blk⟩
theorem Arr.below {B : Nat} (h : Arr w g t k l) (hb : Below B w w') (hg : g < B) : Arr w' g t k l := h.of_heap (hb.block g hg)
theorem Arr.from (h : Arr w g t k l) (hb : Below w.heap.size w w') : Arr w' g t k l := h.below hb h.lt
theorem Arr.set (h : Arr w g t k l) (i x : Nat) : Arr (w.setCell ⟨g, i, none⟩ (.int k (x : Int))) g t k (l.set i x) := by
  refine ⟨(heap_setCell_same _ _ _ _ _ _ h.blk).trans ?_⟩
  rw [List.setIfInBounds_toArray]
  simp [numC, List.map_set]
theorem Arr.other (h : Arr w g t k l) {g' : Nat} (hne : g ≠ g') (i : Nat) (v : Value) : Arr (w.setCell ⟨g', i, none⟩ v) g t k l :=
  h.of_heap (Below.heap_setCell w ⟨g', i, none⟩ v g hne)
theorem Arr.new (w : World) (t : TypeId) (k : IntKind) (l : List Nat) : Arr (w.alloc (.cells (numC k l).toArray t)) w.heap.size t k l := ⟨heap_alloc_new w _⟩
theorem Arr.drewN (h : Arr w g t k l) (n : Nat) : Arr (w.drewN n) g t k l := ⟨h.blk⟩
end
theorem val_eq {k : IntKind} {a b : Int} (h : a = b) : Value.int k a = .int k b := by rw [h]
end Go.Proofs.YtgnblaaldpniiaaDoor.Sh
end
section
set_option maxRecDepth 100000
set_option linter.unusedVariables false
set_option linter.unusedSimpArgs false
namespace Go.Proofs.YtgnblaaldpniiaaDoor.Sh
open Go.ChangeShapes Go.WideShapes Go.ChangeAt Go.RowKit
abbrev theLaid : List (String × DataW Unit) := [("farrier/sha2.cubes", Rows.laid_farrier_sha2_cubes), ("farrier/sha2.squares", Rows.laid_farrier_sha2_squares)]
theorem gCubes : Tryd.prog.globalNamed "farrier/sha2.cubes" = some 1 := by kernel_rfl
theorem gSquares : Tryd.prog.globalNamed "farrier/sha2.squares" = some 0 := by kernel_rfl
theorem gCubesT : (Tryd.prog.globals[1]?).map (·.type) = some 109 := by kernel_rfl
theorem gSquaresT : (Tryd.prog.globals[0]?).map (·.type) = some 80 := by kernel_rfl
theorem cells80 : Tryd.prog.cellsOf 109 = 80 := by kernel_rfl
theorem cells8 : Tryd.prog.cellsOf 80 = 8 := by kernel_rfl
theorem cells1 : Tryd.prog.cellsOf 79 = 1 := by kernel_rfl
theorem vars_of_laid {W : World} (h : laidMetH Tryd.prog theLaid W) : Vars W := by
  have h1 : laidMet Tryd.prog (("farrier/sha2.cubes", Lib.tabData .u64 cubesL) :: [("farrier/sha2.squares", Rows.laid_farrier_sha2_squares)]) W := h
  have h2 : laidMet Tryd.prog (("farrier/sha2.squares", Lib.tabData .u64 squaresL) :: []) W := laidMetH.filter (fun x => x.1 == "farrier/sha2.squares") h
  have t1 := Lib.tabIs_of_head gCubes gCubesT Tryd.underlying109 Tryd.underlying79 cells1 cells80 h1
  have t2 := Lib.tabIs_of_head gSquares gSquaresT Tryd.underlying80 Tryd.underlying79 cells1 cells8 h2
  have c1 : ∀ j, j < 80 → W.cell? ⟨1, j, none⟩ = some (.int .u64 (cubesL.getD j 0)) := fun j hj => t1.cell gCubes j hj
  have c2 : ∀ j, j < 8 → W.cell? ⟨0, j, none⟩ = some (.int .u64 (squaresL.getD j 0)) := fun j hj => t2.cell gSquares j hj
  exact ⟨block_lt_of_cell (c1 0 (by omega)), c1, c2⟩
def layCells (cs : Array Value) : Obj → Obj
  | .cells _ t frozen => .cells cs t frozen
  | o => o
noncomputable def laidHeap (h : Array Obj) : Array Obj := (h.modify 0 (layCells #[.int .u64 7640891576956012808, .int .u64 13503953896175478587, .int .u64 4354685564936845355, .int .u64 11912009170470909681, .int .u64 5840696475078001361, .int .u64 11170449401992604703, .int .u64 2270897969802886507, .int .u64 6620516959819538809])).modify 1 (layCells #[.int .u64 4794697086780616226, .int .u64 8158064640168781261, .int .u64 13096744586834688815, .int .u64 16840607885511220156, .int .u64 4131703408338449720, .int .u64 6480981068601479193, .int .u64 10538285296894168987, .int .u64 12329834152419229976, .int .u64 15566598209576043074, .int .u64 1334009975649890238, .int .u64 2608012711638119052, .int .u64 6128411473006802146, .int .u64 8268148722764581231, .int .u64 9286055187155687089, .int .u64 11230858885718282805, .int .u64 13951009754708518548, .int .u64 16472876342353939154, .int .u64 17275323862435702243, .int .u64 1135362057144423861, .int .u64 2597628984639134821, .int .u64 3308224258029322869, .int .u64 5365058923640841347, .int .u64 6679025012923562964, .int .u64 8573033837759648693, .int .u64 10970295158949994411, .int .u64 12119686244451234320, .int .u64 12683024718118986047, .int .u64 13788192230050041572, .int .u64 14330467153632333762, .int .u64 15395433587784984357, .int .u64 489312712824947311, .int .u64 1452737877330783856, .int .u64 2861767655752347644, .int .u64 3322285676063803686, .int .u64 5560940570517711597, .int .u64 5996557281743188959, .int .u64 7280758554555802590, .int .u64 8532644243296465576, .int .u64 9350256976987008742, .int .u64 10552545826968843579, .int .u64 11727347734174303076, .int .u64 12113106623233404929, .int .u64 14000437183269869457, .int .u64 14369950271660146224, .int .u64 15101387698204529176, .int .u64 15463397548674623760, .int .u64 17586052441742319658, .int .u64 1182934255886127544, .int .u64 1847814050463011016, .int .u64 2177327727835720531, .int .u64 2830643537854262169, .int .u64 3796741975233480872, .int .u64 4115178125766777443, .int .u64 5681478168544905931, .int .u64 6601373596472566643, .int .u64 7507060721942968483, .int .u64 8399075790359081724, .int .u64 8693463985226723168, .int .u64 9568029438360202098, .int .u64 10144078919501101548, .int .u64 10430055236837252648, .int .u64 11840083180663258601, .int .u64 13761210420658862357, .int .u64 14299343276471374635, .int .u64 14566680578165727644, .int .u64 15097957966210449927, .int .u64 16922976911328602910, .int .u64 17689382322260857208, .int .u64 500013540394364858, .int .u64 748580250866718886, .int .u64 1242879168328830382, .int .u64 1977374033974150939, .int .u64 2944078676154940804, .int .u64 3659926193048069267, .int .u64 4368137639120453308, .int .u64 4836135668995329356, .int .u64 5532061633213252278, .int .u64 6448918945643986474, .int .u64 6902733635092675308, .int .u64 7801388544844847127])
noncomputable def laidWorld (os : Os) : World := { World.holding Tryd.prog os ⟨#[], #[], []⟩ with heap := laidHeap (World.holding Tryd.prog os ⟨#[], #[], []⟩).heap }
theorem laid_met (os : Os) (args : Array Value) : laidMet Tryd.prog theLaid ((laidWorld os).forCall (fun _ _ => 0) ⟨#[], args, []⟩).memory :=
  laidMet_of_run' 90 (by kernel_rfl) (by kernel_rfl)
theorem own : ownKnob Tryd.prog.godebug = none := by kernel_rfl
end Go.Proofs.YtgnblaaldpniiaaDoor.Sh
end
