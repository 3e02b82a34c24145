/- Walks of package sha2: rotations.
Walks of package sha2: a kind's rule, a hash's cells.
Walks of package sha2: a hash's cells; Size, Clone.
Walks of package sha2: the words of all rounds. -/
import Derived.Test.YtgnblaaldpniiaaGreatDoorZK1
import Derived.RegionTactic
import Derived.Deep.MidRow
import Derived.Deep.WholeRow
import Derived.Laws.CopyOwn
section
set_option maxRecDepth 100000
set_option linter.unusedVariables false
set_option linter.unusedSimpArgs false
namespace Go.Proofs.YtgnblaaldpniiaaGreatDoor.Sh
open Go.RowKit Go.Lib
def rotI (K : IntKind) (W : Nat) (x : Int) (n : Nat) : Int := bits .or K (x / 2 ^ n) (K.wrap (x * 2 ^ (W - n)))
def tripI (K : IntKind) (W : Nat) (x : Int) (a b c : Nat) : Int := bits .xor K (bits .xor K (rotI K W x a) (rotI K W x b)) (rotI K W x c)
def twicI (K : IntKind) (W : Nat) (x : Int) (a b c : Nat) : Int := bits .xor K (bits .xor K (rotI K W x a) (rotI K W x b)) (x / 2 ^ c)
theorem below_drewN' {B : Nat} {a w : World} (h : Below B a w) (n : Nat) : Below B a (w.drewN n) := ⟨h.os, h.tape, h.output, h.size, h.block⟩

theorem rotated_u64 (x : Int) (n : Nat) (w : World) (hn : n ≤ 64) :
    Calls Tryz.prog 136 #[.int .u64 x, .int .u64 n, .int .i64 64] w fun e w' => e = .returned (.int .u64 (rotI .u64 64 x n)) ∧ w = w' := by
  obtain ⟨m, hm⟩ : ∃ m, 64 - n = m := ⟨_, rfl⟩
  have k0 : IntKind.u64.wrap (64 - (n : Int)) = (m : Int) := by
    simp [IntKind.wrap, IntKind.signed, IntKind.bits]; omega
  have k0' : 64 - (n : Int) = (m : Int) := by omega
  have k2 : (x * 2 ^ min m 64) = x * 2 ^ m := by rw [Nat.min_eq_left (by omega)]
  unfold rotI
  rw [hm]
  replace hm := Lib.hid hm
  go_enter Tryz.func136, Tryz.ntmps136
  go_wp2
  go_ret
  exact ⟨rfl, rfl⟩

theorem turnedTwice_u64 (x : Int) (a b c : Nat) (w : World) (ha : a ≤ 64) (hb : b ≤ 64) (hc : c ≤ 64) :
    Calls Tryz.prog 135 #[.int .u64 x, .agg #[.int .u64 a, .int .u64 b, .int .u64 c], .int .i64 64] w fun e w' => e = .returned (.int .u64 (twicI .u64 64 x a b c)) ∧ Below w.heap.size w w' := by
  go_enter Tryz.func135, Tryz.ntmps135
  go_wp2
  go_quiet ((go_at_call 136; exact Calls.quiet_of_same ((rotated_u64 _ _ _ (by omega)).mono fun _ _ h => ⟨h.1, h.2.symm⟩)))
  go_wp2
  go_ret
  exact ⟨rfl, below_drewN' ((Below.refl _ _).alloc (Nat.le_refl _) _) _⟩

theorem turnedThrice_u64 (x : Int) (a b c : Nat) (w : World) (ha : a ≤ 64) (hb : b ≤ 64) (hc : c ≤ 64) :
    Calls Tryz.prog 126 #[.int .u64 x, .agg #[.int .u64 a, .int .u64 b, .int .u64 c], .int .i64 64] w fun e w' => e = .returned (.int .u64 (tripI .u64 64 x a b c)) ∧ Below w.heap.size w w' := by
  go_enter Tryz.func126, Tryz.ntmps126
  go_wp2
  go_quiet ((go_at_call 136; exact Calls.quiet_of_same ((rotated_u64 _ _ _ (by omega)).mono fun _ _ h => ⟨h.1, h.2.symm⟩)))
  go_wp2
  go_ret
  exact ⟨rfl, below_drewN' ((Below.refl _ _).alloc (Nat.le_refl _) _) _⟩
end Go.Proofs.YtgnblaaldpniiaaGreatDoor.Sh
end
section
set_option maxRecDepth 100000
set_option linter.unusedVariables false
set_option linter.unusedSimpArgs false
namespace Go.Proofs.YtgnblaaldpniiaaGreatDoor.Sh
open Go.RowKit Go.Lib
def kd (o : Bool) : Int := if o = true then 1 else 0
def wdI (o : Bool) : Nat := if o = true then 64 else 32
def rnds (o : Bool) : Nat := if o = true then 80 else 64
def ruleC (o : Bool) : Array Value := if o = true then
  #[.int .i64 64, .int .i64 80, .int .u64 28, .int .u64 34, .int .u64 39, .int .u64 14, .int .u64 18, .int .u64 41, .int .u64 1, .int .u64 8, .int .u64 7, .int .u64 19, .int .u64 61, .int .u64 6]
  else #[.int .i64 32, .int .i64 64, .int .u64 2, .int .u64 13, .int .u64 22, .int .u64 6, .int .u64 11, .int .u64 25, .int .u64 7, .int .u64 18, .int .u64 3, .int .u64 17, .int .u64 19, .int .u64 10]
theorem ruleC0 : ruleC false = #[.int .i64 32, .int .i64 64, .int .u64 2, .int .u64 13, .int .u64 22, .int .u64 6, .int .u64 11, .int .u64 25, .int .u64 7, .int .u64 18, .int .u64 3, .int .u64 17, .int .u64 19, .int .u64 10] := rfl
theorem ruleC1 : ruleC true = #[.int .i64 64, .int .i64 80, .int .u64 28, .int .u64 34, .int .u64 39, .int .u64 14, .int .u64 18, .int .u64 41, .int .u64 1, .int .u64 8, .int .u64 7, .int .u64 19, .int .u64 61, .int .u64 6] := rfl
theorem ruleOf_any (o : Bool) (w : World) : Calls Tryz.prog 83 #[.int .i64 (kd o)] w fun e w' => e = .returned (.agg (ruleC o)) ∧ Below w.heap.size w w' := by
  cases o
  · show Calls Tryz.prog 83 #[.int .i64 0] w _
    rw [ruleC0]
    go_enter Tryz.func83, Tryz.ntmps83
    go_wp2
    refine bodyPost_ret (v := .agg (ruleC false)) (by rw [ruleC0]; simp [results, Tryz.results83, go_sem]) rfl ⟨rfl, (Below.refl _ _).alloc (Nat.le_refl _) _⟩
  · show Calls Tryz.prog 83 #[.int .i64 1] w _
    rw [ruleC1]
    go_enter Tryz.func83, Tryz.ntmps83
    go_wp2
    refine bodyPost_ret (v := .agg (ruleC true)) (by rw [ruleC1]; simp [results, Tryz.results83, go_sem]) rfl ⟨rfl, (Below.refl _ _).alloc (Nat.le_refl _) _⟩
theorem blockBytes_any (o : Bool) (w : World) : Calls Tryz.prog 84 #[.agg (ruleC o)] w fun e w' => e = .returned (.int .i64 (2 * wdI o : Nat)) ∧ Below w.heap.size w w' := by
  cases o
  · rw [ruleC0]
    go_enter Tryz.func84, Tryz.ntmps84
    go_wp2
    go_ret
    exact ⟨rfl, (Below.refl _ _).alloc (Nat.le_refl _) _⟩
  · rw [ruleC1]
    go_enter Tryz.func84, Tryz.ntmps84
    go_wp2
    go_ret
    exact ⟨rfl, (Below.refl _ _).alloc (Nat.le_refl _) _⟩
end Go.Proofs.YtgnblaaldpniiaaGreatDoor.Sh
end
section
set_option maxRecDepth 100000
set_option linter.unusedVariables false
set_option linter.unusedSimpArgs false
namespace Go.Proofs.YtgnblaaldpniiaaGreatDoor.Sh
open Go.RowKit Go.Lib
def u64I (l : List Int) : List Value := l.map (Value.int .u64)
theorem u64I_length (l : List Int) : (u64I l).length = l.length := by simp [u64I]
def hashL (o : Bool) (st : List Int) (bl : List UInt8) (n : Nat) : List Value := .int .i64 (kd o) :: (u64I st ++ (byteCells bl ++ [.int .i64 n]))
structure HashAt (w : World) (g : Nat) (o : Bool) (st : List Int) (bl : List UInt8) (n : Nat) : Prop where
  blk : w.heap[g]? = some (.cells (hashL o st bl n).toArray 102 (0, 0))
  s8 : st.length = 8
  b128 : bl.length = 128
section
variable {w w' : World} {g : Nat} {o : Bool} {st : List Int} {bl : List UInt8} {n : Nat}
theorem hashL_length (h8 : st.length = 8) (h128 : bl.length = 128) : (hashL o st bl n).length = 138 := by
  simp [hashL, u64I, byteCells_length, h8, h128]
theorem hashL_st (h8 : st.length = 8) (j : Nat) (hj : j < 8) : (hashL o st bl n)[1 + j]? = some (.int .u64 (st.getD j 0)) := by
  rw [Nat.add_comm, hashL, List.getElem?_cons_succ, List.getElem?_append_left (by rw [u64I_length]; omega)]
  simp [u64I, h8, hj]
theorem hashL_bl (h8 : st.length = 8) (h128 : bl.length = 128) (j : Nat) (hj : j < 128) : (hashL o st bl n)[9 + j]? = some (.int .u8 ((bl.getD j 0).toNat : Nat)) := by
  rw [show 9 + j = (8 + j) + 1 by omega, hashL, List.getElem?_cons_succ, List.getElem?_append_right (by rw [u64I_length]; omega), u64I_length, h8, Nat.add_sub_cancel_left,
    List.getElem?_append_left (by rw [byteCells_length]; omega)]
  simp [byteCells, h128, hj]
theorem hashL_n (h8 : st.length = 8) (h128 : bl.length = 128) : (hashL o st bl n)[137]? = some (.int .i64 n) := by
  rw [hashL, List.getElem?_cons_succ, List.getElem?_append_right (by rw [u64I_length]; omega), u64I_length, h8,
    List.getElem?_append_right (by rw [byteCells_length]; omega), byteCells_length, h128]
  rfl
theorem HashAt.lt (h : HashAt w g o st bl n) : g < w.heap.size := (Array.getElem?_eq_some_iff.1 h.blk).1
theorem HashAt.kind (h : HashAt w g o st bl n) : w.cell? ⟨g, 0, none⟩ = some (.int .i64 (kd o)) := by
  rw [cell_of_row w g _ _ _ _ h.blk]; rfl
theorem HashAt.count (h : HashAt w g o st bl n) : w.cell? ⟨g, 137, none⟩ = some (.int .i64 n) := by
  rw [cell_of_row w g _ _ _ _ h.blk, List.getElem?_toArray]; exact hashL_n h.s8 h.b128
theorem HashAt.state (h : HashAt w g o st bl n) (j : Nat) (hj : j < 8) : w.cell? ⟨g, 1 + j, none⟩ = some (.int .u64 (st.getD j 0)) := by
  rw [cell_of_row w g _ _ _ _ h.blk, List.getElem?_toArray]; exact hashL_st h.s8 j hj
theorem HashAt.byte (h : HashAt w g o st bl n) (j : Nat) (hj : j < 128) : w.cell? ⟨g, 9 + j, none⟩ = some (.int .u8 ((bl.getD j 0).toNat : Nat)) := by
  rw [cell_of_row w g _ _ _ _ h.blk, List.getElem?_toArray]; exact hashL_bl h.s8 h.b128 j hj
theorem HashAt.frozen (h : HashAt w g o st bl n) (j : Nat) : w.frozen? ⟨g, j, none⟩ = false := frozen_of_row w g j _ _ h.blk
theorem HashAt.of_heap (h : HashAt w g o st bl n) (e : w'.heap[g]? = w.heap[g]?) : HashAt w' g o st bl n := ⟨e.trans h.blk, h.s8, h.b128⟩
theorem HashAt.below {B : Nat} (h : HashAt w g o st bl n) (hb : Below B w w') (hg : g < B) : HashAt w' g o st bl n := h.of_heap (hb.block g hg)
theorem HashAt.from (h : HashAt w g o st bl n) (hb : Below w.heap.size w w') : HashAt w' g o st bl n := h.below hb h.lt
end
theorem info50 : (Tryz.prog.info? 102).map (·.size) = some 138 := by kernel_rfl
theorem zero50 : ∃ Z : Array Value, Z.size = 138 ∧ ∀ w, (zeroValue 102).run Tryz.prog w = .ok (.agg Z) w :=
  ⟨(.int .i64 0 :: (u64I (List.replicate 8 0) ++ (byteCells (List.replicate 128 0) ++ [.int .i64 0]))).toArray, by kernel_rfl, (zero_of_info (n := 138) (by kernel_rfl)).1⟩
def ClonePost (o : Bool) (st : List Int) (bl : List UInt8) (n : Nat) (w : World) (e : Ending) (w' : World) : Prop :=
  ∃ g', w.heap.size ≤ g' ∧ e = .returned (.pointer (some ⟨g', 0, none⟩)) ∧ HashAt w' g' o st bl n ∧ Below w.heap.size w w'
theorem clone_any (g : Nat) (o : Bool) (st : List Int) (bl : List UInt8) (n : Nat) (w : World) (h : HashAt w g o st bl n) :
    Calls Tryz.prog 86 #[.pointer (some ⟨g, 0, none⟩)] w (ClonePost o st bl n w) := by
  have hc := h.kind
  have hl := hashL_length (o := o) (n := n) h.s8 h.b128
  have hb := h.blk
  have h8 := Lib.hid h.s8
  have h128 := Lib.hid h.b128
  clear h
  generalize hX : hashL o st bl n = X at hl hb
  have H1 := Lib.hid hl
  have H2 := Lib.hid hb
  have H3 := Lib.hid hX
  have h1 : X.toArray.all (·.oneCell') = true := by
    rw [← hX]
    simp [hashL, u64I, byteCells, Value.oneCell']
  have H4 := Lib.hid h1
  clear hl hb hX h1
  obtain ⟨Z, hZ, hz⟩ := zero50
  have Hz := Lib.hid hZ
  clear hZ
  go_enter Tryz.func86, Tryz.ntmps86
  go_wp2_with (first
    | (refine wpList_load_row rfl 102 (.tmp 5) rfl g rfl 102 X.toArray (0, 0) _ H2.out Tryz.underlying102 rfl ?_ ?_; (rw [info50, List.size_toArray, H1.out]))
    | (refine wpList_store_row rfl 102 (.tmp 3) (.tmp 6) rfl w.heap.size X.toArray rfl rfl 102 Z (heap_alloc_new w _) ?_ ?_ H4.out ?_; (rw [info50, List.size_toArray, H1.out]); (rw [Hz.out, List.size_toArray, H1.out])))
  rw [World.setRow_alloc_new]
  go_ret
  exact ⟨w.heap.size, Nat.le_refl _, rfl, ⟨by rw [H3.out]; exact heap_alloc_new w _, h8.out, h128.out⟩, (Below.refl _ _).alloc (Nat.le_refl _) _⟩
end Go.Proofs.YtgnblaaldpniiaaGreatDoor.Sh
end
section
set_option maxRecDepth 100000
set_option linter.unusedVariables false
set_option linter.unusedSimpArgs false
namespace Go.Proofs.YtgnblaaldpniiaaGreatDoor.Sh
open Go.RowKit Go.Lib
def kI (K : IntKind) (l : List Int) : List Value := l.map (Value.int K)
theorem kI_length (K : IntKind) (l : List Int) : (kI K l).length = l.length := by simp [kI]
def byteI (K : IntKind) (x : Int) (b : UInt8) : Int := bits .or K (K.wrap (x * 2 ^ 8)) b.toNat
def fillB (K : IntKind) : List UInt8 → Nat → List Int → List Int
  | [], _, l => l
  | b :: r, i, l => fillB K r i (l.set i (byteI K (l.getD i 0) b))
def fillW (K : IntKind) (by_ : Nat) (bl : List UInt8) : Nat → Nat → List Int → List Int
  | 0, _, l => l
  | k + 1, i, l => fillW K by_ bl k (i + 1) (fillB K ((bl.drop (i * by_)).take by_) i l)
def cI (o : Bool) (K : IntKind) (x : Int) : Int := if o = true then twicI K 64 x 1 8 7 else twicI K 32 x 7 18 3
def dI (o : Bool) (K : IntKind) (x : Int) : Int := if o = true then twicI K 64 x 19 61 6 else twicI K 32 x 17 19 10
def nextI (o : Bool) (K : IntKind) (l : List Int) (t : Nat) : Int :=
  K.wrap (dI o K (l.getD (t - 2) 0) + l.getD (t - 7) 0 + cI o K (l.getD (t - 15) 0) + l.getD (t - 16) 0)
def schR (o : Bool) (K : IntKind) : Nat → Nat → List Int → List Int
  | 0, _, l => l
  | k + 1, t, l => schR o K k (t + 1) (l.set t (nextI o K l t))
structure SpAt (o : Bool) (K : IntKind) (T : TypeId) (Z : Array Value) (w wr : World) (l : List Int) : Prop where
  below : Below w.heap.size w wr
  size : w.heap.size + 3 ≤ wr.heap.size
  rule : wr.heap[w.heap.size]? = some (.cells (ruleC o) 105 (0, 0))
  res : wr.heap[w.heap.size + 1]? = some (.cells Z T (0, 0))
  row : wr.heap[w.heap.size + 1 + 1]? = some (.cells (kI K l).toArray T (0, 0))
  len : l.length = 80
section
variable {o : Bool} {K : IntKind} {T : TypeId} {Z : Array Value} {w wr wr2 : World} {l : List Int}
theorem SpAt.word (h : SpAt o K T Z w wr l) (j : Nat) (hj : j < 80) : wr.cell? ⟨w.heap.size + 1 + 1, j, none⟩ = some (.int K (l.getD j 0)) := by
  rw [cell_of_row wr _ _ _ _ _ h.row]
  simp [kI, h.len, hj]
theorem SpAt.fr (h : SpAt o K T Z w wr l) (j : Nat) : wr.frozen? ⟨w.heap.size + 1 + 1, j, none⟩ = false := frozen_of_row wr _ j _ _ h.row
theorem SpAt.set (h : SpAt o K T Z w wr l) (j : Nat) (x : Int) : SpAt o K T Z w (wr.setCell ⟨w.heap.size + 1 + 1, j, none⟩ (.int K x)) (l.set j x) :=
  ⟨h.below.setCell (by show w.heap.size ≤ w.heap.size + 1 + 1; omega) _, by simpa [World.setCell] using h.size, (heap_setCell_other wr _ _ _ (by show w.heap.size ≠ w.heap.size + 1 + 1; omega)).trans h.rule,
    (heap_setCell_other wr _ _ _ (by show w.heap.size + 1 ≠ w.heap.size + 1 + 1; omega)).trans h.res, by rw [heap_setCell_same wr _ j _ _ _ h.row]; simp [kI, List.map_set], by rw [List.length_set]; exact h.len⟩
theorem SpAt.grow (h : SpAt o K T Z w wr l) (hb : Below wr.heap.size wr wr2) : SpAt o K T Z w wr2 l := by
  have hs := h.size
  exact ⟨h.below.trans (hb.mono (by omega)), Nat.le_trans hs hb.size, (hb.block _ (by omega)).trans h.rule, (hb.block _ (by omega)).trans h.res, (hb.block _ (by omega)).trans h.row, h.len⟩
end
def spreadI (K : IntKind) (o : Bool) (bl : List UInt8) : List Int := schR o K (rnds o - 16) 16 (fillW K (wdI o / 8) bl 16 0 (List.replicate 80 0))
theorem drop_part (bl : List UInt8) (k n m : Nat) (h : k * n + m < bl.length) (hm : m < n) :
    ((bl.drop (k * n)).take n).drop m = bl.getD (k * n + m) 0 :: ((bl.drop (k * n)).take n).drop (m + 1) := by
  rw [List.drop_eq_getElem_cons (by simp; omega)]
  simp [h]
theorem run_cut (g p l h : Nat) (hl : l ≤ h) (hh : h ≤ 128) (hl2 : l < 128) (w : World) :
    (Instr.sliceAt 100 (.pointer (some ⟨g, p, none⟩)) (some (.int .i64 (l : Nat))) (some (.int .i64 (h : Nat))) none).run Tryz.prog w = .ok (.slice (some ⟨g, p + l, none⟩) (h - l) (128 - l)) w := by
  have e : Tryz.prog.arrayLen 100 = 128 := by kernel_rfl
  have ht : Tryz.prog.underlying 100 = some (.array (Tryz.prog.arrayLen 100) (Tryz.prog.elem 100)) := by kernel_rfl
  rw [run_sliceAt_array_lh w _ _ ht .i64 .i64 l h (by omega) (by omega) (by rw [e]; omega)]
  have hs : (sizeOf (Tryz.prog.elem 100)).run Tryz.prog w = .ok 1 w := by kernel_rfl
  rw [hs, Result.andThen_ok, e]
  have ea : (⟨g, p, none⟩ : Addr).add l = ⟨g, p + l, none⟩ := Addr.add_mid g p l
  simp [slicedAt, ea]
  omega

theorem byteI_u64 (x : Int) (b : UInt8) : bits .or .u64 (IntKind.u64.wrap (x * 256)) (IntKind.u64.wrap (b.toNat : Int)) = byteI .u64 x b := by
  have hb := b.toNat_lt
  have h : (b.toNat : Int) % 18446744073709551616 = b.toNat := Int.emod_eq_of_lt (by omega) (by omega)
  unfold byteI
  rw [show IntKind.u64.wrap (b.toNat : Int) = b.toNat from h]
  rfl
theorem next_u64 (a b c d : Int) : IntKind.u64.wrap (IntKind.u64.wrap (IntKind.u64.wrap (a + b) + c) + d) = IntKind.u64.wrap (a + b + c + d) := by
  simp only [IntKind.wrap, IntKind.signed, IntKind.bits]
  simp
theorem zeroA_u64 : ∃ Z : Array Value, Z = (kI .u64 (List.replicate 80 0)).toArray ∧ ∀ w, (zeroValue 144).run Tryz.prog w = .ok (.agg Z) w :=
  ⟨_, rfl, (zero_of_info (n := 80) (by kernel_rfl)).1⟩
theorem turnC_u64 (x : Int) (w : World) : Calls Tryz.prog 135 #[.int .u64 x, .agg #[.int .u64 1, .int .u64 8, .int .u64 7], .int .i64 64] w fun e w' => e = .returned (.int .u64 (cI true .u64 x)) ∧ Below w.heap.size w w' := by
  rw [show cI true .u64 x = twicI .u64 64 x 1 8 7 from if_pos rfl]
  exact turnedTwice_u64 x 1 8 7 w (by omega) (by omega) (by omega)
theorem turnD_u64 (x : Int) (w : World) : Calls Tryz.prog 135 #[.int .u64 x, .agg #[.int .u64 19, .int .u64 61, .int .u64 6], .int .i64 64] w fun e w' => e = .returned (.int .u64 (dI true .u64 x)) ∧ Below w.heap.size w w' := by
  rw [show dI true .u64 x = twicI .u64 64 x 19 61 6 from if_pos rfl]
  exact turnedTwice_u64 x 19 61 6 w (by omega) (by omega) (by omega)
theorem infoA_u64 : (Tryz.prog.info? 144).map (·.size) = some 80 := by kernel_rfl
set_option maxRecDepth 100000 in
set_option maxHeartbeats 1600000 in
theorem spread_u64 (g : Nat) (st : List Int) (bl : List UInt8) (n : Nat) (w : World) (h : HashAt w g true st bl n) :
    Calls Tryz.prog 125 #[.pointer (some ⟨g, 9, none⟩), .agg (ruleC true)] w fun e w' => e = .returned (.agg (kI .u64 (spreadI .u64 true bl)).toArray) ∧ Below w.heap.size w w' := by
  obtain ⟨Z, hZ, hz⟩ := zeroA_u64
  have HZ := Lib.hid hZ
  clear hZ
  have hg := h.lt
  have H := Lib.hid h
  clear h
  rw [ruleC1]
  go_enter Tryz.func125, Tryz.ntmps125
  go_wp2
  obtain ⟨l0, hl0⟩ : ∃ l0 : List Int, List.replicate 80 0 = l0 := ⟨_, rfl⟩
  have s0 : SpAt true .u64 144 Z w (((w.alloc (.cells (ruleC true) 105)).alloc (.cells Z 144)).alloc (.cells Z 144)) l0 := by
    refine ⟨(((Below.refl _ _).alloc (Nat.le_refl _) _).alloc (by simp) _).alloc (by simp; omega) _, by simp, ?_, ?_, ?_, by rw [← hl0]; simp⟩
    · rw [Below.heap_alloc _ _ _ (by simp; omega), Below.heap_alloc _ _ _ (by simp)]; exact heap_alloc_new _ _
    · rw [Below.heap_alloc _ _ _ (by simp), ← World.size_alloc]; exact heap_alloc_new _ _
    · rw [HZ.out, hl0, ← World.size_alloc, ← World.size_alloc]; exact heap_alloc_new _ _
  replace hl0 := Lib.hid hl0
  go_loopw [14] (fun i wr => ∃ (k : Nat) (l : List Int), k ≤ 16 ∧ i = .int .i64 k ∧ Hid (SpAt true .u64 144 Z w wr l) ∧ Hid (fillW .u64 8 bl (16 - k) k l = fillW .u64 8 bl 16 0 l0)) (fun i _ => 16 - (RowKit.intOf i).toNat)
  case atStart => exact ⟨0, l0, by omega, rfl, s0, rfl⟩
  case round =>
    obtain ⟨k, l, hk, rfl, HS, HF⟩ := hrel
    clear s0
    by_cases hlt : k < 16
    · have e1 : IntKind.i64.wrap ((k : Int) * 8) = ((k * 8 : Nat) : Int) := by simp [IntKind.wrap, IntKind.signed, IntKind.bits]; omega
      have e2 : ∀ w', (Instr.sliceAt 100 (.pointer (some ⟨g, 9, none⟩)) (some (.int .i64 ((k : Int) * 8))) (some (.int .i64 (((k : Int) + 1) * 8))) none).run Tryz.prog w' = .ok (.slice (some ⟨g, 9 + k * 8, none⟩) 8 (128 - k * 8)) w' := fun w' => by
        have := run_cut g 9 (k * 8) ((k + 1) * 8) (by omega) (by omega) (by omega) w'
        rw [show (k + 1) * 8 - k * 8 = 8 by omega] at this
        simpa using this
      go_wp2
      obtain ⟨wo, rfl⟩ : ∃ wo : World, wo = wr := ⟨_, rfl⟩
      go_loopw [28] (fun j wi => ∃ (m : Nat) (l2 : List Int), m ≤ 8 ∧ j = .int .i64 m ∧ Hid (SpAt true .u64 144 Z w wi l2) ∧ Hid (fillB .u64 (((bl.drop (k * 8)).take 8).drop m) k l2 = fillB .u64 ((bl.drop (k * 8)).take 8) k l)) (fun j _ => 8 - (RowKit.intOf j).toNat)
      case atStart => exact ⟨0, l, by omega, rfl, HS.out, rfl⟩
      case round =>
        obtain ⟨m, l2, hm, rfl, HS2, HF2⟩ := hrel
        by_cases hlt2 : m < 8
        · obtain ⟨b, hb⟩ : ∃ b, bl.getD (k * 8 + m) 0 = b := ⟨_, rfl⟩
          obtain ⟨x, hx⟩ : ∃ x, l2.getD k 0 = x := ⟨_, rfl⟩
          have c1 : wr.cell? ⟨g, 9 + k * 8 + m, none⟩ = some (.int .u8 (b.toNat : Nat)) := by
            have := (H.out.below HS2.out.below hg).byte (k * 8 + m) (by omega)
            rwa [← Nat.add_assoc, hb] at this
          have c2 := HS2.out.word k (by omega)
          rw [hx] at c2
          have hd := drop_part bl k 8 m (by rw [H.out.b128]; omega) hlt2
          rw [hb] at hd
          replace hb := Lib.hid hb
          replace hx := Lib.hid hx
          replace hd := Lib.hid hd
          have c3 := HS2.out.fr k
          go_wp2
          go_roundw
          case rel => exact ⟨m + 1, l2.set k (byteI .u64 x b), by omega, by go_num, by rw [byteI_u64]; exact HS2.out.set k _, by
            have h := HF2.out
            rw [hd.out, fillB, hx.out] at h
            exact h⟩
          case measure => simp [RowKit.intOf]; omega
        · obtain rfl : m = 8 := by omega
          have hF3 : fillW .u64 8 bl (16 - (k + 1)) (k + 1) l2 = fillW .u64 8 bl 16 0 l0 := by
            have h := HF.out
            have h2 := HF2.out
            rw [show 16 - k = (16 - (k + 1)) + 1 by omega, fillW, ← h2, List.drop_eq_nil_of_le (by simp; omega), fillB] at h
            exact h
          replace hF3 := Lib.hid hF3
          clear HF HF2
          go_wp2
          go_roundw
          case rel => exact ⟨k + 1, l2, by omega, by go_num, HS2.out, hF3.out⟩
          case measure => simp [RowKit.intOf]; omega
    · obtain rfl : k = 16 := by omega
      obtain ⟨l1, hl1⟩ : ∃ l1, fillW .u64 8 bl 16 0 l0 = l1 := ⟨_, rfl⟩
      have hl : l = l1 := by rw [← hl1, ← HF.out]; rfl
      subst hl
      replace hl1 := Lib.hid hl1
      clear HF hlt hk
      go_wp2
      clear H
      obtain ⟨wo, rfl⟩ : ∃ wo : World, wo = wr := ⟨_, rfl⟩
      go_loopw [10] (fun v wr => ∃ (t : Nat) (l2 : List Int), 16 ≤ t ∧ t ≤ 80 ∧ v = .int .i64 t ∧ Hid (SpAt true .u64 144 Z w wr l2) ∧ Hid (schR true .u64 (80 - t) t l2 = schR true .u64 (80 - 16) 16 l)) (fun v _ => 80 - (RowKit.intOf v).toNat)
      case atStart => exact ⟨16, l, by omega, by omega, rfl, HS.out, rfl⟩
      case round =>
        obtain ⟨t, l2, ht1, ht2, rfl, HS2, HF2⟩ := hrel
        clear HS
        have c1 : wr.cell? ⟨w.heap.size, 1, none⟩ = some (.int .i64 80) := by rw [cell_of_row wr _ _ _ _ _ HS2.out.rule]; rfl
        by_cases hlt : t < 80
        · obtain ⟨x2, hx2⟩ : ∃ x, l2.getD (t - 2) 0 = x := ⟨_, rfl⟩
          obtain ⟨x7, hx7⟩ : ∃ x, l2.getD (t - 7) 0 = x := ⟨_, rfl⟩
          obtain ⟨x15, hx15⟩ : ∃ x, l2.getD (t - 15) 0 = x := ⟨_, rfl⟩
          obtain ⟨x16, hx16⟩ : ∃ x, l2.getD (t - 16) 0 = x := ⟨_, rfl⟩
          have hB : ∀ u : Held (From wr.drew), SpAt true .u64 144 Z w u.w l2 := fun u => HS2.out.grow u.h.of_drew
          have d0 : ∀ u : Held (From wr.drew), u.w.cell? ⟨w.heap.size, 0, none⟩ = some (.int .i64 64) := fun u => by rw [cell_of_row _ _ _ _ _ _ (hB u).rule]; rfl
          have d8 : ∀ u : Held (From wr.drew), u.w.cell? ⟨w.heap.size, 8, none⟩ = some (.int .u64 1) := fun u => by rw [cell_of_row _ _ _ _ _ _ (hB u).rule]; rfl
          have d9 : ∀ u : Held (From wr.drew), u.w.cell? ⟨w.heap.size, 9, none⟩ = some (.int .u64 8) := fun u => by rw [cell_of_row _ _ _ _ _ _ (hB u).rule]; rfl
          have d10 : ∀ u : Held (From wr.drew), u.w.cell? ⟨w.heap.size, 10, none⟩ = some (.int .u64 7) := fun u => by rw [cell_of_row _ _ _ _ _ _ (hB u).rule]; rfl
          have d11 : ∀ u : Held (From wr.drew), u.w.cell? ⟨w.heap.size, 11, none⟩ = some (.int .u64 19) := fun u => by rw [cell_of_row _ _ _ _ _ _ (hB u).rule]; rfl
          have d12 : ∀ u : Held (From wr.drew), u.w.cell? ⟨w.heap.size, 12, none⟩ = some (.int .u64 61) := fun u => by rw [cell_of_row _ _ _ _ _ _ (hB u).rule]; rfl
          have d13 : ∀ u : Held (From wr.drew), u.w.cell? ⟨w.heap.size, 13, none⟩ = some (.int .u64 6) := fun u => by rw [cell_of_row _ _ _ _ _ _ (hB u).rule]; rfl
          have e2 : ∀ u : Held (From wr.drew), u.w.cell? ⟨w.heap.size + 1 + 1, t - 2, none⟩ = some (.int .u64 x2) := fun u => hx2 ▸ (hB u).word (t - 2) (by omega)
          have e7 : ∀ u : Held (From wr.drew), u.w.cell? ⟨w.heap.size + 1 + 1, t - 7, none⟩ = some (.int .u64 x7) := fun u => hx7 ▸ (hB u).word (t - 7) (by omega)
          have e15 : ∀ u : Held (From wr.drew), u.w.cell? ⟨w.heap.size + 1 + 1, t - 15, none⟩ = some (.int .u64 x15) := fun u => hx15 ▸ (hB u).word (t - 15) (by omega)
          have e16 : ∀ u : Held (From wr.drew), u.w.cell? ⟨w.heap.size + 1 + 1, t - 16, none⟩ = some (.int .u64 x16) := fun u => hx16 ▸ (hB u).word (t - 16) (by omega)
          replace hB := Lib.hid hB
          replace hx2 := Lib.hid hx2
          replace hx7 := Lib.hid hx7
          replace hx15 := Lib.hid hx15
          replace hx16 := Lib.hid hx16
          go_wp2
          refine wp_region_from_tail 31 (by kernel_rfl) (by kernel_rfl) ?_
          simp only [List.take_succ_cons, List.take_zero, List.drop_succ_cons, List.drop_zero]
          repeat (go_big_quiet_step ((first
            | (go_at_call_of 135 (Value.int .u64 x2); exact held_call _ (turnD_u64 x2 _))
            | (go_at_call_of 135 (Value.int .u64 x15); exact held_call _ (turnC_u64 x15 _)))))
          refine wpQuiet_nil ?_
          intro w5 hw5
          have HS5 := HS2.out.grow hw5.of_drew
          have c5 := HS5.word t (by omega)
          have f5 := HS5.fr t
          replace HS5 := Lib.hid HS5
          clear HS2 hw5 hB d0 d8 d9 d10 d11 d12 d13 e2 e7 e15 e16
          go_wp2
          go_roundw
          case rel => exact ⟨t + 1, l2.set t (nextI true .u64 l2 t), by omega, by omega, by go_num, by
              have := HS5.out.set t (nextI true .u64 l2 t)
              unfold nextI at this ⊢
              rw [hx2.out, hx7.out, hx15.out, hx16.out] at this ⊢
              rw [next_u64]
              exact this, by
            have h := HF2.out
            rw [show 80 - t = (80 - (t + 1)) + 1 by omega, schR] at h
            exact h⟩
          case measure => simp [RowKit.intOf]; omega
        · obtain rfl : t = 80 := by omega
          have hF := HF2.out
          rw [Nat.sub_self, schR] at hF
          have hL : l2 = spreadI .u64 true bl := by
            rw [hF, ← hl1.out, ← hl0.out]; rfl
          have HL := Lib.hid hL
          clear hL
          clear hF HF2
          have hrow := HS2.out.row
          have hlen := HS2.out.len
          generalize hX : kI .u64 l2 = X at hrow
          have hXl : X.length = 80 := by rw [← hX, kI_length]; exact hlen
          have hX1 : X.toArray.all (·.oneCell') = true := by rw [← hX]; simp [kI, Value.oneCell']
          have hZs : Z.size = 80 := by rw [HZ.out]; simp [kI]
          have Hrow := Lib.hid hrow
          have HX := Lib.hid hX
          have HXl := Lib.hid hXl
          have HX1 := Lib.hid hX1
          have HZs := Lib.hid hZs
          clear hrow hlen hX hXl hX1 hZs
          go_wp2_with (first
            | (refine wpList_load_row rfl 144 (.tmp 5) rfl (w.heap.size + 1 + 1) rfl 144 X.toArray (0, 0) _ Hrow.out Tryz.underlying144 rfl ?_ ?_; (rw [infoA_u64, List.size_toArray, HXl.out]))
            | (refine wpList_store_row rfl 144 (.tmp 4) (.tmp 80) rfl (w.heap.size + 1) X.toArray rfl rfl 144 Z HS2.out.res ?_ ?_ HX1.out ?_; (rw [infoA_u64, List.size_toArray, HXl.out]); (rw [HZs.out, List.size_toArray, HXl.out])))
          refine bodyPost_ret (results_cell_row (p := 4) (ty := 144) Tryz.results125 _ _ (w.heap.size + 1) 144 X.toArray (0, 0) _ rfl (setRow_heap _ _ _ _ _ _ HS2.out.res) Tryz.underlying144 rfl (by rw [infoA_u64, List.size_toArray, HXl.out])) rfl ⟨by rw [← HX.out, HL.out], below_setRow HS2.out.below (by omega) _⟩
end Go.Proofs.YtgnblaaldpniiaaGreatDoor.Sh
end
