/- Walks of package sha2: a block.
Walks of package sha2: a block goes into the state.
Package sha2 on lists: bytes go into a block one by one. -/
import Derived.Test.YtgnblaaldpniiaaGreatDoorZS1
section
set_option maxRecDepth 100000
set_option linter.unusedVariables false
set_option linter.unusedSimpArgs false
namespace Go.Proofs.YtgnblaaldpniiaaGreatDoor.Sh
open Go.RowKit Go.Lib
def cubesL : List Int := [
  4794697086780616226, 8158064640168781261, 13096744586834688815, 16840607885511220156, 4131703408338449720,
  6480981068601479193, 10538285296894168987, 12329834152419229976, 15566598209576043074, 1334009975649890238,
  2608012711638119052, 6128411473006802146, 8268148722764581231, 9286055187155687089, 11230858885718282805,
  13951009754708518548, 16472876342353939154, 17275323862435702243, 1135362057144423861, 2597628984639134821,
  3308224258029322869, 5365058923640841347, 6679025012923562964, 8573033837759648693, 10970295158949994411,
  12119686244451234320, 12683024718118986047, 13788192230050041572, 14330467153632333762, 15395433587784984357,
  489312712824947311, 1452737877330783856, 2861767655752347644, 3322285676063803686, 5560940570517711597,
  5996557281743188959, 7280758554555802590, 8532644243296465576, 9350256976987008742, 10552545826968843579,
  11727347734174303076, 12113106623233404929, 14000437183269869457, 14369950271660146224, 15101387698204529176,
  15463397548674623760, 17586052441742319658, 1182934255886127544, 1847814050463011016, 2177327727835720531,
  2830643537854262169, 3796741975233480872, 4115178125766777443, 5681478168544905931, 6601373596472566643,
  7507060721942968483, 8399075790359081724, 8693463985226723168, 9568029438360202098, 10144078919501101548,
  10430055236837252648, 11840083180663258601, 13761210420658862357, 14299343276471374635, 14566680578165727644,
  15097957966210449927, 16922976911328602910, 17689382322260857208, 500013540394364858, 748580250866718886,
  1242879168328830382, 1977374033974150939, 2944078676154940804, 3659926193048069267, 4368137639120453308,
  4836135668995329356, 5532061633213252278, 6448918945643986474, 6902733635092675308, 7801388544844847127]
def squaresL : List Int := [
  7640891576956012808, 13503953896175478587, 4354685564936845355, 11912009170470909681, 5840696475078001361,
  11170449401992604703, 2270897969802886507, 6620516959819538809]
def Vars (w : World) : Prop := 1 < w.heap.size ∧ (∀ j, j < 80 → w.cell? ⟨1, j, none⟩ = some (.int .u64 (cubesL.getD j 0))) ∧ (∀ j, j < 8 → w.cell? ⟨0, j, none⟩ = some (.int .u64 (squaresL.getD j 0)))
theorem Vars.below {B : Nat} {w w' : World} (h : Vars w) (hb : Below B w w') (hB : 1 < B) : Vars w' :=
  ⟨Nat.lt_of_lt_of_le h.1 hb.size, fun j hj => (hb.cell (p := ⟨1, j, none⟩) hB).trans (h.2.1 j hj), fun j hj => (hb.cell (p := ⟨0, j, none⟩) (by show 0 < B; omega)).trans (h.2.2 j hj)⟩
theorem Vars.from {w w' : World} (h : Vars w) (hb : Below w.heap.size w w') : Vars w' := h.below hb h.1
def aI (o : Bool) (K : IntKind) (x : Int) : Int := if o = true then tripI K 64 x 28 34 39 else tripI K 32 x 2 13 22
def bI (o : Bool) (K : IntKind) (x : Int) : Int := if o = true then tripI K 64 x 14 18 41 else tripI K 32 x 6 11 25
structure S8I where
  (a b c d e f g h : Int)
def t1I (o : Bool) (K : IntKind) (k w : Int) (s : S8I) : Int :=
  K.wrap (K.wrap (K.wrap (K.wrap (s.h + bI o K s.e) + bits .xor K (bits .and K s.e s.f) (bits .and K (bits .xor K K.max s.e) s.g)) + k) + w)
def t2I (o : Bool) (K : IntKind) (s : S8I) : Int :=
  K.wrap (aI o K s.a + bits .xor K (bits .xor K (bits .and K s.a s.b) (bits .and K s.a s.c)) (bits .and K s.b s.c))
def roundI (o : Bool) (K : IntKind) (k w : Int) (s : S8I) : S8I :=
  ⟨K.wrap (t1I o K k w s + t2I o K s), s.a, s.b, s.c, K.wrap (s.d + t1I o K k w s), s.e, s.f, s.g⟩
def cvI (o : Bool) (x : Int) : Int := if o = true then x else IntKind.u32.wrap x
def kcI (o : Bool) (t : Nat) : Int := if o = true then cubesL.getD t 0 else IntKind.u32.wrap (cubesL.getD t 0 / 4294967296)
def roundsI (o : Bool) (K : IntKind) (ws : List Int) : Nat → Nat → S8I → S8I
  | 0, _, s => s
  | k + 1, t, s => roundsI o K ws k (t + 1) (roundI o K (kcI o t) (ws.getD t 0) s)
def S8I.list (s : S8I) : List Int := [s.a, s.b, s.c, s.d, s.e, s.f, s.g, s.h]
def S8I.of (o : Bool) (l : List Int) : S8I := ⟨cvI o (l.getD 0 0), cvI o (l.getD 1 0), cvI o (l.getD 2 0), cvI o (l.getD 3 0), cvI o (l.getD 4 0), cvI o (l.getD 5 0), cvI o (l.getD 6 0), cvI o (l.getD 7 0)⟩
def addI (o : Bool) (x y : Int) : Int := if o = true then IntKind.u64.wrap (x + y) else IntKind.u64.wrap (IntKind.u32.wrap (IntKind.u32.wrap x + y))
def sumR (o : Bool) (m : List Int) : Nat → Nat → List Int → List Int
  | 0, _, l => l
  | k + 1, i, l => sumR o m k (i + 1) (l.set i (addI o (l.getD i 0) (m.getD i 0)))
def mixI (K : IntKind) (o : Bool) (st : List Int) (bl : List UInt8) : List Int :=
  sumR o (roundsI o K (spreadI K o bl) (rnds o) 0 (S8I.of o st)).list 8 0 st
theorem fillB_length (K : IntKind) : ∀ (r : List UInt8) (i : Nat) (l : List Int), (fillB K r i l).length = l.length
  | [], _, _ => rfl
  | b :: r, i, l => by rw [fillB, fillB_length K r, List.length_set]
theorem fillW_length (K : IntKind) (n : Nat) (bl : List UInt8) : ∀ (k i : Nat) (l : List Int), (fillW K n bl k i l).length = l.length
  | 0, _, _ => rfl
  | k + 1, i, l => by rw [fillW, fillW_length K n bl k, fillB_length]
theorem schR_length (o : Bool) (K : IntKind) : ∀ (k t : Nat) (l : List Int), (schR o K k t l).length = l.length
  | 0, _, _ => rfl
  | k + 1, t, l => by rw [schR, schR_length o K k, List.length_set]
theorem spreadI_length (K : IntKind) (o : Bool) (bl : List UInt8) : (spreadI K o bl).length = 80 := by
  rw [spreadI, schR_length, fillW_length]; simp
structure MxAt (o : Bool) (K : IntKind) (T : TypeId) (w wr : World) (g7 : Nat) (st : List Int) (Z8 X : Array Value) : Prop where
  below : Below w.heap.size w wr
  g7a : w.heap.size + 3 ≤ g7
  g7b : g7 < wr.heap.size
  st : wr.heap[w.heap.size]? = some (.cells (u64I st).toArray 99 (0, 0))
  rule : wr.heap[w.heap.size + 1]? = some (.cells (ruleC o) 105 (0, 0))
  res : wr.heap[w.heap.size + 1 + 1]? = some (.cells Z8 99 (0, 0))
  words : wr.heap[g7]? = some (.cells X T (0, 0))
section
variable {o : Bool} {K : IntKind} {T : TypeId} {w wr wr2 : World} {g7 : Nat} {st : List Int} {Z8 X : Array Value}
theorem MxAt.cell (h : MxAt o K T w wr g7 st Z8 X) (j : Nat) (hj : j < st.length) : wr.cell? ⟨w.heap.size, j, none⟩ = some (.int .u64 (st.getD j 0)) := by
  rw [cell_of_row wr _ _ _ _ _ h.st]
  simp [u64I, hj]
theorem MxAt.fr (h : MxAt o K T w wr g7 st Z8 X) (j : Nat) : wr.frozen? ⟨w.heap.size, j, none⟩ = false := frozen_of_row wr _ j _ _ h.st
theorem MxAt.set (h : MxAt o K T w wr g7 st Z8 X) (j : Nat) (x : Int) : MxAt o K T w (wr.setCell ⟨w.heap.size, j, none⟩ (.int .u64 x)) g7 (st.set j x) Z8 X :=
  ⟨h.below.setCell (Nat.le_refl _) _, h.g7a, by simpa [World.setCell] using h.g7b, by rw [heap_setCell_same wr _ j _ _ _ h.st]; simp [u64I, List.map_set],
    (heap_setCell_other wr _ _ _ (by show w.heap.size + 1 ≠ w.heap.size; omega)).trans h.rule, (heap_setCell_other wr _ _ _ (by show w.heap.size + 1 + 1 ≠ w.heap.size; omega)).trans h.res,
    (heap_setCell_other wr _ _ _ (by have := h.g7a; show g7 ≠ w.heap.size; omega)).trans h.words⟩
theorem MxAt.grow (h : MxAt o K T w wr g7 st Z8 X) (hb : Below wr.heap.size wr wr2) : MxAt o K T w wr2 g7 st Z8 X := by
  have h1 := h.g7a
  have h2 := h.g7b
  exact ⟨h.below.trans (hb.mono (by omega)), h1, Nat.lt_of_lt_of_le h2 hb.size, (hb.block _ (by omega)).trans h.st, (hb.block _ (by omega)).trans h.rule, (hb.block _ (by omega)).trans h.res, (hb.block _ (by omega)).trans h.words⟩
theorem MxAt.drewN (h : MxAt o K T w wr g7 st Z8 X) (k : Nat) : MxAt o K T w (wr.drewN k) g7 st Z8 X := h.grow (below_drewN' (Below.refl _ _) k)
end
theorem infoS : (Tryz.prog.info? 99).map (·.size) = some 8 := by kernel_rfl

theorem turnA_u64 (x : Int) (w : World) : Calls Tryz.prog 126 #[.int .u64 x, .agg #[.int .u64 28, .int .u64 34, .int .u64 39], .int .i64 64] w fun e w' => e = .returned (.int .u64 (aI true .u64 x)) ∧ Below w.heap.size w w' := by
  rw [show aI true .u64 x = tripI .u64 64 x 28 34 39 from if_pos rfl]
  exact turnedThrice_u64 x 28 34 39 w (by omega) (by omega) (by omega)
theorem turnB_u64 (x : Int) (w : World) : Calls Tryz.prog 126 #[.int .u64 x, .agg #[.int .u64 14, .int .u64 18, .int .u64 41], .int .i64 64] w fun e w' => e = .returned (.int .u64 (bI true .u64 x)) ∧ Below w.heap.size w w' := by
  rw [show bI true .u64 x = tripI .u64 64 x 14 18 41 from if_pos rfl]
  exact turnedThrice_u64 x 14 18 41 w (by omega) (by omega) (by omega)
set_option maxRecDepth 100000 in
set_option maxHeartbeats 1600000 in
theorem mixA_u64 (g : Nat) (st : List Int) (bl : List UInt8) (n : Nat) (w : World) (h : HashAt w g true st bl n) (hv : Vars w) (SP : List Int) (hSP : SP.length = 80)
    (cs : ∀ w', HashAt w' g true st bl n → Calls Tryz.prog 125 #[.pointer (some ⟨g, 9, none⟩), .agg (ruleC true)] w' fun e w2 => e = .returned (.agg (kI .u64 SP).toArray) ∧ Below w'.heap.size w' w2) :
    Calls Tryz.prog 105 #[.agg (u64I st).toArray, .pointer (some ⟨g, 9, none⟩), .agg (ruleC true)] w fun e w' => e = .returned (.agg (u64I (sumR true (roundsI true .u64 SP 80 0 (S8I.of true st)).list 8 0 st)).toArray) ∧ Below w.heap.size w w' := by
  have hg := h.lt
  have h1 : 1 < w.heap.size := hv.1
  obtain ⟨s0, s1, s2, s3, s4, s5, s6, s7, rfl⟩ : ∃ s0 s1 s2 s3 s4 s5 s6 s7, st = [s0, s1, s2, s3, s4, s5, s6, s7] := by
    match st, h.s8 with
    | [s0, s1, s2, s3, s4, s5, s6, s7], _ => exact ⟨s0, s1, s2, s3, s4, s5, s6, s7, rfl⟩
  obtain ⟨Z, hZ, hz⟩ := zeroA_u64
  have HZ := Lib.hid hZ
  obtain ⟨Z8, hZ8⟩ : ∃ Z : Array Value, Z = #[.int .u64 0, .int .u64 0, .int .u64 0, .int .u64 0, .int .u64 0, .int .u64 0, .int .u64 0, .int .u64 0] := ⟨_, rfl⟩
  have HZ8 := Lib.hid hZ8
  have HV := Lib.hid hv
  have H := Lib.hid h
  clear hZ hZ8 hv h
  obtain ⟨X, hX⟩ : ∃ X, (kI .u64 SP).toArray = X := ⟨_, rfl⟩
  have hXs : X.size = 80 := by rw [← hX]; simp [kI, hSP]
  have hX1 : X.all (·.oneCell') = true := by rw [← hX]; simp [kI, Value.oneCell']
  replace cs := fun (w' : World) (hb : Below w.heap.size w w') => cs w' (H.out.below hb hg)
  rw [hX] at cs
  have HSP := Lib.hid hSP
  clear hSP
  have CS := Lib.hid cs
  have HX := Lib.hid hX
  have HXs := Lib.hid hXs
  have HX1 := Lib.hid hX1
  clear cs hX hXs hX1
  have cs2 : (u64I [s0, s1, s2, s3, s4, s5, s6, s7]).toArray = #[.int .u64 s0, .int .u64 s1, .int .u64 s2, .int .u64 s3, .int .u64 s4, .int .u64 s5, .int .u64 s6, .int .u64 s7] := rfl
  rw [cs2, ruleC1]
  clear cs2
  go_enter Tryz.func105, Tryz.ntmps105
  go_wp2_with (first
    | (go_at_call 125; rw [← ruleC1]; refine (CS.out _ ((((Below.refl _ _).alloc (Nat.le_refl _) _).alloc (by simp) _).alloc (by simp <;> omega) _)).mono ?_; rintro e w1 ⟨rfl, hb1⟩; have HB1 := Lib.hid hb1; clear hb1)
    | (refine wpList_store_row rfl 144 (.tmp 7) (.tmp 25) rfl w1.heap.size X rfl rfl 144 Z (heap_alloc_new w1 _) ?_ ?_ HX1.out ?_; (rw [infoA_u64, HXs.out]); (rw [HZ.out, HXs.out]; simp [kI])))
  rw [World.setRow_alloc_new]
  have m0 : MxAt true .u64 144 w (w1.alloc (.cells X 144)) w1.heap.size [s0, s1, s2, s3, s4, s5, s6, s7] Z8 X := by
    have hb := HB1.out
    have hz := hb.size
    simp only [World.size_alloc] at hz
    refine ⟨((((Below.refl _ _).alloc (Nat.le_refl _) _).alloc (by simp) _).alloc (by simp <;> omega) _).trans ((hb.mono (by simp <;> omega)).alloc (by omega) _), by omega, by rw [World.size_alloc]; omega, ?_, ?_, ?_, heap_alloc_new w1 _⟩
    · rw [Below.heap_alloc _ _ _ (by omega), hb.block _ (by simp <;> omega), Below.heap_alloc _ _ _ (by simp <;> omega), Below.heap_alloc _ _ _ (by simp)]; exact heap_alloc_new w _
    · rw [Below.heap_alloc _ _ _ (by omega), hb.block _ (by simp <;> omega), Below.heap_alloc _ _ _ (by simp), ← World.size_alloc]; exact heap_alloc_new _ _
    · rw [HZ8.out, Below.heap_alloc _ _ _ (by omega), hb.block _ (by simp <;> omega), ← World.size_alloc, ← World.size_alloc]; exact heap_alloc_new _ _
  generalize w1.alloc (.cells X 144) = w2 at m0 ⊢
  generalize w1.heap.size = g7 at m0 ⊢
  clear HB1 CS
  have e0 := m0.cell 0 (by show _ < 8; omega)
  have e1 := m0.cell 1 (by show _ < 8; omega)
  have e2 := m0.cell 2 (by show _ < 8; omega)
  have e3 := m0.cell 3 (by show _ < 8; omega)
  have e4 := m0.cell 4 (by show _ < 8; omega)
  have e5 := m0.cell 5 (by show _ < 8; omega)
  have e6 := m0.cell 6 (by show _ < 8; omega)
  have e7 := m0.cell 7 (by show _ < 8; omega)
  simp only [List.getD_cons_zero, List.getD_cons_succ] at e0 e1 e2 e3 e4 e5 e6 e7
  have er : w2.cell? ⟨w.heap.size + 1, 1, none⟩ = some (.int .i64 80) := by rw [cell_of_row w2 _ _ _ _ _ m0.rule]; rfl
  have M0 := Lib.hid m0
  clear m0
  go_quiet (fail)
  go_wp2
  go_quiet (fail)
  go_wp2
  have hs0 : (⟨s0, s1, s2, s3, s4, s5, s6, s7⟩ : S8I) = S8I.of true [s0, s1, s2, s3, s4, s5, s6, s7] := rfl
  generalize hSS : S8I.of true [s0, s1, s2, s3, s4, s5, s6, s7] = SS at hs0
  have HSS := Lib.hid hSS
  have Hs0 := Lib.hid hs0
  clear hSS hs0 e0 e1 e2 e3 e4 e5 e6 e7 er
  skip
  go_loopw [8, 9, 10, 11, 12, 13, 14, 15, 44] (fun v8 v9 v10 v11 v12 v13 v14 v15 tv wr => ∃ (t : Nat) (s : S8I), t ≤ 80 ∧ tv = .int .i64 t ∧ v8 = .int .u64 s.a ∧ v9 = .int .u64 s.b ∧ v10 = .int .u64 s.c ∧ v11 = .int .u64 s.d ∧ v12 = .int .u64 s.e ∧ v13 = .int .u64 s.f ∧ v14 = .int .u64 s.g ∧ v15 = .int .u64 s.h ∧ Hid (MxAt true .u64 144 w wr g7 [s0, s1, s2, s3, s4, s5, s6, s7] Z8 X) ∧ Hid (roundsI true .u64 SP (80 - t) t s = roundsI true .u64 SP 80 0 SS)) (fun _ _ _ _ _ _ _ _ tv _ => 80 - (RowKit.intOf tv).toNat)
  case atStart => exact ⟨0, ⟨s0, s1, s2, s3, s4, s5, s6, s7⟩, by omega, rfl, rfl, rfl, rfl, rfl, rfl, rfl, rfl, rfl, M0.out.drewN _, by rw [Hs0.out]; rfl⟩
  case round =>
    obtain ⟨t, s, ht, rfl, rfl, rfl, rfl, rfl, rfl, rfl, rfl, rfl, HM, HR⟩ := hrel
    clear M0
    have er : wr.cell? ⟨w.heap.size + 1, 1, none⟩ = some (.int .i64 80) := by rw [cell_of_row wr _ _ _ _ _ HM.out.rule]; rfl
    by_cases hlt : t < 80
    · as_aux_lemma =>
          obtain ⟨a, b, c, d, e, f, gg, hh⟩ := s
          dsimp only
          obtain ⟨kt, hkt⟩ : ∃ x, kcI true t = x := ⟨_, rfl⟩
          have hct : cubesL.getD t 0 = kt := by rw [← hkt]; rfl
          obtain ⟨wt, hwt⟩ : ∃ x, SP.getD t 0 = x := ⟨_, rfl⟩
          have f0 : wr.cell? ⟨w.heap.size + 1, 0, none⟩ = some (.int .i64 64) := by rw [cell_of_row wr _ _ _ _ _ HM.out.rule]; rfl
          have fk : wr.cell? ⟨1, t, none⟩ = some (.int .u64 kt) := by rw [← hct]; exact (HV.out.below HM.out.below h1).2.1 t (by omega)
          obtain ⟨x1, hx1⟩ : ∃ z, bI true .u64 e = z := ⟨_, rfl⟩
          obtain ⟨q1, hq1⟩ : ∃ z, IntKind.u64.wrap (hh + x1) = z := ⟨_, rfl⟩
          obtain ⟨p1, hp1⟩ : ∃ z, bits .and .u64 e f = z := ⟨_, rfl⟩
          obtain ⟨ne, hne⟩ : ∃ z, bits .xor .u64 IntKind.u64.max e = z := ⟨_, rfl⟩
          obtain ⟨p2, hp2⟩ : ∃ z, bits .and .u64 ne gg = z := ⟨_, rfl⟩
          obtain ⟨p3, hp3⟩ : ∃ z, bits .xor .u64 p1 p2 = z := ⟨_, rfl⟩
          obtain ⟨q2, hq2⟩ : ∃ z, IntKind.u64.wrap (q1 + p3) = z := ⟨_, rfl⟩
          obtain ⟨q3, hq3⟩ : ∃ z, IntKind.u64.wrap (q2 + kt) = z := ⟨_, rfl⟩
          obtain ⟨t1, ht1⟩ : ∃ z, IntKind.u64.wrap (q3 + wt) = z := ⟨_, rfl⟩
          obtain ⟨y1, hy1⟩ : ∃ z, aI true .u64 a = z := ⟨_, rfl⟩
          obtain ⟨m1, hm1⟩ : ∃ z, bits .and .u64 a b = z := ⟨_, rfl⟩
          obtain ⟨m2, hm2⟩ : ∃ z, bits .and .u64 a c = z := ⟨_, rfl⟩
          obtain ⟨m3, hm3⟩ : ∃ z, bits .xor .u64 m1 m2 = z := ⟨_, rfl⟩
          obtain ⟨m4, hm4⟩ : ∃ z, bits .and .u64 b c = z := ⟨_, rfl⟩
          obtain ⟨m5, hm5⟩ : ∃ z, bits .xor .u64 m3 m4 = z := ⟨_, rfl⟩
          obtain ⟨t2, ht2⟩ : ∃ z, IntKind.u64.wrap (y1 + m5) = z := ⟨_, rfl⟩
          obtain ⟨ee, hee⟩ : ∃ z, IntKind.u64.wrap (d + t1) = z := ⟨_, rfl⟩
          obtain ⟨aa, haa⟩ : ∃ z, IntKind.u64.wrap (t1 + t2) = z := ⟨_, rfl⟩
          have hround : roundI true .u64 kt wt ⟨a, b, c, d, e, f, gg, hh⟩ = ⟨aa, a, b, c, ee, e, f, gg⟩ := by
            unfold roundI t1I t2I; dsimp only; rw [hx1, hq1, hp1, hne, hp2, hp3, hq2, hq3, ht1, hy1, hm1, hm2, hm3, hm4, hm5, ht2, hee, haa]
          replace hround := Lib.hid hround
          have cB := fun w => turnB_u64 e w
          rw [hx1] at cB
          replace cB := Lib.hid cB
          have cA := fun w => turnA_u64 a w
          rw [hy1] at cA
          replace cA := Lib.hid cA
          clear hx1 hy1
          have gne : bits .xor .u64 (if IntKind.u64.signed = true then -1 else IntKind.u64.max) e = ne := hne
          replace hkt := Lib.hid hkt
          replace hct := Lib.hid hct
          replace hwt := Lib.hid hwt
          go_wp2
          go_quiet (fail)
          have HMq := HM.out.drewN nq
          generalize wr.drewN nq = wq at HMq ⊢
          have hM : ∀ u : Held (From wq.drew), MxAt true .u64 144 w u.w g7 [s0, s1, s2, s3, s4, s5, s6, s7] Z8 X := fun u => HMq.grow u.h.of_drew
          have r0 : ∀ u : Held (From wq.drew), u.w.cell? ⟨w.heap.size + 1, 0, none⟩ = some (.int .i64 64) := fun u => by rw [cell_of_row _ _ _ _ _ _ (hM u).rule]; rfl
          have r5 : ∀ u : Held (From wq.drew), u.w.cell? ⟨w.heap.size + 1, 5, none⟩ = some (.int .u64 14) := fun u => by rw [cell_of_row _ _ _ _ _ _ (hM u).rule]; rfl
          have r6 : ∀ u : Held (From wq.drew), u.w.cell? ⟨w.heap.size + 1, 6, none⟩ = some (.int .u64 18) := fun u => by rw [cell_of_row _ _ _ _ _ _ (hM u).rule]; rfl
          have r7 : ∀ u : Held (From wq.drew), u.w.cell? ⟨w.heap.size + 1, 7, none⟩ = some (.int .u64 41) := fun u => by rw [cell_of_row _ _ _ _ _ _ (hM u).rule]; rfl
          have rw : ∀ u : Held (From wq.drew), u.w.cell? ⟨g7, t, none⟩ = some (.int .u64 wt) := fun u => by
            rw [cell_of_row _ _ _ _ _ _ (hM u).words, ← HX.out, ← hwt.out]
            simp [kI, HSP.out, show t < 80 by omega]
          replace hM := Lib.hid hM
          go_wp2
          refine wp_region_from (by kernel_rfl) (by kernel_rfl) ?_
          repeat (go_big_quiet_step ((go_at_call 126; exact held_call _ (cB.out _))))
          refine wpQuiet_nil ?_
          intro w5 hw5
          have HM5 := HMq.grow hw5.of_drew
          clear hM r0 r5 r6 r7 rw fk f0 er
          have r0 : w5.cell? ⟨w.heap.size + 1, 0, none⟩ = some (.int .i64 64) := by rw [cell_of_row _ _ _ _ _ _ HM5.rule]; rfl
          have r2 : w5.cell? ⟨w.heap.size + 1, 2, none⟩ = some (.int .u64 28) := by rw [cell_of_row _ _ _ _ _ _ HM5.rule]; rfl
          have r3 : w5.cell? ⟨w.heap.size + 1, 3, none⟩ = some (.int .u64 34) := by rw [cell_of_row _ _ _ _ _ _ HM5.rule]; rfl
          have r4 : w5.cell? ⟨w.heap.size + 1, 4, none⟩ = some (.int .u64 39) := by rw [cell_of_row _ _ _ _ _ _ HM5.rule]; rfl
          go_wp2_with (go_at_call 126; refine (cA.out _).mono ?_; rintro e6 w6 ⟨rfl, hb6⟩)
          go_roundw
          case rel => exact ⟨t + 1, ⟨aa, a, b, c, ee, e, f, gg⟩, by omega, by go_num, rfl, rfl, rfl, rfl, rfl, rfl, rfl, rfl, HM5.grow hb6, by
            have h := HR.out
            rw [show 80 - t = (80 - (t + 1)) + 1 by omega, roundsI, hkt.out, hwt.out, hround.out] at h
            exact h⟩
          case measure => simp [RowKit.intOf]; omega
    · skip
      obtain rfl : t = 80 := by omega
      have hS : s = roundsI true .u64 SP 80 0 SS := by rw [← HR.out, Nat.sub_self]; rfl
      obtain ⟨a, b, c, d, e, f, gg, hh⟩ := s
      dsimp only
      have HL := Lib.hid (congrArg S8I.list hS)
      clear hS HR
      have hix : ∀ (i : Nat), i < 8 → ∀ w', (Instr.index 99 (.agg #[.int .u64 a, .int .u64 b, .int .u64 c, .int .u64 d, .int .u64 e, .int .u64 f, .int .u64 gg, .int .u64 hh]) (.int .i64 i)).run Tryz.prog w' = .ok (.int .u64 ([a, b, c, d, e, f, gg, hh].getD i 0)) w' := by
        intro i hi w'
        rcases (show i = 0 ∨ i = 1 ∨ i = 2 ∨ i = 3 ∨ i = 4 ∨ i = 5 ∨ i = 6 ∨ i = 7 by omega) with rfl | rfl | rfl | rfl | rfl | rfl | rfl | rfl
        all_goals kernel_rfl
      replace hix := Lib.hid hix
      have hml : [a, b, c, d, e, f, gg, hh] = (roundsI true .u64 SP 80 0 (S8I.of true [s0, s1, s2, s3, s4, s5, s6, s7])).list := by rw [HSS.out]; exact HL.out
      have HML := Lib.hid hml
      clear hml HL HSS Hs0
      go_wp2
      have HM9 := HM.out.grow ((Below.refl _ _).alloc (Nat.le_refl _) (.cells #[.int .u64 a, .int .u64 b, .int .u64 c, .int .u64 d, .int .u64 e, .int .u64 f, .int .u64 gg, .int .u64 hh] 99))
      generalize wr.alloc (.cells #[.int .u64 a, .int .u64 b, .int .u64 c, .int .u64 d, .int .u64 e, .int .u64 f, .int .u64 gg, .int .u64 hh] 99) = wo at HM9 ⊢
      generalize [a, b, c, d, e, f, gg, hh] = ml at hix HML
      generalize hst : [s0, s1, s2, s3, s4, s5, s6, s7] = st at HM9
      have HST := Lib.hid hst
      have h8 : st.length = 8 := by rw [← hst]; rfl
      replace h8 := Lib.hid h8
      replace HM9 := Lib.hid HM9
      clear hst HM er
      go_loopw [118] (fun v wr => ∃ (i : Nat) (l : List Int), i ≤ 8 ∧ v = .int .i64 i ∧ Hid (l.length = 8) ∧ Hid (MxAt true .u64 144 w wr g7 l Z8 X) ∧ Hid (sumR true ml (8 - i) i l = sumR true ml 8 0 st)) (fun v _ => 8 - (RowKit.intOf v).toNat)
      case atStart => exact ⟨0, st, by omega, rfl, h8.out, HM9.out, rfl⟩
      case round =>
        obtain ⟨i, l, hi, rfl, hl, HM, HR⟩ := hrel
        clear HM9
        by_cases hlt : i < 8
        · replace hix := hix.out i hlt
          obtain ⟨x, hx⟩ : ∃ x, ml.getD i 0 = x := ⟨_, rfl⟩
          obtain ⟨si, hsi⟩ : ∃ x, l.getD i 0 = x := ⟨_, rfl⟩
          rw [hx] at hix
          obtain ⟨c3, h3⟩ : ∃ z, IntKind.u64.wrap (si + x) = z := ⟨_, rfl⟩
          have g3 : (si + x) % 18446744073709551616 = c3 := h3
          have hadd : addI true si x = c3 := by unfold addI; rw [if_pos rfl, h3]
          replace hadd := Lib.hid hadd
          have fc := HM.out.cell i (by rw [hl.out]; exact hlt)
          rw [hsi] at fc
          have ff := HM.out.fr i
          replace hx := Lib.hid hx
          replace hsi := Lib.hid hsi
          go_wp2
          go_roundw
          case rel => exact ⟨i + 1, l.set i c3, by omega, by go_num, by rw [List.length_set]; exact hl.out, HM.out.set i c3, by
            have h := HR.out
            rw [show 8 - i = (8 - (i + 1)) + 1 by omega, sumR, hsi.out, hx.out, hadd.out] at h
            exact h⟩
          case measure => simp [RowKit.intOf]; omega
        · obtain rfl : i = 8 := by omega
          have hL : l = sumR true (roundsI true .u64 SP 80 0 (S8I.of true st)).list 8 0 st := by
            rw [← HST.out, ← HML.out, HST.out, ← HR.out]; rfl
          have hrow := HM.out.st
          generalize hY : u64I l = Y at hrow
          have hYl : Y.length = 8 := by rw [← hY, u64I_length]; exact hl.out
          have hY1 : Y.toArray.all (·.oneCell') = true := by rw [← hY]; simp [u64I, Value.oneCell']
          have hZs : Z8.size = 8 := by rw [HZ8.out]; rfl
          have Hrow := Lib.hid hrow
          have HY := Lib.hid (hY.symm.trans (congrArg u64I (hL.trans (by rw [← HST.out]))))
          have HYl := Lib.hid hYl
          have HY1 := Lib.hid hY1
          have HZs := Lib.hid hZs
          clear hrow hL hY hYl hY1 hZs HR
          go_wp2_with (first
            | (refine wpList_load_row rfl 99 (.tmp 3) rfl w.heap.size rfl 99 Y.toArray (0, 0) _ Hrow.out Tryz.underlying99 rfl ?_ ?_; (rw [infoS, List.size_toArray, HYl.out]))
            | (refine wpList_store_row rfl 99 (.tmp 6) (.tmp 130) rfl (w.heap.size + 1 + 1) Y.toArray rfl rfl 99 Z8 HM.out.res ?_ ?_ HY1.out ?_; (rw [infoS, List.size_toArray, HYl.out]); (rw [HZs.out, List.size_toArray, HYl.out])))
          refine bodyPost_ret (results_cell_row (p := 6) (ty := 99) Tryz.results105 _ _ (w.heap.size + 1 + 1) 99 Y.toArray (0, 0) _ rfl (setRow_heap _ _ _ _ _ _ HM.out.res) Tryz.underlying99 rfl (by rw [infoS, List.size_toArray, HYl.out])) rfl ⟨by rw [HY.out], below_setRow HM.out.below (by omega) _⟩
theorem mix_u64 (g : Nat) (st : List Int) (bl : List UInt8) (n : Nat) (w : World) (h : HashAt w g true st bl n) (hv : Vars w) :
    Calls Tryz.prog 105 #[.agg (u64I st).toArray, .pointer (some ⟨g, 9, none⟩), .agg (ruleC true)] w fun e w' => e = .returned (.agg (u64I (mixI .u64 true st bl)).toArray) ∧ Below w.heap.size w w' :=
  mixA_u64 g st bl n w h hv (spreadI .u64 true bl) (spreadI_length _ _ _) (fun w' h' => spread_u64 g st bl n w' h')
end Go.Proofs.YtgnblaaldpniiaaGreatDoor.Sh
end
section
set_option maxRecDepth 100000
set_option linter.unusedVariables false
set_option linter.unusedSimpArgs false
namespace Go.Proofs.YtgnblaaldpniiaaGreatDoor.Sh
open Go.RowKit Go.Lib
theorem eight {α : Type} {st : List α} (h : st.length = 8) : ∃ s0 s1 s2 s3 s4 s5 s6 s7, st = [s0, s1, s2, s3, s4, s5, s6, s7] := by
  match st, h with
  | [s0, s1, s2, s3, s4, s5, s6, s7], _ => exact ⟨s0, s1, s2, s3, s4, s5, s6, s7, rfl⟩
theorem sumR_length (o : Bool) (m : List Int) : ∀ (k i : Nat) (l : List Int), (sumR o m k i l).length = l.length
  | 0, _, _ => rfl
  | k + 1, i, l => by rw [sumR, sumR_length o m k, List.length_set]
def Chg (g : Nat) (w w' : World) : Prop := w.grownBy w' (some g)
section
variable {g : Nat} {a b c w w' : World}
theorem Chg.of_below (h : Below a.heap.size a b) : Chg g a b := ⟨h.os, h.tape, h.output, h.size, fun i hi _ => h.block i hi⟩
theorem Chg.refl (w : World) : Chg g w w := Chg.of_below (Below.refl _ _)
theorem Chg.trans (h : Chg g a b) (k : Chg g b c) : Chg g a c :=
  ⟨k.os.trans h.os, k.tape.trans h.tape, k.output.trans h.output, Nat.le_trans h.size k.size, fun i hi hne => (k.block i (Nat.lt_of_lt_of_le hi h.size) hne).trans (h.block i hi hne)⟩
theorem Chg.setCell (h : Chg g a b) (j : Nat) (u : Value) : Chg g a (b.setCell ⟨g, j, none⟩ u) :=
  ⟨h.os, h.tape, h.output, by simpa [World.setCell] using h.size, fun i hi hne => (Below.heap_setCell b ⟨g, j, none⟩ u i (fun e => hne (by rw [e]))).trans (h.block i hi hne)⟩
theorem Chg.setCells (h : Chg g a b) : ∀ (vs : List Value) (o : Nat), Chg g a (b.setCells g o vs) := by
  intro vs
  induction vs generalizing b with
  | nil => intro _; exact h
  | cons v r ih => intro o; exact ih (h.setCell o v) _
theorem Chg.below {B : Nat} (h : Below B a b) (k : Chg g b c) (hB : B ≤ b.heap.size) (hg : B ≤ g) : Below B a c := h.grown k hB (fun _ e => by injection e with e; omega)
theorem Chg.vars (h : Chg g w w') (hv : Vars w) (hg : 1 < g) : Vars w' := by
  have h1 := hv.1
  refine ⟨Nat.lt_of_lt_of_le h1 h.size, fun j hj => ?_, fun j hj => ?_⟩
  · exact (World.cell?_of_block (w := w) (h.block 1 h1 (by intro e; injection e; omega))).trans (hv.2.1 j hj)
  · exact (World.cell?_of_block (w := w) (h.block 0 (by omega) (by intro e; injection e; omega))).trans (hv.2.2 j hj)
theorem Chg.hash {o : Bool} {st : List Int} {bl : List UInt8} {n g' : Nat} (h : Chg g w w') (hh : HashAt w g' o st bl n) (hne : g' ≠ g) : HashAt w' g' o st bl n :=
  hh.of_heap (h.block g' hh.lt (by intro e; injection e; omega))
end
section
variable {w : World} {g : Nat} {o : Bool} {st st' : List Int} {bl : List UInt8} {n : Nat}
theorem HashAt.setState (h : HashAt w g o st bl n) (h8 : st'.length = 8) : HashAt (w.setCells g 1 (u64I st').toArray.toList) g o st' bl n := by
  obtain ⟨t0, t1, t2, t3, t4, t5, t6, t7, rfl⟩ : ∃ s0 s1 s2 s3 s4 s5 s6 s7, st' = [s0, s1, s2, s3, s4, s5, s6, s7] := by
    match st', h8 with
    | [s0, s1, s2, s3, s4, s5, s6, s7], _ => exact ⟨s0, s1, s2, s3, s4, s5, s6, s7, rfl⟩
  obtain ⟨s0, s1, s2, s3, s4, s5, s6, s7, rfl⟩ : ∃ s0 s1 s2 s3 s4 s5 s6 s7, st = [s0, s1, s2, s3, s4, s5, s6, s7] := by
    match st, h.s8 with
    | [s0, s1, s2, s3, s4, s5, s6, s7], _ => exact ⟨s0, s1, s2, s3, s4, s5, s6, s7, rfl⟩
  refine ⟨?_, rfl, h.b128⟩
  simp only [u64I, List.map_cons, List.map_nil, World.setCells]
  refine (heap_setCell_same _ _ _ _ _ _ (heap_setCell_same _ _ _ _ _ _ (heap_setCell_same _ _ _ _ _ _ (heap_setCell_same _ _ _ _ _ _ (heap_setCell_same _ _ _ _ _ _ (heap_setCell_same _ _ _ _ _ _ (heap_setCell_same _ _ _ _ _ _ (heap_setCell_same _ _ _ _ _ _ h.blk)))))))).trans ?_
  simp [hashL, u64I]
end

set_option maxRecDepth 100000 in
set_option maxHeartbeats 1600000 in
theorem mixBlock_u64 (g : Nat) (st : List Int) (bl : List UInt8) (n : Nat) (w : World) (h : HashAt w g true st bl n) (hv : Vars w) :
    Calls Tryz.prog 85 #[.pointer (some ⟨g, 0, none⟩)] w fun e w' => e = .returned (.tuple #[]) ∧ HashAt w' g true (mixI .u64 true st bl) bl n ∧ Chg g w w' := by
  obtain ⟨s0, s1, s2, s3, s4, s5, s6, s7, rfl⟩ := eight h.s8
  have hl8 : (mixI .u64 true [s0, s1, s2, s3, s4, s5, s6, s7] bl).length = 8 := by rw [mixI, sumR_length]; exact h.s8
  obtain ⟨Y, hY⟩ : ∃ Y, u64I (mixI .u64 true [s0, s1, s2, s3, s4, s5, s6, s7] bl) = Y := ⟨_, rfl⟩
  have hYl : Y.length = 8 := by rw [← hY, u64I_length]; exact hl8
  have hY1 : Y.toArray.all (·.oneCell') = true := by rw [← hY]; simp [u64I, Value.oneCell']
  have cm := fun (w' : World) (h' : HashAt w' g true [s0, s1, s2, s3, s4, s5, s6, s7] bl n) (hv' : Vars w') => mix_u64 g [s0, s1, s2, s3, s4, s5, s6, s7] bl n w' h' hv'
  rw [hY] at cm
  generalize mixI .u64 true [s0, s1, s2, s3, s4, s5, s6, s7] bl = M at hl8 hY ⊢
  have cs2 : (u64I [s0, s1, s2, s3, s4, s5, s6, s7]).toArray = #[.int .u64 s0, .int .u64 s1, .int .u64 s2, .int .u64 s3, .int .u64 s4, .int .u64 s5, .int .u64 s6, .int .u64 s7] := rfl
  rw [cs2, ruleC1] at cm
  have CM := Lib.hid cm
  have HY := Lib.hid hY
  have HYl := Lib.hid hYl
  have HM8 := Lib.hid hl8
  have HY1 := Lib.hid hY1
  have H := Lib.hid h
  have HV := Lib.hid hv
  clear cm hY hYl hY1 hl8 cs2
  have hk : w.cell? ⟨g, 0, none⟩ = some (.int .i64 1) := h.kind
  have hlt := h.lt
  clear h hv
  have ca := fun w => ruleOf_any true w
  rw [show kd true = 1 from rfl, ruleC1] at ca
  have CA := Lib.hid ca
  clear ca
  go_enter Tryz.func85, Tryz.ntmps85
  go_wp2_with (go_at_call 83; refine (CA.out _).mono ?_; rintro e w1 ⟨rfl, hb1⟩; have hk1 : w1.cell? ⟨g, 0, none⟩ = some (.int .i64 1) := (hb1.cell (p := ⟨g, 0, none⟩) hlt).trans hk; have hlt1 : g < w1.heap.size := Nat.lt_of_lt_of_le hlt hb1.size; replace hb1 := Lib.hid hb1)
  have hq : Below w.heap.size w (w1.alloc (.cells #[.int .i64 64, .int .i64 80, .int .u64 28, .int .u64 34, .int .u64 39, .int .u64 14, .int .u64 18, .int .u64 41, .int .u64 1, .int .u64 8, .int .u64 7, .int .u64 19, .int .u64 61, .int .u64 6] 105)) := hb1.out.alloc hb1.out.size _
  have hrule : (w1.alloc (.cells #[.int .i64 64, .int .i64 80, .int .u64 28, .int .u64 34, .int .u64 39, .int .u64 14, .int .u64 18, .int .u64 41, .int .u64 1, .int .u64 8, .int .u64 7, .int .u64 19, .int .u64 61, .int .u64 6] 105)).heap[w1.heap.size]? = some (.cells #[.int .i64 64, .int .i64 80, .int .u64 28, .int .u64 34, .int .u64 39, .int .u64 14, .int .u64 18, .int .u64 41, .int .u64 1, .int .u64 8, .int .u64 7, .int .u64 19, .int .u64 61, .int .u64 6] 105 (0, 0)) := heap_alloc_new w1 _
  have hgr : w1.heap.size < (w1.alloc (.cells #[.int .i64 64, .int .i64 80, .int .u64 28, .int .u64 34, .int .u64 39, .int .u64 14, .int .u64 18, .int .u64 41, .int .u64 1, .int .u64 8, .int .u64 7, .int .u64 19, .int .u64 61, .int .u64 6] 105)).heap.size := by simp
  generalize w1.alloc (.cells #[.int .i64 64, .int .i64 80, .int .u64 28, .int .u64 34, .int .u64 39, .int .u64 14, .int .u64 18, .int .u64 41, .int .u64 1, .int .u64 8, .int .u64 7, .int .u64 19, .int .u64 61, .int .u64 6] 105) = wq at hq hrule hgr ⊢
  have hgw : w.heap.size ≤ w1.heap.size := hb1.out.size
  clear hb1 hk1 hlt1
  generalize w1.heap.size = gr at hrule hgr hgw ⊢
  have hH : ∀ u : Held (From wq.drew), HashAt u.w g true [s0, s1, s2, s3, s4, s5, s6, s7] bl n := fun u => (H.out.from hq).below u.h.of_drew (Nat.lt_of_lt_of_le hlt hq.size)
  have hV : ∀ u : Held (From wq.drew), Vars u.w := fun u => (HV.out.from hq).from u.h.of_drew
  have r0 : ∀ u : Held (From wq.drew), u.w.cell? ⟨gr, 0, none⟩ = some (.int .i64 64) := fun u => by rw [cell_of_row _ _ _ _ _ _ ((u.h.of_drew.block gr hgr).trans hrule)]; rfl
  have r1 : ∀ u : Held (From wq.drew), u.w.cell? ⟨gr, 1, none⟩ = some (.int .i64 80) := fun u => by rw [cell_of_row _ _ _ _ _ _ ((u.h.of_drew.block gr hgr).trans hrule)]; rfl
  have r2 : ∀ u : Held (From wq.drew), u.w.cell? ⟨gr, 2, none⟩ = some (.int .u64 28) := fun u => by rw [cell_of_row _ _ _ _ _ _ ((u.h.of_drew.block gr hgr).trans hrule)]; rfl
  have r3 : ∀ u : Held (From wq.drew), u.w.cell? ⟨gr, 3, none⟩ = some (.int .u64 34) := fun u => by rw [cell_of_row _ _ _ _ _ _ ((u.h.of_drew.block gr hgr).trans hrule)]; rfl
  have r4 : ∀ u : Held (From wq.drew), u.w.cell? ⟨gr, 4, none⟩ = some (.int .u64 39) := fun u => by rw [cell_of_row _ _ _ _ _ _ ((u.h.of_drew.block gr hgr).trans hrule)]; rfl
  have r5 : ∀ u : Held (From wq.drew), u.w.cell? ⟨gr, 5, none⟩ = some (.int .u64 14) := fun u => by rw [cell_of_row _ _ _ _ _ _ ((u.h.of_drew.block gr hgr).trans hrule)]; rfl
  have r6 : ∀ u : Held (From wq.drew), u.w.cell? ⟨gr, 6, none⟩ = some (.int .u64 18) := fun u => by rw [cell_of_row _ _ _ _ _ _ ((u.h.of_drew.block gr hgr).trans hrule)]; rfl
  have r7 : ∀ u : Held (From wq.drew), u.w.cell? ⟨gr, 7, none⟩ = some (.int .u64 41) := fun u => by rw [cell_of_row _ _ _ _ _ _ ((u.h.of_drew.block gr hgr).trans hrule)]; rfl
  have r8 : ∀ u : Held (From wq.drew), u.w.cell? ⟨gr, 8, none⟩ = some (.int .u64 1) := fun u => by rw [cell_of_row _ _ _ _ _ _ ((u.h.of_drew.block gr hgr).trans hrule)]; rfl
  have r9 : ∀ u : Held (From wq.drew), u.w.cell? ⟨gr, 9, none⟩ = some (.int .u64 8) := fun u => by rw [cell_of_row _ _ _ _ _ _ ((u.h.of_drew.block gr hgr).trans hrule)]; rfl
  have r10 : ∀ u : Held (From wq.drew), u.w.cell? ⟨gr, 10, none⟩ = some (.int .u64 7) := fun u => by rw [cell_of_row _ _ _ _ _ _ ((u.h.of_drew.block gr hgr).trans hrule)]; rfl
  have r11 : ∀ u : Held (From wq.drew), u.w.cell? ⟨gr, 11, none⟩ = some (.int .u64 19) := fun u => by rw [cell_of_row _ _ _ _ _ _ ((u.h.of_drew.block gr hgr).trans hrule)]; rfl
  have r12 : ∀ u : Held (From wq.drew), u.w.cell? ⟨gr, 12, none⟩ = some (.int .u64 61) := fun u => by rw [cell_of_row _ _ _ _ _ _ ((u.h.of_drew.block gr hgr).trans hrule)]; rfl
  have r13 : ∀ u : Held (From wq.drew), u.w.cell? ⟨gr, 13, none⟩ = some (.int .u64 6) := fun u => by rw [cell_of_row _ _ _ _ _ _ ((u.h.of_drew.block gr hgr).trans hrule)]; rfl
  have q0 : ∀ u : Held (From wq.drew), u.w.cell? ⟨g, 1, none⟩ = some (.int .u64 s0) := fun u => (hH u).state 0 (by omega)
  have q1 : ∀ u : Held (From wq.drew), u.w.cell? ⟨g, 2, none⟩ = some (.int .u64 s1) := fun u => (hH u).state 1 (by omega)
  have q2 : ∀ u : Held (From wq.drew), u.w.cell? ⟨g, 3, none⟩ = some (.int .u64 s2) := fun u => (hH u).state 2 (by omega)
  have q3 : ∀ u : Held (From wq.drew), u.w.cell? ⟨g, 4, none⟩ = some (.int .u64 s3) := fun u => (hH u).state 3 (by omega)
  have q4 : ∀ u : Held (From wq.drew), u.w.cell? ⟨g, 5, none⟩ = some (.int .u64 s4) := fun u => (hH u).state 4 (by omega)
  have q5 : ∀ u : Held (From wq.drew), u.w.cell? ⟨g, 6, none⟩ = some (.int .u64 s5) := fun u => (hH u).state 5 (by omega)
  have q6 : ∀ u : Held (From wq.drew), u.w.cell? ⟨g, 7, none⟩ = some (.int .u64 s6) := fun u => (hH u).state 6 (by omega)
  have q7 : ∀ u : Held (From wq.drew), u.w.cell? ⟨g, 8, none⟩ = some (.int .u64 s7) := fun u => (hH u).state 7 (by omega)
  replace hH := Lib.hid hH
  replace hV := Lib.hid hV
  replace hq := Lib.hid hq
  replace hrule := Lib.hid hrule
  refine wp_region_from_tail 12 (by kernel_rfl) (by kernel_rfl) ?_
  simp only [List.take_succ_cons, List.take_zero, List.drop_succ_cons, List.drop_zero]
  repeat (go_big_quiet_step ((go_at_call 105; exact held_call _ (CM.out _ (hH.out _) (hV.out _)))))
  refine wpQuiet_nil ?_
  intro w5 hw5
  have H5 := (H.out.from hq.out).below hw5.of_drew (Nat.lt_of_lt_of_le hlt hq.out.size)
  have hb5 := hq.out.trans (hw5.of_drew.mono hq.out.size)
  have ht : w5.there g 1 8 := fun j hj => ⟨by rw [H5.state j hj]; rfl, H5.frozen _⟩
  clear r0 r1 r2 r3 r4 r5 r6 r7 r8 r9 r10 r11 r12 r13 q0 q1 q2 q3 q4 q5 q6 q7 hH hV
  replace H5 := Lib.hid H5
  replace hb5 := Lib.hid hb5
  replace ht := Lib.hid ht
  go_wp2_with (refine wpList_store_mid rfl 99 (.tmp 36) (.tmp 34) rfl g 1 Y.toArray rfl rfl ?_ ?_ HY1.out ?_; (rw [List.size_toArray, HYl.out]; exact ht.out); (rw [infoS, List.size_toArray, HYl.out]))
  go_end0
  refine ⟨rfl, ?_, ?_⟩
  · rw [← HY.out]; exact H5.out.setState HM8.out
  · exact Chg.setCells (Chg.of_below hb5.out) _ _
end Go.Proofs.YtgnblaaldpniiaaGreatDoor.Sh
end
section
set_option maxRecDepth 100000
set_option linter.unusedVariables false
set_option linter.unusedSimpArgs false
namespace Go.Proofs.YtgnblaaldpniiaaGreatDoor.Sh
open Go.RowKit Go.Lib
def KI (o : Bool) : IntKind := if o = true then .u64 else .u32
def room (o : Bool) : Nat := 2 * wdI o
theorem room_pos (o : Bool) : 0 < room o := by cases o <;> decide
theorem room_le (o : Bool) : room o ≤ 128 := by cases o <;> decide
structure FS where
  st : List Int
  bl : List UInt8
  f : Nat
def stepF (o : Bool) (s : FS) (b : UInt8) : FS :=
  if s.f + 1 = room o then ⟨mixI (KI o) o s.st (s.bl.set s.f b), s.bl.set s.f b, 0⟩ else ⟨s.st, s.bl.set s.f b, s.f + 1⟩
def feed (o : Bool) (s : FS) (l : List UInt8) : FS := l.foldl (stepF o) s
theorem feed_append (o : Bool) (s : FS) (a b : List UInt8) : feed o s (a ++ b) = feed o (feed o s a) b := List.foldl_append
theorem feed_nil (o : Bool) (s : FS) : feed o s [] = s := rfl
theorem mixI_length (K : IntKind) (o : Bool) (st : List Int) (bl : List UInt8) : (mixI K o st bl).length = st.length := by rw [mixI, sumR_length]
def putB : List UInt8 → Nat → List UInt8 → List UInt8
  | bl, _, [] => bl
  | bl, f, b :: p => putB (bl.set f b) (f + 1) p
theorem putB_length : ∀ (p : List UInt8) (bl : List UInt8) (f : Nat), (putB bl f p).length = bl.length
  | [], _, _ => rfl
  | b :: p, bl, f => by rw [putB, putB_length p, List.length_set]
theorem feed_part (o : Bool) : ∀ (p : List UInt8) (s : FS), s.f + p.length < room o → feed o s p = ⟨s.st, putB s.bl s.f p, s.f + p.length⟩
  | [], s, _ => rfl
  | b :: p, s, h => by
    simp only [List.length_cons] at h
    have h1 : stepF o s b = ⟨s.st, s.bl.set s.f b, s.f + 1⟩ := by unfold stepF; rw [if_neg (by omega)]
    show feed o (stepF o s b) p = _
    rw [h1, feed_part o p _ (by show s.f + 1 + p.length < _; omega), List.length_cons]
    simp only [putB]
    congr 1
    omega
theorem feed_full (o : Bool) : ∀ (p : List UInt8) (s : FS), p ≠ [] → s.f + p.length = room o → feed o s p = ⟨mixI (KI o) o s.st (putB s.bl s.f p), putB s.bl s.f p, 0⟩
  | [], _, h, _ => absurd rfl h
  | [b], s, _, h => by
    show stepF o s b = _
    unfold stepF
    rw [if_pos (show s.f + 1 = room o from h)]
    rfl
  | b :: c :: p, s, _, h => by
    simp only [List.length_cons] at h
    have h1 : stepF o s b = ⟨s.st, s.bl.set s.f b, s.f + 1⟩ := by unfold stepF; rw [if_neg (by omega)]
    show feed o (stepF o s b) (c :: p) = _
    rw [h1, feed_full o (c :: p) _ (by simp) (by simp only [List.length_cons]; omega)]
    rfl
theorem feed_f (o : Bool) : ∀ (l : List UInt8) (s : FS), s.f < room o → (feed o s l).f = (s.f + l.length) % room o
  | [], s, h => by simp [feed, Nat.mod_eq_of_lt h]
  | b :: l, s, h => by
    show (feed o (stepF o s b) l).f = _
    unfold stepF
    by_cases hc : s.f + 1 = room o
    · rw [if_pos hc, feed_f o l _ (room_pos o)]
      simp only [List.length_cons, Nat.zero_add]
      rw [show s.f + (l.length + 1) = l.length + room o by omega, Nat.add_mod_right]
    · rw [if_neg hc, feed_f o l _ (by show s.f + 1 < _; omega)]
      congr 1
      simp only [List.length_cons]
      omega
theorem feed_st (o : Bool) : ∀ (l : List UInt8) (s : FS), (feed o s l).st.length = s.st.length
  | [], _ => rfl
  | b :: l, s => by
    show (feed o (stepF o s b) l).st.length = _
    rw [feed_st o l]
    unfold stepF
    split
    · exact mixI_length _ _ _ _
    · rfl
theorem run_copy_str {P : Program} (w : World) (dT sT ty elem : TypeId) (b o dLen dCap : Nat) (t : ByteArray) (n : Nat) (hn : n = min t.size dLen)
    (hu : P.underlying dT = some (.slice elem)) (hz : ∀ w, (Go.sizeOf elem).run P w = .ok 1 w)
    (hc : ∀ j, j < n → (w.cell? ⟨b, o + j, none⟩).isSome = true) (hf : ∀ j, j < n → w.frozen? ⟨b, o + j, none⟩ = false) :
    (Builtin.copy_ #[dT, sT] ty #[.slice (some ⟨b, o, none⟩) dLen dCap, .string t]).run P w = .ok (goInt n) (w.setCells b o (byteCells (t.data.toList.take n))) := by
  have hm : Nat.min t.size dLen = n := hn.symm
  have hl : (byteCells (t.data.toList.take n)).length = n := by rw [byteCells_length, List.length_take, ← Lib.size_eq]; omega
  have hst := run_storeCells_cells (P := P) b o (byteCells (t.data.toList.take n)) 0 w (by rw [hl]; simpa using hc) (by rw [hl]; simpa using hf) (by
    intro v hv
    simp only [byteCells, List.mem_map] at hv
    obtain ⟨x, _, rfl⟩ := hv
    rfl)
  simp [Builtin.copy_, run_underlying hu, Builtin.lenOf, Builtin.firstCells, hz, hm]
  rw [← List.map_take, show List.map (fun b : UInt8 => Value.int IntKind.u8 (b.toNat : Int)) (t.data.toList.take n) = byteCells (t.data.toList.take n) from rfl, hst]
  rfl
end Go.Proofs.YtgnblaaldpniiaaGreatDoor.Sh
end
