/- Walks of package sha2: a block. -/
import Derived.Test.YtbkaemekcjinaaaDoorS4
namespace Go.Proofs.YtbkaemekcjinaaaDoor
open Go.RowKit Go.Lib
def cubesL : List Int := [
  4794697086780616226, 8158064640168781261, 13096744586834688815, 16840607885511220156, 4131703408338449720,
  6480981068601479193, 10538285296894168987, 12329834152419229976, 15566598209576043074, 1334009975649890238,
  2608012711638119052, 6128411473006802146, 8268148722764581231, 9286055187155687089, 11230858885718282805,
  13951009754708518548, 16472876342353939154, 17275323862435702243, 1135362057144423861, 2597628984639134821,
  3308224258029322869, 5365058923640841347, 6679025012923562964, 8573033837759648693, 10970295158949994411,
  12119686244451234320, 12683024718118986047, 13788192230050041572, 14330467153632333762, 15395433587784984357,
  489312712824947311, 1452737877330783856, 2861767655752347644, 3322285676063803686, 5560940570517711597,
  5996557281743188959, 7280758554555802590, 8532644243296465576, 9350256976987008742, 10552545826968843579,
  11727347734174303076, 12113106623233404929, 14000437183269869457, 14369950271660146224, 15101387698204529176,
  15463397548674623760, 17586052441742319658, 1182934255886127544, 1847814050463011016, 2177327727835720531,
  2830643537854262169, 3796741975233480872, 4115178125766777443, 5681478168544905931, 6601373596472566643,
  7507060721942968483, 8399075790359081724, 8693463985226723168, 9568029438360202098, 10144078919501101548,
  10430055236837252648, 11840083180663258601, 13761210420658862357, 14299343276471374635, 14566680578165727644,
  15097957966210449927, 16922976911328602910, 17689382322260857208, 500013540394364858, 748580250866718886,
  1242879168328830382, 1977374033974150939, 2944078676154940804, 3659926193048069267, 4368137639120453308,
  4836135668995329356, 5532061633213252278, 6448918945643986474, 6902733635092675308, 7801388544844847127]
def squaresL : List Int := [
  7640891576956012808, 13503953896175478587, 4354685564936845355, 11912009170470909681, 5840696475078001361,
  11170449401992604703, 2270897969802886507, 6620516959819538809]
/-- The constants as the program lays them. -/
def Vars (w : World) : Prop := 1 < w.heap.size ∧ (∀ j, j < 80 → w.cell? ⟨1, j, none⟩ = some (.int .u64 (cubesL.getD j 0))) ∧ (∀ j, j < 8 → w.cell? ⟨0, j, none⟩ = some (.int .u64 (squaresL.getD j 0)))
theorem Vars.below {B : Nat} {w w' : World} (h : Vars w) (hb : Below B w w') (hB : 1 < B) : Vars w' :=
  ⟨Nat.lt_of_lt_of_le h.1 hb.size, fun j hj => (hb.cell (p := ⟨1, j, none⟩) hB).trans (h.2.1 j hj), fun j hj => (hb.cell (p := ⟨0, j, none⟩) (by show 0 < B; omega)).trans (h.2.2 j hj)⟩
theorem Vars.from {w w' : World} (h : Vars w) (hb : Below w.heap.size w w') : Vars w' := h.below hb h.1
/-- The rotation counts A and B. -/
def aI (o : Bool) (K : IntKind) (x : Int) : Int := if o = true then tripI K 64 x 28 34 39 else tripI K 32 x 2 13 22
def bI (o : Bool) (K : IntKind) (x : Int) : Int := if o = true then tripI K 64 x 14 18 41 else tripI K 32 x 6 11 25
structure S8I where
  (a b c d e f g h : Int)
def t1I (o : Bool) (K : IntKind) (k w : Int) (s : S8I) : Int :=
  K.wrap (K.wrap (K.wrap (K.wrap (s.h + bI o K s.e) + bits .xor K (bits .and K s.e s.f) (bits .and K (bits .xor K K.max s.e) s.g)) + k) + w)
def t2I (o : Bool) (K : IntKind) (s : S8I) : Int :=
  K.wrap (aI o K s.a + bits .xor K (bits .xor K (bits .and K s.a s.b) (bits .and K s.a s.c)) (bits .and K s.b s.c))
def roundI (o : Bool) (K : IntKind) (k w : Int) (s : S8I) : S8I :=
  ⟨K.wrap (t1I o K k w s + t2I o K s), s.a, s.b, s.c, K.wrap (s.d + t1I o K k w s), s.e, s.f, s.g⟩
def cvI (o : Bool) (x : Int) : Int := if o = true then x else IntKind.u32.wrap x
def kcI (o : Bool) (t : Nat) : Int := if o = true then cubesL.getD t 0 else IntKind.u32.wrap (cubesL.getD t 0 / 4294967296)
def roundsI (o : Bool) (K : IntKind) (ws : List Int) : Nat → Nat → S8I → S8I
  | 0, _, s => s
  | k + 1, t, s => roundsI o K ws k (t + 1) (roundI o K (kcI o t) (ws.getD t 0) s)
def S8I.list (s : S8I) : List Int := [s.a, s.b, s.c, s.d, s.e, s.f, s.g, s.h]
def S8I.of (o : Bool) (l : List Int) : S8I := ⟨cvI o (l.getD 0 0), cvI o (l.getD 1 0), cvI o (l.getD 2 0), cvI o (l.getD 3 0), cvI o (l.getD 4 0), cvI o (l.getD 5 0), cvI o (l.getD 6 0), cvI o (l.getD 7 0)⟩
def addI (o : Bool) (x y : Int) : Int := if o = true then IntKind.u64.wrap (x + y) else IntKind.u64.wrap (IntKind.u32.wrap (IntKind.u32.wrap x + y))
def sumR (o : Bool) (m : List Int) : Nat → Nat → List Int → List Int
  | 0, _, l => l
  | k + 1, i, l => sumR o m k (i + 1) (l.set i (addI o (l.getD i 0) (m.getD i 0)))
def mixI (K : IntKind) (o : Bool) (st : List Int) (bl : List UInt8) : List Int :=
  sumR o (roundsI o K (spreadI K o bl) (rnds o) 0 (S8I.of o st)).list 8 0 st
theorem fillB_length (K : IntKind) : ∀ (r : List UInt8) (i : Nat) (l : List Int), (fillB K r i l).length = l.length
  | [], _, _ => rfl
  | b :: r, i, l => by rw [fillB, fillB_length K r, List.length_set]
theorem fillW_length (K : IntKind) (n : Nat) (bl : List UInt8) : ∀ (k i : Nat) (l : List Int), (fillW K n bl k i l).length = l.length
  | 0, _, _ => rfl
  | k + 1, i, l => by rw [fillW, fillW_length K n bl k, fillB_length]
theorem schR_length (o : Bool) (K : IntKind) : ∀ (k t : Nat) (l : List Int), (schR o K k t l).length = l.length
  | 0, _, _ => rfl
  | k + 1, t, l => by rw [schR, schR_length o K k, List.length_set]
theorem spreadI_length (K : IntKind) (o : Bool) (bl : List UInt8) : (spreadI K o bl).length = 80 := by
  rw [spreadI, schR_length, fillW_length]; simp
/-- The world of the walk: the state, the rule, the result, the words. -/
structure MxAt (o : Bool) (K : IntKind) (T : TypeId) (w wr : World) (g7 : Nat) (st : List Int) (Z8 X : Array Value) : Prop where
  below : Below w.heap.size w wr
  g7a : w.heap.size + 3 ≤ g7
  g7b : g7 < wr.heap.size
  st : wr.heap[w.heap.size]? = some (.cells (u64I st).toArray 47 (0, 0))
  rule : wr.heap[w.heap.size + 1]? = some (.cells (ruleC o) 53 (0, 0))
  res : wr.heap[w.heap.size + 1 + 1]? = some (.cells Z8 47 (0, 0))
  words : wr.heap[g7]? = some (.cells X T (0, 0))
section
variable {o : Bool} {K : IntKind} {T : TypeId} {w wr wr2 : World} {g7 : Nat} {st : List Int} {Z8 X : Array Value}
theorem MxAt.cell (h : MxAt o K T w wr g7 st Z8 X) (j : Nat) (hj : j < st.length) : wr.cell? ⟨w.heap.size, j, none⟩ = some (.int .u64 (st.getD j 0)) := by
  rw [cell_of_row wr _ _ _ _ _ h.st]
  simp [u64I, hj]
theorem MxAt.fr (h : MxAt o K T w wr g7 st Z8 X) (j : Nat) : wr.frozen? ⟨w.heap.size, j, none⟩ = false := frozen_of_row wr _ j _ _ h.st
theorem MxAt.set (h : MxAt o K T w wr g7 st Z8 X) (j : Nat) (x : Int) : MxAt o K T w (wr.setCell ⟨w.heap.size, j, none⟩ (.int .u64 x)) g7 (st.set j x) Z8 X :=
  ⟨h.below.setCell (Nat.le_refl _) _, h.g7a, by simpa [World.setCell] using h.g7b, by rw [heap_setCell_same wr _ j _ _ _ h.st]; simp [u64I, List.map_set],
    (heap_setCell_other wr _ _ _ (by show w.heap.size + 1 ≠ w.heap.size; omega)).trans h.rule, (heap_setCell_other wr _ _ _ (by show w.heap.size + 1 + 1 ≠ w.heap.size; omega)).trans h.res,
    (heap_setCell_other wr _ _ _ (by have := h.g7a; show g7 ≠ w.heap.size; omega)).trans h.words⟩
theorem MxAt.grow (h : MxAt o K T w wr g7 st Z8 X) (hb : Below wr.heap.size wr wr2) : MxAt o K T w wr2 g7 st Z8 X := by
  have h1 := h.g7a
  have h2 := h.g7b
  exact ⟨h.below.trans (hb.mono (by omega)), h1, Nat.lt_of_lt_of_le h2 hb.size, (hb.block _ (by omega)).trans h.st, (hb.block _ (by omega)).trans h.rule, (hb.block _ (by omega)).trans h.res, (hb.block _ (by omega)).trans h.words⟩
theorem MxAt.drewN (h : MxAt o K T w wr g7 st Z8 X) (k : Nat) : MxAt o K T w (wr.drewN k) g7 st Z8 X := h.grow (below_drewN' (Below.refl _ _) k)
end
theorem infoS : (Tryd.prog.info? 47).map (·.size) = some 8 := by kernel_rfl

theorem turnA_u32 (x : Int) (w : World) : Calls Tryd.prog 34 #[.int .u32 x, .agg #[.int .u64 2, .int .u64 13, .int .u64 22], .int .i64 32] w fun e w' => e = .returned (.int .u32 (aI false .u32 x)) ∧ Below w.heap.size w w' := by
  rw [show aI false .u32 x = tripI .u32 32 x 2 13 22 from if_neg (by decide)]
  exact turnedThrice_u32 x 2 13 22 w (by omega) (by omega) (by omega)
theorem turnB_u32 (x : Int) (w : World) : Calls Tryd.prog 34 #[.int .u32 x, .agg #[.int .u64 6, .int .u64 11, .int .u64 25], .int .i64 32] w fun e w' => e = .returned (.int .u32 (bI false .u32 x)) ∧ Below w.heap.size w w' := by
  rw [show bI false .u32 x = tripI .u32 32 x 6 11 25 from if_neg (by decide)]
  exact turnedThrice_u32 x 6 11 25 w (by omega) (by omega) (by omega)
set_option maxRecDepth 100000 in
set_option maxHeartbeats 1600000 in
theorem mixA_u32 (g : Nat) (st : List Int) (bl : List UInt8) (n : Nat) (w : World) (h : HashAt w g false st bl n) (hv : Vars w) (SP : List Int) (hSP : SP.length = 80)
    (cs : ∀ w', HashAt w' g false st bl n → Calls Tryd.prog 33 #[.pointer (some ⟨g, 9, none⟩), .agg (ruleC false)] w' fun e w2 => e = .returned (.agg (kI .u32 SP).toArray) ∧ Below w'.heap.size w' w2) :
    Calls Tryd.prog 26 #[.agg (u64I st).toArray, .pointer (some ⟨g, 9, none⟩), .agg (ruleC false)] w fun e w' => e = .returned (.agg (u64I (sumR false (roundsI false .u32 SP 64 0 (S8I.of false st)).list 8 0 st)).toArray) ∧ Below w.heap.size w w' := by
  have hg := h.lt
  have h1 : 1 < w.heap.size := hv.1
  obtain ⟨s0, s1, s2, s3, s4, s5, s6, s7, rfl⟩ : ∃ s0 s1 s2 s3 s4 s5 s6 s7, st = [s0, s1, s2, s3, s4, s5, s6, s7] := by
    match st, h.s8 with
    | [s0, s1, s2, s3, s4, s5, s6, s7], _ => exact ⟨s0, s1, s2, s3, s4, s5, s6, s7, rfl⟩
  obtain ⟨Z, hZ, hz⟩ := zeroA_u32
  have HZ := Lib.hid hZ
  obtain ⟨Z8, hZ8⟩ : ∃ Z : Array Value, Z = #[.int .u64 0, .int .u64 0, .int .u64 0, .int .u64 0, .int .u64 0, .int .u64 0, .int .u64 0, .int .u64 0] := ⟨_, rfl⟩
  have HZ8 := Lib.hid hZ8
  have HV := Lib.hid hv
  have H := Lib.hid h
  clear hZ hZ8 hv h
  obtain ⟨X, hX⟩ : ∃ X, (kI .u32 SP).toArray = X := ⟨_, rfl⟩
  have hXs : X.size = 80 := by rw [← hX]; simp [kI, hSP]
  have hX1 : X.all (·.oneCell') = true := by rw [← hX]; simp [kI, Value.oneCell']
  replace cs := fun (w' : World) (hb : Below w.heap.size w w') => cs w' (H.out.below hb hg)
  rw [hX] at cs
  have HSP := Lib.hid hSP
  clear hSP
  have CS := Lib.hid cs
  have HX := Lib.hid hX
  have HXs := Lib.hid hXs
  have HX1 := Lib.hid hX1
  clear cs hX hXs hX1
  have cs2 : (u64I [s0, s1, s2, s3, s4, s5, s6, s7]).toArray = #[.int .u64 s0, .int .u64 s1, .int .u64 s2, .int .u64 s3, .int .u64 s4, .int .u64 s5, .int .u64 s6, .int .u64 s7] := rfl
  rw [cs2, ruleC0]
  clear cs2
  go_enter Tryd.func26, Tryd.ntmps26
  go_wp2_with (first
    | (go_at_call 33; rw [← ruleC0]; refine (CS.out _ ((((Below.refl _ _).alloc (Nat.le_refl _) _).alloc (by simp) _).alloc (by simp <;> omega) _)).mono ?_; rintro e w1 ⟨rfl, hb1⟩; have HB1 := Lib.hid hb1; clear hb1)
    | (refine wpList_store_row rfl 72 (.tmp 7) (.tmp 25) rfl w1.heap.size X rfl rfl 72 Z (heap_alloc_new w1 _) ?_ ?_ HX1.out ?_; (rw [infoA_u32, HXs.out]); (rw [HZ.out, HXs.out]; simp [kI])))
  rw [World.setRow_alloc_new]
  have m0 : MxAt false .u32 72 w (w1.alloc (.cells X 72)) w1.heap.size [s0, s1, s2, s3, s4, s5, s6, s7] Z8 X := by
    have hb := HB1.out
    have hz := hb.size
    simp only [World.size_alloc] at hz
    refine ⟨((((Below.refl _ _).alloc (Nat.le_refl _) _).alloc (by simp) _).alloc (by simp <;> omega) _).trans ((hb.mono (by simp <;> omega)).alloc (by omega) _), by omega, by rw [World.size_alloc]; omega, ?_, ?_, ?_, heap_alloc_new w1 _⟩
    · rw [Below.heap_alloc _ _ _ (by omega), hb.block _ (by simp <;> omega), Below.heap_alloc _ _ _ (by simp <;> omega), Below.heap_alloc _ _ _ (by simp)]; exact heap_alloc_new w _
    · rw [Below.heap_alloc _ _ _ (by omega), hb.block _ (by simp <;> omega), Below.heap_alloc _ _ _ (by simp), ← World.size_alloc]; exact heap_alloc_new _ _
    · rw [HZ8.out, Below.heap_alloc _ _ _ (by omega), hb.block _ (by simp <;> omega), ← World.size_alloc, ← World.size_alloc]; exact heap_alloc_new _ _
  generalize w1.alloc (.cells X 72) = w2 at m0 ⊢
  generalize w1.heap.size = g7 at m0 ⊢
  clear HB1 CS
  have e0 := m0.cell 0 (by show _ < 8; omega)
  have e1 := m0.cell 1 (by show _ < 8; omega)
  have e2 := m0.cell 2 (by show _ < 8; omega)
  have e3 := m0.cell 3 (by show _ < 8; omega)
  have e4 := m0.cell 4 (by show _ < 8; omega)
  have e5 := m0.cell 5 (by show _ < 8; omega)
  have e6 := m0.cell 6 (by show _ < 8; omega)
  have e7 := m0.cell 7 (by show _ < 8; omega)
  simp only [List.getD_cons_zero, List.getD_cons_succ] at e0 e1 e2 e3 e4 e5 e6 e7
  have er : w2.cell? ⟨w.heap.size + 1, 1, none⟩ = some (.int .i64 64) := by rw [cell_of_row w2 _ _ _ _ _ m0.rule]; rfl
  have M0 := Lib.hid m0
  clear m0
  obtain ⟨a0, ha0⟩ : ∃ a, IntKind.u32.wrap s0 = a := ⟨_, rfl⟩
  obtain ⟨a1, ha1⟩ : ∃ a, IntKind.u32.wrap s1 = a := ⟨_, rfl⟩
  obtain ⟨a2, ha2⟩ : ∃ a, IntKind.u32.wrap s2 = a := ⟨_, rfl⟩
  obtain ⟨a3, ha3⟩ : ∃ a, IntKind.u32.wrap s3 = a := ⟨_, rfl⟩
  obtain ⟨a4, ha4⟩ : ∃ a, IntKind.u32.wrap s4 = a := ⟨_, rfl⟩
  obtain ⟨a5, ha5⟩ : ∃ a, IntKind.u32.wrap s5 = a := ⟨_, rfl⟩
  obtain ⟨a6, ha6⟩ : ∃ a, IntKind.u32.wrap s6 = a := ⟨_, rfl⟩
  obtain ⟨a7, ha7⟩ : ∃ a, IntKind.u32.wrap s7 = a := ⟨_, rfl⟩
  have hb0 : s0 % 4294967296 = a0 := ha0
  have hb1 : s1 % 4294967296 = a1 := ha1
  have hb2 : s2 % 4294967296 = a2 := ha2
  have hb3 : s3 % 4294967296 = a3 := ha3
  have hb4 : s4 % 4294967296 = a4 := ha4
  have hb5 : s5 % 4294967296 = a5 := ha5
  have hb6 : s6 % 4294967296 = a6 := ha6
  have hb7 : s7 % 4294967296 = a7 := ha7
  go_quiet (fail)
  go_wp2
  go_quiet (fail)
  go_wp2
  have hs0 : (⟨a0, a1, a2, a3, a4, a5, a6, a7⟩ : S8I) = S8I.of false [s0, s1, s2, s3, s4, s5, s6, s7] := by rw [← ha0, ← ha1, ← ha2, ← ha3, ← ha4, ← ha5, ← ha6, ← ha7]; rfl
  generalize hSS : S8I.of false [s0, s1, s2, s3, s4, s5, s6, s7] = SS at hs0
  have HSS := Lib.hid hSS
  have Hs0 := Lib.hid hs0
  clear hSS hs0 e0 e1 e2 e3 e4 e5 e6 e7 er
  clear ha0 hb0 ha1 hb1 ha2 hb2 ha3 hb3 ha4 hb4 ha5 hb5 ha6 hb6 ha7 hb7
  go_loopw [8, 9, 10, 11, 12, 13, 14, 15, 52] (fun v8 v9 v10 v11 v12 v13 v14 v15 tv wr => ∃ (t : Nat) (s : S8I), t ≤ 64 ∧ tv = .int .i64 t ∧ v8 = .int .u32 s.a ∧ v9 = .int .u32 s.b ∧ v10 = .int .u32 s.c ∧ v11 = .int .u32 s.d ∧ v12 = .int .u32 s.e ∧ v13 = .int .u32 s.f ∧ v14 = .int .u32 s.g ∧ v15 = .int .u32 s.h ∧ Hid (MxAt false .u32 72 w wr g7 [s0, s1, s2, s3, s4, s5, s6, s7] Z8 X) ∧ Hid (roundsI false .u32 SP (64 - t) t s = roundsI false .u32 SP 64 0 SS)) (fun _ _ _ _ _ _ _ _ tv _ => 64 - (intOf tv).toNat)
  case atStart => exact ⟨0, ⟨a0, a1, a2, a3, a4, a5, a6, a7⟩, by omega, rfl, rfl, rfl, rfl, rfl, rfl, rfl, rfl, rfl, M0.out.drewN _, by rw [Hs0.out]; rfl⟩
  case round =>
    obtain ⟨t, s, ht, rfl, rfl, rfl, rfl, rfl, rfl, rfl, rfl, rfl, HM, HR⟩ := hrel
    clear M0
    have er : wr.cell? ⟨w.heap.size + 1, 1, none⟩ = some (.int .i64 64) := by rw [cell_of_row wr _ _ _ _ _ HM.out.rule]; rfl
    by_cases hlt : t < 64
    · as_aux_lemma =>
          obtain ⟨a, b, c, d, e, f, gg, hh⟩ := s
          dsimp only
          obtain ⟨kt, hkt⟩ : ∃ x, kcI false t = x := ⟨_, rfl⟩
          obtain ⟨ct, hct⟩ : ∃ x, cubesL.getD t 0 = x := ⟨_, rfl⟩
          have k1 : IntKind.u32.wrap (ct / 4294967296) = kt := by rw [← hct, ← hkt]; rfl
          have k2 : ct / 4294967296 % 4294967296 = kt := k1
          obtain ⟨wt, hwt⟩ : ∃ x, SP.getD t 0 = x := ⟨_, rfl⟩
          have f0 : wr.cell? ⟨w.heap.size + 1, 0, none⟩ = some (.int .i64 32) := by rw [cell_of_row wr _ _ _ _ _ HM.out.rule]; rfl
          have fk : wr.cell? ⟨1, t, none⟩ = some (.int .u64 ct) := by rw [← hct]; exact (HV.out.below HM.out.below h1).2.1 t (by omega)
          replace k1 := Lib.hid k1
          replace k2 := Lib.hid k2
          obtain ⟨x1, hx1⟩ : ∃ z, bI false .u32 e = z := ⟨_, rfl⟩
          obtain ⟨q1, hq1⟩ : ∃ z, IntKind.u32.wrap (hh + x1) = z := ⟨_, rfl⟩
          obtain ⟨p1, hp1⟩ : ∃ z, bits .and .u32 e f = z := ⟨_, rfl⟩
          obtain ⟨ne, hne⟩ : ∃ z, bits .xor .u32 IntKind.u32.max e = z := ⟨_, rfl⟩
          obtain ⟨p2, hp2⟩ : ∃ z, bits .and .u32 ne gg = z := ⟨_, rfl⟩
          obtain ⟨p3, hp3⟩ : ∃ z, bits .xor .u32 p1 p2 = z := ⟨_, rfl⟩
          obtain ⟨q2, hq2⟩ : ∃ z, IntKind.u32.wrap (q1 + p3) = z := ⟨_, rfl⟩
          obtain ⟨q3, hq3⟩ : ∃ z, IntKind.u32.wrap (q2 + kt) = z := ⟨_, rfl⟩
          obtain ⟨t1, ht1⟩ : ∃ z, IntKind.u32.wrap (q3 + wt) = z := ⟨_, rfl⟩
          obtain ⟨y1, hy1⟩ : ∃ z, aI false .u32 a = z := ⟨_, rfl⟩
          obtain ⟨m1, hm1⟩ : ∃ z, bits .and .u32 a b = z := ⟨_, rfl⟩
          obtain ⟨m2, hm2⟩ : ∃ z, bits .and .u32 a c = z := ⟨_, rfl⟩
          obtain ⟨m3, hm3⟩ : ∃ z, bits .xor .u32 m1 m2 = z := ⟨_, rfl⟩
          obtain ⟨m4, hm4⟩ : ∃ z, bits .and .u32 b c = z := ⟨_, rfl⟩
          obtain ⟨m5, hm5⟩ : ∃ z, bits .xor .u32 m3 m4 = z := ⟨_, rfl⟩
          obtain ⟨t2, ht2⟩ : ∃ z, IntKind.u32.wrap (y1 + m5) = z := ⟨_, rfl⟩
          obtain ⟨ee, hee⟩ : ∃ z, IntKind.u32.wrap (d + t1) = z := ⟨_, rfl⟩
          obtain ⟨aa, haa⟩ : ∃ z, IntKind.u32.wrap (t1 + t2) = z := ⟨_, rfl⟩
          have hround : roundI false .u32 kt wt ⟨a, b, c, d, e, f, gg, hh⟩ = ⟨aa, a, b, c, ee, e, f, gg⟩ := by
            unfold roundI t1I t2I; dsimp only; rw [hx1, hq1, hp1, hne, hp2, hp3, hq2, hq3, ht1, hy1, hm1, hm2, hm3, hm4, hm5, ht2, hee, haa]
          replace hround := Lib.hid hround
          have cB := fun w => turnB_u32 e w
          rw [hx1] at cB
          replace cB := Lib.hid cB
          have cA := fun w => turnA_u32 a w
          rw [hy1] at cA
          replace cA := Lib.hid cA
          clear hx1 hy1
          have gq1 : (hh + x1) % 4294967296 = q1 := hq1
          have gne : bits .xor .u32 (if IntKind.u32.signed = true then -1 else IntKind.u32.max) e = ne := hne
          have gq2 : (q1 + p3) % 4294967296 = q2 := hq2
          have gq3 : (q2 + kt) % 4294967296 = q3 := hq3
          have gt1 : (q3 + wt) % 4294967296 = t1 := ht1
          have gt2 : (y1 + m5) % 4294967296 = t2 := ht2
          have gee : (d + t1) % 4294967296 = ee := hee
          have gaa : (t1 + t2) % 4294967296 = aa := haa
          replace hkt := Lib.hid hkt
          replace hct := Lib.hid hct
          replace hwt := Lib.hid hwt
          go_wp2
          replace k1 := k1.out
          replace k2 := k2.out
          go_quiet (fail)
          have HMq := HM.out.drewN nq
          generalize wr.drewN nq = wq at HMq ⊢
          have hM : ∀ u : Held (From wq.drew), MxAt false .u32 72 w u.w g7 [s0, s1, s2, s3, s4, s5, s6, s7] Z8 X := fun u => HMq.grow u.h.of_drew
          have r0 : ∀ u : Held (From wq.drew), u.w.cell? ⟨w.heap.size + 1, 0, none⟩ = some (.int .i64 32) := fun u => by rw [cell_of_row _ _ _ _ _ _ (hM u).rule]; rfl
          have r5 : ∀ u : Held (From wq.drew), u.w.cell? ⟨w.heap.size + 1, 5, none⟩ = some (.int .u64 6) := fun u => by rw [cell_of_row _ _ _ _ _ _ (hM u).rule]; rfl
          have r6 : ∀ u : Held (From wq.drew), u.w.cell? ⟨w.heap.size + 1, 6, none⟩ = some (.int .u64 11) := fun u => by rw [cell_of_row _ _ _ _ _ _ (hM u).rule]; rfl
          have r7 : ∀ u : Held (From wq.drew), u.w.cell? ⟨w.heap.size + 1, 7, none⟩ = some (.int .u64 25) := fun u => by rw [cell_of_row _ _ _ _ _ _ (hM u).rule]; rfl
          have rw : ∀ u : Held (From wq.drew), u.w.cell? ⟨g7, t, none⟩ = some (.int .u32 wt) := fun u => by
            rw [cell_of_row _ _ _ _ _ _ (hM u).words, ← HX.out, ← hwt.out]
            simp [kI, HSP.out, show t < 80 by omega]
          replace hM := Lib.hid hM
          go_wp2
          refine wp_region_from (by kernel_rfl) (by kernel_rfl) ?_
          repeat (go_big_quiet_step ((go_at_call 34; exact held_call _ (cB.out _))))
          refine wpQuiet_nil ?_
          intro w5 hw5
          have HM5 := HMq.grow hw5.of_drew
          clear hM r0 r5 r6 r7 rw fk f0 er
          have r0 : w5.cell? ⟨w.heap.size + 1, 0, none⟩ = some (.int .i64 32) := by rw [cell_of_row _ _ _ _ _ _ HM5.rule]; rfl
          have r2 : w5.cell? ⟨w.heap.size + 1, 2, none⟩ = some (.int .u64 2) := by rw [cell_of_row _ _ _ _ _ _ HM5.rule]; rfl
          have r3 : w5.cell? ⟨w.heap.size + 1, 3, none⟩ = some (.int .u64 13) := by rw [cell_of_row _ _ _ _ _ _ HM5.rule]; rfl
          have r4 : w5.cell? ⟨w.heap.size + 1, 4, none⟩ = some (.int .u64 22) := by rw [cell_of_row _ _ _ _ _ _ HM5.rule]; rfl
          go_wp2_with (go_at_call 34; refine (cA.out _).mono ?_; rintro e6 w6 ⟨rfl, hb6⟩)
          go_roundw
          case rel => exact ⟨t + 1, ⟨aa, a, b, c, ee, e, f, gg⟩, by omega, by go_num, rfl, rfl, rfl, rfl, rfl, rfl, rfl, rfl, HM5.grow hb6, by
            have h := HR.out
            rw [show 64 - t = (64 - (t + 1)) + 1 by omega, roundsI, hkt.out, hwt.out, hround.out] at h
            exact h⟩
          case measure => simp [intOf]; omega
    · skip
      obtain rfl : t = 64 := by omega
      have hS : s = roundsI false .u32 SP 64 0 SS := by rw [← HR.out, Nat.sub_self]; rfl
      obtain ⟨a, b, c, d, e, f, gg, hh⟩ := s
      dsimp only
      have HL := Lib.hid (congrArg S8I.list hS)
      clear hS HR
      have hix : ∀ (i : Nat), i < 8 → ∀ w', (Instr.index 76 (.agg #[.int .u32 a, .int .u32 b, .int .u32 c, .int .u32 d, .int .u32 e, .int .u32 f, .int .u32 gg, .int .u32 hh]) (.int .i64 i)).run Tryd.prog w' = .ok (.int .u32 ([a, b, c, d, e, f, gg, hh].getD i 0)) w' := by
        intro i hi w'
        rcases (show i = 0 ∨ i = 1 ∨ i = 2 ∨ i = 3 ∨ i = 4 ∨ i = 5 ∨ i = 6 ∨ i = 7 by omega) with rfl | rfl | rfl | rfl | rfl | rfl | rfl | rfl
        all_goals kernel_rfl
      replace hix := Lib.hid hix
      have hml : [a, b, c, d, e, f, gg, hh] = (roundsI false .u32 SP 64 0 (S8I.of false [s0, s1, s2, s3, s4, s5, s6, s7])).list := by rw [HSS.out]; exact HL.out
      have HML := Lib.hid hml
      clear hml HL HSS Hs0
      go_wp2
      have HM9 := HM.out.grow ((Below.refl _ _).alloc (Nat.le_refl _) (.cells #[.int .u32 a, .int .u32 b, .int .u32 c, .int .u32 d, .int .u32 e, .int .u32 f, .int .u32 gg, .int .u32 hh] 76))
      generalize wr.alloc (.cells #[.int .u32 a, .int .u32 b, .int .u32 c, .int .u32 d, .int .u32 e, .int .u32 f, .int .u32 gg, .int .u32 hh] 76) = wo at HM9 ⊢
      generalize [a, b, c, d, e, f, gg, hh] = ml at hix HML
      generalize hst : [s0, s1, s2, s3, s4, s5, s6, s7] = st at HM9
      have HST := Lib.hid hst
      have h8 : st.length = 8 := by rw [← hst]; rfl
      replace h8 := Lib.hid h8
      replace HM9 := Lib.hid HM9
      clear hst HM er
      go_loopw [127] (fun v wr => ∃ (i : Nat) (l : List Int), i ≤ 8 ∧ v = .int .i64 i ∧ Hid (l.length = 8) ∧ Hid (MxAt false .u32 72 w wr g7 l Z8 X) ∧ Hid (sumR false ml (8 - i) i l = sumR false ml 8 0 st)) (fun v _ => 8 - (intOf v).toNat)
      case atStart => exact ⟨0, st, by omega, rfl, h8.out, HM9.out, rfl⟩
      case round =>
        obtain ⟨i, l, hi, rfl, hl, HM, HR⟩ := hrel
        clear HM9
        by_cases hlt : i < 8
        · replace hix := hix.out i hlt
          obtain ⟨x, hx⟩ : ∃ x, ml.getD i 0 = x := ⟨_, rfl⟩
          obtain ⟨si, hsi⟩ : ∃ x, l.getD i 0 = x := ⟨_, rfl⟩
          rw [hx] at hix
          obtain ⟨c1, h1⟩ : ∃ z, IntKind.u32.wrap si = z := ⟨_, rfl⟩
          obtain ⟨c2, h2⟩ : ∃ z, IntKind.u32.wrap (c1 + x) = z := ⟨_, rfl⟩
          obtain ⟨c3, h3⟩ : ∃ z, IntKind.u64.wrap c2 = z := ⟨_, rfl⟩
          have g1 : si % 4294967296 = c1 := h1
          have g2 : (c1 + x) % 4294967296 = c2 := h2
          have g3 : c2 % 18446744073709551616 = c3 := h3
          have hadd : addI false si x = c3 := by unfold addI; rw [if_neg (by decide), h1, h2, h3]
          replace hadd := Lib.hid hadd
          have fc := HM.out.cell i (by rw [hl.out]; exact hlt)
          rw [hsi] at fc
          have ff := HM.out.fr i
          replace hx := Lib.hid hx
          replace hsi := Lib.hid hsi
          go_wp2
          go_roundw
          case rel => exact ⟨i + 1, l.set i c3, by omega, by go_num, by rw [List.length_set]; exact hl.out, HM.out.set i c3, by
            have h := HR.out
            rw [show 8 - i = (8 - (i + 1)) + 1 by omega, sumR, hsi.out, hx.out, hadd.out] at h
            exact h⟩
          case measure => simp [intOf]; omega
        · obtain rfl : i = 8 := by omega
          have hL : l = sumR false (roundsI false .u32 SP 64 0 (S8I.of false st)).list 8 0 st := by
            rw [← HST.out, ← HML.out, HST.out, ← HR.out]; rfl
          have hrow := HM.out.st
          generalize hY : u64I l = Y at hrow
          have hYl : Y.length = 8 := by rw [← hY, u64I_length]; exact hl.out
          have hY1 : Y.toArray.all (·.oneCell') = true := by rw [← hY]; simp [u64I, Value.oneCell']
          have hZs : Z8.size = 8 := by rw [HZ8.out]; rfl
          have Hrow := Lib.hid hrow
          have HY := Lib.hid (hY.symm.trans (congrArg u64I (hL.trans (by rw [← HST.out]))))
          have HYl := Lib.hid hYl
          have HY1 := Lib.hid hY1
          have HZs := Lib.hid hZs
          clear hrow hL hY hYl hY1 hZs HR
          go_wp2_with (first
            | (refine wpList_load_row rfl 47 (.tmp 3) rfl w.heap.size rfl 47 Y.toArray (0, 0) _ Hrow.out Tryd.underlying47 rfl ?_ ?_; (rw [infoS, List.size_toArray, HYl.out]))
            | (refine wpList_store_row rfl 47 (.tmp 6) (.tmp 141) rfl (w.heap.size + 1 + 1) Y.toArray rfl rfl 47 Z8 HM.out.res ?_ ?_ HY1.out ?_; (rw [infoS, List.size_toArray, HYl.out]); (rw [HZs.out, List.size_toArray, HYl.out])))
          refine bodyPost_ret (results_cell_row (p := 6) (ty := 47) Tryd.results26 _ _ (w.heap.size + 1 + 1) 47 Y.toArray (0, 0) _ rfl (setRow_heap _ _ _ _ _ _ HM.out.res) Tryd.underlying47 rfl (by rw [infoS, List.size_toArray, HYl.out])) rfl ⟨by rw [HY.out], below_setRow HM.out.below (by omega) _⟩
theorem mix_u32 (g : Nat) (st : List Int) (bl : List UInt8) (n : Nat) (w : World) (h : HashAt w g false st bl n) (hv : Vars w) :
    Calls Tryd.prog 26 #[.agg (u64I st).toArray, .pointer (some ⟨g, 9, none⟩), .agg (ruleC false)] w fun e w' => e = .returned (.agg (u64I (mixI .u32 false st bl)).toArray) ∧ Below w.heap.size w w' :=
  mixA_u32 g st bl n w h hv (spreadI .u32 false bl) (spreadI_length _ _ _) (fun w' h' => spread_u32 g st bl n w' h')

theorem turnA_u64 (x : Int) (w : World) : Calls Tryd.prog 36 #[.int .u64 x, .agg #[.int .u64 28, .int .u64 34, .int .u64 39], .int .i64 64] w fun e w' => e = .returned (.int .u64 (aI true .u64 x)) ∧ Below w.heap.size w w' := by
  rw [show aI true .u64 x = tripI .u64 64 x 28 34 39 from if_pos rfl]
  exact turnedThrice_u64 x 28 34 39 w (by omega) (by omega) (by omega)
theorem turnB_u64 (x : Int) (w : World) : Calls Tryd.prog 36 #[.int .u64 x, .agg #[.int .u64 14, .int .u64 18, .int .u64 41], .int .i64 64] w fun e w' => e = .returned (.int .u64 (bI true .u64 x)) ∧ Below w.heap.size w w' := by
  rw [show bI true .u64 x = tripI .u64 64 x 14 18 41 from if_pos rfl]
  exact turnedThrice_u64 x 14 18 41 w (by omega) (by omega) (by omega)
set_option maxRecDepth 100000 in
set_option maxHeartbeats 1600000 in
theorem mixA_u64 (g : Nat) (st : List Int) (bl : List UInt8) (n : Nat) (w : World) (h : HashAt w g true st bl n) (hv : Vars w) (SP : List Int) (hSP : SP.length = 80)
    (cs : ∀ w', HashAt w' g true st bl n → Calls Tryd.prog 35 #[.pointer (some ⟨g, 9, none⟩), .agg (ruleC true)] w' fun e w2 => e = .returned (.agg (kI .u64 SP).toArray) ∧ Below w'.heap.size w' w2) :
    Calls Tryd.prog 27 #[.agg (u64I st).toArray, .pointer (some ⟨g, 9, none⟩), .agg (ruleC true)] w fun e w' => e = .returned (.agg (u64I (sumR true (roundsI true .u64 SP 80 0 (S8I.of true st)).list 8 0 st)).toArray) ∧ Below w.heap.size w w' := by
  have hg := h.lt
  have h1 : 1 < w.heap.size := hv.1
  obtain ⟨s0, s1, s2, s3, s4, s5, s6, s7, rfl⟩ : ∃ s0 s1 s2 s3 s4 s5 s6 s7, st = [s0, s1, s2, s3, s4, s5, s6, s7] := by
    match st, h.s8 with
    | [s0, s1, s2, s3, s4, s5, s6, s7], _ => exact ⟨s0, s1, s2, s3, s4, s5, s6, s7, rfl⟩
  obtain ⟨Z, hZ, hz⟩ := zeroA_u64
  have HZ := Lib.hid hZ
  obtain ⟨Z8, hZ8⟩ : ∃ Z : Array Value, Z = #[.int .u64 0, .int .u64 0, .int .u64 0, .int .u64 0, .int .u64 0, .int .u64 0, .int .u64 0, .int .u64 0] := ⟨_, rfl⟩
  have HZ8 := Lib.hid hZ8
  have HV := Lib.hid hv
  have H := Lib.hid h
  clear hZ hZ8 hv h
  obtain ⟨X, hX⟩ : ∃ X, (kI .u64 SP).toArray = X := ⟨_, rfl⟩
  have hXs : X.size = 80 := by rw [← hX]; simp [kI, hSP]
  have hX1 : X.all (·.oneCell') = true := by rw [← hX]; simp [kI, Value.oneCell']
  replace cs := fun (w' : World) (hb : Below w.heap.size w w') => cs w' (H.out.below hb hg)
  rw [hX] at cs
  have HSP := Lib.hid hSP
  clear hSP
  have CS := Lib.hid cs
  have HX := Lib.hid hX
  have HXs := Lib.hid hXs
  have HX1 := Lib.hid hX1
  clear cs hX hXs hX1
  have cs2 : (u64I [s0, s1, s2, s3, s4, s5, s6, s7]).toArray = #[.int .u64 s0, .int .u64 s1, .int .u64 s2, .int .u64 s3, .int .u64 s4, .int .u64 s5, .int .u64 s6, .int .u64 s7] := rfl
  rw [cs2, ruleC1]
  clear cs2
  go_enter Tryd.func27, Tryd.ntmps27
  go_wp2_with (first
    | (go_at_call 35; rw [← ruleC1]; refine (CS.out _ ((((Below.refl _ _).alloc (Nat.le_refl _) _).alloc (by simp) _).alloc (by simp <;> omega) _)).mono ?_; rintro e w1 ⟨rfl, hb1⟩; have HB1 := Lib.hid hb1; clear hb1)
    | (refine wpList_store_row rfl 74 (.tmp 7) (.tmp 25) rfl w1.heap.size X rfl rfl 74 Z (heap_alloc_new w1 _) ?_ ?_ HX1.out ?_; (rw [infoA_u64, HXs.out]); (rw [HZ.out, HXs.out]; simp [kI])))
  rw [World.setRow_alloc_new]
  have m0 : MxAt true .u64 74 w (w1.alloc (.cells X 74)) w1.heap.size [s0, s1, s2, s3, s4, s5, s6, s7] Z8 X := by
    have hb := HB1.out
    have hz := hb.size
    simp only [World.size_alloc] at hz
    refine ⟨((((Below.refl _ _).alloc (Nat.le_refl _) _).alloc (by simp) _).alloc (by simp <;> omega) _).trans ((hb.mono (by simp <;> omega)).alloc (by omega) _), by omega, by rw [World.size_alloc]; omega, ?_, ?_, ?_, heap_alloc_new w1 _⟩
    · rw [Below.heap_alloc _ _ _ (by omega), hb.block _ (by simp <;> omega), Below.heap_alloc _ _ _ (by simp <;> omega), Below.heap_alloc _ _ _ (by simp)]; exact heap_alloc_new w _
    · rw [Below.heap_alloc _ _ _ (by omega), hb.block _ (by simp <;> omega), Below.heap_alloc _ _ _ (by simp), ← World.size_alloc]; exact heap_alloc_new _ _
    · rw [HZ8.out, Below.heap_alloc _ _ _ (by omega), hb.block _ (by simp <;> omega), ← World.size_alloc, ← World.size_alloc]; exact heap_alloc_new _ _
  generalize w1.alloc (.cells X 74) = w2 at m0 ⊢
  generalize w1.heap.size = g7 at m0 ⊢
  clear HB1 CS
  have e0 := m0.cell 0 (by show _ < 8; omega)
  have e1 := m0.cell 1 (by show _ < 8; omega)
  have e2 := m0.cell 2 (by show _ < 8; omega)
  have e3 := m0.cell 3 (by show _ < 8; omega)
  have e4 := m0.cell 4 (by show _ < 8; omega)
  have e5 := m0.cell 5 (by show _ < 8; omega)
  have e6 := m0.cell 6 (by show _ < 8; omega)
  have e7 := m0.cell 7 (by show _ < 8; omega)
  simp only [List.getD_cons_zero, List.getD_cons_succ] at e0 e1 e2 e3 e4 e5 e6 e7
  have er : w2.cell? ⟨w.heap.size + 1, 1, none⟩ = some (.int .i64 80) := by rw [cell_of_row w2 _ _ _ _ _ m0.rule]; rfl
  have M0 := Lib.hid m0
  clear m0
  go_quiet (fail)
  go_wp2
  go_quiet (fail)
  go_wp2
  have hs0 : (⟨s0, s1, s2, s3, s4, s5, s6, s7⟩ : S8I) = S8I.of true [s0, s1, s2, s3, s4, s5, s6, s7] := rfl
  generalize hSS : S8I.of true [s0, s1, s2, s3, s4, s5, s6, s7] = SS at hs0
  have HSS := Lib.hid hSS
  have Hs0 := Lib.hid hs0
  clear hSS hs0 e0 e1 e2 e3 e4 e5 e6 e7 er
  skip
  go_loopw [8, 9, 10, 11, 12, 13, 14, 15, 44] (fun v8 v9 v10 v11 v12 v13 v14 v15 tv wr => ∃ (t : Nat) (s : S8I), t ≤ 80 ∧ tv = .int .i64 t ∧ v8 = .int .u64 s.a ∧ v9 = .int .u64 s.b ∧ v10 = .int .u64 s.c ∧ v11 = .int .u64 s.d ∧ v12 = .int .u64 s.e ∧ v13 = .int .u64 s.f ∧ v14 = .int .u64 s.g ∧ v15 = .int .u64 s.h ∧ Hid (MxAt true .u64 74 w wr g7 [s0, s1, s2, s3, s4, s5, s6, s7] Z8 X) ∧ Hid (roundsI true .u64 SP (80 - t) t s = roundsI true .u64 SP 80 0 SS)) (fun _ _ _ _ _ _ _ _ tv _ => 80 - (intOf tv).toNat)
  case atStart => exact ⟨0, ⟨s0, s1, s2, s3, s4, s5, s6, s7⟩, by omega, rfl, rfl, rfl, rfl, rfl, rfl, rfl, rfl, rfl, M0.out.drewN _, by rw [Hs0.out]; rfl⟩
  case round =>
    obtain ⟨t, s, ht, rfl, rfl, rfl, rfl, rfl, rfl, rfl, rfl, rfl, HM, HR⟩ := hrel
    clear M0
    have er : wr.cell? ⟨w.heap.size + 1, 1, none⟩ = some (.int .i64 80) := by rw [cell_of_row wr _ _ _ _ _ HM.out.rule]; rfl
    by_cases hlt : t < 80
    · as_aux_lemma =>
          obtain ⟨a, b, c, d, e, f, gg, hh⟩ := s
          dsimp only
          obtain ⟨kt, hkt⟩ : ∃ x, kcI true t = x := ⟨_, rfl⟩
          have hct : cubesL.getD t 0 = kt := by rw [← hkt]; rfl
          obtain ⟨wt, hwt⟩ : ∃ x, SP.getD t 0 = x := ⟨_, rfl⟩
          have f0 : wr.cell? ⟨w.heap.size + 1, 0, none⟩ = some (.int .i64 64) := by rw [cell_of_row wr _ _ _ _ _ HM.out.rule]; rfl
          have fk : wr.cell? ⟨1, t, none⟩ = some (.int .u64 kt) := by rw [← hct]; exact (HV.out.below HM.out.below h1).2.1 t (by omega)
          obtain ⟨x1, hx1⟩ : ∃ z, bI true .u64 e = z := ⟨_, rfl⟩
          obtain ⟨q1, hq1⟩ : ∃ z, IntKind.u64.wrap (hh + x1) = z := ⟨_, rfl⟩
          obtain ⟨p1, hp1⟩ : ∃ z, bits .and .u64 e f = z := ⟨_, rfl⟩
          obtain ⟨ne, hne⟩ : ∃ z, bits .xor .u64 IntKind.u64.max e = z := ⟨_, rfl⟩
          obtain ⟨p2, hp2⟩ : ∃ z, bits .and .u64 ne gg = z := ⟨_, rfl⟩
          obtain ⟨p3, hp3⟩ : ∃ z, bits .xor .u64 p1 p2 = z := ⟨_, rfl⟩
          obtain ⟨q2, hq2⟩ : ∃ z, IntKind.u64.wrap (q1 + p3) = z := ⟨_, rfl⟩
          obtain ⟨q3, hq3⟩ : ∃ z, IntKind.u64.wrap (q2 + kt) = z := ⟨_, rfl⟩
          obtain ⟨t1, ht1⟩ : ∃ z, IntKind.u64.wrap (q3 + wt) = z := ⟨_, rfl⟩
          obtain ⟨y1, hy1⟩ : ∃ z, aI true .u64 a = z := ⟨_, rfl⟩
          obtain ⟨m1, hm1⟩ : ∃ z, bits .and .u64 a b = z := ⟨_, rfl⟩
          obtain ⟨m2, hm2⟩ : ∃ z, bits .and .u64 a c = z := ⟨_, rfl⟩
          obtain ⟨m3, hm3⟩ : ∃ z, bits .xor .u64 m1 m2 = z := ⟨_, rfl⟩
          obtain ⟨m4, hm4⟩ : ∃ z, bits .and .u64 b c = z := ⟨_, rfl⟩
          obtain ⟨m5, hm5⟩ : ∃ z, bits .xor .u64 m3 m4 = z := ⟨_, rfl⟩
          obtain ⟨t2, ht2⟩ : ∃ z, IntKind.u64.wrap (y1 + m5) = z := ⟨_, rfl⟩
          obtain ⟨ee, hee⟩ : ∃ z, IntKind.u64.wrap (d + t1) = z := ⟨_, rfl⟩
          obtain ⟨aa, haa⟩ : ∃ z, IntKind.u64.wrap (t1 + t2) = z := ⟨_, rfl⟩
          have hround : roundI true .u64 kt wt ⟨a, b, c, d, e, f, gg, hh⟩ = ⟨aa, a, b, c, ee, e, f, gg⟩ := by
            unfold roundI t1I t2I; dsimp only; rw [hx1, hq1, hp1, hne, hp2, hp3, hq2, hq3, ht1, hy1, hm1, hm2, hm3, hm4, hm5, ht2, hee, haa]
          replace hround := Lib.hid hround
          have cB := fun w => turnB_u64 e w
          rw [hx1] at cB
          replace cB := Lib.hid cB
          have cA := fun w => turnA_u64 a w
          rw [hy1] at cA
          replace cA := Lib.hid cA
          clear hx1 hy1
          have gne : bits .xor .u64 (if IntKind.u64.signed = true then -1 else IntKind.u64.max) e = ne := hne
          replace hkt := Lib.hid hkt
          replace hct := Lib.hid hct
          replace hwt := Lib.hid hwt
          go_wp2
          go_quiet (fail)
          have HMq := HM.out.drewN nq
          generalize wr.drewN nq = wq at HMq ⊢
          have hM : ∀ u : Held (From wq.drew), MxAt true .u64 74 w u.w g7 [s0, s1, s2, s3, s4, s5, s6, s7] Z8 X := fun u => HMq.grow u.h.of_drew
          have r0 : ∀ u : Held (From wq.drew), u.w.cell? ⟨w.heap.size + 1, 0, none⟩ = some (.int .i64 64) := fun u => by rw [cell_of_row _ _ _ _ _ _ (hM u).rule]; rfl
          have r5 : ∀ u : Held (From wq.drew), u.w.cell? ⟨w.heap.size + 1, 5, none⟩ = some (.int .u64 14) := fun u => by rw [cell_of_row _ _ _ _ _ _ (hM u).rule]; rfl
          have r6 : ∀ u : Held (From wq.drew), u.w.cell? ⟨w.heap.size + 1, 6, none⟩ = some (.int .u64 18) := fun u => by rw [cell_of_row _ _ _ _ _ _ (hM u).rule]; rfl
          have r7 : ∀ u : Held (From wq.drew), u.w.cell? ⟨w.heap.size + 1, 7, none⟩ = some (.int .u64 41) := fun u => by rw [cell_of_row _ _ _ _ _ _ (hM u).rule]; rfl
          have rw : ∀ u : Held (From wq.drew), u.w.cell? ⟨g7, t, none⟩ = some (.int .u64 wt) := fun u => by
            rw [cell_of_row _ _ _ _ _ _ (hM u).words, ← HX.out, ← hwt.out]
            simp [kI, HSP.out, show t < 80 by omega]
          replace hM := Lib.hid hM
          go_wp2
          refine wp_region_from (by kernel_rfl) (by kernel_rfl) ?_
          repeat (go_big_quiet_step ((go_at_call 36; exact held_call _ (cB.out _))))
          refine wpQuiet_nil ?_
          intro w5 hw5
          have HM5 := HMq.grow hw5.of_drew
          clear hM r0 r5 r6 r7 rw fk f0 er
          have r0 : w5.cell? ⟨w.heap.size + 1, 0, none⟩ = some (.int .i64 64) := by rw [cell_of_row _ _ _ _ _ _ HM5.rule]; rfl
          have r2 : w5.cell? ⟨w.heap.size + 1, 2, none⟩ = some (.int .u64 28) := by rw [cell_of_row _ _ _ _ _ _ HM5.rule]; rfl
          have r3 : w5.cell? ⟨w.heap.size + 1, 3, none⟩ = some (.int .u64 34) := by rw [cell_of_row _ _ _ _ _ _ HM5.rule]; rfl
          have r4 : w5.cell? ⟨w.heap.size + 1, 4, none⟩ = some (.int .u64 39) := by rw [cell_of_row _ _ _ _ _ _ HM5.rule]; rfl
          go_wp2_with (go_at_call 36; refine (cA.out _).mono ?_; rintro e6 w6 ⟨rfl, hb6⟩)
          go_roundw
          case rel => exact ⟨t + 1, ⟨aa, a, b, c, ee, e, f, gg⟩, by omega, by go_num, rfl, rfl, rfl, rfl, rfl, rfl, rfl, rfl, HM5.grow hb6, by
            have h := HR.out
            rw [show 80 - t = (80 - (t + 1)) + 1 by omega, roundsI, hkt.out, hwt.out, hround.out] at h
            exact h⟩
          case measure => simp [intOf]; omega
    · skip
      obtain rfl : t = 80 := by omega
      have hS : s = roundsI true .u64 SP 80 0 SS := by rw [← HR.out, Nat.sub_self]; rfl
      obtain ⟨a, b, c, d, e, f, gg, hh⟩ := s
      dsimp only
      have HL := Lib.hid (congrArg S8I.list hS)
      clear hS HR
      have hix : ∀ (i : Nat), i < 8 → ∀ w', (Instr.index 47 (.agg #[.int .u64 a, .int .u64 b, .int .u64 c, .int .u64 d, .int .u64 e, .int .u64 f, .int .u64 gg, .int .u64 hh]) (.int .i64 i)).run Tryd.prog w' = .ok (.int .u64 ([a, b, c, d, e, f, gg, hh].getD i 0)) w' := by
        intro i hi w'
        rcases (show i = 0 ∨ i = 1 ∨ i = 2 ∨ i = 3 ∨ i = 4 ∨ i = 5 ∨ i = 6 ∨ i = 7 by omega) with rfl | rfl | rfl | rfl | rfl | rfl | rfl | rfl
        all_goals kernel_rfl
      replace hix := Lib.hid hix
      have hml : [a, b, c, d, e, f, gg, hh] = (roundsI true .u64 SP 80 0 (S8I.of true [s0, s1, s2, s3, s4, s5, s6, s7])).list := by rw [HSS.out]; exact HL.out
      have HML := Lib.hid hml
      clear hml HL HSS Hs0
      go_wp2
      have HM9 := HM.out.grow ((Below.refl _ _).alloc (Nat.le_refl _) (.cells #[.int .u64 a, .int .u64 b, .int .u64 c, .int .u64 d, .int .u64 e, .int .u64 f, .int .u64 gg, .int .u64 hh] 47))
      generalize wr.alloc (.cells #[.int .u64 a, .int .u64 b, .int .u64 c, .int .u64 d, .int .u64 e, .int .u64 f, .int .u64 gg, .int .u64 hh] 47) = wo at HM9 ⊢
      generalize [a, b, c, d, e, f, gg, hh] = ml at hix HML
      generalize hst : [s0, s1, s2, s3, s4, s5, s6, s7] = st at HM9
      have HST := Lib.hid hst
      have h8 : st.length = 8 := by rw [← hst]; rfl
      replace h8 := Lib.hid h8
      replace HM9 := Lib.hid HM9
      clear hst HM er
      go_loopw [118] (fun v wr => ∃ (i : Nat) (l : List Int), i ≤ 8 ∧ v = .int .i64 i ∧ Hid (l.length = 8) ∧ Hid (MxAt true .u64 74 w wr g7 l Z8 X) ∧ Hid (sumR true ml (8 - i) i l = sumR true ml 8 0 st)) (fun v _ => 8 - (intOf v).toNat)
      case atStart => exact ⟨0, st, by omega, rfl, h8.out, HM9.out, rfl⟩
      case round =>
        obtain ⟨i, l, hi, rfl, hl, HM, HR⟩ := hrel
        clear HM9
        by_cases hlt : i < 8
        · replace hix := hix.out i hlt
          obtain ⟨x, hx⟩ : ∃ x, ml.getD i 0 = x := ⟨_, rfl⟩
          obtain ⟨si, hsi⟩ : ∃ x, l.getD i 0 = x := ⟨_, rfl⟩
          rw [hx] at hix
          obtain ⟨c3, h3⟩ : ∃ z, IntKind.u64.wrap (si + x) = z := ⟨_, rfl⟩
          have g3 : (si + x) % 18446744073709551616 = c3 := h3
          have hadd : addI true si x = c3 := by unfold addI; rw [if_pos rfl, h3]
          replace hadd := Lib.hid hadd
          have fc := HM.out.cell i (by rw [hl.out]; exact hlt)
          rw [hsi] at fc
          have ff := HM.out.fr i
          replace hx := Lib.hid hx
          replace hsi := Lib.hid hsi
          go_wp2
          go_roundw
          case rel => exact ⟨i + 1, l.set i c3, by omega, by go_num, by rw [List.length_set]; exact hl.out, HM.out.set i c3, by
            have h := HR.out
            rw [show 8 - i = (8 - (i + 1)) + 1 by omega, sumR, hsi.out, hx.out, hadd.out] at h
            exact h⟩
          case measure => simp [intOf]; omega
        · obtain rfl : i = 8 := by omega
          have hL : l = sumR true (roundsI true .u64 SP 80 0 (S8I.of true st)).list 8 0 st := by
            rw [← HST.out, ← HML.out, HST.out, ← HR.out]; rfl
          have hrow := HM.out.st
          generalize hY : u64I l = Y at hrow
          have hYl : Y.length = 8 := by rw [← hY, u64I_length]; exact hl.out
          have hY1 : Y.toArray.all (·.oneCell') = true := by rw [← hY]; simp [u64I, Value.oneCell']
          have hZs : Z8.size = 8 := by rw [HZ8.out]; rfl
          have Hrow := Lib.hid hrow
          have HY := Lib.hid (hY.symm.trans (congrArg u64I (hL.trans (by rw [← HST.out]))))
          have HYl := Lib.hid hYl
          have HY1 := Lib.hid hY1
          have HZs := Lib.hid hZs
          clear hrow hL hY hYl hY1 hZs HR
          go_wp2_with (first
            | (refine wpList_load_row rfl 47 (.tmp 3) rfl w.heap.size rfl 47 Y.toArray (0, 0) _ Hrow.out Tryd.underlying47 rfl ?_ ?_; (rw [infoS, List.size_toArray, HYl.out]))
            | (refine wpList_store_row rfl 47 (.tmp 6) (.tmp 130) rfl (w.heap.size + 1 + 1) Y.toArray rfl rfl 47 Z8 HM.out.res ?_ ?_ HY1.out ?_; (rw [infoS, List.size_toArray, HYl.out]); (rw [HZs.out, List.size_toArray, HYl.out])))
          refine bodyPost_ret (results_cell_row (p := 6) (ty := 47) Tryd.results27 _ _ (w.heap.size + 1 + 1) 47 Y.toArray (0, 0) _ rfl (setRow_heap _ _ _ _ _ _ HM.out.res) Tryd.underlying47 rfl (by rw [infoS, List.size_toArray, HYl.out])) rfl ⟨by rw [HY.out], below_setRow HM.out.below (by omega) _⟩
theorem mix_u64 (g : Nat) (st : List Int) (bl : List UInt8) (n : Nat) (w : World) (h : HashAt w g true st bl n) (hv : Vars w) :
    Calls Tryd.prog 27 #[.agg (u64I st).toArray, .pointer (some ⟨g, 9, none⟩), .agg (ruleC true)] w fun e w' => e = .returned (.agg (u64I (mixI .u64 true st bl)).toArray) ∧ Below w.heap.size w w' :=
  mixA_u64 g st bl n w h hv (spreadI .u64 true bl) (spreadI_length _ _ _) (fun w' h' => spread_u64 g st bl n w' h')
end Go.Proofs.YtbkaemekcjinaaaDoor
