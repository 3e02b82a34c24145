/- Walks of package sha2: Sum. -/
import Derived.Test.YtbkaemekcjinaaaDoorS10
namespace Go.Proofs.YtbkaemekcjinaaaDoor
open Go.RowKit Go.Lib
def byI (x : Int) (sh : Nat) : UInt8 := UInt8.ofNat (x / 2 ^ sh % 256).toNat
def outB (x : Int) : Nat → List UInt8 → List UInt8
  | 0, acc => acc
  | k + 1, acc => outB x k (acc ++ [byI x (8 * k)])
def outS (o : Bool) : List Int → List UInt8 → List UInt8
  | [], acc => acc
  | x :: r, acc => outS o r (outB x (wdI o / 8) acc)
def sumL (o : Bool) (st : List Int) (bl : List UInt8) (n : Nat) : List UInt8 := outS o (feed o ⟨st, bl, n % room o⟩ (padL o n)).st []
def SumPostT (tot : List UInt8) (w : World) (e : Ending) (w' : World) : Prop := e = .returned (.string (S tot)) ∧ Below w.heap.size w w'
def SumPost (o : Bool) (st : List Int) (bl : List UInt8) (n : Nat) (w : World) (e : Ending) (w' : World) : Prop := SumPostT (sumL o st bl n) w e w'
theorem padR_length (bits m : Nat) : ∀ (k i : Nat) (l : List UInt8), (padR bits m k i l).length = l.length
  | 0, _, _ => rfl
  | k + 1, i, l => by rw [padR, padR_length bits m k, List.length_set]
theorem padL_length (o : Bool) (n : Nat) : (padL o n).length ≤ 200 := by
  rw [padL, padR_length, List.length_set, List.length_replicate]
  have := Nat.mod_lt (room o - (n + 1 + wdI o / 4) % room o) (room_pos o)
  have h2 := room_le o
  have h3 : wdI o / 4 ≤ 16 := by cases o <;> decide
  omega

set_option maxRecDepth 100000 in
set_option maxHeartbeats 3200000 in
theorem sum_u32 (g : Nat) (st : List Int) (bl : List UInt8) (n : Nat) (w : World) (h : HashAt w g false st bl n) (hv : Vars w) (hn : n ≤ 1152921504606846976) :
    Calls Tryd.prog 13 #[.pointer (some ⟨g, 0, none⟩)] w (SumPost false st bl n w) := by
  obtain ⟨i0, hi, hz0, hz1, hz2⟩ := info_parts info5
  obtain ⟨P, hP⟩ : ∃ P, padL false n = P := ⟨_, rfl⟩
  have hPl : P.length ≤ 200 := by rw [← hP]; exact padL_length false n
  have hF8 : (feed false ⟨st, bl, n % room false⟩ P).st.length = 8 := by rw [feed_st]; exact h.s8
  obtain ⟨tot, htot0⟩ : ∃ t, sumL false st bl n = t := ⟨_, rfl⟩
  have htot : outS false (feed false ⟨st, bl, n % room false⟩ P).st [] = tot := by rw [← htot0, sumL, hP]
  rw [show SumPost false st bl n w = SumPostT tot w from by funext e w'; unfold SumPost; rw [htot0]]
  have cw := fun (w' : World) (g' : Nat) (h' : HashAt w' g' false st bl n) (hv' : Vars w') (hg' : 1 < g') => write_u32 g' st bl n P w' h' hv' hg' (by rw [S_size]; omega)
  unfold WritePost at cw
  generalize (feed false ⟨st, bl, n % room false⟩ P).bl = bF at cw
  generalize (feed false ⟨st, bl, n % room false⟩ P).st = sF at cw hF8 htot
  obtain ⟨s0, s1, s2, s3, s4, s5, s6, s7, rfl⟩ := eight hF8
  have CW := Lib.hid cw
  have cp := fun (w' : World) (h' : HashAt w' g false st bl n) => padding_u32 g st bl n w' h' hn
  rw [hP] at cp
  have CP := Lib.hid cp
  have hlt := h.lt
  have h1 := hv.1
  have H := Lib.hid h
  have HV := Lib.hid hv
  have HTOT := Lib.hid htot
  clear h hv htot htot0 cw cp hP hPl hF8
  have ca := fun w => ruleOf_any false w
  rw [show kd false = 0 from rfl, ruleC0] at ca
  have CA := Lib.hid ca
  clear ca
  have hfl := field_u32
  go_enter Tryd.func13, Tryd.ntmps13
  go_wp2_with (first
    | (go_at_call 11; refine (clone_any g false st bl n _ H.out).mono ?_; rintro e w1 ⟨g1, hg1, rfl, hh1, hb1⟩; have HH1 := Lib.hid hh1; have HB1 := Lib.hid hb1; clear hh1 hb1)
    | (go_at_call 20; refine (CP.out _ (H.out.from HB1.out)).mono ?_; rintro e w2 ⟨rfl, hb2⟩; have HB2 := Lib.hid hb2; clear hb2)
    | (go_at_call 12; refine (CW.out _ g1 (HH1.out.from HB2.out) ((HV.out.from HB1.out).from HB2.out) (by omega)).mono ?_; rintro e w3 ⟨rfl, H3, C3⟩; have hk3 : w3.cell? ⟨g, 0, none⟩ = some (.int .i64 0) := (C3.hash ((H.out.from HB1.out).from HB2.out) (by omega)).kind; have hB3 : Below w.heap.size w w3 := Chg.below (HB1.out.trans (HB2.out.mono HB1.out.size)) C3 (Nat.le_trans HB1.out.size HB2.out.size) hg1; have HB3 := Lib.hid hB3; have HH3 := Lib.hid H3; clear hB3 H3 C3 HB1 HB2 HH1)
    | (go_at_call 17; refine (CA.out _).mono ?_; rintro e w4 ⟨rfl, hb4⟩; have HH4 := Lib.hid (HH3.out.from hb4); have HB4 := Lib.hid (HB3.out.trans (hb4.mono HB3.out.size)); clear hb4 HH3 HB3 hk3)
    | (at_make; refine wpList_make_own _ rfl _ _ 36 rfl w.heap.size 5 i0 (.int .u8 0) 1 Tryd.underlying36 hi hz0 hz1 .i64 .i64 _ 32 rfl rfl rfl ?b2 ?b3 ?b4 ?_))
  case b2 => rw [hz2]; omega
  case b3 => unfold maxLen; omega
  case b4 => exact HB4.out.size
  intro w5 ho5 hg5
  have HB5 := Lib.hid (HB4.out.grown hg5 HB4.out.size (by intro g hg; cases hg))
  have HO5 := Lib.hid ho5
  have H5 : HashAt w5 g1 false [s0, s1, s2, s3, s4, s5, s6, s7] bF (n + P.length) := HH4.out.of_heap (hg5.block g1 HH4.out.lt (by intro e; cases e))
  have q0 : w5.cell? ⟨g1, 1, none⟩ = some (.int .u64 s0) := H5.state 0 (by omega)
  have q1 : w5.cell? ⟨g1, 2, none⟩ = some (.int .u64 s1) := H5.state 1 (by omega)
  have q2 : w5.cell? ⟨g1, 3, none⟩ = some (.int .u64 s2) := H5.state 2 (by omega)
  have q3 : w5.cell? ⟨g1, 4, none⟩ = some (.int .u64 s3) := H5.state 3 (by omega)
  have q4 : w5.cell? ⟨g1, 5, none⟩ = some (.int .u64 s4) := H5.state 4 (by omega)
  have q5 : w5.cell? ⟨g1, 6, none⟩ = some (.int .u64 s5) := H5.state 5 (by omega)
  have q6 : w5.cell? ⟨g1, 7, none⟩ = some (.int .u64 s6) := H5.state 6 (by omega)
  have q7 : w5.cell? ⟨g1, 8, none⟩ = some (.int .u64 s7) := H5.state 7 (by omega)
  clear ho5 hg5 HH4 HB4 H5
  go_wp2
  clear q0 q1 q2 q3 q4 q5 q6 q7 hfl CA
  have hix : ∀ (i : Nat), i < 8 → ∀ w', (Instr.index 47 (.agg #[.int .u64 s0, .int .u64 s1, .int .u64 s2, .int .u64 s3, .int .u64 s4, .int .u64 s5, .int .u64 s6, .int .u64 s7]) (.int .i64 i)).run Tryd.prog w' = .ok (.int .u64 ([s0, s1, s2, s3, s4, s5, s6, s7].getD i 0)) w' := by
    intro i hi w'
    rcases (show i = 0 ∨ i = 1 ∨ i = 2 ∨ i = 3 ∨ i = 4 ∨ i = 5 ∨ i = 6 ∨ i = 7 by omega) with rfl | rfl | rfl | rfl | rfl | rfl | rfl | rfl
    all_goals kernel_rfl
  generalize hml : [s0, s1, s2, s3, s4, s5, s6, s7] = ml at hix HTOT
  have hm8 : ml.length = 8 := by rw [← hml]; rfl
  replace hix := Lib.hid hix
  replace hm8 := Lib.hid hm8
  clear hml
  go_loopw [5, 27] (fun v iv wr => ∃ (i : Nat) (acc : List UInt8), i ≤ 8 ∧ iv = .int .i64 i ∧ acc.length = 4 * i ∧ Hid (wr.ownsRow w.heap.size 5 1 v acc.length (byteCells acc)) ∧ Hid (Below w.heap.size w wr) ∧ Hid (outS false (ml.drop i) acc = tot)) (fun _ iv _ => 8 - (intOf iv).toNat)
  case atStart => exact ⟨0, [], by omega, rfl, rfl, HO5.out, HB5.out, HTOT.out⟩
  case round =>
    obtain ⟨i, acc, hi8, rfl, hal, HO, HB, HD⟩ := hrel
    obtain ⟨A0, cap0, rfl⟩ := own_form HO.out
    clear HO5 HB5 HTOT
    by_cases hlt : i < 8
    · replace hix := hix.out i hlt
      obtain ⟨x, hx⟩ : ∃ x, ml.getD i 0 = x := ⟨_, rfl⟩
      rw [hx] at hix
      have hdr : ml.drop i = x :: ml.drop (i + 1) := by
        rw [List.drop_eq_getElem_cons (by rw [hm8.out]; exact hlt), ← hx]; simp [hm8.out, hlt]
      have hD : outS false (ml.drop (i + 1)) (outB x 4 acc) = tot := by rw [← HD.out, hdr]; rfl
      obtain ⟨fin, hfin⟩ : ∃ fin, outB x 4 acc = fin := ⟨_, rfl⟩
      rw [hfin] at hD
      have HD2 := Lib.hid hD
      have HFIN := Lib.hid hfin
      have hd8 : decide ((i : Int) < 8) = true := by simp; omega
      clear hx hdr hD HD hfin
      go_wp2
      clear hd8
      obtain ⟨wo, rfl⟩ : ∃ wo : World, wo = wr := ⟨_, rfl⟩
      go_loopw [5, 8] (fun v sv wr => ∃ (j : Nat) (ac : List UInt8), j ≤ 4 ∧ sv = .int .i64 (8 * (j : Int) - 8) ∧ ac.length + j = 4 * i + 4 ∧ Hid (wr.ownsRow w.heap.size 5 1 v ac.length (byteCells ac)) ∧ Hid (Below w.heap.size w wr) ∧ Hid (outB x j ac = fin)) (fun _ sv _ => (intOf sv + 8).toNat)
      case atStart => exact ⟨4, acc, by omega, rfl, by omega, HO.out, HB.out, HFIN.out⟩
      case round =>
        obtain ⟨j, ac, hj, rfl, hacl, HO2, HB2, HX⟩ := hrel
        obtain ⟨A, cap, rfl⟩ := own_form HO2.out
        clear HO HB HFIN
        have hbw := HB2.out.size
        by_cases hj0 : j = 0
        · subst hj0
          have hf : ac = fin := HX.out
          have HF := Lib.hid hf
          clear hf
          go_wp2
          go_roundw
          case rel => exact ⟨i + 1, ac, by omega, by go_num, by omega, HO2.out, HB2.out, by rw [HF.out]; exact HD2.out⟩
          case measure => simp [intOf]; omega
        · obtain ⟨j, rfl⟩ : ∃ q, j = q + 1 := ⟨j - 1, by omega⟩
          rw [show 8 * ((j + 1 : Nat) : Int) - 8 = ((8 * j : Nat) : Int) by omega]
          obtain ⟨b, hb⟩ : ∃ b, byI x (8 * j) = b := ⟨_, rfl⟩
          have hv : (x / 2 ^ (8 * j) % 256) = (b.toNat : Nat) := by
            rw [← hb]
            unfold byI
            have h1 := Int.emod_nonneg (x / 2 ^ (8 * j)) (show (256 : Int) ≠ 0 by omega)
            have h2 := Int.emod_lt_of_pos (x / 2 ^ (8 * j)) (show (0 : Int) < 256 by omega)
            simp
            omega
          have HX2 : outB x j (ac ++ [b]) = fin := by rw [← HX.out, ← hb]; rfl
          have hbits : min (8 * j) 64 = 8 * j := by omega
          replace HX2 := Lib.hid HX2
          clear HX hb
          go_wp2_with (at_builtin; refine wpList_append_own _ rfl _ _ 36 rfl w.heap.size 5 i0 (.int .u8 0) 1 1 Tryd.underlying36 hi hz0 hz1 hz2 rfl (by decide) _ _ _ rfl (HO2.out.alloc _) ⟨wr.heap.size, 0, none⟩ 1 1 [.int .u8 b.toNat] rfl rfl ?c1 ?c2 ?c3 ?c4 ?c5 ?_)
          case c1 => exact row_new wr [_] 5
          case c2 => intro u hu; simp at hu; subst hu; rfl
          case c3 => unfold maxLen; omega
          case c4 => omega
          case c5 => rw [World.size_alloc]; omega
          intro v' w7 ho7 hgr _
          have ho8 : w7.ownsRow w.heap.size 5 1 v' (ac ++ [b]).length (byteCells (ac ++ [b])) := by
            rw [byteCells_append, List.length_append]; exact ho7
          have hb7 := Lib.hid ((HB2.out.alloc hbw _).grown hgr (by rw [World.size_alloc]; omega) fun g hg => (HO2.out.lt g hg).1)
          clear ho7 hgr hv
          replace ho8 := Lib.hid ho8
          go_wp2
          go_roundw
          case rel => exact ⟨j, ac ++ [b], by omega, by go_num, by rw [List.length_append]; simp; omega, ho8, hb7, HX2.out⟩
          case measure => simp [intOf]; omega
    · obtain rfl : i = 8 := by omega
      have hd : acc = tot := by rw [← HD.out, List.drop_eq_nil_of_le (by rw [hm8.out]; omega)]; rfl
      have hcv := conv_own HO.out
      rw [show acc.length = 32 by omega, hd] at hcv
      have Hd := Lib.hid hd
      clear hd HD
      go_wp2
      go_ret
      exact ⟨rfl, HB.out⟩

set_option maxRecDepth 100000 in
set_option maxHeartbeats 3200000 in
theorem sum_u64 (g : Nat) (st : List Int) (bl : List UInt8) (n : Nat) (w : World) (h : HashAt w g true st bl n) (hv : Vars w) (hn : n ≤ 1152921504606846976) :
    Calls Tryd.prog 13 #[.pointer (some ⟨g, 0, none⟩)] w (SumPost true st bl n w) := by
  obtain ⟨i0, hi, hz0, hz1, hz2⟩ := info_parts info5
  obtain ⟨P, hP⟩ : ∃ P, padL true n = P := ⟨_, rfl⟩
  have hPl : P.length ≤ 200 := by rw [← hP]; exact padL_length true n
  have hF8 : (feed true ⟨st, bl, n % room true⟩ P).st.length = 8 := by rw [feed_st]; exact h.s8
  obtain ⟨tot, htot0⟩ : ∃ t, sumL true st bl n = t := ⟨_, rfl⟩
  have htot : outS true (feed true ⟨st, bl, n % room true⟩ P).st [] = tot := by rw [← htot0, sumL, hP]
  rw [show SumPost true st bl n w = SumPostT tot w from by funext e w'; unfold SumPost; rw [htot0]]
  have cw := fun (w' : World) (g' : Nat) (h' : HashAt w' g' true st bl n) (hv' : Vars w') (hg' : 1 < g') => write_u64 g' st bl n P w' h' hv' hg' (by rw [S_size]; omega)
  unfold WritePost at cw
  generalize (feed true ⟨st, bl, n % room true⟩ P).bl = bF at cw
  generalize (feed true ⟨st, bl, n % room true⟩ P).st = sF at cw hF8 htot
  obtain ⟨s0, s1, s2, s3, s4, s5, s6, s7, rfl⟩ := eight hF8
  have CW := Lib.hid cw
  have cp := fun (w' : World) (h' : HashAt w' g true st bl n) => padding_u64 g st bl n w' h' hn
  rw [hP] at cp
  have CP := Lib.hid cp
  have hlt := h.lt
  have h1 := hv.1
  have H := Lib.hid h
  have HV := Lib.hid hv
  have HTOT := Lib.hid htot
  clear h hv htot htot0 cw cp hP hPl hF8
  have ca := fun w => ruleOf_any true w
  rw [show kd true = 1 from rfl, ruleC1] at ca
  have CA := Lib.hid ca
  clear ca
  have hfl := field_u64
  go_enter Tryd.func13, Tryd.ntmps13
  go_wp2_with (first
    | (go_at_call 11; refine (clone_any g true st bl n _ H.out).mono ?_; rintro e w1 ⟨g1, hg1, rfl, hh1, hb1⟩; have HH1 := Lib.hid hh1; have HB1 := Lib.hid hb1; clear hh1 hb1)
    | (go_at_call 20; refine (CP.out _ (H.out.from HB1.out)).mono ?_; rintro e w2 ⟨rfl, hb2⟩; have HB2 := Lib.hid hb2; clear hb2)
    | (go_at_call 12; refine (CW.out _ g1 (HH1.out.from HB2.out) ((HV.out.from HB1.out).from HB2.out) (by omega)).mono ?_; rintro e w3 ⟨rfl, H3, C3⟩; have hk3 : w3.cell? ⟨g, 0, none⟩ = some (.int .i64 1) := (C3.hash ((H.out.from HB1.out).from HB2.out) (by omega)).kind; have hB3 : Below w.heap.size w w3 := Chg.below (HB1.out.trans (HB2.out.mono HB1.out.size)) C3 (Nat.le_trans HB1.out.size HB2.out.size) hg1; have HB3 := Lib.hid hB3; have HH3 := Lib.hid H3; clear hB3 H3 C3 HB1 HB2 HH1)
    | (go_at_call 17; refine (CA.out _).mono ?_; rintro e w4 ⟨rfl, hb4⟩; have HH4 := Lib.hid (HH3.out.from hb4); have HB4 := Lib.hid (HB3.out.trans (hb4.mono HB3.out.size)); clear hb4 HH3 HB3 hk3)
    | (at_make; refine wpList_make_own _ rfl _ _ 36 rfl w.heap.size 5 i0 (.int .u8 0) 1 Tryd.underlying36 hi hz0 hz1 .i64 .i64 _ 64 rfl rfl rfl ?b2 ?b3 ?b4 ?_))
  case b2 => rw [hz2]; omega
  case b3 => unfold maxLen; omega
  case b4 => exact HB4.out.size
  intro w5 ho5 hg5
  have HB5 := Lib.hid (HB4.out.grown hg5 HB4.out.size (by intro g hg; cases hg))
  have HO5 := Lib.hid ho5
  have H5 : HashAt w5 g1 true [s0, s1, s2, s3, s4, s5, s6, s7] bF (n + P.length) := HH4.out.of_heap (hg5.block g1 HH4.out.lt (by intro e; cases e))
  have q0 : w5.cell? ⟨g1, 1, none⟩ = some (.int .u64 s0) := H5.state 0 (by omega)
  have q1 : w5.cell? ⟨g1, 2, none⟩ = some (.int .u64 s1) := H5.state 1 (by omega)
  have q2 : w5.cell? ⟨g1, 3, none⟩ = some (.int .u64 s2) := H5.state 2 (by omega)
  have q3 : w5.cell? ⟨g1, 4, none⟩ = some (.int .u64 s3) := H5.state 3 (by omega)
  have q4 : w5.cell? ⟨g1, 5, none⟩ = some (.int .u64 s4) := H5.state 4 (by omega)
  have q5 : w5.cell? ⟨g1, 6, none⟩ = some (.int .u64 s5) := H5.state 5 (by omega)
  have q6 : w5.cell? ⟨g1, 7, none⟩ = some (.int .u64 s6) := H5.state 6 (by omega)
  have q7 : w5.cell? ⟨g1, 8, none⟩ = some (.int .u64 s7) := H5.state 7 (by omega)
  clear ho5 hg5 HH4 HB4 H5
  go_wp2
  clear q0 q1 q2 q3 q4 q5 q6 q7 hfl CA
  have hix : ∀ (i : Nat), i < 8 → ∀ w', (Instr.index 47 (.agg #[.int .u64 s0, .int .u64 s1, .int .u64 s2, .int .u64 s3, .int .u64 s4, .int .u64 s5, .int .u64 s6, .int .u64 s7]) (.int .i64 i)).run Tryd.prog w' = .ok (.int .u64 ([s0, s1, s2, s3, s4, s5, s6, s7].getD i 0)) w' := by
    intro i hi w'
    rcases (show i = 0 ∨ i = 1 ∨ i = 2 ∨ i = 3 ∨ i = 4 ∨ i = 5 ∨ i = 6 ∨ i = 7 by omega) with rfl | rfl | rfl | rfl | rfl | rfl | rfl | rfl
    all_goals kernel_rfl
  generalize hml : [s0, s1, s2, s3, s4, s5, s6, s7] = ml at hix HTOT
  have hm8 : ml.length = 8 := by rw [← hml]; rfl
  replace hix := Lib.hid hix
  replace hm8 := Lib.hid hm8
  clear hml
  go_loopw [5, 27] (fun v iv wr => ∃ (i : Nat) (acc : List UInt8), i ≤ 8 ∧ iv = .int .i64 i ∧ acc.length = 8 * i ∧ Hid (wr.ownsRow w.heap.size 5 1 v acc.length (byteCells acc)) ∧ Hid (Below w.heap.size w wr) ∧ Hid (outS true (ml.drop i) acc = tot)) (fun _ iv _ => 8 - (intOf iv).toNat)
  case atStart => exact ⟨0, [], by omega, rfl, rfl, HO5.out, HB5.out, HTOT.out⟩
  case round =>
    obtain ⟨i, acc, hi8, rfl, hal, HO, HB, HD⟩ := hrel
    obtain ⟨A0, cap0, rfl⟩ := own_form HO.out
    clear HO5 HB5 HTOT
    by_cases hlt : i < 8
    · replace hix := hix.out i hlt
      obtain ⟨x, hx⟩ : ∃ x, ml.getD i 0 = x := ⟨_, rfl⟩
      rw [hx] at hix
      have hdr : ml.drop i = x :: ml.drop (i + 1) := by
        rw [List.drop_eq_getElem_cons (by rw [hm8.out]; exact hlt), ← hx]; simp [hm8.out, hlt]
      have hD : outS true (ml.drop (i + 1)) (outB x 8 acc) = tot := by rw [← HD.out, hdr]; rfl
      obtain ⟨fin, hfin⟩ : ∃ fin, outB x 8 acc = fin := ⟨_, rfl⟩
      rw [hfin] at hD
      have HD2 := Lib.hid hD
      have HFIN := Lib.hid hfin
      have hd8 : decide ((i : Int) < 8) = true := by simp; omega
      clear hx hdr hD HD hfin
      go_wp2
      clear hd8
      obtain ⟨wo, rfl⟩ : ∃ wo : World, wo = wr := ⟨_, rfl⟩
      go_loopw [5, 8] (fun v sv wr => ∃ (j : Nat) (ac : List UInt8), j ≤ 8 ∧ sv = .int .i64 (8 * (j : Int) - 8) ∧ ac.length + j = 8 * i + 8 ∧ Hid (wr.ownsRow w.heap.size 5 1 v ac.length (byteCells ac)) ∧ Hid (Below w.heap.size w wr) ∧ Hid (outB x j ac = fin)) (fun _ sv _ => (intOf sv + 8).toNat)
      case atStart => exact ⟨8, acc, by omega, rfl, by omega, HO.out, HB.out, HFIN.out⟩
      case round =>
        obtain ⟨j, ac, hj, rfl, hacl, HO2, HB2, HX⟩ := hrel
        obtain ⟨A, cap, rfl⟩ := own_form HO2.out
        clear HO HB HFIN
        have hbw := HB2.out.size
        by_cases hj0 : j = 0
        · subst hj0
          have hf : ac = fin := HX.out
          have HF := Lib.hid hf
          clear hf
          go_wp2
          go_roundw
          case rel => exact ⟨i + 1, ac, by omega, by go_num, by omega, HO2.out, HB2.out, by rw [HF.out]; exact HD2.out⟩
          case measure => simp [intOf]; omega
        · obtain ⟨j, rfl⟩ : ∃ q, j = q + 1 := ⟨j - 1, by omega⟩
          rw [show 8 * ((j + 1 : Nat) : Int) - 8 = ((8 * j : Nat) : Int) by omega]
          obtain ⟨b, hb⟩ : ∃ b, byI x (8 * j) = b := ⟨_, rfl⟩
          have hv : (x / 2 ^ (8 * j) % 256) = (b.toNat : Nat) := by
            rw [← hb]
            unfold byI
            have h1 := Int.emod_nonneg (x / 2 ^ (8 * j)) (show (256 : Int) ≠ 0 by omega)
            have h2 := Int.emod_lt_of_pos (x / 2 ^ (8 * j)) (show (0 : Int) < 256 by omega)
            simp
            omega
          have HX2 : outB x j (ac ++ [b]) = fin := by rw [← HX.out, ← hb]; rfl
          have hbits : min (8 * j) 64 = 8 * j := by omega
          replace HX2 := Lib.hid HX2
          clear HX hb
          go_wp2_with (at_builtin; refine wpList_append_own _ rfl _ _ 36 rfl w.heap.size 5 i0 (.int .u8 0) 1 1 Tryd.underlying36 hi hz0 hz1 hz2 rfl (by decide) _ _ _ rfl (HO2.out.alloc _) ⟨wr.heap.size, 0, none⟩ 1 1 [.int .u8 b.toNat] rfl rfl ?c1 ?c2 ?c3 ?c4 ?c5 ?_)
          case c1 => exact row_new wr [_] 5
          case c2 => intro u hu; simp at hu; subst hu; rfl
          case c3 => unfold maxLen; omega
          case c4 => omega
          case c5 => rw [World.size_alloc]; omega
          intro v' w7 ho7 hgr _
          have ho8 : w7.ownsRow w.heap.size 5 1 v' (ac ++ [b]).length (byteCells (ac ++ [b])) := by
            rw [byteCells_append, List.length_append]; exact ho7
          have hb7 := Lib.hid ((HB2.out.alloc hbw _).grown hgr (by rw [World.size_alloc]; omega) fun g hg => (HO2.out.lt g hg).1)
          clear ho7 hgr hv
          replace ho8 := Lib.hid ho8
          go_wp2
          go_roundw
          case rel => exact ⟨j, ac ++ [b], by omega, by go_num, by rw [List.length_append]; simp; omega, ho8, hb7, HX2.out⟩
          case measure => simp [intOf]; omega
    · obtain rfl : i = 8 := by omega
      have hd : acc = tot := by rw [← HD.out, List.drop_eq_nil_of_le (by rw [hm8.out]; omega)]; rfl
      have hcv := conv_own HO.out
      rw [show acc.length = 64 by omega, hd] at hcv
      have Hd := Lib.hid hd
      clear hd HD
      go_wp2
      go_ret
      exact ⟨rfl, HB.out⟩
end Go.Proofs.YtbkaemekcjinaaaDoor
