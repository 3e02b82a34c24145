/- Walks of package sha2: New.
Walks of package sha2: Write.
Walks of package sha2: padding.
Walks of package sha2: Sum.
Package sha2: a hash of the bytes that were written; its calls, for both kinds.
Package sha2: three sums by reckoning: of "abc" and "abx" of the first kind, of nothing of the second kind.
Package sha2's law package: the calls whose answers are fixed.
Package sha2's law Sha2Sizes: its walk.
Plain facts on numbers of five digits of base 2^32, the lowest first, and roots by digits. No program is spoken of. -/
import Derived.Test.YtgnblaaldpniiaaGreatDoorZS2
import Derived.Deep.OwnRows
section
set_option maxRecDepth 100000
set_option linter.unusedVariables false
set_option linter.unusedSimpArgs false
namespace Go.Proofs.YtgnblaaldpniiaaGreatDoor.Sh
open Go.RowKit Go.Lib
def initR (o : Bool) : Nat → Nat → List Int → List Int
  | 0, _, l => l
  | k + 1, i, l => initR o k (i + 1) (l.set i (if o = true then squaresL.getD i 0 else squaresL.getD i 0 / 4294967296))
def initI (o : Bool) : List Int := initR o 8 0 (List.replicate 8 0)
def NewPost (o : Bool) (w : World) (e : Ending) (w' : World) : Prop :=
  ∃ g, w.heap.size ≤ g ∧ e = .returned (.tuple #[.pointer (some ⟨g, 0, none⟩), .int .i64 0]) ∧ HashAt w' g o (initI o) (List.replicate 128 0) 0 ∧ Below w.heap.size w w'
theorem HashAt.setWord {w : World} {g : Nat} {o : Bool} {st : List Int} {bl : List UInt8} {n : Nat} (h : HashAt w g o st bl n) (i : Nat) (hi : i < 8) (x : Int) :
    HashAt (w.setCell ⟨g, 1 + i, none⟩ (.int .u64 x)) g o (st.set i x) bl n := by
  refine ⟨?_, by rw [List.length_set]; exact h.s8, h.b128⟩
  rw [heap_setCell_same _ _ _ _ _ _ h.blk]
  congr 2
  rw [List.setIfInBounds_toArray, hashL, Nat.add_comm 1 i, List.set_cons_succ, List.set_append_left _ _ (by rw [u64I_length, h.s8]; exact hi)]
  simp [hashL, u64I, List.map_set]
theorem built50 (k : Int) : Tryz.prog.built 102 [(0, .int .i64 k)] = some (.int .i64 k :: (u64I (List.replicate 8 0) ++ (byteCells (List.replicate 128 0) ++ [.int .i64 0]))).toArray := by kernel_rfl
theorem wpList_build_to {P : Program} {ops : Array Oper} {rest : List Oper} {o : Oper} {a : Act} {w : World} {Q : Exit → Act → World → Prop} (hg : o.guard = none) (t : TypeId) (parts : Array (Nat × Operand)) (ho : o.op = .build t parts)
    (cells : Array Value) (hf : P.built t (parts.map fun (i, x) => (i, a.eval x)).toList = some cells)
    (h : wpList P ops Q rest (a.put o.dst (.agg cells)) w) : wpList P ops Q (o :: rest) a w :=
  wpList_build hg t parts ho (by rw [hf]; rfl) (by rw [hf]; exact h)

theorem field_u64 (w : World) : (Instr.field 105 (.agg #[.int .i64 64, .int .i64 80, .int .u64 28, .int .u64 34, .int .u64 39, .int .u64 14, .int .u64 18, .int .u64 41, .int .u64 1, .int .u64 8, .int .u64 7, .int .u64 19, .int .u64 61, .int .u64 6]) 0).run Tryz.prog w = .ok (.int .i64 64) w := by kernel_rfl
set_option maxRecDepth 100000 in
set_option maxHeartbeats 1600000 in
theorem new_u64 (w : World) (hv : Vars w) : Calls Tryz.prog 53 #[.int .i64 1] w (NewPost true w) := by
  obtain ⟨X, hX⟩ : ∃ X, hashL true (List.replicate 8 0) (List.replicate 128 0) 0 = X := ⟨_, rfl⟩
  have hb := built50 1
  have hX2 : (hashL true (List.replicate 8 0) (List.replicate 128 0) 0) = .int .i64 1 :: (u64I (List.replicate 8 0) ++ (byteCells (List.replicate 128 0) ++ [.int .i64 0])) := rfl
  rw [← hX2, hX] at hb
  have HB := Lib.hid hb
  clear hX2 hb
  have HX := Lib.hid hX
  have h1 := hv.1
  have HV := Lib.hid hv
  clear hX hv
  have ca := fun w => ruleOf_any true w
  rw [show kd true = 1 from rfl, ruleC1] at ca
  have CA := Lib.hid ca
  clear ca
  go_enter Tryz.func53, Tryz.ntmps53
  have hfl := field_u64
  go_wp2_with (first
    | (refine wpList_build_to rfl 102 #[(0, .tmp 13)] rfl X.toArray ?_ ?_; (simp only [List.map_toArray, List.map_cons, List.map_nil]; exact HB.out))
    | (go_at_call 83; refine (CA.out _).mono ?_; rintro e w1 ⟨rfl, hb1⟩; have HB1 := Lib.hid hb1; clear hb1))
  clear hfl
  have h0 : HashAt w1 w.heap.size true (List.replicate 8 0) (List.replicate 128 0) 0 := by
    refine ⟨?_, by simp, by simp⟩
    rw [HB1.out.block _ (by simp), HX.out]
    exact heap_alloc_new w _
  have hb0 : Below w.heap.size w w1 := ((Below.refl _ _).alloc (Nat.le_refl _) _).trans (HB1.out.mono (by simp))
  have hsz : w.heap.size < w1.heap.size := h0.lt
  clear HB1
  generalize hz : List.replicate 128 (0 : UInt8) = z at h0 ⊢
  generalize hl0 : List.replicate 8 (0 : Int) = l0 at h0
  have H0 := Lib.hid h0
  have HB0 := Lib.hid hb0
  have HL0 := Lib.hid hl0
  have HZ := Lib.hid hz
  clear h0 hb0 hz hl0 hsz
  go_loopw [19] (fun v wr => ∃ (i : Nat) (l : List Int), i ≤ 8 ∧ v = .int .i64 i ∧ Hid (HashAt wr w.heap.size true l z 0) ∧ Hid (Below w.heap.size w wr) ∧ Hid (initR true (8 - i) i l = initR true 8 0 l0)) (fun v _ => 8 - (RowKit.intOf v).toNat)
  case atStart => exact ⟨0, l0, by omega, rfl, H0.out, HB0.out, rfl⟩
  case round =>
    obtain ⟨i, l, hi, rfl, HH, HB, HI⟩ := hrel
    clear H0 HB0
    by_cases hlt : i < 8
    · obtain ⟨x, hx⟩ : ∃ x, squaresL.getD i 0 = x := ⟨_, rfl⟩
      have hsq : ∀ u : Held (From wr.drew), u.w.cell? ⟨0, i, none⟩ = some (.int .u64 x) := fun u => hx ▸ ((HV.out.below HB.out h1).from u.h.of_drew).2.2 i hlt
      replace hx := Lib.hid hx
      go_wp2
      refine wp_region_from_tail 11 (by kernel_rfl) (by kernel_rfl) ?_
      simp only [List.take_succ_cons, List.take_zero, List.drop_succ_cons, List.drop_zero]
      repeat (go_big_quiet_step (fail))
      refine wpQuiet_nil ?_
      intro w5 hw5
      have H5 := HH.out.from hw5.of_drew
      have c5 := H5.state i hlt
      have f5 := H5.frozen (1 + i)
      have b5 := HB.out.trans (hw5.of_drew.mono HB.out.size)
      replace H5 := Lib.hid H5
      replace b5 := Lib.hid b5
      go_wp2
      go_roundw
      case rel => exact ⟨i + 1, l.set i (x), by omega, by go_num, H5.out.setWord i hlt _, b5.out.setCell (Nat.le_refl _) _, by
        have h := HI.out
        rw [show 8 - i = (8 - (i + 1)) + 1 by omega, initR, hx.out] at h
        exact h⟩
      case measure => simp [RowKit.intOf]; omega
    · obtain rfl : i = 8 := by omega
      have hL : l = initI true := by
        rw [initI, HL0.out, ← HI.out]; rfl
      have HL := Lib.hid hL
      clear hL HI
      go_wp2
      go_ret2
      exact ⟨w.heap.size, Nat.le_refl _, rfl, by rw [← HL.out, HZ.out]; exact HH.out, HB.out⟩
end Go.Proofs.YtgnblaaldpniiaaGreatDoor.Sh
end
section
set_option maxRecDepth 100000
set_option linter.unusedVariables false
set_option linter.unusedSimpArgs false
namespace Go.Proofs.YtgnblaaldpniiaaGreatDoor.Sh
open Go.RowKit Go.Lib
def WritePost (g : Nat) (o : Bool) (st : List Int) (bl : List UInt8) (n : Nat) (s : List UInt8) (w : World) (e : Ending) (w' : World) : Prop :=
  e = .returned (.tuple #[]) ∧ HashAt w' g o (feed o ⟨st, bl, n % room o⟩ s).st (feed o ⟨st, bl, n % room o⟩ s).bl (n + s.length) ∧ Chg g w w'
def strLen : Value → Nat
  | .string s => s.size
  | _ => 0
theorem extract_S (r : List UInt8) (c : Nat) : (S r).extract c (S r).size = S (r.drop c) := by
  apply ByteArray.ext
  apply Array.ext'
  rw [ByteArray.data_extract, S_size]
  show ((S r).data.extract c r.length).toList = r.drop c
  rw [Array.toList_extract]
  show (r.drop c).take (r.length - c) = _
  rw [List.take_of_length_le (by simp)]
theorem sizeB (w : World) : (Go.sizeOf 5).run Tryz.prog w = .ok 1 w := by kernel_rfl
theorem HashAt.setCount {w : World} {g : Nat} {o : Bool} {st : List Int} {bl : List UInt8} {n : Nat} (h : HashAt w g o st bl n) (m : Nat) :
    HashAt (w.setCell ⟨g, 137, none⟩ (.int .i64 (m : Nat))) g o st bl m := by
  refine ⟨?_, h.s8, h.b128⟩
  rw [heap_setCell_same _ _ _ _ _ _ h.blk]
  congr 2
  rw [List.setIfInBounds_toArray, hashL, List.set_cons_succ, List.set_append_right _ _ (by rw [u64I_length, h.s8]; omega), u64I_length, h.s8, List.set_append_right _ _ (by rw [byteCells_length, h.b128]; omega), byteCells_length, h.b128]
  rfl
theorem HashAt.setByte {w : World} {g : Nat} {o : Bool} {st : List Int} {bl : List UInt8} {n : Nat} (h : HashAt w g o st bl n) (i : Nat) (hi : i < 128) (b : UInt8) :
    HashAt (w.setCell ⟨g, 9 + i, none⟩ (.int .u8 (b.toNat : Nat))) g o st (bl.set i b) n := by
  refine ⟨?_, h.s8, by rw [List.length_set]; exact h.b128⟩
  rw [heap_setCell_same _ _ _ _ _ _ h.blk]
  congr 2
  rw [List.setIfInBounds_toArray, hashL, show 9 + i = (8 + i) + 1 by omega, List.set_cons_succ, List.set_append_right _ _ (by rw [u64I_length, h.s8]; omega), u64I_length, h.s8, Nat.add_sub_cancel_left,
    List.set_append_left _ _ (by rw [byteCells_length, h.b128]; exact hi)]
  simp [hashL, byteCells, List.map_set]
theorem HashAt.setBytes {g : Nat} {o : Bool} {st : List Int} {n : Nat} : ∀ {w : World} {bl : List UInt8} (_ : HashAt w g o st bl n) (f : Nat) (p : List UInt8) (_ : f + p.length ≤ 128),
    HashAt (w.setCells g (9 + f) (byteCells p)) g o st (putB bl f p) n
  | _, _, h, _, [], _ => h
  | w, bl, h, f, b :: p, hp => by
    simp only [List.length_cons] at hp
    exact (h.setByte f (by omega) b).setBytes (f + 1) p (by omega)
theorem wpList_copy_str {P : Program} {w : World} {ops : Array Oper} {rest : List Oper} {o : Oper} {a : Act} {Q : Exit → Act → World → Prop} (hgd : o.guard = none) (d x : Operand) (dT sT : TypeId)
    (ho : o.op = .call { callee := .builtin .copy, args := #[d, x], argTypes := #[dT, sT] }) (elem : TypeId) (hu : P.underlying dT = some (.slice elem)) (hz : ∀ w, (Go.sizeOf elem).run P w = .ok 1 w)
    (b off dLen dCap : Nat) (hd : a.eval d = .slice (some ⟨b, off, none⟩) dLen dCap) (t : ByteArray) (hx : a.eval x = .string t) (n : Nat) (hn : n = min t.size dLen)
    (hc : ∀ j, j < n → (w.cell? ⟨b, off + j, none⟩).isSome = true) (hf : ∀ j, j < n → w.frozen? ⟨b, off + j, none⟩ = false)
    (h : ∀ w', w' = w.setCells b off (byteCells (t.data.toList.take n)) → wpList P ops Q rest (a.put o.dst (.int .i64 (n : Nat))) w') : wpList P ops Q (o :: rest) a w := by
  refine wpList_plain hgd fun K hK => ?_
  have hrun := run_copy_str (P := P) w dT sT o.type elem b off dLen dCap t n hn hu hz hc hf
  unfold Oper.wp
  simp [execOp, ho, resolve, invoke, builtin, hd, hx, hrun, Result.andThen]
  exact hK _ _ (h _ rfl)

set_option maxRecDepth 100000 in
set_option maxHeartbeats 1600000 in
theorem write_u64 (g : Nat) (st : List Int) (bl : List UInt8) (n : Nat) (s : List UInt8) (w : World) (h : HashAt w g true st bl n) (hv : Vars w) (hg : 1 < g) (hn : n + (S s).size ≤ 4611686018427387904) :
    Calls Tryz.prog 54 #[.pointer (some ⟨g, 0, none⟩), .string (S s)] w (WritePost g true st bl n s w) := by
  obtain ⟨f0, hf0⟩ : ∃ f, n % 128 = f := ⟨_, rfl⟩
  have hf1 : f0 < 128 := by omega
  obtain ⟨tot, htot⟩ : ∃ t, feed true ⟨st, bl, f0⟩ s = t := ⟨_, rfl⟩
  have e1 : (n : Int) % 128 = (f0 : Int) := by omega
  have hk := h.kind
  have hc := h.count
  have hlt := h.lt
  rw [show kd true = 1 from rfl] at hk
  have H := Lib.hid h
  have HV := Lib.hid hv
  have HF0 := Lib.hid hf0
  have HT := Lib.hid htot
  clear h hv hf0 htot
  have ca := fun w => ruleOf_any true w
  rw [show kd true = 1 from rfl] at ca
  have CA := Lib.hid ca
  have cb : ∀ w, Calls Tryz.prog 84 #[.agg (ruleC true)] w fun e w' => e = .returned (.int .i64 128) ∧ Below w.heap.size w w' := fun w => blockBytes_any true w
  have CB := Lib.hid cb
  clear ca cb
  go_enter Tryz.func54, Tryz.ntmps54
  go_wp2_with (first
    | (go_at_call 83; refine (CA.out _).mono ?_; rintro e w1 ⟨rfl, hb1⟩; have HB1 := Lib.hid hb1; clear hb1)
    | (go_at_call 84; refine (CB.out _).mono ?_; rintro e w2 ⟨rfl, hb2⟩; have hB := HB1.out.trans (hb2.mono HB1.out.size); have hc2 : w2.cell? ⟨g, 137, none⟩ = some (.int .i64 n) := (hB.cell (p := ⟨g, 137, none⟩) hlt).trans hc; have hf2 : w2.frozen? ⟨g, 137, none⟩ = false := (hB.frozen (p := ⟨g, 137, none⟩) hlt).trans (H.out.frozen 137); have HB := Lib.hid hB; clear hb2 hB HB1))
  have hS : w2.setCell ⟨g, 137, none⟩ (.int .i64 (n + (S s).size)) = w2.setCell ⟨g, 137, none⟩ (.int .i64 ((n + s.length : Nat) : Int)) := by rw [S_size]; simp
  rw [hS]
  clear hS hc2 hf2
  have h3 : HashAt (w2.setCell ⟨g, 137, none⟩ (.int .i64 ((n + s.length : Nat) : Int))) g true st bl (n + s.length) := (H.out.below HB.out hlt).setCount _
  have g3 : Chg g w (w2.setCell ⟨g, 137, none⟩ (.int .i64 ((n + s.length : Nat) : Int))) := (Chg.of_below HB.out).setCell _ _
  generalize w2.setCell ⟨g, 137, none⟩ (.int .i64 ((n + s.length : Nat) : Int)) = w3 at h3 g3 ⊢
  generalize hN : n + s.length = N at h3
  have H3 := Lib.hid h3
  have G3 := Lib.hid g3
  have HN := Lib.hid hN
  rw [S_size] at hn
  have HNn := Lib.hid hn
  clear h3 g3 hN H HB CA CB hc hk hn
  go_loopw [5, 6] (fun v5 v6 wr => ∃ (f : Nat) (r : List UInt8) (st' : List Int) (bl' : List UInt8), f < 128 ∧ r.length ≤ 4611686018427387904 ∧ v5 = .int .i64 f ∧ v6 = .string (S r) ∧ Hid (HashAt wr g true st' bl' N) ∧ Hid (Chg g w wr) ∧ Hid (feed true ⟨st', bl', f⟩ r = tot)) (fun _ v6 _ => strLen v6)
  case atStart => exact ⟨f0, s, st, bl, hf1, by have := HNn.out; omega, by rw [e1], rfl, H3.out, G3.out, HT.out⟩
  case round =>
    obtain ⟨f, r, st2, bl2, hf, hr, rfl, rfl, HH, HC, HD⟩ := hrel
    have HTT := HT
    clear H3 G3 HT e1
    by_cases hne : r = []
    · subst hne
      have hz1 : (S []).toList.isEmpty = true := by kernel_rfl
      have hz2 : ((S []).toList == []) = true := by kernel_rfl
      go_wp2
      go_end0
      have e : tot = ⟨st2, bl2, f⟩ := HD.out.symm
      refine ⟨rfl, ?_, HC.out⟩
      have e2 : feed true ⟨st, bl, n % room true⟩ s = ⟨st2, bl2, f⟩ := by rw [← e, show n % room true = f0 from HF0.out]; exact HTT.out
      rw [e2, HN.out]
      exact HH.out
    · have hz1 := isEmpty_S r hne
      have hz2 := beq_S_nil r hne
      have hpos : 0 < r.length := by cases r with
        | nil => exact absurd rfl hne
        | cons a b => simp
      obtain ⟨c, hc⟩ : ∃ c, min (S r).size (128 - f) = c := ⟨_, rfl⟩
      have hcS : c = min r.length (128 - f) := by rw [← hc, S_size]
      have hc0 : 0 < c := by omega
      have hcr : c ≤ r.length := by omega
      have hcf : f + c ≤ 128 := by omega
      have hcut : ∀ w', (Instr.sliceAt 100 (.pointer (some ⟨g, 9, none⟩)) (some (.int .i64 (f : Int))) (some (.int .i64 128)) none).run Tryz.prog w' = .ok (.slice (some ⟨g, 9 + f, none⟩) (128 - f) (128 - f)) w' := fun w' => run_cut g 9 f 128 (by omega) (by omega) (by omega) w'
      have hex : (S r).extract c (S r).size = S (r.drop c) := extract_S r c
      have hcs : (c : Int) ≤ (S r).size := by rw [S_size]; omega
      have Hcm := Lib.hid hc.symm
      have HcS := Lib.hid hcS
      have Hne := Lib.hid hne
      clear hc hcS hne
      have hk := HH.out.kind
      have hlt3 := HH.out.lt
      have hV := (HC.out.vars HV.out hg)
      have HVr := Lib.hid hV
      clear hV
      have hD : feed true (feed true ⟨st2, bl2, f⟩ (r.take c)) (r.drop c) = tot := by
        rw [← feed_append, List.take_append_drop]; exact HD.out
      have htl : (r.take c).length = c := by rw [List.length_take]; omega
      by_cases hfull : f + c = 128
      · have hb1 : ((f : Int) + c == 128) = true := by simp; omega
        rw [feed_full true (r.take c) ⟨st2, bl2, f⟩ (by intro e; rw [e] at htl; simp at htl; omega) (by show f + _ = _; rw [htl]; exact hfull)] at hD
        replace hfull := Lib.hid hfull
        replace hD := Lib.hid hD
        replace htl := Lib.hid htl
        go_wp2_with (first
          | (refine wpList_copy_str rfl (.tmp 37) (.tmp 38) _ _ rfl 5 Tryz.underlying37 sizeB g (9 + f) (128 - f) (128 - f) rfl (S r) rfl c Hcm.out ?_ ?_ ?_; (intro j hj; rw [show 9 + f + j = 9 + (f + j) by omega, HH.out.byte _ (by omega)]; rfl); (intro j hj; exact HH.out.frozen _); intro w6 hw6; rw [S_data] at hw6; have H6 := HH.out.setBytes f (r.take c) (by rw [List.length_take]; omega); rw [← hw6] at H6; have C6 := HC.out.setCells (byteCells (r.take c)) (9 + f); rw [← hw6] at C6; replace H6 := Lib.hid H6; replace C6 := Lib.hid C6; clear hw6)
          | (go_at_call 85; refine (mixBlock_u64 g _ _ _ _ H6.out (C6.out.vars HV.out hg)).mono ?_; rintro e7 w7 ⟨rfl, h7, c7⟩; have H7 := Lib.hid h7; have C7 := Lib.hid c7; clear h7 c7))
        go_roundw
        case rel => exact ⟨0, r.drop c, _, _, by omega, by rw [List.length_drop]; omega, rfl, rfl, H7.out, C6.out.trans C7.out, hD.out⟩
        case measure => simp only [strLen, S_size, List.length_drop]; omega
      · have hb1 : ((f : Int) + c == 128) = false := by simp; omega
        rw [feed_part true (r.take c) ⟨st2, bl2, f⟩ (by show f + _ < 128; rw [htl]; omega)] at hD
        dsimp only at hD
        rw [htl] at hD
        have hlt6 : f + c < 128 := by omega
        replace hfull := Lib.hid hfull
        replace hD := Lib.hid hD
        replace htl := Lib.hid htl
        go_wp2_with (refine wpList_copy_str rfl (.tmp 37) (.tmp 38) _ _ rfl 5 Tryz.underlying37 sizeB g (9 + f) (128 - f) (128 - f) rfl (S r) rfl c Hcm.out ?_ ?_ ?_; (intro j hj; rw [show 9 + f + j = 9 + (f + j) by omega, HH.out.byte _ (by omega)]; rfl); (intro j hj; exact HH.out.frozen _); intro w6 hw6; rw [S_data] at hw6; have H6 := HH.out.setBytes f (r.take c) (by rw [List.length_take]; omega); rw [← hw6] at H6; have C6 := HC.out.setCells (byteCells (r.take c)) (9 + f); rw [← hw6] at C6; replace H6 := Lib.hid H6; replace C6 := Lib.hid C6; clear hw6)
        go_roundw
        case rel => exact ⟨f + c, r.drop c, _, _, hlt6, by rw [List.length_drop]; omega, by go_num, rfl, H6.out, C6.out, hD.out⟩
        case measure => simp only [strLen, S_size, List.length_drop]; omega
end Go.Proofs.YtgnblaaldpniiaaGreatDoor.Sh
end
section
set_option maxRecDepth 100000
set_option linter.unusedVariables false
set_option linter.unusedSimpArgs false
namespace Go.Proofs.YtgnblaaldpniiaaGreatDoor.Sh
open Go.RowKit Go.Lib
def padR (bits m : Nat) : Nat → Nat → List UInt8 → List UInt8
  | 0, _, l => l
  | k + 1, i, l => padR bits m k (i + 1) (l.set (m - 1 - i) (UInt8.ofNat (bits / 2 ^ (8 * i))))
def padL (o : Bool) (n : Nat) : List UInt8 :=
  padR (n * 8) (1 + (room o - (n + 1 + wdI o / 4) % room o) % room o + wdI o / 4) 8 0 ((List.replicate (1 + (room o - (n + 1 + wdI o / 4) % room o) % room o + wdI o / 4) 0).set 0 128)
def RowB (T : TypeId) (w : World) (g : Nat) (l : List UInt8) : Prop := w.heap[g]? = some (.cells (byteCells l).toArray T (0, 0))
theorem made_bytes (m : Nat) : (madeCells #[.int .u8 0] m).setIfInBounds 0 (.int .u8 128) = (byteCells ((List.replicate m 0).set 0 128)).toArray := by
  have h : madeCells #[.int .u8 0] m = (byteCells (List.replicate m 0)).toArray := by
    apply Array.ext
    · simp [madeCells, byteCells]
    · intro j h1 h2
      simp [madeCells, byteCells, Nat.mod_one]
  rw [h, List.setIfInBounds_toArray]
  simp [byteCells, List.map_set]
section
variable {T : TypeId} {w w' : World} {g : Nat} {l : List UInt8}
theorem RowB.cell (h : RowB T w g l) (j : Nat) (hj : j < l.length) : w.cell? ⟨g, j, none⟩ = some (.int .u8 ((l.getD j 0).toNat : Nat)) := by
  rw [cell_of_row w g _ _ _ _ h]
  simp [byteCells, hj]
theorem RowB.frozen (h : RowB T w g l) (j : Nat) : w.frozen? ⟨g, j, none⟩ = false := frozen_of_row w g j _ _ h
theorem RowB.set (h : RowB T w g l) (j : Nat) (b : UInt8) : RowB T (w.setCell ⟨g, j, none⟩ (.int .u8 (b.toNat : Nat))) g (l.set j b) := by
  unfold RowB at h ⊢
  rw [heap_setCell_same w g j _ _ _ h]
  simp [byteCells, List.map_set]
theorem RowB.conv (h : RowB T w g l) : (convert 37 9 (.slice (some ⟨g, 0, none⟩) l.length l.length)).run Tryz.prog w = .ok (.string (S l)) w := by
  refine run_convert_bytes_back w 37 9 5 _ _ l Tryz.underlying37 Tryz.underlying5 Tryz.underlying9 (fun j hj => ?_)
  have e : (⟨g, 0, none⟩ : Addr).add j = ⟨g, j, none⟩ := by have := Addr.add_mid g 0 j; simpa using this
  rw [e, h.cell j hj]
  simp [hj]
end

set_option maxRecDepth 100000 in
set_option maxHeartbeats 1600000 in
theorem padding_u64 (g : Nat) (st : List Int) (bl : List UInt8) (n : Nat) (w : World) (h : HashAt w g true st bl n) (hn : n ≤ 1152921504606846976) :
    Calls Tryz.prog 87 #[.pointer (some ⟨g, 0, none⟩)] w fun e w' => e = .returned (.string (S (padL true n))) ∧ Below w.heap.size w w' := by
  obtain ⟨ov, hov⟩ : ∃ x, (n + 1 + 16) % 128 = x := ⟨_, rfl⟩
  obtain ⟨z, hz⟩ : ∃ x, (128 - ov) % 128 = x := ⟨_, rfl⟩
  obtain ⟨m, hm⟩ : ∃ x, 1 + z + 16 = x := ⟨_, rfl⟩
  have hP : padL true n = padR (n * 8) m 8 0 ((List.replicate m 0).set 0 128) := by
    rw [← hm, ← hz, ← hov]; rfl
  obtain ⟨tot, htot⟩ : ∃ t, padL true n = t := ⟨_, rfl⟩
  rw [htot] at hP ⊢
  have hov1 : ov < 128 := by omega
  have hz1 : z < 128 := by omega
  have e1 : ((n : Int) + 1 + 16) % 128 = (ov : Int) := by omega
  have e2 : (128 - (ov : Int)) % 128 = (z : Int) := by omega
  have e3 : (1 + (z : Int) + 16) = (m : Int) := by omega
  have hm1 : 17 ≤ m := by omega
  have hm2 : m ≤ 145 := by omega
  have hk := h.kind
  have hc := h.count
  have hlt := h.lt
  rw [show kd true = 1 from rfl] at hk
  have H := Lib.hid h
  have HP := Lib.hid hP
  clear h hov hz hm hP htot
  have ca := fun w => ruleOf_any true w
  rw [show kd true = 1 from rfl] at ca
  have CA := Lib.hid ca
  have cb : ∀ w, Calls Tryz.prog 84 #[.agg (ruleC true)] w fun e w' => e = .returned (.int .i64 128) ∧ Below w.heap.size w w' := fun w => blockBytes_any true w
  have CB := Lib.hid cb
  clear ca cb
  have hpos : 0 < m := by omega
  have hm0 : (madeCells #[.int .u8 0] m)[0]? = some (.int .u8 0) := by simp [madeCells, hpos]
  have hm0' : 0 < (madeCells #[.int .u8 0] m).size := by rw [size_madeCells]; exact hpos
  have hmk := fun W => run_make_row' (P := Tryz.prog) 37 5 (.int .u8 0) 1 Tryz.underlying37 info5 rfl .i64 .i64 m (by omega) (by omega) W
  go_enter Tryz.func87, Tryz.ntmps87
  go_wp2_with (first
    | (go_at_call 83; refine (CA.out _).mono ?_; rintro e w1 ⟨rfl, hb1⟩; have hb1' := hb1; have hlt1 : g < w1.heap.size := Nat.lt_of_lt_of_le hlt hb1.size; rw [ruleC1]; have HB1 := Lib.hid hb1; clear hb1 hb1')
    | (go_at_call 84; rw [← ruleC1]; refine (CB.out _).mono ?_; rintro e w2 ⟨rfl, hb2⟩; have hq := (HB1.out.alloc HB1.out.size _).trans (hb2.mono (by rw [World.size_alloc]; exact Nat.le_succ_of_le HB1.out.size)); have hr2 : w2.cell? ⟨w1.heap.size, 0, none⟩ = some (.int .i64 64) := (hb2.cell (p := ⟨w1.heap.size, 0, none⟩) (by simp)).trans (by rw [cell_of_row _ _ _ _ _ _ (heap_alloc_new w1 _)]; rfl); have hc2 : w2.cell? ⟨g, 137, none⟩ = some (.int .i64 n) := (hq.cell (p := ⟨g, 137, none⟩) hlt).trans hc; have hlt2 : g < w2.heap.size := Nat.lt_of_lt_of_le hlt hq.size; have HQ := Lib.hid hq; clear hb2 hq))
  have h0 : RowB 5 (w2.alloc (.cells ((madeCells #[.int .u8 0] m).setIfInBounds 0 (.int .u8 128)) 5)) w2.heap.size ((List.replicate m 0).set 0 128) := by
    rw [made_bytes]; exact heap_alloc_new w2 _
  have b0 : Below w.heap.size w (w2.alloc (.cells ((madeCells #[.int .u8 0] m).setIfInBounds 0 (.int .u8 128)) 5)) := HQ.out.alloc HQ.out.size _
  generalize w2.alloc (.cells ((madeCells #[.int .u8 0] m).setIfInBounds 0 (.int .u8 128)) 5) = w3 at h0 b0 ⊢
  generalize hl0 : (List.replicate m (0 : UInt8)).set 0 128 = l0 at h0
  have hgB : w.heap.size ≤ w2.heap.size := HQ.out.size
  generalize w2.heap.size = gb at h0 hgB ⊢
  have hlen : l0.length = m := by rw [← hl0]; simp
  have HL0 := Lib.hid hl0
  have HLN := Lib.hid hlen
  have H0 := Lib.hid h0
  have B0 := Lib.hid b0
  clear hl0 hlen h0 b0 hc2 hr2 hlt2 hlt1 HQ HB1 CA CB hmk hk hc hlt H hm0 hm0'
  go_loopw [48] (fun v wr => ∃ (i : Nat) (l : List UInt8), i ≤ 8 ∧ v = .int .i64 i ∧ Hid (l.length = m) ∧ Hid (RowB 5 wr gb l) ∧ Hid (Below w.heap.size w wr) ∧ Hid (padR (n * 8) m (8 - i) i l = tot)) (fun v _ => 8 - (RowKit.intOf v).toNat)
  case atStart => exact ⟨0, l0, by omega, rfl, HLN.out, H0.out, B0.out, by rw [← HL0.out]; exact HP.out.symm⟩
  case round =>
    obtain ⟨i, l, hi, rfl, HL, HR, HB, HD⟩ := hrel
    clear H0 B0
    by_cases hlt : i < 8
    · obtain ⟨b, hb⟩ : ∃ b, UInt8.ofNat (n * 8 / 2 ^ (8 * i)) = b := ⟨_, rfl⟩
      have c5 : wr.cell? ⟨gb, m - 1 - i, none⟩ = some (.int .u8 ((l.getD (m - 1 - i) 0).toNat : Nat)) := HR.out.cell _ (by rw [HL.out]; omega)
      have f5 := HR.out.frozen (m - 1 - i)
      replace hb := Lib.hid hb
      have hv : ((n : Int) * 8 / 2 ^ (8 * i) % 256) = (b.toNat : Nat) := by
        rw [← hb.out]; simp
      have Hv := Lib.hid hv
      clear hv
      go_wp2
      go_roundw
      case rel => exact ⟨i + 1, l.set (m - 1 - i) b, by omega, by go_num, by rw [List.length_set]; exact HL.out, by rw [Hv.out]; exact HR.out.set _ b, HB.out.setCell hgB _, by
        have h := HD.out
        rw [show 8 - i = (8 - (i + 1)) + 1 by omega, padR, hb.out] at h
        exact h⟩
      case measure => simp [RowKit.intOf]; omega
    · obtain rfl : i = 8 := by omega
      have hL : l = tot := HD.out
      have hcv : (convert 37 9 (.slice (some ⟨gb, 0, none⟩) m m)).run Tryz.prog wr = .ok (.string (S tot)) wr := by
        have hl := HL.out
        have hr := HR.out
        subst hL
        subst hl
        exact hr.conv
      replace hL := Lib.hid hL
      go_wp2
      go_ret
      exact ⟨rfl, HB.out⟩
end Go.Proofs.YtgnblaaldpniiaaGreatDoor.Sh
end
section
set_option maxRecDepth 100000
set_option linter.unusedVariables false
set_option linter.unusedSimpArgs false
namespace Go.Proofs.YtgnblaaldpniiaaGreatDoor.Sh
open Go.RowKit Go.Lib
def byI (x : Int) (sh : Nat) : UInt8 := UInt8.ofNat (x / 2 ^ sh % 256).toNat
def outB (x : Int) : Nat → List UInt8 → List UInt8
  | 0, acc => acc
  | k + 1, acc => outB x k (acc ++ [byI x (8 * k)])
def outS (o : Bool) : List Int → List UInt8 → List UInt8
  | [], acc => acc
  | x :: r, acc => outS o r (outB x (wdI o / 8) acc)
def sumL (o : Bool) (st : List Int) (bl : List UInt8) (n : Nat) : List UInt8 := outS o (feed o ⟨st, bl, n % room o⟩ (padL o n)).st []
def SumPostT (tot : List UInt8) (w : World) (e : Ending) (w' : World) : Prop := e = .returned (.string (S tot)) ∧ Below w.heap.size w w'
def SumPost (o : Bool) (st : List Int) (bl : List UInt8) (n : Nat) (w : World) (e : Ending) (w' : World) : Prop := SumPostT (sumL o st bl n) w e w'
theorem padR_length (bits m : Nat) : ∀ (k i : Nat) (l : List UInt8), (padR bits m k i l).length = l.length
  | 0, _, _ => rfl
  | k + 1, i, l => by rw [padR, padR_length bits m k, List.length_set]
theorem padL_length (o : Bool) (n : Nat) : (padL o n).length ≤ 200 := by
  rw [padL, padR_length, List.length_set, List.length_replicate]
  have := Nat.mod_lt (room o - (n + 1 + wdI o / 4) % room o) (room_pos o)
  have h2 := room_le o
  have h3 : wdI o / 4 ≤ 16 := by cases o <;> decide
  omega

set_option maxRecDepth 100000 in
set_option maxHeartbeats 3200000 in
theorem sum_u64 (g : Nat) (st : List Int) (bl : List UInt8) (n : Nat) (w : World) (h : HashAt w g true st bl n) (hv : Vars w) (hn : n ≤ 1152921504606846976) :
    Calls Tryz.prog 55 #[.pointer (some ⟨g, 0, none⟩)] w (SumPost true st bl n w) := by
  obtain ⟨i0, hi, hz0, hz1, hz2⟩ := info_parts info5
  obtain ⟨P, hP⟩ : ∃ P, padL true n = P := ⟨_, rfl⟩
  have hPl : P.length ≤ 200 := by rw [← hP]; exact padL_length true n
  have hF8 : (feed true ⟨st, bl, n % room true⟩ P).st.length = 8 := by rw [feed_st]; exact h.s8
  obtain ⟨tot, htot0⟩ : ∃ t, sumL true st bl n = t := ⟨_, rfl⟩
  have htot : outS true (feed true ⟨st, bl, n % room true⟩ P).st [] = tot := by rw [← htot0, sumL, hP]
  rw [show SumPost true st bl n w = SumPostT tot w from by funext e w'; unfold SumPost; rw [htot0]]
  have cw := fun (w' : World) (g' : Nat) (h' : HashAt w' g' true st bl n) (hv' : Vars w') (hg' : 1 < g') => write_u64 g' st bl n P w' h' hv' hg' (by rw [S_size]; omega)
  unfold WritePost at cw
  generalize (feed true ⟨st, bl, n % room true⟩ P).bl = bF at cw
  generalize (feed true ⟨st, bl, n % room true⟩ P).st = sF at cw hF8 htot
  obtain ⟨s0, s1, s2, s3, s4, s5, s6, s7, rfl⟩ := eight hF8
  have CW := Lib.hid cw
  have cp := fun (w' : World) (h' : HashAt w' g true st bl n) => padding_u64 g st bl n w' h' hn
  rw [hP] at cp
  have CP := Lib.hid cp
  have hlt := h.lt
  have h1 := hv.1
  have H := Lib.hid h
  have HV := Lib.hid hv
  have HTOT := Lib.hid htot
  clear h hv htot htot0 cw cp hP hPl hF8
  have ca := fun w => ruleOf_any true w
  rw [show kd true = 1 from rfl, ruleC1] at ca
  have CA := Lib.hid ca
  clear ca
  have hfl := field_u64
  go_enter Tryz.func55, Tryz.ntmps55
  go_wp2_with (first
    | (go_at_call 86; refine (clone_any g true st bl n _ H.out).mono ?_; rintro e w1 ⟨g1, hg1, rfl, hh1, hb1⟩; have HH1 := Lib.hid hh1; have HB1 := Lib.hid hb1; clear hh1 hb1)
    | (go_at_call 87; refine (CP.out _ (H.out.from HB1.out)).mono ?_; rintro e w2 ⟨rfl, hb2⟩; have HB2 := Lib.hid hb2; clear hb2)
    | (go_at_call 54; refine (CW.out _ g1 (HH1.out.from HB2.out) ((HV.out.from HB1.out).from HB2.out) (by omega)).mono ?_; rintro e w3 ⟨rfl, H3, C3⟩; have hk3 : w3.cell? ⟨g, 0, none⟩ = some (.int .i64 1) := (C3.hash ((H.out.from HB1.out).from HB2.out) (by omega)).kind; have hB3 : Below w.heap.size w w3 := Chg.below (HB1.out.trans (HB2.out.mono HB1.out.size)) C3 (Nat.le_trans HB1.out.size HB2.out.size) hg1; have HB3 := Lib.hid hB3; have HH3 := Lib.hid H3; clear hB3 H3 C3 HB1 HB2 HH1)
    | (go_at_call 83; refine (CA.out _).mono ?_; rintro e w4 ⟨rfl, hb4⟩; have HH4 := Lib.hid (HH3.out.from hb4); have HB4 := Lib.hid (HB3.out.trans (hb4.mono HB3.out.size)); clear hb4 HH3 HB3 hk3)
    | (at_make; refine wpList_make_own _ rfl _ _ 37 rfl w.heap.size 5 i0 (.int .u8 0) 1 Tryz.underlying37 hi hz0 hz1 .i64 .i64 _ 64 rfl rfl rfl ?b2 ?b3 ?b4 ?_))
  case b2 => rw [hz2]; omega
  case b3 => unfold maxLen; omega
  case b4 => exact HB4.out.size
  intro w5 ho5 hg5
  have HB5 := Lib.hid (HB4.out.grown hg5 HB4.out.size (by intro g hg; cases hg))
  have HO5 := Lib.hid ho5
  have H5 : HashAt w5 g1 true [s0, s1, s2, s3, s4, s5, s6, s7] bF (n + P.length) := HH4.out.of_heap (hg5.block g1 HH4.out.lt (by intro e; cases e))
  have q0 : w5.cell? ⟨g1, 1, none⟩ = some (.int .u64 s0) := H5.state 0 (by omega)
  have q1 : w5.cell? ⟨g1, 2, none⟩ = some (.int .u64 s1) := H5.state 1 (by omega)
  have q2 : w5.cell? ⟨g1, 3, none⟩ = some (.int .u64 s2) := H5.state 2 (by omega)
  have q3 : w5.cell? ⟨g1, 4, none⟩ = some (.int .u64 s3) := H5.state 3 (by omega)
  have q4 : w5.cell? ⟨g1, 5, none⟩ = some (.int .u64 s4) := H5.state 4 (by omega)
  have q5 : w5.cell? ⟨g1, 6, none⟩ = some (.int .u64 s5) := H5.state 5 (by omega)
  have q6 : w5.cell? ⟨g1, 7, none⟩ = some (.int .u64 s6) := H5.state 6 (by omega)
  have q7 : w5.cell? ⟨g1, 8, none⟩ = some (.int .u64 s7) := H5.state 7 (by omega)
  clear ho5 hg5 HH4 HB4 H5
  go_wp2
  clear q0 q1 q2 q3 q4 q5 q6 q7 hfl CA
  have hix : ∀ (i : Nat), i < 8 → ∀ w', (Instr.index 99 (.agg #[.int .u64 s0, .int .u64 s1, .int .u64 s2, .int .u64 s3, .int .u64 s4, .int .u64 s5, .int .u64 s6, .int .u64 s7]) (.int .i64 i)).run Tryz.prog w' = .ok (.int .u64 ([s0, s1, s2, s3, s4, s5, s6, s7].getD i 0)) w' := by
    intro i hi w'
    rcases (show i = 0 ∨ i = 1 ∨ i = 2 ∨ i = 3 ∨ i = 4 ∨ i = 5 ∨ i = 6 ∨ i = 7 by omega) with rfl | rfl | rfl | rfl | rfl | rfl | rfl | rfl
    all_goals kernel_rfl
  generalize hml : [s0, s1, s2, s3, s4, s5, s6, s7] = ml at hix HTOT
  have hm8 : ml.length = 8 := by rw [← hml]; rfl
  replace hix := Lib.hid hix
  replace hm8 := Lib.hid hm8
  clear hml
  go_loopw [5, 27] (fun v iv wr => ∃ (i : Nat) (acc : List UInt8), i ≤ 8 ∧ iv = .int .i64 i ∧ acc.length = 8 * i ∧ Hid (wr.ownsRow w.heap.size 5 1 v acc.length (byteCells acc)) ∧ Hid (Below w.heap.size w wr) ∧ Hid (outS true (ml.drop i) acc = tot)) (fun _ iv _ => 8 - (RowKit.intOf iv).toNat)
  case atStart => exact ⟨0, [], by omega, rfl, rfl, HO5.out, HB5.out, HTOT.out⟩
  case round =>
    obtain ⟨i, acc, hi8, rfl, hal, HO, HB, HD⟩ := hrel
    obtain ⟨A0, cap0, rfl⟩ := own_form HO.out
    clear HO5 HB5 HTOT
    by_cases hlt : i < 8
    · replace hix := hix.out i hlt
      obtain ⟨x, hx⟩ : ∃ x, ml.getD i 0 = x := ⟨_, rfl⟩
      rw [hx] at hix
      have hdr : ml.drop i = x :: ml.drop (i + 1) := by
        rw [List.drop_eq_getElem_cons (by rw [hm8.out]; exact hlt), ← hx]; simp [hm8.out, hlt]
      have hD : outS true (ml.drop (i + 1)) (outB x 8 acc) = tot := by rw [← HD.out, hdr]; rfl
      obtain ⟨fin, hfin⟩ : ∃ fin, outB x 8 acc = fin := ⟨_, rfl⟩
      rw [hfin] at hD
      have HD2 := Lib.hid hD
      have HFIN := Lib.hid hfin
      have hd8 : decide ((i : Int) < 8) = true := by simp; omega
      clear hx hdr hD HD hfin
      go_wp2
      clear hd8
      obtain ⟨wo, rfl⟩ : ∃ wo : World, wo = wr := ⟨_, rfl⟩
      go_loopw [5, 8] (fun v sv wr => ∃ (j : Nat) (ac : List UInt8), j ≤ 8 ∧ sv = .int .i64 (8 * (j : Int) - 8) ∧ ac.length + j = 8 * i + 8 ∧ Hid (wr.ownsRow w.heap.size 5 1 v ac.length (byteCells ac)) ∧ Hid (Below w.heap.size w wr) ∧ Hid (outB x j ac = fin)) (fun _ sv _ => (RowKit.intOf sv + 8).toNat)
      case atStart => exact ⟨8, acc, by omega, rfl, by omega, HO.out, HB.out, HFIN.out⟩
      case round =>
        obtain ⟨j, ac, hj, rfl, hacl, HO2, HB2, HX⟩ := hrel
        obtain ⟨A, cap, rfl⟩ := own_form HO2.out
        clear HO HB HFIN
        have hbw := HB2.out.size
        by_cases hj0 : j = 0
        · subst hj0
          have hf : ac = fin := HX.out
          have HF := Lib.hid hf
          clear hf
          go_wp2
          go_roundw
          case rel => exact ⟨i + 1, ac, by omega, by go_num, by omega, HO2.out, HB2.out, by rw [HF.out]; exact HD2.out⟩
          case measure => simp [RowKit.intOf]; omega
        · obtain ⟨j, rfl⟩ : ∃ q, j = q + 1 := ⟨j - 1, by omega⟩
          rw [show 8 * ((j + 1 : Nat) : Int) - 8 = ((8 * j : Nat) : Int) by omega]
          obtain ⟨b, hb⟩ : ∃ b, byI x (8 * j) = b := ⟨_, rfl⟩
          have hv : (x / 2 ^ (8 * j) % 256) = (b.toNat : Nat) := by
            rw [← hb]
            unfold byI
            have h1 := Int.emod_nonneg (x / 2 ^ (8 * j)) (show (256 : Int) ≠ 0 by omega)
            have h2 := Int.emod_lt_of_pos (x / 2 ^ (8 * j)) (show (0 : Int) < 256 by omega)
            simp
            omega
          have HX2 : outB x j (ac ++ [b]) = fin := by rw [← HX.out, ← hb]; rfl
          have hbits : min (8 * j) 64 = 8 * j := by omega
          replace HX2 := Lib.hid HX2
          clear HX hb
          go_wp2_with (at_builtin; refine wpList_append_own _ rfl _ _ 37 rfl w.heap.size 5 i0 (.int .u8 0) 1 1 Tryz.underlying37 hi hz0 hz1 hz2 rfl (by decide) _ _ _ rfl (HO2.out.alloc _) ⟨wr.heap.size, 0, none⟩ 1 1 [.int .u8 b.toNat] rfl rfl ?c1 ?c2 ?c3 ?c4 ?c5 ?_)
          case c1 => exact row_new wr [_] 5
          case c2 => intro u hu; simp at hu; subst hu; rfl
          case c3 => unfold maxLen; omega
          case c4 => omega
          case c5 => rw [World.size_alloc]; omega
          intro v' w7 ho7 hgr _
          have ho8 : w7.ownsRow w.heap.size 5 1 v' (ac ++ [b]).length (byteCells (ac ++ [b])) := by
            rw [byteCells_append, List.length_append]; exact ho7
          have hb7 := Lib.hid ((HB2.out.alloc hbw _).grown hgr (by rw [World.size_alloc]; omega) fun g hg => (HO2.out.lt g hg).1)
          clear ho7 hgr hv
          replace ho8 := Lib.hid ho8
          go_wp2
          go_roundw
          case rel => exact ⟨j, ac ++ [b], by omega, by go_num, by rw [List.length_append]; simp; omega, ho8, hb7, HX2.out⟩
          case measure => simp [RowKit.intOf]; omega
    · obtain rfl : i = 8 := by omega
      have hd : acc = tot := by rw [← HD.out, List.drop_eq_nil_of_le (by rw [hm8.out]; omega)]; rfl
      have hcv := conv_own HO.out
      rw [show acc.length = 64 by omega, hd] at hcv
      have Hd := Lib.hid hd
      clear hd HD
      go_wp2
      go_ret
      exact ⟨rfl, HB.out⟩
end Go.Proofs.YtgnblaaldpniiaaGreatDoor.Sh
end
section
set_option maxRecDepth 100000
set_option linter.unusedVariables false
set_option linter.unusedSimpArgs false
namespace Go.Proofs.YtgnblaaldpniiaaGreatDoor.Sh
open Go.RowKit Go.Lib
def hs (o : Bool) (l : List UInt8) : FS := feed o ⟨initI o, List.replicate 128 0, 0⟩ l
def shaL (o : Bool) (l : List UInt8) : List UInt8 := sumL o (hs o l).st (hs o l).bl l.length
def IsHash (w : World) (g : Nat) (o : Bool) (l : List UInt8) : Prop := HashAt w g o (hs o l).st (hs o l).bl l.length
theorem hs_f (o : Bool) (l : List UInt8) : (hs o l).f = l.length % room o := by
  rw [hs, feed_f o l _ (room_pos o)]
  simp
theorem hs_append (o : Bool) (l r : List UInt8) : feed o ⟨(hs o l).st, (hs o l).bl, l.length % room o⟩ r = hs o (l ++ r) := by
  rw [← hs_f, hs, hs, feed_append]
section
variable {w w' : World} {g : Nat} {o : Bool} {l : List UInt8}
theorem IsHash.lt (h : IsHash w g o l) : g < w.heap.size := HashAt.lt h
theorem IsHash.from (h : IsHash w g o l) (hb : Below w.heap.size w w') : IsHash w' g o l := HashAt.from h hb
end
def NewPostH (o : Bool) (w : World) (e : Ending) (w' : World) : Prop :=
  ∃ g, w.heap.size ≤ g ∧ e = .returned (.tuple #[.pointer (some ⟨g, 0, none⟩), .int .i64 0]) ∧ IsHash w' g o [] ∧ Below w.heap.size w w'
theorem new_any (o : Bool) (ho : o = true) (w : World) (hv : Vars w) : Calls Tryz.prog 53 #[.int .i64 (kd o)] w (NewPostH o w) := by
  subst ho
  · exact (new_u64 w hv).mono fun e w' h => h
def WriteH (g : Nat) (o : Bool) (l s : List UInt8) (w : World) (e : Ending) (w' : World) : Prop := e = .returned (.tuple #[]) ∧ IsHash w' g o (l ++ s) ∧ Chg g w w'
theorem write_any (g : Nat) (o : Bool) (ho : o = true) (l s : List UInt8) (w : World) (h : IsHash w g o l) (hv : Vars w) (hg : 1 < g) (hn : l.length + s.length ≤ 4611686018427387904) :
    Calls Tryz.prog 54 #[.pointer (some ⟨g, 0, none⟩), .string (S s)] w (WriteH g o l s w) := by
  have e : ∀ e w', WritePost g o (hs o l).st (hs o l).bl l.length s w e w' → WriteH g o l s w e w' := by
    rintro e w' ⟨he, hh, hc⟩
    rw [hs_append] at hh
    refine ⟨he, ?_, hc⟩
    unfold IsHash
    rw [List.length_append]
    exact hh
  subst ho
  · exact (write_u64 g _ _ _ s w h hv hg (by rw [S_size]; exact hn)).mono e
def SumH (o : Bool) (l : List UInt8) (w : World) (e : Ending) (w' : World) : Prop := e = .returned (.string (S (shaL o l))) ∧ Below w.heap.size w w'
theorem sum_any (g : Nat) (o : Bool) (ho : o = true) (l : List UInt8) (w : World) (h : IsHash w g o l) (hv : Vars w) (hn : l.length ≤ 1152921504606846976) :
    Calls Tryz.prog 55 #[.pointer (some ⟨g, 0, none⟩)] w (SumH o l w) := by
  subst ho
  · exact (sum_u64 g _ _ _ w h hv hn).mono fun e w' h => h
def OneH (o : Bool) (l : List UInt8) (w : World) (e : Ending) (w' : World) : Prop := e = .returned (.tuple #[.string (S (shaL o l)), .int .i64 0]) ∧ Below w.heap.size w w'
end Go.Proofs.YtgnblaaldpniiaaGreatDoor.Sh
end
section
set_option maxRecDepth 100000
set_option linter.unusedVariables false
set_option linter.unusedSimpArgs false
namespace Go.Proofs.YtgnblaaldpniiaaGreatDoor.Sh
open Go.RowKit Go.Lib
theorem getD_set (l : List Int) (t i : Nat) (v : Int) : (l.set t v).getD i 0 = if t = i ∧ t < l.length then v else l.getD i 0 := by
  simp only [List.getD_eq_getElem?_getD, List.getElem?_set]
  by_cases h : t = i
  · subst h
    by_cases h2 : t < l.length
    · simp [h2]
    · simp [h2]
  · simp [h]
end Go.Proofs.YtgnblaaldpniiaaGreatDoor.Sh
end
section
set_option maxRecDepth 100000
set_option linter.unusedVariables false
set_option linter.unusedSimpArgs false
namespace Go.Proofs.YtgnblaaldpniiaaGreatDoor.Sh
open Go.RowKit Go.Lib
structure FW (w wr : World) : Prop where
  b : Below w.heap.size w wr
  v : Vars wr
theorem FW.from {w wr w2 : World} (h : FW w wr) (hb : Below wr.heap.size wr w2) : FW w w2 := ⟨h.b.trans (hb.mono h.b.size), h.v.from hb⟩
end Go.Proofs.YtgnblaaldpniiaaGreatDoor.Sh
end
section
set_option maxRecDepth 100000
set_option linter.unusedVariables false
set_option linter.unusedSimpArgs false
namespace Go.Proofs.YtgnblaaldpniiaaGreatDoor.Sh
open Go.RowKit Go.Lib
theorem outB_length (x : Int) : ∀ (k : Nat) (acc : List UInt8), (outB x k acc).length = acc.length + k
  | 0, _ => rfl
  | k + 1, acc => by rw [outB, outB_length x k, List.length_append, List.length_singleton]; omega
theorem outS_length (o : Bool) : ∀ (l : List Int) (acc : List UInt8), (outS o l acc).length = acc.length + l.length * (wdI o / 8)
  | [], _ => by simp [outS]
  | x :: r, acc => by rw [outS, outS_length o r, outB_length, List.length_cons, Nat.succ_mul]; omega
theorem initR_length (o : Bool) : ∀ (k i : Nat) (l : List Int), (initR o k i l).length = l.length
  | 0, _, _ => rfl
  | k + 1, i, l => by rw [initR, initR_length o k, List.length_set]
theorem sha_length (o : Bool) (l : List UInt8) : (shaL o l).length = wdI o := by
  rw [shaL, sumL, outS_length, feed_st]
  show 0 + (hs o l).st.length * _ = _
  rw [hs, feed_st, initI, initR_length]
  cases o <;> rfl
end Go.Proofs.YtgnblaaldpniiaaGreatDoor.Sh
end
section
set_option linter.unusedVariables false
set_option maxRecDepth 100000
set_option linter.unusedSimpArgs false
namespace Go.Proofs.YtgnblaaldpniiaaGreatDoor.Sh
def growL (t : Nat) : Nat → List Nat → List Nat
  | _, [] => []
  | m, d :: r => ((m + d * t) % 18446744073709551616 % 4294967296) :: growL t ((m + d * t) % 18446744073709551616 / 4294967296) r
def plusL (t : Nat) : Nat → List Nat → List Nat → List Nat
  | m, d :: r, e :: s => ((m + (d + e * t)) % 18446744073709551616 % 4294967296) :: plusL t ((m + (d + e * t)) % 18446744073709551616 / 4294967296) r s
  | _, _, _ => []
def lessL : Nat → List Nat → List Nat → List Nat
  | u, d :: r, e :: s => ((d + 4294967296 - e - u) % 4294967296) :: lessL (1 - (d + 4294967296 - e - u) / 4294967296) r s
  | _, _, _ => []
def belowR : List Nat → List Nat → Bool
  | d :: r, e :: s => if d = e then belowR r s else decide (d < e)
  | _, _ => false
def belowL (a b : List Nat) : Bool := belowR a.reverse b.reverse
theorem growL_len (t : Nat) : ∀ (l : List Nat) (m : Nat), (growL t m l).length = l.length
  | [], _ => rfl
  | d :: r, m => by rw [growL, List.length_cons, growL_len t r, List.length_cons]
theorem plusL_len (t : Nat) : ∀ (l s : List Nat) (m : Nat), l.length = s.length → (plusL t m l s).length = l.length
  | [], [], _, _ => rfl
  | d :: r, e :: s, m, h => by rw [plusL, List.length_cons, plusL_len t r s _ (by simpa using h), List.length_cons]
theorem lessL_len : ∀ (l s : List Nat) (u : Nat), l.length = s.length → (lessL u l s).length = l.length
  | [], [], _, _ => rfl
  | d :: r, e :: s, u, h => by rw [lessL, List.length_cons, lessL_len r s _ (by simpa using h), List.length_cons]
theorem growL_lt (t : Nat) : ∀ (l : List Nat) (m : Nat), ∀ d ∈ growL t m l, d < 4294967296
  | [], _, d, h => by cases h
  | c :: r, m, d, h => by
    rw [growL] at h
    rcases List.mem_cons.1 h with h | h
    · omega
    · exact growL_lt t r _ d h
theorem plusL_lt (t : Nat) : ∀ (l s : List Nat) (m : Nat), ∀ d ∈ plusL t m l s, d < 4294967296
  | [], _, _, d, h => by simp [plusL] at h
  | _ :: _, [], _, d, h => by simp [plusL] at h
  | c :: r, e :: s, m, d, h => by
    rw [plusL] at h
    rcases List.mem_cons.1 h with h | h
    · omega
    · exact plusL_lt t r s _ d h
theorem lessL_lt : ∀ (l s : List Nat) (u : Nat), ∀ d ∈ lessL u l s, d < 4294967296
  | [], _, _, d, h => by simp [lessL] at h
  | _ :: _, [], _, d, h => by simp [lessL] at h
  | c :: r, e :: s, m, d, h => by
    rw [lessL] at h
    rcases List.mem_cons.1 h with h | h
    · omega
    · exact lessL_lt r s _ d h
end Go.Proofs.YtgnblaaldpniiaaGreatDoor.Sh
end
