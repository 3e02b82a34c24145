/- Walks of package sha2: Write. -/
import Derived.Test.YtbkaemekcjinaaaDoorS8
namespace Go.Proofs.YtbkaemekcjinaaaDoor
open Go.RowKit Go.Lib
def WritePost (g : Nat) (o : Bool) (st : List Int) (bl : List UInt8) (n : Nat) (s : List UInt8) (w : World) (e : Ending) (w' : World) : Prop :=
  e = .returned (.tuple #[]) ∧ HashAt w' g o (feed o ⟨st, bl, n % room o⟩ s).st (feed o ⟨st, bl, n % room o⟩ s).bl (n + s.length) ∧ Chg g w w'
def strLen : Value → Nat
  | .string s => s.size
  | _ => 0
theorem extract_S (r : List UInt8) (c : Nat) : (S r).extract c (S r).size = S (r.drop c) := by
  apply ByteArray.ext
  apply Array.ext'
  rw [ByteArray.data_extract, S_size]
  show ((S r).data.extract c r.length).toList = r.drop c
  rw [Array.toList_extract]
  show (r.drop c).take (r.length - c) = _
  rw [List.take_of_length_le (by simp)]
theorem sizeB (w : World) : (Go.sizeOf 5).run Tryd.prog w = .ok 1 w := by kernel_rfl
theorem HashAt.setCount {w : World} {g : Nat} {o : Bool} {st : List Int} {bl : List UInt8} {n : Nat} (h : HashAt w g o st bl n) (m : Nat) :
    HashAt (w.setCell ⟨g, 137, none⟩ (.int .i64 (m : Nat))) g o st bl m := by
  refine ⟨?_, h.s8, h.b128⟩
  rw [heap_setCell_same _ _ _ _ _ _ h.blk]
  congr 2
  rw [List.setIfInBounds_toArray, hashL, List.set_cons_succ, List.set_append_right _ _ (by rw [u64I_length, h.s8]; omega), u64I_length, h.s8, List.set_append_right _ _ (by rw [byteCells_length, h.b128]; omega), byteCells_length, h.b128]
  rfl
theorem HashAt.setByte {w : World} {g : Nat} {o : Bool} {st : List Int} {bl : List UInt8} {n : Nat} (h : HashAt w g o st bl n) (i : Nat) (hi : i < 128) (b : UInt8) :
    HashAt (w.setCell ⟨g, 9 + i, none⟩ (.int .u8 (b.toNat : Nat))) g o st (bl.set i b) n := by
  refine ⟨?_, h.s8, by rw [List.length_set]; exact h.b128⟩
  rw [heap_setCell_same _ _ _ _ _ _ h.blk]
  congr 2
  rw [List.setIfInBounds_toArray, hashL, show 9 + i = (8 + i) + 1 by omega, List.set_cons_succ, List.set_append_right _ _ (by rw [u64I_length, h.s8]; omega), u64I_length, h.s8, Nat.add_sub_cancel_left,
    List.set_append_left _ _ (by rw [byteCells_length, h.b128]; exact hi)]
  simp [hashL, byteCells, List.map_set]
theorem HashAt.setBytes {g : Nat} {o : Bool} {st : List Int} {n : Nat} : ∀ {w : World} {bl : List UInt8} (_ : HashAt w g o st bl n) (f : Nat) (p : List UInt8) (_ : f + p.length ≤ 128),
    HashAt (w.setCells g (9 + f) (byteCells p)) g o st (putB bl f p) n
  | _, _, h, _, [], _ => h
  | w, bl, h, f, b :: p, hp => by
    simp only [List.length_cons] at hp
    exact (h.setByte f (by omega) b).setBytes (f + 1) p (by omega)
theorem wpList_copy_str {P : Program} {w : World} {ops : Array Oper} {rest : List Oper} {o : Oper} {a : Act} {Q : Exit → Act → World → Prop} (hgd : o.guard = none) (d x : Operand) (dT sT : TypeId)
    (ho : o.op = .call { callee := .builtin .copy, args := #[d, x], argTypes := #[dT, sT] }) (elem : TypeId) (hu : P.underlying dT = some (.slice elem)) (hz : ∀ w, (Go.sizeOf elem).run P w = .ok 1 w)
    (b off dLen dCap : Nat) (hd : a.eval d = .slice (some ⟨b, off, none⟩) dLen dCap) (t : ByteArray) (hx : a.eval x = .string t) (n : Nat) (hn : n = min t.size dLen)
    (hc : ∀ j, j < n → (w.cell? ⟨b, off + j, none⟩).isSome = true) (hf : ∀ j, j < n → w.frozen? ⟨b, off + j, none⟩ = false)
    (h : ∀ w', w' = w.setCells b off (byteCells (t.data.toList.take n)) → wpList P ops Q rest (a.put o.dst (.int .i64 (n : Nat))) w') : wpList P ops Q (o :: rest) a w := by
  refine wpList_plain hgd fun K hK => ?_
  have hrun := run_copy_str (P := P) w dT sT o.type elem b off dLen dCap t n hn hu hz hc hf
  unfold Oper.wp
  simp [execOp, ho, resolve, invoke, builtin, hd, hx, hrun, Result.andThen]
  exact hK _ _ (h _ rfl)

set_option maxRecDepth 100000 in
set_option maxHeartbeats 1600000 in
theorem write_u32 (g : Nat) (st : List Int) (bl : List UInt8) (n : Nat) (s : List UInt8) (w : World) (h : HashAt w g false st bl n) (hv : Vars w) (hg : 1 < g) (hn : n + (S s).size ≤ 4611686018427387904) :
    Calls Tryd.prog 12 #[.pointer (some ⟨g, 0, none⟩), .string (S s)] w (WritePost g false st bl n s w) := by
  obtain ⟨f0, hf0⟩ : ∃ f, n % 64 = f := ⟨_, rfl⟩
  have hf1 : f0 < 64 := by omega
  obtain ⟨tot, htot⟩ : ∃ t, feed false ⟨st, bl, f0⟩ s = t := ⟨_, rfl⟩
  have e1 : (n : Int) % 64 = (f0 : Int) := by omega
  have hk := h.kind
  have hc := h.count
  have hlt := h.lt
  rw [show kd false = 0 from rfl] at hk
  have H := Lib.hid h
  have HV := Lib.hid hv
  have HF0 := Lib.hid hf0
  have HT := Lib.hid htot
  clear h hv hf0 htot
  have ca := fun w => ruleOf_any false w
  rw [show kd false = 0 from rfl] at ca
  have CA := Lib.hid ca
  have cb : ∀ w, Calls Tryd.prog 18 #[.agg (ruleC false)] w fun e w' => e = .returned (.int .i64 64) ∧ Below w.heap.size w w' := fun w => blockBytes_any false w
  have CB := Lib.hid cb
  clear ca cb
  go_enter Tryd.func12, Tryd.ntmps12
  go_wp2_with (first
    | (go_at_call 17; refine (CA.out _).mono ?_; rintro e w1 ⟨rfl, hb1⟩; have HB1 := Lib.hid hb1; clear hb1)
    | (go_at_call 18; refine (CB.out _).mono ?_; rintro e w2 ⟨rfl, hb2⟩; have hB := HB1.out.trans (hb2.mono HB1.out.size); have hc2 : w2.cell? ⟨g, 137, none⟩ = some (.int .i64 n) := (hB.cell (p := ⟨g, 137, none⟩) hlt).trans hc; have hf2 : w2.frozen? ⟨g, 137, none⟩ = false := (hB.frozen (p := ⟨g, 137, none⟩) hlt).trans (H.out.frozen 137); have HB := Lib.hid hB; clear hb2 hB HB1))
  have hS : w2.setCell ⟨g, 137, none⟩ (.int .i64 (n + (S s).size)) = w2.setCell ⟨g, 137, none⟩ (.int .i64 ((n + s.length : Nat) : Int)) := by rw [S_size]; simp
  rw [hS]
  clear hS hc2 hf2
  have h3 : HashAt (w2.setCell ⟨g, 137, none⟩ (.int .i64 ((n + s.length : Nat) : Int))) g false st bl (n + s.length) := (H.out.below HB.out hlt).setCount _
  have g3 : Chg g w (w2.setCell ⟨g, 137, none⟩ (.int .i64 ((n + s.length : Nat) : Int))) := (Chg.of_below HB.out).setCell _ _
  generalize w2.setCell ⟨g, 137, none⟩ (.int .i64 ((n + s.length : Nat) : Int)) = w3 at h3 g3 ⊢
  generalize hN : n + s.length = N at h3
  have H3 := Lib.hid h3
  have G3 := Lib.hid g3
  have HN := Lib.hid hN
  rw [S_size] at hn
  have HNn := Lib.hid hn
  clear h3 g3 hN H HB CA CB hc hk hn
  go_loopw [5, 6] (fun v5 v6 wr => ∃ (f : Nat) (r : List UInt8) (st' : List Int) (bl' : List UInt8), f < 64 ∧ r.length ≤ 4611686018427387904 ∧ v5 = .int .i64 f ∧ v6 = .string (S r) ∧ Hid (HashAt wr g false st' bl' N) ∧ Hid (Chg g w wr) ∧ Hid (feed false ⟨st', bl', f⟩ r = tot)) (fun _ v6 _ => strLen v6)
  case atStart => exact ⟨f0, s, st, bl, hf1, by have := HNn.out; omega, by rw [e1], rfl, H3.out, G3.out, HT.out⟩
  case round =>
    obtain ⟨f, r, st2, bl2, hf, hr, rfl, rfl, HH, HC, HD⟩ := hrel
    have HTT := HT
    clear H3 G3 HT e1
    by_cases hne : r = []
    · subst hne
      have hz1 : (S []).toList.isEmpty = true := by kernel_rfl
      have hz2 : ((S []).toList == []) = true := by kernel_rfl
      go_wp2
      go_end0
      have e : tot = ⟨st2, bl2, f⟩ := HD.out.symm
      refine ⟨rfl, ?_, HC.out⟩
      have e2 : feed false ⟨st, bl, n % room false⟩ s = ⟨st2, bl2, f⟩ := by rw [← e, show n % room false = f0 from HF0.out]; exact HTT.out
      rw [e2, HN.out]
      exact HH.out
    · have hz1 := isEmpty_S r hne
      have hz2 := beq_S_nil r hne
      have hpos : 0 < r.length := by cases r with
        | nil => exact absurd rfl hne
        | cons a b => simp
      obtain ⟨c, hc⟩ : ∃ c, min (S r).size (64 - f) = c := ⟨_, rfl⟩
      have hcS : c = min r.length (64 - f) := by rw [← hc, S_size]
      have hc0 : 0 < c := by omega
      have hcr : c ≤ r.length := by omega
      have hcf : f + c ≤ 64 := by omega
      have hcut : ∀ w', (Instr.sliceAt 48 (.pointer (some ⟨g, 9, none⟩)) (some (.int .i64 (f : Int))) (some (.int .i64 64)) none).run Tryd.prog w' = .ok (.slice (some ⟨g, 9 + f, none⟩) (64 - f) (128 - f)) w' := fun w' => run_cut g 9 f 64 (by omega) (by omega) (by omega) w'
      have hex : (S r).extract c (S r).size = S (r.drop c) := extract_S r c
      have hcs : (c : Int) ≤ (S r).size := by rw [S_size]; omega
      have Hcm := Lib.hid hc.symm
      have HcS := Lib.hid hcS
      have Hne := Lib.hid hne
      clear hc hcS hne
      have hk := HH.out.kind
      have hlt3 := HH.out.lt
      have hV := (HC.out.vars HV.out hg)
      have HVr := Lib.hid hV
      clear hV
      have hD : feed false (feed false ⟨st2, bl2, f⟩ (r.take c)) (r.drop c) = tot := by
        rw [← feed_append, List.take_append_drop]; exact HD.out
      have htl : (r.take c).length = c := by rw [List.length_take]; omega
      by_cases hfull : f + c = 64
      · have hb1 : ((f : Int) + c == 64) = true := by simp; omega
        rw [feed_full false (r.take c) ⟨st2, bl2, f⟩ (by intro e; rw [e] at htl; simp at htl; omega) (by show f + _ = _; rw [htl]; exact hfull)] at hD
        replace hfull := Lib.hid hfull
        replace hD := Lib.hid hD
        replace htl := Lib.hid htl
        go_wp2_with (first
          | (refine wpList_copy_str rfl (.tmp 37) (.tmp 38) _ _ rfl 5 Tryd.underlying36 sizeB g (9 + f) (64 - f) (128 - f) rfl (S r) rfl c Hcm.out ?_ ?_ ?_; (intro j hj; rw [show 9 + f + j = 9 + (f + j) by omega, HH.out.byte _ (by omega)]; rfl); (intro j hj; exact HH.out.frozen _); intro w6 hw6; rw [S_data] at hw6; have H6 := HH.out.setBytes f (r.take c) (by rw [List.length_take]; omega); rw [← hw6] at H6; have C6 := HC.out.setCells (byteCells (r.take c)) (9 + f); rw [← hw6] at C6; replace H6 := Lib.hid H6; replace C6 := Lib.hid C6; clear hw6)
          | (go_at_call 19; refine (mixBlock_u32 g _ _ _ _ H6.out (C6.out.vars HV.out hg)).mono ?_; rintro e7 w7 ⟨rfl, h7, c7⟩; have H7 := Lib.hid h7; have C7 := Lib.hid c7; clear h7 c7))
        go_roundw
        case rel => exact ⟨0, r.drop c, _, _, by omega, by rw [List.length_drop]; omega, rfl, rfl, H7.out, C6.out.trans C7.out, hD.out⟩
        case measure => simp only [strLen, S_size, List.length_drop]; omega
      · have hb1 : ((f : Int) + c == 64) = false := by simp; omega
        rw [feed_part false (r.take c) ⟨st2, bl2, f⟩ (by show f + _ < 64; rw [htl]; omega)] at hD
        dsimp only at hD
        rw [htl] at hD
        have hlt6 : f + c < 64 := by omega
        replace hfull := Lib.hid hfull
        replace hD := Lib.hid hD
        replace htl := Lib.hid htl
        go_wp2_with (refine wpList_copy_str rfl (.tmp 37) (.tmp 38) _ _ rfl 5 Tryd.underlying36 sizeB g (9 + f) (64 - f) (128 - f) rfl (S r) rfl c Hcm.out ?_ ?_ ?_; (intro j hj; rw [show 9 + f + j = 9 + (f + j) by omega, HH.out.byte _ (by omega)]; rfl); (intro j hj; exact HH.out.frozen _); intro w6 hw6; rw [S_data] at hw6; have H6 := HH.out.setBytes f (r.take c) (by rw [List.length_take]; omega); rw [← hw6] at H6; have C6 := HC.out.setCells (byteCells (r.take c)) (9 + f); rw [← hw6] at C6; replace H6 := Lib.hid H6; replace C6 := Lib.hid C6; clear hw6)
        go_roundw
        case rel => exact ⟨f + c, r.drop c, _, _, hlt6, by rw [List.length_drop]; omega, by go_num, rfl, H6.out, C6.out, hD.out⟩
        case measure => simp only [strLen, S_size, List.length_drop]; omega

set_option maxRecDepth 100000 in
set_option maxHeartbeats 1600000 in
theorem write_u64 (g : Nat) (st : List Int) (bl : List UInt8) (n : Nat) (s : List UInt8) (w : World) (h : HashAt w g true st bl n) (hv : Vars w) (hg : 1 < g) (hn : n + (S s).size ≤ 4611686018427387904) :
    Calls Tryd.prog 12 #[.pointer (some ⟨g, 0, none⟩), .string (S s)] w (WritePost g true st bl n s w) := by
  obtain ⟨f0, hf0⟩ : ∃ f, n % 128 = f := ⟨_, rfl⟩
  have hf1 : f0 < 128 := by omega
  obtain ⟨tot, htot⟩ : ∃ t, feed true ⟨st, bl, f0⟩ s = t := ⟨_, rfl⟩
  have e1 : (n : Int) % 128 = (f0 : Int) := by omega
  have hk := h.kind
  have hc := h.count
  have hlt := h.lt
  rw [show kd true = 1 from rfl] at hk
  have H := Lib.hid h
  have HV := Lib.hid hv
  have HF0 := Lib.hid hf0
  have HT := Lib.hid htot
  clear h hv hf0 htot
  have ca := fun w => ruleOf_any true w
  rw [show kd true = 1 from rfl] at ca
  have CA := Lib.hid ca
  have cb : ∀ w, Calls Tryd.prog 18 #[.agg (ruleC true)] w fun e w' => e = .returned (.int .i64 128) ∧ Below w.heap.size w w' := fun w => blockBytes_any true w
  have CB := Lib.hid cb
  clear ca cb
  go_enter Tryd.func12, Tryd.ntmps12
  go_wp2_with (first
    | (go_at_call 17; refine (CA.out _).mono ?_; rintro e w1 ⟨rfl, hb1⟩; have HB1 := Lib.hid hb1; clear hb1)
    | (go_at_call 18; refine (CB.out _).mono ?_; rintro e w2 ⟨rfl, hb2⟩; have hB := HB1.out.trans (hb2.mono HB1.out.size); have hc2 : w2.cell? ⟨g, 137, none⟩ = some (.int .i64 n) := (hB.cell (p := ⟨g, 137, none⟩) hlt).trans hc; have hf2 : w2.frozen? ⟨g, 137, none⟩ = false := (hB.frozen (p := ⟨g, 137, none⟩) hlt).trans (H.out.frozen 137); have HB := Lib.hid hB; clear hb2 hB HB1))
  have hS : w2.setCell ⟨g, 137, none⟩ (.int .i64 (n + (S s).size)) = w2.setCell ⟨g, 137, none⟩ (.int .i64 ((n + s.length : Nat) : Int)) := by rw [S_size]; simp
  rw [hS]
  clear hS hc2 hf2
  have h3 : HashAt (w2.setCell ⟨g, 137, none⟩ (.int .i64 ((n + s.length : Nat) : Int))) g true st bl (n + s.length) := (H.out.below HB.out hlt).setCount _
  have g3 : Chg g w (w2.setCell ⟨g, 137, none⟩ (.int .i64 ((n + s.length : Nat) : Int))) := (Chg.of_below HB.out).setCell _ _
  generalize w2.setCell ⟨g, 137, none⟩ (.int .i64 ((n + s.length : Nat) : Int)) = w3 at h3 g3 ⊢
  generalize hN : n + s.length = N at h3
  have H3 := Lib.hid h3
  have G3 := Lib.hid g3
  have HN := Lib.hid hN
  rw [S_size] at hn
  have HNn := Lib.hid hn
  clear h3 g3 hN H HB CA CB hc hk hn
  go_loopw [5, 6] (fun v5 v6 wr => ∃ (f : Nat) (r : List UInt8) (st' : List Int) (bl' : List UInt8), f < 128 ∧ r.length ≤ 4611686018427387904 ∧ v5 = .int .i64 f ∧ v6 = .string (S r) ∧ Hid (HashAt wr g true st' bl' N) ∧ Hid (Chg g w wr) ∧ Hid (feed true ⟨st', bl', f⟩ r = tot)) (fun _ v6 _ => strLen v6)
  case atStart => exact ⟨f0, s, st, bl, hf1, by have := HNn.out; omega, by rw [e1], rfl, H3.out, G3.out, HT.out⟩
  case round =>
    obtain ⟨f, r, st2, bl2, hf, hr, rfl, rfl, HH, HC, HD⟩ := hrel
    have HTT := HT
    clear H3 G3 HT e1
    by_cases hne : r = []
    · subst hne
      have hz1 : (S []).toList.isEmpty = true := by kernel_rfl
      have hz2 : ((S []).toList == []) = true := by kernel_rfl
      go_wp2
      go_end0
      have e : tot = ⟨st2, bl2, f⟩ := HD.out.symm
      refine ⟨rfl, ?_, HC.out⟩
      have e2 : feed true ⟨st, bl, n % room true⟩ s = ⟨st2, bl2, f⟩ := by rw [← e, show n % room true = f0 from HF0.out]; exact HTT.out
      rw [e2, HN.out]
      exact HH.out
    · have hz1 := isEmpty_S r hne
      have hz2 := beq_S_nil r hne
      have hpos : 0 < r.length := by cases r with
        | nil => exact absurd rfl hne
        | cons a b => simp
      obtain ⟨c, hc⟩ : ∃ c, min (S r).size (128 - f) = c := ⟨_, rfl⟩
      have hcS : c = min r.length (128 - f) := by rw [← hc, S_size]
      have hc0 : 0 < c := by omega
      have hcr : c ≤ r.length := by omega
      have hcf : f + c ≤ 128 := by omega
      have hcut : ∀ w', (Instr.sliceAt 48 (.pointer (some ⟨g, 9, none⟩)) (some (.int .i64 (f : Int))) (some (.int .i64 128)) none).run Tryd.prog w' = .ok (.slice (some ⟨g, 9 + f, none⟩) (128 - f) (128 - f)) w' := fun w' => run_cut g 9 f 128 (by omega) (by omega) (by omega) w'
      have hex : (S r).extract c (S r).size = S (r.drop c) := extract_S r c
      have hcs : (c : Int) ≤ (S r).size := by rw [S_size]; omega
      have Hcm := Lib.hid hc.symm
      have HcS := Lib.hid hcS
      have Hne := Lib.hid hne
      clear hc hcS hne
      have hk := HH.out.kind
      have hlt3 := HH.out.lt
      have hV := (HC.out.vars HV.out hg)
      have HVr := Lib.hid hV
      clear hV
      have hD : feed true (feed true ⟨st2, bl2, f⟩ (r.take c)) (r.drop c) = tot := by
        rw [← feed_append, List.take_append_drop]; exact HD.out
      have htl : (r.take c).length = c := by rw [List.length_take]; omega
      by_cases hfull : f + c = 128
      · have hb1 : ((f : Int) + c == 128) = true := by simp; omega
        rw [feed_full true (r.take c) ⟨st2, bl2, f⟩ (by intro e; rw [e] at htl; simp at htl; omega) (by show f + _ = _; rw [htl]; exact hfull)] at hD
        replace hfull := Lib.hid hfull
        replace hD := Lib.hid hD
        replace htl := Lib.hid htl
        go_wp2_with (first
          | (refine wpList_copy_str rfl (.tmp 37) (.tmp 38) _ _ rfl 5 Tryd.underlying36 sizeB g (9 + f) (128 - f) (128 - f) rfl (S r) rfl c Hcm.out ?_ ?_ ?_; (intro j hj; rw [show 9 + f + j = 9 + (f + j) by omega, HH.out.byte _ (by omega)]; rfl); (intro j hj; exact HH.out.frozen _); intro w6 hw6; rw [S_data] at hw6; have H6 := HH.out.setBytes f (r.take c) (by rw [List.length_take]; omega); rw [← hw6] at H6; have C6 := HC.out.setCells (byteCells (r.take c)) (9 + f); rw [← hw6] at C6; replace H6 := Lib.hid H6; replace C6 := Lib.hid C6; clear hw6)
          | (go_at_call 19; refine (mixBlock_u64 g _ _ _ _ H6.out (C6.out.vars HV.out hg)).mono ?_; rintro e7 w7 ⟨rfl, h7, c7⟩; have H7 := Lib.hid h7; have C7 := Lib.hid c7; clear h7 c7))
        go_roundw
        case rel => exact ⟨0, r.drop c, _, _, by omega, by rw [List.length_drop]; omega, rfl, rfl, H7.out, C6.out.trans C7.out, hD.out⟩
        case measure => simp only [strLen, S_size, List.length_drop]; omega
      · have hb1 : ((f : Int) + c == 128) = false := by simp; omega
        rw [feed_part true (r.take c) ⟨st2, bl2, f⟩ (by show f + _ < 128; rw [htl]; omega)] at hD
        dsimp only at hD
        rw [htl] at hD
        have hlt6 : f + c < 128 := by omega
        replace hfull := Lib.hid hfull
        replace hD := Lib.hid hD
        replace htl := Lib.hid htl
        go_wp2_with (refine wpList_copy_str rfl (.tmp 37) (.tmp 38) _ _ rfl 5 Tryd.underlying36 sizeB g (9 + f) (128 - f) (128 - f) rfl (S r) rfl c Hcm.out ?_ ?_ ?_; (intro j hj; rw [show 9 + f + j = 9 + (f + j) by omega, HH.out.byte _ (by omega)]; rfl); (intro j hj; exact HH.out.frozen _); intro w6 hw6; rw [S_data] at hw6; have H6 := HH.out.setBytes f (r.take c) (by rw [List.length_take]; omega); rw [← hw6] at H6; have C6 := HC.out.setCells (byteCells (r.take c)) (9 + f); rw [← hw6] at C6; replace H6 := Lib.hid H6; replace C6 := Lib.hid C6; clear hw6)
        go_roundw
        case rel => exact ⟨f + c, r.drop c, _, _, hlt6, by rw [List.length_drop]; omega, by go_num, rfl, H6.out, C6.out, hD.out⟩
        case measure => simp only [strLen, S_size, List.length_drop]; omega
end Go.Proofs.YtbkaemekcjinaaaDoor
