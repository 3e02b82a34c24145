/- WordsJoin's walk: a path's names make the path, the names of a path are names, one name more makes a longer path, up to eight. -/
import Derived.Test.YtcgdocdpdapglaaPaths
import Derived.Test.YtcgdocdpdapglaaW10
import Derived.Laws.AppendOwnNone
namespace Go.Proofs.Ytcgdocdpdapglaa.wordsJoin
open Go.RowKit Go.Lib
theorem empty_row (w : World) (B : Nat) (hB : B ≤ w.heap.size) : (w.alloc (.cells #[] 9)).ownsRow B 9 1 (.slice (some ⟨w.heap.size, 0, none⟩) 0 0) 0 [] :=
  ⟨rfl, Or.inr ⟨w.heap.size, 0, #[], rfl, hB, heap_alloc_new w _, by omega, by unfold maxLen; omega, rfl, rfl⟩⟩
/-- What stands behind the first test: the law says that the path is none. -/
theorem walk_none (v : Value) (ss : List (List UInt8)) (nm : ByteArray) (hm : ss.length ≤ 1125899906842624) (w : World) (hv : SL w w.heap.size v ss) (hj : joinL ss = none) :
    Calls Try.prog 7 #[v, .string nm] w fun e w' => e = .returned (.bool true) ∧ Below w.heap.size w w' := by
  obtain ⟨A, cap, rfl, hr0, hr⟩ := hv
  have hv : SL w w.heap.size (.slice A ss.length cap) ss := ⟨A, cap, rfl, hr0, hr⟩
  replace hr0 := Lib.hid hr0
  replace hr := Lib.hid hr
  replace hj := Lib.hid hj
  replace hv := Lib.hid hv
  have be : ((S []).toList == []) = true := by rw [Lib.toList_data]; rfl
  have be2 : (S []).toList.isEmpty = true := by rw [Lib.toList_data]; rfl
  go_enter Try.func7, Try.ntmps7
  go_wp2_with fail
  refine (join_no _ ss hj.out (by omega) _ hv.out).mono ?_
  rintro e w1 ⟨rfl, hb1⟩
  have B1 := Lib.hid hb1
  clear hb1
  go_wp2_with fail
  refine (fixed_any _).mono ?_
  rintro e w2 ⟨rfl, hb2⟩
  have B2 := Lib.hid (B1.out.trans (hb2.mono B1.out.size))
  clear hb2 B1
  go_wp2_with fail
  refine (fixed_any _).mono ?_
  rintro e w3 ⟨rfl, hb3⟩
  have B3 := Lib.hid (B2.out.trans (hb3.mono B2.out.size))
  clear hb3 B2
  go_wp2
  go_ret
  exact ⟨rfl, B3.out⟩
set_option maxHeartbeats 6400000 in
theorem walk_some (v : Value) (ss : List (List UInt8)) (nm p : List UInt8) (w : World) (hv : SL w w.heap.size v ss) (hj : joinL ss = some p) :
    Calls Try.prog 7 #[v, .string (S nm)] w fun e w' => e = .returned (.bool true) ∧ Below w.heap.size w w' := by
  obtain ⟨A, cap, rfl, hr0, hr⟩ := hv
  have hv : SL w w.heap.size (.slice A ss.length cap) ss := ⟨A, cap, rfl, hr0, hr⟩
  replace hr0 := Lib.hid hr0
  obtain ⟨i0, hi, hz0, hz1, hz2⟩ := info_parts info9
  obtain ⟨h8, hns, hp⟩ := joinL_some hj
  have hpath := path_join hj
  have hpl : p.length ≤ 201 := by
    rw [hp]
    split
    · simp
    · have := jn_le ss ss.length (Nat.le_refl _) (fun j hj => by
        rw [show ss.getD j [] = ss[j] by simp [hj]]; exact hns _ (List.getElem_mem hj))
      rw [List.take_length] at this
      omega
  have zp : (S p).size ≤ 201 := by rw [S_size]; exact hpl
  replace hr := Lib.hid hr
  replace hv := Lib.hid hv
  replace hns := Lib.hid hns
  replace hp := Lib.hid hp
  replace hj := Lib.hid hj
  replace hpath := Lib.hid hpath
  go_enter Try.func7, Try.ntmps7
  go_wp2_with fail
  refine (join_some _ ss p hj.out (by omega) _ hv.out).mono ?_
  rintro e w1 ⟨rfl, hb1⟩
  have B1 := Lib.hid hb1
  clear hb1
  go_wp2_with fail
  refine (fixed_any _).mono ?_
  rintro e w2 ⟨rfl, hb2⟩
  have B2 := Lib.hid (B1.out.trans (hb2.mono B1.out.size))
  clear hb2 B1
  go_wp2_with fail
  refine (path_some p ss hpath.out (by omega) _).mono ?_
  rintro e w3 ⟨v3, rfl, ho3, hb3⟩
  have B3 := Lib.hid (B2.out.trans (hb3.mono B2.out.size))
  have s3 := Lib.hid (own_SL ho3)
  obtain ⟨A3, c3, rfl⟩ := own_form ho3
  have v3 := Lib.hid ((hv.out.below B3.out).mono B3.out.size)
  clear hb3 B2 ho3
  go_wp2_with fail
  refine (same_is _ _ ss ss true (by simp) (by omega) _ s3.out v3.out).mono ?_
  rintro e w4 ⟨rfl, hb4⟩
  have B4 := Lib.hid (B3.out.trans (hb4.mono B3.out.size))
  have s4 := Lib.hid ((s3.out.below hb4).mono hb4.size)
  clear hb4 B3 s3 v3
  go_wp2_with fail
  go_loopw [9] (fun i wr => ∃ k : Nat, k ≤ ss.length ∧ i = .int .i64 k ∧ Hid (Below w.heap.size w wr) ∧ Hid (Below w4.heap.size w4 wr)) (fun i _ => ss.length - (intOf i).toNat)
  case atStart => exact ⟨0, Nat.zero_le _, rfl, B4.out, Below.refl _ _⟩
  case round =>
    obtain ⟨k, hk, rfl, HB, HB4⟩ := hrel
    by_cases hlt : k < ss.length
    · obtain ⟨A', cap', hs, _, hcell⟩ := s4.out.below HB4.out
      obtain ⟨b, off, hA, hb, hc⟩ := hcell (by intro h0; subst h0; simp at hlt)
      have hc1 := hc k hlt
      obtain ⟨x, hx⟩ : ∃ x, ss.getD k [] = x := ⟨_, rfl⟩
      rw [hx] at hc1
      have hnx : isName x = true := by
        rw [← hx, show ss.getD k [] = ss[k] by simp [hlt]]; exact hns.out _ (List.getElem_mem hlt)
      clear hcell hc
      injection hs with e1 e2 e3
      subst e1
      subst hA
      clear e2 e3
      replace hx := Lib.hid hx
      replace hnx := Lib.hid hnx
      go_wp2_with fail
      refine (name_is x true hnx.out _).mono ?_
      rintro e w5 ⟨rfl, hb5⟩
      have HB5 := Lib.hid (HB.out.trans (hb5.mono HB.out.size))
      have HB45 := Lib.hid (HB4.out.trans (hb5.mono HB4.out.size))
      clear hb5
      go_wp2
      go_roundw
      case rel => exact ⟨k + 1, by omega, by go_num, HB5, HB45⟩
      case measure => simp [intOf]; omega
    · have hvr := hv.out.below HB.out
      have hzr := HB.out.size
      clear hr hr0
      replace hvr := Lib.hid hvr
      go_wp2_with (at_builtin; refine wpList_append_SL rfl (.tmp 54) (.tmp 55) 24 rfl w.heap.size 9 i0 (.string ⟨#[]⟩) Try.underlying24 hi hz0 hz1 hz2 rfl _ 0 [] rfl (empty_row _ w.heap.size hzr) (wr.heap.size) _ ss rfl ?c1 ?c2 ?c3 ?_)
      case c1 => exact (hvr.out.below ((Below.refl _ _).alloc hzr _)).mono hzr
      case c2 => omega
      case c3 => rw [World.size_alloc]; omega
      intro v5 w5 ho5 hg5
      have B5 : Below w.heap.size w w5 := by
        refine (HB.out.alloc hzr _).grown hg5 (by rw [World.size_alloc]; omega) ?_
        intro g hg
        simp [Value.ownBlock] at hg
        omega
      have hz5 := B5.size
      replace B5 := Lib.hid B5
      clear hg5
      go_wp2_with (at_builtin; refine wpList_append_own _ rfl (.tmp 56) (.tmp 58) 24 rfl w.heap.size 9 i0 (.string ⟨#[]⟩) 1 16 Try.underlying24 hi hz0 hz1 hz2 rfl (by decide) _ _ _ rfl (ho5.alloc _) ⟨w5.heap.size, 0, none⟩ 1 1 [.string (S nm)] rfl rfl ?c1 ?c2 ?c3 ?c4 ?c5 ?_)
      case c1 => exact row_new w5 [_] 9
      case c2 => intro u hu; simp at hu; subst hu; rfl
      case c3 => unfold maxLen; omega
      case c4 => omega
      case c5 => rw [World.size_alloc]; omega
      intro v6 w6 ho6 hg6 _
      have B6 : Below w.heap.size w w6 := by
        refine (B5.out.alloc hz5 _).grown hg6 (by rw [World.size_alloc]; omega) ?_
        intro g hg
        exact (ho5.lt g hg).1
      have s6 : SL w6 w6.heap.size v6 (ss ++ [nm]) := own_SL (B := w.heap.size) (n := ss.length + 1) (by rw [List.map_append]; exact ho6)
      obtain ⟨A6, c6, rfl⟩ := own_form ho6
      clear ho5 ho6 hg6 B5
      replace B6 := Lib.hid B6
      replace s6 := Lib.hid s6
      cases hnm : isName nm with
      | false =>
        have hjn : joinL (ss ++ [nm]) = none := joinL_snoc_none (Or.inl hnm)
        have be : ((S []).toList == []) = true := by rw [Lib.toList_data]; rfl
        have be2 : (S []).toList.isEmpty = true := by rw [Lib.toList_data]; rfl
        go_wp2_with fail
        refine (join_no _ _ hjn (by rw [List.length_append, List.length_singleton]; omega) _ s6.out).mono ?_
        rintro e w7 ⟨rfl, hb7⟩
        have B7 := Lib.hid (B6.out.trans (hb7.mono B6.out.size))
        clear hb7
        go_wp2_with fail
        refine (name_is nm false hnm _).mono ?_
        rintro e w8 ⟨rfl, hb8⟩
        have B8 := Lib.hid (B7.out.trans (hb8.mono B7.out.size))
        clear hb8
        go_wp2
        go_ret
        exact ⟨rfl, B8.out⟩
      | true =>
        have znm : (S nm).size ≤ 24 := by rw [S_size]; exact isName_le hnm
        by_cases h88 : ss.length = 8
        · have hjn : joinL (ss ++ [nm]) = none := joinL_snoc_none (Or.inr (by omega))
          have be : ((S []).toList == []) = true := by rw [Lib.toList_data]; rfl
          have be2 : (S []).toList.isEmpty = true := by rw [Lib.toList_data]; rfl
          have h8' : (8 : Int) ≤ (ss.length : Int) := by omega
          clear h88
          go_wp2_with fail
          refine (join_no _ _ hjn (by rw [List.length_append, List.length_singleton]; omega) _ s6.out).mono ?_
          rintro e w7 ⟨rfl, hb7⟩
          have B7 := Lib.hid (B6.out.trans (hb7.mono B6.out.size))
          clear hb7
          go_wp2_with fail
          refine (name_is nm true hnm _).mono ?_
          rintro e w8 ⟨rfl, hb8⟩
          have B8 := Lib.hid (B7.out.trans (hb8.mono B7.out.size))
          clear hb8
          go_wp2
          go_ret
          exact ⟨rfl, B8.out⟩
        · by_cases h0 : ss = []
          · have hjn : joinL (ss ++ [nm]) = some (47 :: nm) := by
              have := joinL_snoc_some hj.out hnm (by omega)
              rwa [if_pos h0] at this
            have bz : ((ss.length : Int) == 0) = true := by rw [h0]; rfl
            have bq : ((S (47 :: nm)).toList == (⟨#[47]⟩ ++ S nm : ByteArray).toList) = true := by
              rw [show (⟨#[47]⟩ : ByteArray) ++ S nm = S ([47] ++ nm) from S_append [47] nm]; simp
            have hlt8 : (ss.length : Int) ≤ 0 := by rw [h0]; simp
            clear h88
            replace h0 := Lib.hid h0
            go_wp2_with fail
            refine (join_some _ _ _ hjn (by rw [List.length_append, List.length_singleton]; omega) _ s6.out).mono ?_
            rintro e w7 ⟨rfl, hb7⟩
            have B7 := Lib.hid (B6.out.trans (hb7.mono B6.out.size))
            clear hb7
            go_wp2_with fail
            refine (name_is nm true hnm _).mono ?_
            rintro e w8 ⟨rfl, hb8⟩
            have B8 := Lib.hid (B7.out.trans (hb8.mono B7.out.size))
            clear hb8
            go_wp2
            go_ret
            exact ⟨rfl, B8.out⟩
          · have hjn : joinL (ss ++ [nm]) = some (p ++ 47 :: nm) := by
              have := joinL_snoc_some hj.out hnm (by omega)
              rwa [if_neg h0] at this
            have hge : 0 < ss.length := List.length_pos_iff.2 h0
            have bz : ((ss.length : Int) == 0) = false := by rw [beq_eq_false_iff_ne]; omega
            have bq : ((S (p ++ 47 :: nm)).toList == (S p ++ ⟨#[47]⟩ ++ S nm : ByteArray).toList) = true := by
              rw [show S p ++ (⟨#[47]⟩ : ByteArray) = S (p ++ [47]) from S_append p [47], S_append]; simp
            have hlt8 : ss.length < 8 := by omega
            clear h88
            replace h0 := Lib.hid h0
            go_wp2_with fail
            refine (join_some _ _ _ hjn (by rw [List.length_append, List.length_singleton]; omega) _ s6.out).mono ?_
            rintro e w7 ⟨rfl, hb7⟩
            have B7 := Lib.hid (B6.out.trans (hb7.mono B6.out.size))
            clear hb7
            go_wp2_with fail
            refine (name_is nm true hnm _).mono ?_
            rintro e w8 ⟨rfl, hb8⟩
            have B8 := Lib.hid (B7.out.trans (hb8.mono B7.out.size))
            clear hb8
            go_wp2
            go_ret
            exact ⟨rfl, B8.out⟩
end Go.Proofs.Ytcgdocdpdapglaa.wordsJoin
