/- Walks of package words: a path's names. -/
import Derived.Test.YtcgdocdpdapglaaW5
import Derived.Laws.AppendOwn
import Derived.OwnWalk
namespace Go.Proofs.Ytcgdocdpdapglaa
open Go.RowKit Go.Lib
def strV (l : List UInt8) : Value := .string (S l)
def strSize : Value → Nat | .string b => b.size | _ => 0
def pathRes (o : Option (List (List UInt8))) : List (List UInt8) := o.getD []
def pathErr (o : Option (List (List UInt8))) : Int := match o with | some _ => 0 | none => 10
def PathPost (l : List UInt8) (w : World) (e : Ending) (w' : World) : Prop :=
  ∃ v, e = .returned (.tuple #[v, .int .i64 (pathErr (pathL l))]) ∧ w'.ownsRow w.heap.size 9 1 v (pathRes (pathL l)).length ((pathRes (pathL l)).map strV) ∧ Below w.heap.size w w'
theorem info9 : (Try.prog.info? 9).map (fun i => (i.zero, i.size, i.bytes)) = some (some (.string ⟨#[]⟩), 1, 16) := by kernel_rfl
theorem path_root (w : World) : Calls Try.prog 16 #[.string ⟨#[47]⟩] w (PathPost [47] w) := by
  go_enter Try.func16, Try.ntmps16
  go_wp2
  go_ret2
  exact ⟨_, rfl, World.ownsRow_nil _ _ _ _, Below.refl _ _⟩
theorem path_empty (w : World) : Calls Try.prog 16 #[.string ⟨#[]⟩] w (PathPost [] w) := by
  go_enter Try.func16, Try.ntmps16
  go_wp2
  go_ret2
  exact ⟨_, rfl, World.ownsRow_nil _ _ _ _, Below.refl _ _⟩
theorem path_other (s : ByteArray) (h0 : 0 < s.size) (hc : s[0] ≠ 47) (w : World) : Calls Try.prog 16 #[.string s] w (PathPost s.data.toList w) := by
  have hne : s.data.toList ≠ [] := by have := drop_ne (i := 0) h0; rwa [List.drop_zero] at this
  have e : Hid (pathL s.data.toList = none) := by
    show _ = _
    unfold pathL
    rw [getD_at s 0 h0, if_neg, if_pos hc]
    intro h
    apply hc
    have := getD_at s 0 h0
    rw [h] at this
    exact this.symm
  have b1 : (s.toList == [47]) = false := by
    rw [toList_beq, decide_eq_false_iff_not]
    intro h
    apply hc
    have := getD_at s 0 h0
    rw [h] at this
    exact this.symm
  have b2 : (s.toList == []) = false := by
    rw [toList_beq, decide_eq_false_iff_not]; exact hne
  have b3 : ((s[0].toNat : Int) != 47) = true := bne_yes (n := 47) (by decide) hc
  have b4 : s.toList.isEmpty = false := by rw [Lib.toList_data]; cases hh : s.data.toList <;> simp_all
  clear hc hne
  go_enter Try.func16, Try.ntmps16
  go_wp2
  go_ret2
  unfold PathPost
  rw [e.out]
  exact ⟨_, rfl, World.ownsRow_nil _ _ _ _, Below.refl _ _⟩
theorem piece_eq (r : List UInt8) (n : Nat) : (r.take n).drop 1 = (r.drop 1).take (n - 1) := by rw [List.drop_take]
theorem ext_piece (r : List UInt8) (n : Nat) : (S r).extract 1 n = S ((r.take n).drop 1) := by
  rw [Lib.extract_eq, piece_eq]; rfl
theorem ext_rest (r : List UInt8) (n : Nat) : (S r).extract n (S r).size = S (r.drop n) := by
  rw [Lib.extract_eq, S_size, S_data, List.take_of_length_le (by rw [List.length_drop]; exact Nat.le_refl _)]; rfl
theorem partEndL_pos (r : List UInt8) : 1 ≤ partEndL r := by unfold partEndL; omega
theorem partEndL_le (r : List UInt8) (hne : r ≠ []) : partEndL r ≤ r.length := by
  have hl := length_pos hne
  unfold partEndL
  have h := (List.takeWhile_sublist (l := r.drop 1) (fun c => !decide (c = 47))).length_le
  rw [List.length_drop] at h
  omega
theorem pathF_step (n k : Nat) (r : List UInt8) (hne : r ≠ []) : pathF (n + 1) k r = if k = 8 ∨ isName ((r.take (partEndL r)).drop 1) = false then none
    else (pathF n (k + 1) (r.drop (partEndL r))).map ((r.take (partEndL r)).drop 1 :: ·) := by
  conv => lhs; unfold pathF
  rw [if_neg hne]
theorem pathF_nil : ∀ n k, pathF n k [] = some []
  | 0, _ => by simp [pathF]
  | _ + 1, _ => by simp [pathF]
theorem pathF_fuel : ∀ (n m k : Nat) (l : List UInt8), l.length ≤ n → l.length ≤ m → pathF n k l = pathF m k l
  | 0, m, k, l, hn, _ => by
    have : l = [] := List.eq_nil_of_length_eq_zero (by omega)
    subst this
    rw [pathF_nil, pathF_nil]
  | n + 1, 0, k, l, _, hm => by
    have : l = [] := List.eq_nil_of_length_eq_zero (by omega)
    subst this
    rw [pathF_nil, pathF_nil]
  | n + 1, m + 1, k, l, hn, hm => by
    by_cases hne : l = []
    · subst hne; rw [pathF_nil, pathF_nil]
    · have hp := partEndL_pos l
      rw [pathF_step n k l hne, pathF_step m k l hne, pathF_fuel n m (k + 1) (l.drop (partEndL l)) (by rw [List.length_drop]; omega) (by rw [List.length_drop]; omega)]
theorem pathF_len (k : Nat) (r : List UInt8) (hne : r ≠ []) : pathF r.length k r = if k = 8 ∨ isName ((r.take (partEndL r)).drop 1) = false then none
    else (pathF (r.drop (partEndL r)).length (k + 1) (r.drop (partEndL r))).map ((r.take (partEndL r)).drop 1 :: ·) := by
  have hp := partEndL_pos r
  have hl := length_pos hne
  obtain ⟨m, hm⟩ : ∃ m, r.length = m + 1 := ⟨r.length - 1, by omega⟩
  rw [hm, pathF_step m k r hne, pathF_fuel m (r.drop (partEndL r)).length (k + 1) (r.drop (partEndL r)) (by rw [List.length_drop]; omega) (Nat.le_refl _)]
theorem beq_S_nil (r : List UInt8) (hne : r ≠ []) : ((S r).toList == []) = false := by
  rw [toList_beq, decide_eq_false_iff_not]; exact hne
theorem isEmpty_S (r : List UInt8) (hne : r ≠ []) : (S r).toList.isEmpty = false := by
  rw [Lib.toList_data]; show r.isEmpty = false; cases r <;> simp_all
theorem ownsRow_below {B : Nat} {e : TypeId} {k : Nat} {v : Value} {n : Nat} {xs : List Value} {w w' : World} (h : w.ownsRow B e k v n xs) (hb : Below w.heap.size w w') : w'.ownsRow B e k v n xs := by
  refine ⟨h.1, ?_⟩
  rcases h.2 with hn | ⟨g, cap, cur, hv, hB, hg, rest⟩
  · exact Or.inl hn
  · exact Or.inr ⟨g, cap, cur, hv, hB, (hb.block g (Array.getElem?_eq_some_iff.1 hg).1).trans hg, rest⟩
theorem row_new (w : World) (xs : List Value) (t : TypeId) : ∀ (j : Nat) (u : Value), xs[j]? = some u → (w.alloc (.cells xs.toArray t)).cell? ((⟨w.heap.size, 0, none⟩ : Addr).add j) = some u := by
  intro j u h
  have e : ((⟨w.heap.size, 0, none⟩ : Addr).add j) = ⟨w.heap.size, j, none⟩ := by
    unfold Addr.add; split <;> simp_all
  rw [e, cell_of_row _ w.heap.size j xs.toArray t (0, 0) (heap_alloc_new w _)]
  simpa using h
theorem own_form {w : World} {base : Nat} {e : TypeId} {size : Nat} {v : Value} {n : Nat} {xs : List Value} (h : w.ownsRow base e size v n xs) : ∃ A cap, v = .slice A n cap := by
  rcases h.2 with ⟨rfl, rfl⟩ | ⟨g, cap, cur, rfl, _⟩
  · exact ⟨_, _, rfl⟩
  · exact ⟨_, _, rfl⟩
set_option maxHeartbeats 3200000 in
theorem path_loop (s : List UInt8) (h0 : 0 < (S s).size) (hs : (S s).size ≤ 1125899906842624) (hc : (S s)[0] = 47) (h1 : s ≠ [47]) (w : World) : Calls Try.prog 16 #[.string (S s)] w (PathPost s w) := by
  have hne : s ≠ [] := by intro h; subst h; exact absurd h0 (by decide)
  have e : Hid (pathL s = pathF s.length 0 s) := by
    show _ = _
    unfold pathL
    have := getD_at (S s) 0 h0
    rw [S_data] at this
    rw [if_neg h1, this, if_neg (by rw [hc]; simp)]
  have b1 : ((S s).toList == [47]) = false := by rw [toList_beq, decide_eq_false_iff_not]; exact h1
  have b2 := beq_S_nil s hne
  have b4 := isEmpty_S s hne
  have b3 : (((S s)[0].toNat : Int) != 47) = false := by rw [hc]; rfl
  obtain ⟨i0, hi, hz0, hz1, hz2⟩ := info_parts info9
  replace hne := Lib.hid hne
  clear hc h1
  go_enter Try.func16, Try.ntmps16
  go_wp2
  go_loopw [4, 5, 6] (fun v rv _ wr => ∃ (k : Nat) (ms : List (List UInt8)) (r : List UInt8), k ≤ 8 ∧ Hid (ms.length = k) ∧ rv = .string (S r) ∧ wr.ownsRow w.heap.size 9 1 v k (ms.map strV) ∧ r.length ≤ s.length ∧ Hid (Below w.heap.size w wr) ∧ Hid (pathF s.length 0 s = (pathF r.length k r).map (ms ++ ·))) (fun _ rv _ _ => strSize rv)
  case atStart => exact ⟨0, [], s, by omega, rfl, rfl, World.ownsRow_nil _ _ _ _, Nat.le_refl _, Below.refl _ _, by show _ = _; simp⟩
  case round =>
    obtain ⟨k, ms, r, hk, HL, rfl, hown, hrl, HB, HP⟩ := hrel
    obtain ⟨A, cap, rfl⟩ := own_form hown
    by_cases hr : r = []
    · subst hr
      have c2 : (S []).toList.isEmpty = true := by rw [Lib.toList_data]; rfl
      go_wp2
      go_ret2
      unfold PathPost
      rw [e.out, HP.out]
      have e2 : pathF ([] : List UInt8).length k [] = some [] := rfl
      rw [e2]
      exact ⟨_, rfl, by simpa [pathRes, HL.out] using hown, HB.out⟩
    · have hlen : 0 < r.length := length_pos hr
      have c1 := beq_S_nil r hr
      have c2 := isEmpty_S r hr
      have hst := pathF_len k r hr
      replace hst := Lib.hid hst
      have hpe := partEndL_le r hr
      have hpp := partEndL_pos r
      replace hr := Lib.hid hr
      obtain ⟨pe, hpe2⟩ : ∃ pe, partEndL r = pe := ⟨_, rfl⟩
      rw [hpe2] at hpe hpp
      have hst2 := hst.out
      rw [hpe2] at hst2
      clear hst
      replace hst2 := Lib.hid hst2
      rw [S_size] at hs
      have hsr : (S r).size ≤ 1125899906842624 := by rw [S_size]; omega
      replace hpe2 := Lib.hid hpe2
      have hz : 0 < (S r).size := by rw [S_size]; exact hlen
      go_wp2_with fail
      refine (partEnd_any (S r) hz hsr _).mono ?_
      rw [S_data, hpe2.out]
      rintro e w1 ⟨rfl, rfl⟩
      have hpe' : pe ≤ (S r).size := by rw [S_size]; exact hpe
      by_cases h8 : k = 8
      · have hst8 : pathF r.length k r = none := by rw [hst2.out, if_pos (Or.inl h8)]
        replace hst8 := Lib.hid hst8
        subst h8
        go_wp2
        go_ret2
        unfold PathPost
        rw [e.out, HP.out, hst8.out]
        exact ⟨_, rfl, World.ownsRow_nil _ _ _ _, HB.out⟩
      · have b8 : ((k : Int) == 8) = false := by rw [beq_eq_false_iff_ne]; omega
        have ex : ((S r).extract 1 pe).data.toList = (r.take pe).drop 1 := by rw [ext_piece]; rfl
        replace ex := Lib.hid ex
        have exn := Lib.hid (ext_rest r pe)
        cases hn : isName ((r.take pe).drop 1) with
        | false =>
          have hst4 : pathF r.length k r = none := by rw [hst2.out, if_pos (Or.inr hn)]
          replace hst4 := Lib.hid hst4
          replace hn := Lib.hid hn
          go_wp2_with fail
          refine (name_any _ _).mono ?_
          rw [ex.out, hn.out]
          rintro e w1 ⟨rfl, hb1⟩
          replace hb1 := Lib.hid hb1
          go_wp2
          go_ret2
          unfold PathPost
          rw [e.out, HP.out, hst4.out]
          exact ⟨_, rfl, World.ownsRow_nil _ _ _ _, HB.out.trans (hb1.out.mono HB.out.size)⟩
        | true =>
          have hst3 : pathF r.length k r = (pathF (r.drop pe).length (k + 1) (r.drop pe)).map ((r.take pe).drop 1 :: ·) := by
            rw [hst2.out, if_neg]
            rw [hn]; intro h; rcases h with h | h
            · exact h8 h
            · cases h
          replace hst3 := Lib.hid hst3
          clear hst2
          replace hn := Lib.hid hn
          go_wp2_with fail
          refine (name_any _ _).mono ?_
          rw [ex.out, hn.out]
          rintro e w1 ⟨rfl, hb1⟩
          have hown1 := ownsRow_below hown hb1
          have hsz1 := HB.out.size
          have hsz2 := hb1.size
          replace hb1 := Lib.hid hb1
          go_wp2_with (at_builtin; refine wpList_append_own _ rfl _ _ 24 rfl (w.heap.size) 9 i0 (.string ⟨#[]⟩) 1 16 Try.underlying24 hi hz0 hz1 hz2 rfl (by decide) _ _ _ rfl (hown1.alloc _) ⟨w1.heap.size, 0, none⟩ 1 1 [.string ((S r).extract 1 pe)] rfl rfl ?c1 ?c2 ?c3 ?c4 ?c5 ?_)
          case c1 => exact row_new w1 [_] 9
          case c2 => intro u hu; simp at hu; subst hu; rfl
          case c3 => unfold maxLen; omega
          case c4 => omega
          case c5 => simp; omega
          intro v' w2 hown2 hgrow _
          have hB2 : Below w.heap.size w w2 := by
            refine ((HB.out.trans (hb1.out.mono HB.out.size)).alloc (by omega) _).grown hgrow (by simp; omega) ?_
            intro g hg
            exact (hown1.lt g hg).1
          have hrow2 : w2.ownsRow w.heap.size 9 1 v' (k + 1) ((ms ++ [(r.take pe).drop 1]).map strV) := by
            rw [List.map_append]; rw [ext_piece] at hown2; exact hown2
          clear hown2 hgrow hown1 hown
          replace hB2 := Lib.hid hB2
          replace hrow2 := Lib.hid hrow2
          go_wp2
          go_roundw
          case rel =>
            refine ⟨k + 1, ms ++ [(r.take pe).drop 1], r.drop pe, by omega, ?_, ?_, hrow2.out, ?_, hB2, ?_⟩
            · show _ = _
              rw [List.length_append, HL.out]; rfl
            · rw [ext_rest]
            · rw [List.length_drop]; omega
            · show _ = _
              rw [HP.out, hst3.out, Option.map_map]
              congr 1
              funext x
              simp
          case measure =>
            rw [ext_rest]
            simp [strSize, S_size]; omega
/-- Path: the names of a path. -/
theorem path_any (s : List UInt8) (hs : s.length ≤ 1125899906842624) (w : World) : Calls Try.prog 16 #[.string (S s)] w (PathPost s w) := by
  by_cases h0 : s = []
  · subst h0; exact path_empty w
  · have hz : 0 < (S s).size := by rw [S_size]; exact length_pos h0
    by_cases hc : (S s)[0] = 47
    · by_cases h1 : s = [47]
      · subst h1; exact path_root w
      · exact path_loop s hz (by rw [S_size]; exact hs) hc h1 w
    · exact path_other (S s) hz hc w

end Go.Proofs.Ytcgdocdpdapglaa
