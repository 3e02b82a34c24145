/- The document's answer: the names of a path. -/
import Derived.Test.YtcgdocdpdapglaaP1
namespace Go.Proofs.Ytcgdocdpdapglaa
open Go.RowKit Go.Lib
def ns47 (c : UInt8) : Bool := !decide (c = 47)
/-- The pieces between slashes, at most so many. -/
def split10 : Nat → List UInt8 → List (List UInt8)
  | 0, _ => []
  | k + 1, t => if (t.takeWhile ns47).length = t.length then [t.takeWhile ns47] else t.takeWhile ns47 :: split10 k (t.drop ((t.takeWhile ns47).length + 1))
theorem tw_all (n : List UInt8) (h : ∀ c ∈ n, c ≠ 47) : n.takeWhile ns47 = n := by
  have := takeWhile_stop n [] h (Or.inl rfl)
  rwa [List.append_nil] at this
theorem tw_stop (n r : List UInt8) (h : ∀ c ∈ n, c ≠ 47) : (n ++ 47 :: r).takeWhile ns47 = n := takeWhile_stop n _ h (Or.inr ⟨r, rfl⟩)
theorem split_last (k : Nat) (t : List UInt8) (h : ∀ c ∈ t, c ≠ 47) : split10 (k + 1) t = [t] := by
  unfold split10
  rw [tw_all t h, if_pos rfl]
theorem split_more (k : Nat) (n r : List UInt8) (h : ∀ c ∈ n, c ≠ 47) : split10 (k + 1) (n ++ 47 :: r) = n :: split10 k r := by
  conv => lhs; unfold split10
  rw [tw_stop n r h, if_neg (by simp), List.drop_append, List.drop_eq_nil_of_le (by omega), Nat.add_sub_cancel_left]
  rfl
theorem split_jn (ns : List (List UInt8)) : ∀ k, ns ≠ [] → ns.length ≤ k → (∀ n ∈ ns, isName n = true) → split10 k ((jn ns).drop 1) = ns := by
  induction ns with
  | nil => intro k h; exact absurd rfl h
  | cons a t ih =>
    intro k _ hk hn
    obtain ⟨k, rfl⟩ : ∃ m, k = m + 1 := ⟨k - 1, by rw [List.length_cons] at hk; omega⟩
    have ha := nameAll_bytes a (isName_all (hn a (by simp)))
    rw [jn_cons]
    show split10 (k + 1) (a ++ jn t) = _
    cases t with
    | nil => rw [show jn [] = [] from rfl, List.append_nil]; exact split_last k a ha
    | cons b u =>
      rw [jn_cons b u]
      show split10 (k + 1) (a ++ 47 :: (b ++ jn u)) = _
      rw [split_more k a _ ha]
      congr 1
      have := ih k (by simp) (by simp at hk ⊢; omega) (fun n h => hn n (by simp [h]))
      rw [jn_cons b u] at this
      exact this
def pieces (s : List UInt8) : List (List UInt8) := if s = [] ∨ s = [47] then [] else split10 10 (s.drop 1)
theorem pieces_join {ns : List (List UInt8)} {s : List UInt8} (h : joinL ns = some s) : pieces s = ns := by
  obtain ⟨h8, hn, hp⟩ := joinL_some h
  by_cases h0 : ns = []
  · subst h0; rw [if_pos rfl] at hp; subst hp; rfl
  · rw [if_neg h0] at hp
    unfold pieces
    have hj := jn_pos ns h0
    rw [if_neg, hp, split_jn ns 10 h0 (by omega) hn]
    rw [hp]
    rintro (h1 | h1)
    · exact hj h1
    · cases ns with
      | nil => exact h0 rfl
      | cons a t =>
        have ha := length_pos (isName_ne (hn a (by simp)))
        rw [jn_cons] at h1
        have := congrArg List.length h1
        rw [List.length_append, List.length_cons, List.length_singleton] at this
        omega
theorem path_of_pieces {s : List UInt8} (h : joinL (pieces s) = some s) : pathL s = some (pieces s) := path_join h
theorem path_no_pieces {s : List UInt8} (h : joinL (pieces s) ≠ some s) : pathL s = none := by
  cases hp : pathL s with
  | none => rfl
  | some ns =>
    have := join_path hp
    rw [pieces_join this] at h
    exact absurd this h
theorem take_snoc1 (l : List UInt8) (k : Nat) (h : k < l.length) : l.take (k + 1) = l.take k ++ [l.getD k 0] := by
  rw [List.take_succ_eq_append_getElem h]; simp [h]
/-- What stands at the loop's head. -/
def PInv (s : List UInt8) (i f : Nat) (l : List (List UInt8)) : Prop :=
  (i ≤ s.length → l ++ split10 (10 - l.length) (s.drop f) = pieces s ∧ ∀ c ∈ (s.drop f).take (i - f), c ≠ 47) ∧ (s.length < i → l = pieces s)
theorem pinv_start (s : List UInt8) (h0 : s ≠ []) (h1 : s ≠ [47]) : PInv s 1 1 [] := by
  refine ⟨fun _ => ⟨?_, by simp⟩, fun h => ?_⟩
  · unfold pieces
    rw [if_neg (by rintro (h | h); exact h0 h; exact h1 h)]
    rfl
  · have := length_pos h0; omega
theorem pinv_last {s : List UInt8} {f : Nat} {l : List (List UInt8)} (h : PInv s s.length f l) (hl : l.length < 10) : l ++ [s.drop f] = pieces s := by
  obtain ⟨h1, h2⟩ := h.1 (Nat.le_refl _)
  rw [List.take_of_length_le (by rw [List.length_drop]; omega)] at h2
  rw [← h1]
  obtain ⟨k, hk⟩ : ∃ k, 10 - l.length = k + 1 := ⟨9 - l.length, by omega⟩
  rw [hk, split_last k _ h2]
theorem pinv_slash {s : List UInt8} {i f : Nat} {l : List (List UInt8)} (h : PInv s i f l) (hl : l.length < 10) (hf : f ≤ i) (hi : i < s.length) (hc : s.getD i 0 = 47) : PInv s (i + 1) (i + 1) (l ++ [(s.drop f).take (i - f)]) := by
  obtain ⟨h1, h2⟩ := h.1 (by omega)
  have e : s.drop f = (s.drop f).take (i - f) ++ 47 :: s.drop (i + 1) := by
    have e1 : (s.drop f).drop (i - f) = s.drop i := by rw [List.drop_drop]; congr 1; omega
    have e2 : s.drop i = 47 :: s.drop (i + 1) := by
      rw [List.drop_eq_getElem_cons hi, ← hc]; simp [hi]
    rw [← e2, ← e1, List.take_append_drop]
  obtain ⟨k, hk⟩ : ∃ k, 10 - l.length = k + 1 := ⟨9 - l.length, by omega⟩
  have hk2 : 10 - (l ++ [(s.drop f).take (i - f)]).length = k := by rw [List.length_append, List.length_singleton]; omega
  have tot : (l ++ [(s.drop f).take (i - f)]) ++ split10 k (s.drop (i + 1)) = pieces s := by
    rw [← h1, hk]
    conv => rhs; rw [e, split_more k _ _ h2]
    simp
  refine ⟨fun _ => ⟨by rw [hk2]; exact tot, by simp⟩, fun hlt => ?_⟩
  omega
theorem pinv_step {s : List UInt8} {i f : Nat} {l : List (List UInt8)} (h : PInv s i f l) (hf : f ≤ i) (hi : i < s.length) (hc : s.getD i 0 ≠ 47) : PInv s (i + 1) f l := by
  obtain ⟨h1, h2⟩ := h.1 (by omega)
  refine ⟨fun _ => ⟨h1, ?_⟩, fun hlt => by omega⟩
  rw [show i + 1 - f = (i - f) + 1 by omega, take_snoc1 _ _ (by rw [List.length_drop]; omega)]
  intro c hcm
  rcases List.mem_append.1 hcm with hm | hm
  · exact h2 c hm
  · rw [List.mem_singleton] at hm
    subst hm
    rw [getD_dropN, show f + (i - f) = i by omega]
    exact hc
theorem pinv_full {s : List UInt8} {i f : Nat} {l : List (List UInt8)} (h : PInv s i f l) (hl : l.length = 10) : l = pieces s := by
  by_cases hi : i ≤ s.length
  · have := (h.1 hi).1
    rw [hl] at this
    simpa [split10] using this
  · exact h.2 (by omega)
theorem path_noR {s : List UInt8} (h : joinL (pieces s) ≠ some s) : pathErr (pathL s) = 10 ∧ pathRes (pathL s) = [] := by
  rw [path_no_pieces h]; exact ⟨rfl, rfl⟩
theorem path_yesR {s : List UInt8} (h : joinL (pieces s) = some s) : pathErr (pathL s) = 0 ∧ pathRes (pathL s) = pieces s := by
  rw [path_of_pieces h]; exact ⟨rfl, rfl⟩
/-- What stands behind the loop. -/
theorem pieces_len (s : List UInt8) : (pieces s).length ≤ 10 := by
  have : ∀ k t, (split10 k t).length ≤ k := by
    intro k
    induction k with
    | zero => intro t; simp [split10]
    | succ k ih =>
      intro t
      unfold split10
      split
      · simp
      · rw [List.length_cons]; have := ih (t.drop ((t.takeWhile ns47).length + 1)); omega
  unfold pieces
  split
  · simp
  · exact this 10 _
set_option maxRecDepth 100000 in
set_option maxHeartbeats 6400000 in
theorem pathR_any (s : List UInt8) (hs : s.length ≤ 1125899906842624) (w : World) : Calls Try.prog 15 #[.string (S s)] w (PathPost s w) := by
  obtain ⟨i0, hi, hz0, hz1, hz2⟩ := info_parts info9
  have hz : (S s).size = s.length := S_size s
  replace hz := Lib.hid hz
  have er : (w.alloc (.cells #[] 9)).ownsRow w.heap.size 9 1 (.slice (some ⟨w.heap.size, 0, none⟩) 0 0) 0 [] :=
    ⟨rfl, Or.inr ⟨w.heap.size, 0, #[], rfl, Nat.le_refl _, heap_alloc_new w _, by omega, by unfold maxLen; omega, rfl, rfl⟩⟩
  replace er := Lib.hid er
  go_enter Try.func15, Try.ntmps15
  go_wp2
  go_loopw [4, 5, 6] (fun v fv iv wr => ∃ (i f : Nat) (l : List (List UInt8)), 1 ≤ f ∧ f ≤ i ∧ i ≤ s.length + 1 ∧ (s.length < i → i = s.length + 1) ∧ iv = .int .i64 i ∧ (fv = .int .i64 f) ∧ l.length ≤ 10 ∧ wr.ownsRow w.heap.size 9 1 v l.length (l.map strV) ∧ Hid (Below w.heap.size w wr) ∧ Hid ((s ≠ [] ∧ s ≠ [47] → PInv s i f l) ∧ (s = [] ∨ s = [47] → l = []))) (fun _ _ iv _ => s.length + 1 - (intOf iv).toNat)
  case atStart => exact ⟨1, 1, [], by omega, by omega, by omega, by omega, rfl, rfl, by simp, er.out, (Below.refl _ _).alloc (Nat.le_refl _) _, fun h => pinv_start s h.1 h.2, fun _ => rfl⟩
  case round =>
    obtain ⟨i, f, l, hf1, hfi, hil, _, rfl, rfl, hl10, hown, HB, HP⟩ := hrel
    clear er
    obtain ⟨A, cap, rfl⟩ := own_form hown
    have hbw := HB.out.size
    have hzz := hz.out
    have h47 : ∀ b, decide (s = [47]) = b → ((S s).toList == [47]) = b := fun b hb => by rw [toList_beq, S_data]; exact hb
    replace h47 := Lib.hid h47
    -- the loop is left
    have leave : l = pieces s → True := fun _ => trivial
    clear leave
    by_cases hgo : i ≤ s.length ∧ s ≠ [47] ∧ l.length < 10
    · obtain ⟨g1, g2, g3⟩ := hgo
      have hne : s ≠ [] := by intro h; subst h; simp at g1; omega
      have hinv := HP.out.1 ⟨hne, g2⟩
      have b47 := h47.out false (by simpa using g2)
      have hi2 : i ≤ (S s).size := by omega
      replace hinv := Lib.hid hinv
      have hrest : ¬ (s = [] ∨ s = [47]) := by rintro (h | h); exact hne h; exact g2 h
      replace hrest := Lib.hid hrest
      clear HP
      replace hne := Lib.hid hne
      replace g2 := Lib.hid g2
      by_cases hlast : i = s.length
      · have hpl := pinv_last (by rw [← hlast]; exact hinv.out) g3
        have bi : ((i : Int) == ((S s).size : Int)) = true := by rw [beq_iff_eq]; omega
        have ex : (S s).extract f i = S (s.drop f) := by rw [Lib.extract_eq, S_data, hlast, List.take_of_length_le (by rw [List.length_drop]; exact Nat.le_refl _)]; rfl
        replace ex := Lib.hid ex
        replace hpl := Lib.hid hpl
        replace hlast := Lib.hid hlast
        replace hzz := Lib.hid hzz
        go_wp2_with (at_builtin; refine wpList_append_own _ rfl _ _ 24 rfl (w.heap.size) 9 i0 (.string ⟨#[]⟩) 1 16 Try.underlying24 hi hz0 hz1 hz2 rfl (by decide) _ _ _ rfl (hown.alloc _) ⟨wr.heap.size, 0, none⟩ 1 1 [.string ((S s).extract f i)] rfl rfl ?c1 ?c2 ?c3 ?c4 ?c5 ?_)
        case c1 => exact row_new wr [_] 9
        case c2 => intro u hu; simp at hu; subst hu; rfl
        case c3 => unfold maxLen; omega
        case c4 => omega
        case c5 => rw [World.size_alloc]; omega
        intro v' w2 ho2 hgr _
        have ho3 : w2.ownsRow (w.heap.size) 9 1 v' (l ++ [s.drop f]).length ((l ++ [s.drop f]).map strV) := by
          rw [ex.out] at ho2; rw [List.length_append, List.map_append]; exact ho2
        have hb2 := Lib.hid ((HB.out.alloc hbw _).grown hgr (by rw [World.size_alloc]; omega) fun g hg => (hown.lt g hg).1)
        clear ho2 hgr hown
        replace ho3 := Lib.hid ho3
        go_wp2
        go_roundw
        case rel =>
          have := hlast.out
          refine ⟨i + 1, i + 1, l ++ [s.drop f], by omega, by omega, by omega, by omega, by go_num, by go_num, by rw [List.length_append, List.length_singleton]; omega, ho3.out, hb2, fun _ => ⟨fun h => by omega, fun _ => hpl.out⟩, fun h => absurd h hrest.out⟩
        case measure => simp [intOf]; omega
      · have hlt : i < s.length := by omega
        have hlt2 : i < (S s).size := by omega
        have bi : ((i : Int) == ((S s).size : Int)) = false := by rw [beq_eq_false_iff_ne]; omega
        have hby := byte_at s i hlt2
        by_cases hc : (S s)[i] = 47
        · have hps := pinv_slash hinv.out g3 hfi hlt (by rw [← hby]; exact hc)
          have bc : (((S s)[i].toNat : Int) == 47) = true := by rw [hc]; rfl
          have ex : (S s).extract f i = S ((s.drop f).take (i - f)) := by rw [Lib.extract_eq, S_data]; rfl
          replace ex := Lib.hid ex
          replace hps := Lib.hid hps
          replace hzz := Lib.hid hzz
          clear hby hc
          go_wp2_with (at_builtin; refine wpList_append_own _ rfl _ _ 24 rfl (w.heap.size) 9 i0 (.string ⟨#[]⟩) 1 16 Try.underlying24 hi hz0 hz1 hz2 rfl (by decide) _ _ _ rfl (hown.alloc _) ⟨wr.heap.size, 0, none⟩ 1 1 [.string ((S s).extract f i)] rfl rfl ?c1 ?c2 ?c3 ?c4 ?c5 ?_)
          case c1 => exact row_new wr [_] 9
          case c2 => intro u hu; simp at hu; subst hu; rfl
          case c3 => unfold maxLen; omega
          case c4 => omega
          case c5 => rw [World.size_alloc]; omega
          intro v' w2 ho2 hgr _
          have ho3 : w2.ownsRow (w.heap.size) 9 1 v' (l ++ [(s.drop f).take (i - f)]).length ((l ++ [(s.drop f).take (i - f)]).map strV) := by
            rw [ex.out] at ho2; rw [List.length_append, List.map_append]; exact ho2
          have hb2 := Lib.hid ((HB.out.alloc hbw _).grown hgr (by rw [World.size_alloc]; omega) fun g hg => (hown.lt g hg).1)
          clear ho2 hgr hown
          replace ho3 := Lib.hid ho3
          go_wp2
          go_roundw
          case rel => exact ⟨i + 1, i + 1, l ++ [(s.drop f).take (i - f)], by omega, by omega, by omega, by omega, by go_num, by go_num, by rw [List.length_append, List.length_singleton]; omega, ho3.out, hb2, fun _ => hps.out, fun h => absurd h hrest.out⟩
          case measure => simp [intOf]; omega
        · have hps := pinv_step hinv.out hfi hlt (by rw [← hby]; exact hc)
          have bc : (((S s)[i].toNat : Int) == 47) = false := beq_no (n := 47) (by decide) hc
          replace hps := Lib.hid hps
          replace hzz := Lib.hid hzz
          replace hown := Lib.hid hown
          clear hby hc
          go_wp2
          go_roundw
          case rel => exact ⟨i + 1, f, l, by omega, by omega, by omega, by omega, by go_num, rfl, by omega, hown.out, HB, fun _ => hps.out, fun h => absurd h hrest.out⟩
          case measure => simp [intOf]; omega
    · have hl : l = pieces s := by
        by_cases hd : s = [] ∨ s = [47]
        · rw [HP.out.2 hd]; unfold pieces; rw [if_pos hd]
        · have hinv := HP.out.1 ⟨fun h => hd (Or.inl h), fun h => hd (Or.inr h)⟩
          by_cases h10 : l.length = 10
          · exact pinv_full hinv h10
          · refine hinv.2 ?_
            have h2 : s ≠ [47] := fun h => hd (Or.inr h)
            by_cases hh : i ≤ s.length
            · exact absurd ⟨hh, h2, by omega⟩ hgo
            · omega
      subst hl
      have hsl := own_SL hown
      have hjr := joinR_any _ (pieces s) (by have := pieces_len s; omega) wr hsl
      clear HP hfi hf1 hil
      replace hjr := Lib.hid hjr
      replace hsl := Lib.hid hsl
      have way : s.length < i ∨ (i ≤ s.length ∧ s = [47]) ∨ (i ≤ s.length ∧ s ≠ [47] ∧ (pieces s).length = 10) := by
        by_cases a1 : i ≤ s.length
        · by_cases a2 : s = [47]
          · exact Or.inr (Or.inl ⟨a1, a2⟩)
          · exact Or.inr (Or.inr ⟨a1, a2, by
              by_cases a3 : (pieces s).length < 10
              · exact absurd ⟨a1, a2, a3⟩ hgo
              · omega⟩)
        · exact Or.inl (by omega)
      clear hgo
      rcases way with a1 | ⟨a1, a2⟩ | ⟨a1, a2, a3⟩
      · have c0 : ((S s).size : Int) < (i : Int) := by omega
        replace hzz := Lib.hid hzz
        by_cases hj : joinL (pieces s) = some s
        · have hp := path_yesR hj
          have bs : ((S s).toList == (S s).toList) = true := by simp
          replace hj := Lib.hid hj
          replace hp := Lib.hid hp
          go_wp2_with fail
          refine (hjr.out).mono ?_
          unfold JoinPost
          rw [hj.out]
          unfold PathR
          rintro e w1 ⟨rfl, hb1⟩
          have hown1 := ownsRow_below hown hb1
          have B1 := Lib.hid (HB.out.trans (hb1.mono HB.out.size))
          clear hb1 hown
          replace hown1 := Lib.hid hown1
          go_wp2
          go_ret2
          unfold PathPost
          rw [hp.out.1, hp.out.2]
          exact ⟨.slice A (pieces s).length cap, rfl, hown1.out, B1.out⟩
        have hp := path_noR hj
        replace hp := Lib.hid hp
        cases hjn : joinL (pieces s) with
        | none =>
          replace hj := Lib.hid hjn
          clear hjn
          go_wp2_with fail
          refine (hjr.out).mono ?_
          unfold JoinPost
          rw [hj.out]
          unfold PathR
          rintro e w1 ⟨rfl, hb1⟩
          have hown1 := ownsRow_below hown hb1
          have B1 := Lib.hid (HB.out.trans (hb1.mono HB.out.size))
          clear hb1 hown
          replace hown1 := Lib.hid hown1
          go_wp2
          go_ret2
          unfold PathPost
          rw [hp.out.1, hp.out.2]
          exact ⟨.slice none 0 0, rfl, World.ownsRow_nil _ _ _ _, B1.out⟩
        | some p =>
          have bs : ((S p).toList == (S s).toList) = false := by
            rw [S_beq, decide_eq_false_iff_not]; intro e; subst e; exact hj hjn
          replace hj := Lib.hid hjn
          clear hjn
          go_wp2_with fail
          refine (hjr.out).mono ?_
          unfold JoinPost
          rw [hj.out]
          unfold PathR
          rintro e w1 ⟨rfl, hb1⟩
          have hown1 := ownsRow_below hown hb1
          have B1 := Lib.hid (HB.out.trans (hb1.mono HB.out.size))
          clear hb1 hown
          replace hown1 := Lib.hid hown1
          go_wp2
          go_ret2
          unfold PathPost
          rw [hp.out.1, hp.out.2]
          exact ⟨.slice none 0 0, rfl, World.ownsRow_nil _ _ _ _, B1.out⟩
      · have c0 : (i : Int) ≤ ((S s).size : Int) := by omega
        have b47 := h47.out true (by simpa using a2)
        replace a2 := Lib.hid a2
        replace hzz := Lib.hid hzz
        by_cases hj : joinL (pieces s) = some s
        · have hp := path_yesR hj
          have bs : ((S s).toList == (S s).toList) = true := by simp
          replace hj := Lib.hid hj
          replace hp := Lib.hid hp
          go_wp2_with fail
          refine (hjr.out).mono ?_
          unfold JoinPost
          rw [hj.out]
          unfold PathR
          rintro e w1 ⟨rfl, hb1⟩
          have hown1 := ownsRow_below hown hb1
          have B1 := Lib.hid (HB.out.trans (hb1.mono HB.out.size))
          clear hb1 hown
          replace hown1 := Lib.hid hown1
          go_wp2
          go_ret2
          unfold PathPost
          rw [hp.out.1, hp.out.2]
          exact ⟨.slice A (pieces s).length cap, rfl, hown1.out, B1.out⟩
        have hp := path_noR hj
        replace hp := Lib.hid hp
        cases hjn : joinL (pieces s) with
        | none =>
          replace hj := Lib.hid hjn
          clear hjn
          go_wp2_with fail
          refine (hjr.out).mono ?_
          unfold JoinPost
          rw [hj.out]
          unfold PathR
          rintro e w1 ⟨rfl, hb1⟩
          have hown1 := ownsRow_below hown hb1
          have B1 := Lib.hid (HB.out.trans (hb1.mono HB.out.size))
          clear hb1 hown
          replace hown1 := Lib.hid hown1
          go_wp2
          go_ret2
          unfold PathPost
          rw [hp.out.1, hp.out.2]
          exact ⟨.slice none 0 0, rfl, World.ownsRow_nil _ _ _ _, B1.out⟩
        | some p =>
          have bs : ((S p).toList == (S s).toList) = false := by
            rw [S_beq, decide_eq_false_iff_not]; intro e; subst e; exact hj hjn
          replace hj := Lib.hid hjn
          clear hjn
          go_wp2_with fail
          refine (hjr.out).mono ?_
          unfold JoinPost
          rw [hj.out]
          unfold PathR
          rintro e w1 ⟨rfl, hb1⟩
          have hown1 := ownsRow_below hown hb1
          have B1 := Lib.hid (HB.out.trans (hb1.mono HB.out.size))
          clear hb1 hown
          replace hown1 := Lib.hid hown1
          go_wp2
          go_ret2
          unfold PathPost
          rw [hp.out.1, hp.out.2]
          exact ⟨.slice none 0 0, rfl, World.ownsRow_nil _ _ _ _, B1.out⟩
      · have c0 : (i : Int) ≤ ((S s).size : Int) := by omega
        have b47 := h47.out false (by simpa using a2)
        have c1 : (10 : Int) ≤ ((pieces s).length : Int) := by omega
        clear a3
        replace a2 := Lib.hid a2
        replace hzz := Lib.hid hzz
        by_cases hj : joinL (pieces s) = some s
        · have hp := path_yesR hj
          have bs : ((S s).toList == (S s).toList) = true := by simp
          replace hj := Lib.hid hj
          replace hp := Lib.hid hp
          go_wp2_with fail
          refine (hjr.out).mono ?_
          unfold JoinPost
          rw [hj.out]
          unfold PathR
          rintro e w1 ⟨rfl, hb1⟩
          have hown1 := ownsRow_below hown hb1
          have B1 := Lib.hid (HB.out.trans (hb1.mono HB.out.size))
          clear hb1 hown
          replace hown1 := Lib.hid hown1
          go_wp2
          go_ret2
          unfold PathPost
          rw [hp.out.1, hp.out.2]
          exact ⟨.slice A (pieces s).length cap, rfl, hown1.out, B1.out⟩
        have hp := path_noR hj
        replace hp := Lib.hid hp
        cases hjn : joinL (pieces s) with
        | none =>
          replace hj := Lib.hid hjn
          clear hjn
          go_wp2_with fail
          refine (hjr.out).mono ?_
          unfold JoinPost
          rw [hj.out]
          unfold PathR
          rintro e w1 ⟨rfl, hb1⟩
          have hown1 := ownsRow_below hown hb1
          have B1 := Lib.hid (HB.out.trans (hb1.mono HB.out.size))
          clear hb1 hown
          replace hown1 := Lib.hid hown1
          go_wp2
          go_ret2
          unfold PathPost
          rw [hp.out.1, hp.out.2]
          exact ⟨.slice none 0 0, rfl, World.ownsRow_nil _ _ _ _, B1.out⟩
        | some p =>
          have bs : ((S p).toList == (S s).toList) = false := by
            rw [S_beq, decide_eq_false_iff_not]; intro e; subst e; exact hj hjn
          replace hj := Lib.hid hjn
          clear hjn
          go_wp2_with fail
          refine (hjr.out).mono ?_
          unfold JoinPost
          rw [hj.out]
          unfold PathR
          rintro e w1 ⟨rfl, hb1⟩
          have hown1 := ownsRow_below hown hb1
          have B1 := Lib.hid (HB.out.trans (hb1.mono HB.out.size))
          clear hb1 hown
          replace hown1 := Lib.hid hown1
          go_wp2
          go_ret2
          unfold PathPost
          rw [hp.out.1, hp.out.2]
          exact ⟨.slice none 0 0, rfl, World.ownsRow_nil _ _ _ _, B1.out⟩
end Go.Proofs.Ytcgdocdpdapglaa
