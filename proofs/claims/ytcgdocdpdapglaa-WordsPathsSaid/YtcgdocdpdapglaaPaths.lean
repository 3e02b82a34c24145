/- Plain facts on paths: the names of a path of names are these names. No program is spoken of. -/
import Derived.Test.YtcgdocdpdapglaaW6
import Derived.Test.YtcgdocdpdapglaaPlain3
set_option linter.unusedVariables false
namespace Go.Proofs.Ytcgdocdpdapglaa
open Go.Lib
theorem name_bytes (l : List UInt8) (hne : l ≠ []) (h : nameCh l = true) : ∀ c ∈ l.take (decodeL l).2, c ≠ 47 := by
  have hl := length_pos hne
  unfold nameCh at h
  simp only [Bool.and_eq_true, Bool.not_eq_true', decide_eq_false_iff_not] at h
  obtain ⟨hg, _, h47⟩ := h
  have hgood := (good_iff l).1 hg
  have hn : ∀ c : UInt8, c.toNat ≠ 47 → c ≠ 47 := fun c h e => h (by rw [e]; rfl)
  rcases decodeL_cases l hne with ⟨c, e⟩ | ⟨c1, c2, c3, cv, e⟩ | ⟨c1, c2, c3, c4, cv, cs, e⟩ | ⟨c1, c2, c3, c4, c5, cv, cw, e⟩ | e
  · rw [e] at h47 ⊢; dsimp only at h47 ⊢
    rw [takeA l hl]
    intro x hx; rw [List.mem_singleton] at hx; subst hx
    exact hn _ (by omega)
  · rw [e]; dsimp only
    rw [takeB l c2]
    intro x hx; simp only [List.mem_cons, List.not_mem_nil, or_false] at hx
    rcases hx with rfl | rfl <;> exact hn _ (by omega)
  · rw [e]; dsimp only
    rw [takeC l c2]
    intro x hx; simp only [List.mem_cons, List.not_mem_nil, or_false] at hx
    rcases hx with rfl | rfl | rfl <;> exact hn _ (by omega)
  · rw [e]; dsimp only
    rw [takeD l c2]
    intro x hx; simp only [List.mem_cons, List.not_mem_nil, or_false] at hx
    rcases hx with rfl | rfl | rfl | rfl <;> exact hn _ (by omega)
  · rw [e] at hgood; simp at hgood
theorem nameAll_bytes : ∀ l, nameAll l = true → ∀ c ∈ l, c ≠ 47 := by
  refine heads_ind (fun _ c hc => by simp at hc) (fun l hne ih h => ?_)
  rw [nameAll_step l hne, Bool.and_eq_true] at h
  intro c hc
  rw [← List.take_append_drop (decodeL l).2 l] at hc
  rcases List.mem_append.1 hc with h1 | h1
  · exact name_bytes l hne h.1 c h1
  · exact ih h.2 c h1
theorem isName_all {l : List UInt8} (h : isName l = true) : nameAll l = true := by
  unfold isName at h
  simp only [Bool.and_eq_true] at h
  exact h.2.2.2.2
theorem isName_ne {l : List UInt8} (h : isName l = true) : l ≠ [] := by
  unfold isName at h
  simp only [Bool.and_eq_true, decide_eq_true_eq] at h
  intro h0; subst h0; simp at h
theorem takeWhile_stop (n t : List UInt8) (h : ∀ c ∈ n, c ≠ 47) (ht : t = [] ∨ ∃ r, t = 47 :: r) : (n ++ t).takeWhile (fun c => !decide (c = 47)) = n := by
  induction n with
  | nil =>
    rcases ht with rfl | ⟨r, rfl⟩
    · rfl
    · rfl
  | cons a n ih =>
    rw [List.cons_append, List.takeWhile_cons, if_pos (by simpa using h a (by simp)), ih (fun c hc => h c (by simp [hc]))]
theorem partEnd_piece (n t : List UInt8) (h : ∀ c ∈ n, c ≠ 47) (ht : t = [] ∨ ∃ r, t = 47 :: r) : partEndL (47 :: n ++ t) = n.length + 1 := by
  unfold partEndL
  rw [show (47 :: n ++ t).drop 1 = n ++ t from rfl, takeWhile_stop n t h ht]
  omega
theorem jn_head (ns : List (List UInt8)) : jn ns = [] ∨ ∃ r, jn ns = 47 :: r := by
  cases ns with
  | nil => exact Or.inl rfl
  | cons a t => exact Or.inr ⟨a ++ jn t, by unfold jn; simp⟩
theorem jn_cons (a : List UInt8) (t : List (List UInt8)) : jn (a :: t) = 47 :: a ++ jn t := by unfold jn; simp
theorem pathF_jn (ns : List (List UInt8)) : ∀ k, k + ns.length ≤ 8 → (∀ n ∈ ns, isName n = true) → pathF (jn ns).length k (jn ns) = some ns := by
  induction ns with
  | nil => intro k _ _; rfl
  | cons a t ih =>
    intro k hk hn
    have ha := hn a (by simp)
    rw [List.length_cons] at hk
    have hp := partEnd_piece a (jn t) (nameAll_bytes a (isName_all ha)) (jn_head t)
    rw [jn_cons, pathF_len k _ (by simp), hp]
    have e1 : ((47 :: a ++ jn t).take (a.length + 1)).drop 1 = a := by simp
    have e2 : (47 :: a ++ jn t).drop (a.length + 1) = jn t := by simp
    rw [e1, e2, if_neg (by rw [ha]; intro h; rcases h with h | h; omega; cases h), ih (k + 1) (by omega) (fun n h => hn n (by simp [h]))]
    rfl
theorem joinL_some {ns : List (List UInt8)} {p : List UInt8} (h : joinL ns = some p) : ns.length ≤ 8 ∧ (∀ n ∈ ns, isName n = true) ∧ p = if ns = [] then [47] else jn ns := by
  unfold joinL at h
  split at h
  · rename_i h0; subst h0; injection h with h; subst h; exact ⟨by simp, by simp, by simp⟩
  · rename_i h0
    split at h
    · cases h
    · split at h
      · rename_i h8 ha
        injection h with h
        rw [if_neg h0]
        exact ⟨by omega, fun n hn => List.all_eq_true.1 ha n hn, h.symm⟩
      · cases h
/-- Path of Join's result: the names. -/
theorem path_join {ns : List (List UInt8)} {p : List UInt8} (h : joinL ns = some p) : pathL p = some ns := by
  obtain ⟨h8, hn, hp⟩ := joinL_some h
  cases ns with
  | nil => rw [if_pos rfl] at hp; subst hp; rfl
  | cons a t =>
    rw [if_neg (by simp)] at hp
    subst hp
    have ha := isName_ne (hn a (by simp))
    have hf := pathF_jn (a :: t) 0 (by omega) hn
    unfold pathL
    rw [if_neg, if_neg, hf]
    · rw [jn_cons]; simp
    · rw [jn_cons]
      intro h
      have := congrArg List.length h
      have hl := length_pos ha
      rw [List.length_append, List.length_cons, List.length_singleton] at this
      omega
theorem joinL_snoc_none {ns : List (List UInt8)} {n : List UInt8} (h : isName n = false ∨ 8 ≤ ns.length) : joinL (ns ++ [n]) = none := by
  unfold joinL
  rw [if_neg (by simp)]
  split
  · rfl
  · rename_i h8
    rw [List.length_append, List.length_cons, List.length_nil] at h8
    rcases h with h | h
    · rw [if_neg]; simp [h]
    · omega
theorem joinL_snoc_some {ns : List (List UInt8)} {n p : List UInt8} (h : joinL ns = some p) (hn : isName n = true) (h8 : ns.length < 8) : joinL (ns ++ [n]) = some (if ns = [] then 47 :: n else p ++ 47 :: n) := by
  obtain ⟨_, hns, hp⟩ := joinL_some h
  unfold joinL
  rw [if_neg (by simp), if_neg (by rw [List.length_append]; simp; omega), if_pos]
  · by_cases h0 : ns = []
    · subst h0; simp
    · rw [if_neg h0] at hp
      rw [if_neg h0, hp]
      simp [jn, List.flatMap_append]
  · rw [List.all_eq_true]
    intro x hx
    rcases List.mem_append.1 hx with h1 | h1
    · exact hns x h1
    · rw [List.mem_singleton] at h1; subst h1; exact hn
/-- What a path's names make is the path. -/
theorem takeWhile_split (r : List UInt8) : r.drop (r.takeWhile (fun c => !decide (c = 47))).length = [] ∨ ∃ t, r.drop (r.takeWhile (fun c => !decide (c = 47))).length = 47 :: t := by
  induction r with
  | nil => exact Or.inl rfl
  | cons a t ih =>
    rw [List.takeWhile_cons]
    by_cases h : a = 47
    · subst h; exact Or.inr ⟨t, rfl⟩
    · rw [if_pos (by simpa using h)]; exact ih
theorem pathF_some (r : List UInt8) : ∀ n, r.length ≤ n → ∀ k ns, (r = [] ∨ ∃ t, r = 47 :: t) → k ≤ 8 → pathF r.length k r = some ns → k + ns.length ≤ 8 ∧ (∀ m ∈ ns, isName m = true) ∧ jn ns = r := by
  intro n
  induction n generalizing r with
  | zero =>
    intro hr k ns _ hk h
    have : r = [] := List.eq_nil_of_length_eq_zero (by omega)
    subst this
    have : some [] = some ns := h
    injection this with this; subst this
    exact ⟨by simpa using hk, by simp, rfl⟩
  | succ n ih =>
    intro hr k ns hh hk h
    by_cases hne : r = []
    · subst hne
      have : some [] = some ns := h
      injection this with this; subst this
      exact ⟨by simpa using hk, by simp, rfl⟩
    · obtain ⟨t, rfl⟩ := hh.resolve_left hne
      rw [pathF_len k _ hne] at h
      split at h
      · cases h
      · rename_i hc
        have hc1 : k ≠ 8 := fun e => hc (Or.inl e)
        have hc2 : isName (((47 :: t).take (partEndL (47 :: t))).drop 1) = true := by
          cases hx : isName (((47 :: t).take (partEndL (47 :: t))).drop 1) with
          | true => rfl
          | false => exact absurd (Or.inr hx) hc
        cases hrest : pathF ((47 :: t).drop (partEndL (47 :: t))).length (k + 1) ((47 :: t).drop (partEndL (47 :: t))) with
        | none => rw [hrest] at h; cases h
        | some ms =>
          rw [hrest] at h
          injection h with h
          subst h
          have hpe : partEndL (47 :: t) = 1 + (t.takeWhile (fun c => !decide (c = 47))).length := rfl
          have hsp := takeWhile_split t
          have hd : (47 :: t).drop (partEndL (47 :: t)) = t.drop (t.takeWhile (fun c => !decide (c = 47))).length := by
            rw [hpe, Nat.add_comm]; rfl
          have hpp := partEndL_pos (47 :: t)
          obtain ⟨h1, h2, h3⟩ := ih ((47 :: t).drop (partEndL (47 :: t))) (by rw [List.length_drop]; omega) (k + 1) ms (by rw [hd]; exact hsp) (by omega) hrest
          refine ⟨by rw [List.length_cons]; omega, ?_, ?_⟩
          · intro m hm
            rcases List.mem_cons.1 hm with rfl | hm
            · exact hc2
            · exact h2 m hm
          · rw [jn_cons, h3]
            have : (47 :: t).take (partEndL (47 :: t)) = 47 :: ((47 :: t).take (partEndL (47 :: t))).drop 1 := by
              rw [hpe, Nat.add_comm]; rfl
            rw [← this]
            exact List.take_append_drop _ _
/-- The names of a path make the path. -/
theorem join_path {l : List UInt8} {ns : List (List UInt8)} (h : pathL l = some ns) : joinL ns = some l := by
  unfold pathL at h
  split at h
  · rename_i h0; injection h with h; subst h; rw [h0]; rfl
  · rename_i h0
    split at h
    · cases h
    · rename_i h1
      have hh : ∃ t, l = 47 :: t := by
        cases l with
        | nil => simp at h1
        | cons a t => simp at h1; exact ⟨t, by rw [h1]⟩
      obtain ⟨a1, a2, a3⟩ := pathF_some l l.length (Nat.le_refl _) 0 ns (Or.inr hh) (by omega) h
      have hne : ns ≠ [] := by
        intro e; subst e
        obtain ⟨t, rfl⟩ := hh
        cases a3
      rw [joinL_yes ns (List.length_pos_iff.2 hne) (by omega) (fun j hj => by
        have : ns.getD j [] = ns[j] := by simp [hj]
        rw [this]; exact a2 _ (List.getElem_mem hj)), a3]
end Go.Proofs.Ytcgdocdpdapglaa
