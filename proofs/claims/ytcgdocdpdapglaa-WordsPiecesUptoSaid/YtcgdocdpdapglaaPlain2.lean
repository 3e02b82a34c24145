/- Plain facts on escapes: they are read back, they are texts of one line, pieces and names. No program is spoken of. -/
import Derived.Test.YtcgdocdpdapglaaPlain
set_option linter.unusedVariables false
namespace Go.Proofs.Ytcgdocdpdapglaa
open Go.Lib

theorem hex_back : ∀ n : Fin 16, isDig (hexN n.val) = true ∧ digV (hexN n.val) = n.val ∧ 32 ≤ (hexN n.val).toNat ∧ (hexN n.val).toNat < 127 := by decide +kernel
theorem readB_hex (b : UInt8) (t : List UInt8) : readB (hexB b ++ t) = (b, 4) := by
  have hb := b.toNat_lt
  obtain ⟨a1, a2, _, _⟩ := hex_back ⟨b.toNat / 16, by omega⟩
  obtain ⟨b1, b2, _, _⟩ := hex_back ⟨b.toNat % 16, by omega⟩
  unfold readB hexB
  simp only [List.cons_append, List.nil_append, List.getD_cons_zero, List.getD_cons_succ, List.length_cons]
  dsimp only at a1 a2 b1 b2
  rw [if_neg (by decide), if_neg (by intro h; exact absurd h.2 (by decide)), if_neg (by intro h; exact absurd h.2 (by decide)), if_pos ⟨by omega, by trivial, a1, b1⟩, a2, b2]
  have : b.toNat / 16 * 16 + b.toNat % 16 = b.toNat := by omega
  rw [this]; simp
theorem unR_hex (b : UInt8) (t : List UInt8) : unR (hexB b ++ t) = (unR t).map (b :: ·) := by
  rw [unR_step _ (by simp [hexB]), readB_hex, if_neg (by dsimp only; omega)]
  rfl
theorem map_map_cons (b : UInt8) (x : List UInt8) (o : Option (List UInt8)) : (o.map (x ++ ·)).map (b :: ·) = o.map (b :: x ++ ·) := by
  rw [Option.map_map]; congr 1
theorem unR_hexs (x t : List UInt8) : unR (x.flatMap hexB ++ t) = (unR t).map (x ++ ·) := by
  induction x with
  | nil => simp
  | cons b x ih => rw [List.flatMap_cons, List.append_assoc, unR_hex, ih, map_map_cons]
theorem readB_plain (c : UInt8) (t : List UInt8) (h : c ≠ 92) : readB (c :: t) = (c, 1) := by
  unfold readB
  rw [List.getD_cons_zero, if_pos h]
theorem unR_plain (c : UInt8) (t : List UInt8) (h : c ≠ 92) : unR (c :: t) = (unR t).map (c :: ·) := by
  rw [unR_step _ (by simp), readB_plain c t h, if_neg (by dsimp only; omega)]
  rfl
theorem unR_plains (x t : List UInt8) (h : ∀ c ∈ x, c ≠ 92) : unR (x ++ t) = (unR t).map (x ++ ·) := by
  induction x with
  | nil => simp
  | cons b x ih => rw [List.cons_append, unR_plain _ _ (h b (by simp)), ih (fun c hc => h c (by simp [hc])), map_map_cons]
theorem unR_slash (t : List UInt8) : unR ([92, 92] ++ t) = (unR t).map ([92] ++ ·) := by
  have e : readB ([92, 92] ++ t) = (92, 2) := by
    unfold readB
    simp only [List.cons_append, List.nil_append, List.getD_cons_zero, List.getD_cons_succ, List.length_cons]
    rw [if_neg (by decide), if_pos ⟨by omega, by trivial⟩]
  rw [unR_step _ (by simp), e, if_neg (by dsimp only; omega)]
  rfl
theorem unR_line (t : List UInt8) : unR ([92, 110] ++ t) = (unR t).map ([10] ++ ·) := by
  have e : readB ([92, 110] ++ t) = (10, 2) := by
    unfold readB
    simp only [List.cons_append, List.nil_append, List.getD_cons_zero, List.getD_cons_succ, List.length_cons]
    rw [if_neg (by decide), if_neg (by intro h; exact absurd h.2 (by decide)), if_pos ⟨by omega, by trivial⟩]
  rw [unR_step _ (by simp), e, if_neg (by dsimp only; omega)]
  rfl

/-- The bytes of a plain character: none is a backslash, none is told a control's number. -/
theorem plain_bytes (l : List UInt8) (hne : l ≠ []) (hg : good l = true) (hp : plainN (decodeL l).1 = true) : ∀ c ∈ l.take (decodeL l).2, c ≠ 92 ∧ 32 ≤ c.toNat ∧ c.toNat ≠ 127 := by
  have hl := length_pos hne
  rw [plainN_iff] at hp
  have h92 : ∀ c : UInt8, c.toNat ≠ 92 → c ≠ 92 := fun c h e => h (by rw [e]; rfl)
  have hgood := (good_iff l).1 hg
  rcases decodeL_cases l hne with ⟨c, e⟩ | ⟨c1, c2, c3, cv, e⟩ | ⟨c1, c2, c3, c4, cv, cs, e⟩ | ⟨c1, c2, c3, c4, c5, cv, cw, e⟩ | e
  · rw [e] at hp ⊢; dsimp only at hp ⊢
    rw [takeA l hl]
    intro x hx; rw [List.mem_singleton] at hx; subst hx
    exact ⟨h92 _ (by omega), by omega, by omega⟩
  · rw [e]; dsimp only
    rw [takeB l c2]
    intro x hx; simp only [List.mem_cons, List.not_mem_nil, or_false] at hx
    rcases hx with rfl | rfl
    · exact ⟨h92 _ (by omega), by omega, by omega⟩
    · exact ⟨h92 _ (by omega), by omega, by omega⟩
  · rw [e]; dsimp only
    rw [takeC l c2]
    intro x hx; simp only [List.mem_cons, List.not_mem_nil, or_false] at hx
    rcases hx with rfl | rfl | rfl
    · exact ⟨h92 _ (by omega), by omega, by omega⟩
    · exact ⟨h92 _ (by omega), by omega, by omega⟩
    · exact ⟨h92 _ (by omega), by omega, by omega⟩
  · rw [e]; dsimp only
    rw [takeD l c2]
    intro x hx; simp only [List.mem_cons, List.not_mem_nil, or_false] at hx
    rcases hx with rfl | rfl | rfl | rfl
    · exact ⟨h92 _ (by omega), by omega, by omega⟩
    · exact ⟨h92 _ (by omega), by omega, by omega⟩
    · exact ⟨h92 _ (by omega), by omega, by omega⟩
    · exact ⟨h92 _ (by omega), by omega, by omega⟩
  · rw [e] at hgood; simp at hgood
/-- A character below 128 is one byte. -/
theorem low_char (l : List UInt8) (hne : l ≠ []) (n : Nat) (hn : n < 128) (h : (decodeL l).1 = n) : l.take (decodeL l).2 = [UInt8.ofNat n] := by
  have hl := length_pos hne
  rcases decodeL_cases l hne with ⟨c, e⟩ | ⟨c1, c2, c3, cv, e⟩ | ⟨c1, c2, c3, c4, cv, cs, e⟩ | ⟨c1, c2, c3, c4, c5, cv, cw, e⟩ | e
  · rw [e] at h ⊢; dsimp only at h ⊢
    rw [takeA l hl, ← h]; simp
  all_goals (rw [e] at h; dsimp only at h; omega)

theorem unR_escStep (l t : List UInt8) (hne : l ≠ []) : unR (escStep l ++ t) = (unR t).map (l.take (decodeL l).2 ++ ·) := by
  unfold escStep
  split
  · rename_i hg
    split
    · rename_i hp
      exact unR_plains _ _ (fun c hc => (plain_bytes l hne hg hp c hc).1)
    · split
      · rename_i h; rw [low_char l hne 92 (by omega) h]; exact unR_slash t
      · split
        · rename_i h; rw [low_char l hne 10 (by omega) h]; exact unR_line t
        · exact unR_hexs _ _
  · exact unR_hexs _ _
theorem unR_esc : ∀ l, unR (esc l) = some l := by
  refine heads_ind rfl (fun l hne ih => ?_)
  rw [esc_step l hne, unR_escStep l _ hne, ih]
  simp
/-- What is escaped says what it was. -/
theorem un_esc (l : List UInt8) : un (esc l) = some l := by
  unfold un
  rw [unR_esc]
  show (if _ then _ else _) = _
  rw [if_pos rfl]
/-- What a text says has that text for its escape. -/
theorem esc_of_un {t v : List UInt8} (h : un t = some v) : esc v = t := by
  unfold un at h
  cases hr : unR t with
  | none => rw [hr] at h; cases h
  | some b =>
    rw [hr] at h
    change (if esc b = t then some b else none) = some v at h
    split at h
    · rename_i e; injection h with h; rw [← h]; exact e
    · cases h
theorem esc_inj {a b : List UInt8} (h : esc a = esc b) : a = b := by
  have := un_esc a
  rw [h, un_esc b] at this
  injection this with this; exact this.symm

theorem text_ascii (x t : List UInt8) (h : ∀ c ∈ x, c.toNat < 128) : validD (x ++ t) = validD t := by
  induction x with
  | nil => rfl
  | cons b x ih => rw [List.cons_append, validD_cons _ _ (h b (by simp)), ih (fun c hc => h c (by simp [hc]))]
theorem hexB_bytes (b : UInt8) : ∀ c ∈ hexB b, 32 ≤ c.toNat ∧ c.toNat < 127 := by
  have hb := b.toNat_lt
  obtain ⟨_, _, a3, a4⟩ := hex_back ⟨b.toNat / 16, by omega⟩
  obtain ⟨_, _, b3, b4⟩ := hex_back ⟨b.toNat % 16, by omega⟩
  intro c hc
  unfold hexB at hc
  simp only [List.mem_cons, List.not_mem_nil, or_false] at hc
  rcases hc with rfl | rfl | rfl | rfl
  · decide
  · decide
  · exact ⟨a3, a4⟩
  · exact ⟨b3, b4⟩
theorem hexs_bytes (x : List UInt8) : ∀ c ∈ x.flatMap hexB, 32 ≤ c.toNat ∧ c.toNat < 127 := by
  intro c hc
  obtain ⟨b, _, h⟩ := List.mem_flatMap.1 hc
  exact hexB_bytes b c h
theorem escStep_text (l t : List UInt8) (hne : l ≠ []) : validD (escStep l ++ t) = validD t := by
  unfold escStep
  split
  · rename_i hg
    split
    · exact text_char l t hne hg
    · split
      · exact text_ascii [92, 92] t (by decide)
      · split
        · exact text_ascii [92, 110] t (by decide)
        · exact text_ascii _ t (fun c hc => by have := hexs_bytes _ c hc; omega)
  · exact text_ascii _ t (fun c hc => by have := hexs_bytes _ c hc; omega)
/-- An escape is a text. -/
theorem esc_text : ∀ l, validD (esc l) = true := by
  refine heads_ind rfl (fun l hne ih => ?_)
  rw [esc_step l hne, escStep_text l _ hne, ih]
theorem escStep_bytes (l : List UInt8) (hne : l ≠ []) : ∀ c ∈ escStep l, 32 ≤ c.toNat ∧ c.toNat ≠ 127 := by
  have hx : ∀ x : List UInt8, ∀ c ∈ x.flatMap hexB, 32 ≤ c.toNat ∧ c.toNat ≠ 127 := fun x c hc => by have := hexs_bytes x c hc; omega
  unfold escStep
  split
  · rename_i hg
    split
    · rename_i hp
      exact fun c hc => (plain_bytes l hne hg hp c hc).2
    · split
      · decide
      · split
        · decide
        · exact hx _
  · exact hx _
/-- .. of one line. -/
theorem esc_bytes : ∀ l, ∀ c ∈ esc l, 32 ≤ c.toNat ∧ c.toNat ≠ 127 := by
  refine heads_ind (fun c hc => by simp [esc_nil] at hc) (fun l hne ih => ?_)
  rw [esc_step l hne]
  intro c hc
  rcases List.mem_append.1 hc with h | h
  · exact escStep_bytes l hne c h
  · exact ih c h

theorem take_app (l t : List UInt8) (n : Nat) (h : n ≤ l.length) : (l ++ t).take n = l.take n := by
  rw [List.take_append_of_le_length h]
theorem drop_app (l t : List UInt8) (n : Nat) (h : n ≤ l.length) : (l ++ t).drop n = l.drop n ++ t := by
  rw [List.drop_append_of_le_length h]
theorem escStep_app (l t : List UInt8) (hne : l ≠ []) (hg : good l = true) : escStep (l ++ t) = escStep l := by
  have hd := decode_append l t hne hg
  have hle := decodeL_le l hne
  unfold escStep
  rw [good_eq hd, hd, take_app l t _ hle]
/-- A text's escape is the escapes of its pieces, cut where a character begins. -/
theorem esc_app (t : List UInt8) : ∀ l, validD l = true → esc (l ++ t) = esc l ++ esc t := by
  refine heads_ind (fun _ => by rw [esc_nil]; rfl) (fun l hne ih hv => ?_)
  rw [text_step l hne, Bool.and_eq_true] at hv
  have hd := decode_append l t hne hv.1
  have hle := decodeL_le l hne
  rw [esc_step (l ++ t) (by simp [hne]), escStep_app l t hne hv.1, hd, drop_app l t _ hle, ih hv.2, esc_step l hne, List.append_assoc]
theorem esc_names : ∀ l, nameAll l = true → esc l = l := by
  refine heads_ind (fun _ => rfl) (fun l hne ih hn => ?_)
  rw [nameAll_step l hne, Bool.and_eq_true] at hn
  have hc := hn.1
  unfold nameCh at hc
  simp only [Bool.and_eq_true] at hc
  rw [esc_step l hne, ih hn.2]
  unfold escStep
  rw [if_pos hc.1, if_pos hc.2.1, List.take_append_drop]
/-- A name's escape is the name. -/
theorem esc_name {l : List UInt8} (h : isName l = true) : esc l = l := by
  unfold isName at h
  simp only [Bool.and_eq_true] at h
  exact esc_names l h.2.2.2.2
end Go.Proofs.Ytcgdocdpdapglaa
