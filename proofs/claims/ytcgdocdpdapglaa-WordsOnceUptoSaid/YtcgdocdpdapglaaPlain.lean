/- Plain facts on bytes: where a character stands, what is plain, names, escapes and paths, as functions on lists of bytes. No program is spoken of. -/
import Derived.Lib.MapLaws
import Derived.Lib.ValidLaws
set_option linter.unusedVariables false
namespace Go.Proofs.Ytcgdocdpdapglaa
open Go.Lib

theorem decodeL_cases (l : List UInt8) (hne : l ≠ []) :
    ((l.getD 0 0).toNat < 128 ∧ decodeL l = ((l.getD 0 0).toNat, 1)) ∨
    ((l.getD 0 0).toNat / 32 = 6 ∧ 1 < l.length ∧ (l.getD 1 0).toNat / 64 = 2 ∧ 128 ≤ (l.getD 0 0).toNat % 32 * 64 + (l.getD 1 0).toNat % 64 ∧ decodeL l = ((l.getD 0 0).toNat % 32 * 64 + (l.getD 1 0).toNat % 64, 2)) ∨
    ((l.getD 0 0).toNat / 16 = 14 ∧ 2 < l.length ∧ (l.getD 1 0).toNat / 64 = 2 ∧ (l.getD 2 0).toNat / 64 = 2 ∧ 2048 ≤ (l.getD 0 0).toNat % 16 * 4096 + (l.getD 1 0).toNat % 64 * 64 + (l.getD 2 0).toNat % 64 ∧ ((l.getD 0 0).toNat % 16 * 4096 + (l.getD 1 0).toNat % 64 * 64 + (l.getD 2 0).toNat % 64 < 55296 ∨ 57344 ≤ (l.getD 0 0).toNat % 16 * 4096 + (l.getD 1 0).toNat % 64 * 64 + (l.getD 2 0).toNat % 64) ∧
      decodeL l = ((l.getD 0 0).toNat % 16 * 4096 + (l.getD 1 0).toNat % 64 * 64 + (l.getD 2 0).toNat % 64, 3)) ∨
    ((l.getD 0 0).toNat / 8 = 30 ∧ 3 < l.length ∧ (l.getD 1 0).toNat / 64 = 2 ∧ (l.getD 2 0).toNat / 64 = 2 ∧ (l.getD 3 0).toNat / 64 = 2 ∧ 65536 ≤ (l.getD 0 0).toNat % 8 * 262144 + (l.getD 1 0).toNat % 64 * 4096 + (l.getD 2 0).toNat % 64 * 64 + (l.getD 3 0).toNat % 64 ∧ (l.getD 0 0).toNat % 8 * 262144 + (l.getD 1 0).toNat % 64 * 4096 + (l.getD 2 0).toNat % 64 * 64 + (l.getD 3 0).toNat % 64 ≤ 1114111 ∧
      decodeL l = ((l.getD 0 0).toNat % 8 * 262144 + (l.getD 1 0).toNat % 64 * 4096 + (l.getD 2 0).toNat % 64 * 64 + (l.getD 3 0).toNat % 64, 4)) ∨
    decodeL l = (65533, 1) := by
  rw [decodeL_N]; exact decodeN_shape _ _ _ _ _

/-- Does a character stand at the head? -/
def good (l : List UInt8) : Bool := !(decide ((decodeL l).1 = 65533) && decide ((decodeL l).2 = 1))
theorem good_iff (l : List UInt8) : good l = true ↔ ¬ ((decodeL l).1 = 65533 ∧ (decodeL l).2 = 1) := by
  unfold good
  by_cases h1 : (decodeL l).1 = 65533 <;> by_cases h2 : (decodeL l).2 = 1 <;> simp [h1, h2]
theorem not_good (l : List UInt8) (h : good l = false) : decodeL l = (65533, 1) := by
  have : ¬ good l = true := by rw [h]; decide
  rw [good_iff] at this
  have h2 := Classical.not_not.1 this
  exact Prod.ext h2.1 h2.2
theorem good_of_ne (l : List UInt8) (h : (decodeL l).1 ≠ 65533) : good l = true := by rw [good_iff]; exact fun x => h x.1

theorem length_pos {l : List UInt8} (h : l ≠ []) : 0 < l.length := List.length_pos_iff.2 h

/-- What is yielded where U+FFFD is told: just where its three bytes stand a character does. -/
theorem good_unknown (l : List UInt8) (hne : l ≠ []) (h : (decodeL l).1 = 65533) : good l = decide (l.take 3 = [239, 191, 189]) := by
  have k0 := (l.getD 0 0).toNat_lt
  have k1 := (l.getD 1 0).toNat_lt
  have k2 := (l.getD 2 0).toNat_lt
  have k3 := (l.getD 3 0).toNat_lt
  have hb : ∀ (x : UInt8) (n : Nat), x.toNat = n → n < 256 → x = UInt8.ofNat n := fun x n hx hn => by
    subst hx; simp
  by_cases hg : good l = true
  · rw [hg]
    symm
    rw [decide_eq_true_eq]
    rw [good_iff] at hg
    rcases decodeL_cases l hne with ⟨c, e⟩ | ⟨c1, c2, c3, cv, e⟩ | ⟨c1, c2, c3, c4, cv, cs, e⟩ | ⟨c1, c2, c3, c4, c5, cv, cw, e⟩ | e
    · rw [e] at h; dsimp only at h; omega
    · rw [e] at h; dsimp only at h; omega
    · rw [e] at h; dsimp only at h
      rw [takeC l c2, hb (l.getD 0 0) 239 (by omega) (by omega), hb (l.getD 1 0) 191 (by omega) (by omega), hb (l.getD 2 0) 189 (by omega) (by omega)]
      rfl
    · rw [e] at h; dsimp only at h; omega
    · rw [e] at hg; simp at hg
  · have hg' : good l = false := by simpa using hg
    rw [hg']
    symm
    rw [decide_eq_false_iff_not]
    intro ht
    have e := not_good l hg'
    have hl : 2 < l.length := by
      have := congrArg List.length ht
      rw [List.length_take] at this
      simp at this; omega
    rw [takeC l hl] at ht
    simp only [List.cons.injEq, and_true] at ht
    rw [decodeL_N, ht.1, ht.2.1, ht.2.2] at e
    have : decodeN l.length (239 : UInt8).toNat (191 : UInt8).toNat (189 : UInt8).toNat (l.getD 3 0).toNat = (65533, 3) := by
      have e2 : (2 < l.length) = True := by simp [hl]
      have e1 : (1 < l.length) = True := by simp; omega
      simp [decodeN, e1, e2]
    rw [this] at e
    simp at e

/-- A character's bytes are its bytes whatever stands behind them. -/
theorem decode_prefix (l t : List UInt8) (hne : l ≠ []) (hg : good l = true) : decodeL (l.take (decodeL l).2 ++ t) = decodeL l := by
  rw [good_iff] at hg
  have hl := length_pos hne
  rcases decodeL_cases l hne with ⟨c, e⟩ | ⟨c1, c2, c3, cv, e⟩ | ⟨c1, c2, c3, c4, cv, cs, e⟩ | ⟨c1, c2, c3, c4, c5, cv, cw, e⟩ | e
  · rw [e]; dsimp only
    rw [takeA l hl, decodeL_N]
    simp only [List.cons_append, List.nil_append, List.length_cons, List.getD_cons_zero, List.getD_cons_succ]
    unfold decodeN
    rw [if_pos c]
  · rw [e]; dsimp only
    rw [takeB l c2, decodeL_N]
    simp only [List.cons_append, List.nil_append, List.length_cons, List.getD_cons_zero, List.getD_cons_succ]
    unfold decodeN
    rw [if_neg (by omega), if_pos (by omega), if_pos (by omega)]
  · rw [e]; dsimp only
    rw [takeC l c2, decodeL_N]
    simp only [List.cons_append, List.nil_append, List.length_cons, List.getD_cons_zero, List.getD_cons_succ]
    unfold decodeN
    rw [if_neg (by omega), if_neg (by omega), if_pos (by omega), if_pos (by omega)]
  · rw [e]; dsimp only
    rw [takeD l c2, decodeL_N]
    simp only [List.cons_append, List.nil_append, List.length_cons, List.getD_cons_zero, List.getD_cons_succ]
    unfold decodeN
    rw [if_neg (by omega), if_neg (by omega), if_neg (by omega), if_pos (by omega), if_pos (by omega)]
  · rw [e] at hg; simp at hg

theorem decode_append (l t : List UInt8) (hne : l ≠ []) (hg : good l = true) : decodeL (l ++ t) = decodeL l := by
  conv => lhs; rw [← List.take_append_drop (decodeL l).2 l, List.append_assoc]
  exact decode_prefix l _ hne hg
theorem good_eq {l m : List UInt8} (h : decodeL l = decodeL m) : good l = good m := by unfold good; rw [h]

/-! ### plain -/
def plainN (r : Nat) : Bool := decide (32 ≤ r) && (decide (r < 127) || decide (159 < r)) && !decide (r = 92)
theorem plainN_iff (r : Nat) : plainN r = true ↔ (32 ≤ r ∧ (r < 127 ∨ 159 < r) ∧ r ≠ 92) := by
  unfold plainN; simp [and_assoc]

/-! ### text -/
theorem text_step (l : List UInt8) (hne : l ≠ []) : validD l = (good l && validD (l.drop (decodeL l).2)) := by
  rw [validD_step l hne]
  by_cases h : good l = true
  · rw [if_neg ((good_iff l).1 h), h]; rfl
  · have h' : good l = false := by simpa using h
    have e := not_good l h'
    rw [h', if_pos (by rw [e]; exact ⟨rfl, rfl⟩)]; rfl
theorem text_char (l t : List UInt8) (hne : l ≠ []) (hg : good l = true) : validD (l.take (decodeL l).2 ++ t) = validD t := by
  have hd := decode_prefix l t hne hg
  have hw := decodeL_width l
  have hle := decodeL_le l hne
  have hl := length_pos hne
  have hne' : l.take (decodeL l).2 ++ t ≠ [] := by
    intro h0
    have := congrArg List.length h0
    rw [List.length_append, List.length_take, Nat.min_eq_left hle] at this
    simp at this; omega
  rw [text_step _ hne', good_eq hd, hg, hd, Bool.true_and]
  congr 1
  have e : (l.take (decodeL l).2).length = (decodeL l).2 := by rw [List.length_take]; exact Nat.min_eq_left hle
  rw [List.drop_append, e, Nat.sub_self, List.drop_zero, List.drop_eq_nil_of_le (by rw [e]; exact Nat.le_refl _), List.nil_append]

/-! ### where characters begin: a text cut where the next one begins -/
def chop : Nat → List UInt8 → List (List UInt8)
  | 0, _ => []
  | n + 1, l => if l = [] then [] else l :: chop n (l.drop (decodeL l).2)
def heads (l : List UInt8) : List (List UInt8) := chop l.length l
theorem chop_nil : ∀ n, chop n [] = []
  | 0 => rfl
  | _ + 1 => by simp [chop]
theorem chop_fuel : ∀ (n m : Nat) (l : List UInt8), l.length ≤ n → l.length ≤ m → chop n l = chop m l
  | 0, m, l, hn, _ => by
    have : l = [] := List.eq_nil_of_length_eq_zero (by omega)
    subst this
    rw [chop_nil, chop_nil]
  | n + 1, 0, l, _, hm => by
    have : l = [] := List.eq_nil_of_length_eq_zero (by omega)
    subst this
    rw [chop_nil, chop_nil]
  | n + 1, m + 1, l, hn, hm => by
    unfold chop
    by_cases hne : l = []
    · simp [hne]
    · have hw := decodeL_width l
      have hl := length_pos hne
      rw [if_neg hne, if_neg hne, chop_fuel n m (l.drop (decodeL l).2) (by rw [List.length_drop]; omega) (by rw [List.length_drop]; omega)]
theorem heads_nil : heads [] = [] := rfl
theorem heads_step (l : List UInt8) (hne : l ≠ []) : heads l = l :: heads (l.drop (decodeL l).2) := by
  have hl := length_pos hne
  have hw := decodeL_width l
  obtain ⟨n, hn⟩ : ∃ n, l.length = n + 1 := ⟨l.length - 1, by omega⟩
  unfold heads
  rw [hn]
  show (if l = [] then [] else _) = _
  rw [if_neg hne, chop_fuel n (l.drop (decodeL l).2).length _ (by rw [List.length_drop]; omega) (Nat.le_refl _)]
/-- An induction along the characters. -/
theorem heads_ind {P : List UInt8 → Prop} (h0 : P []) (h1 : ∀ l, l ≠ [] → P (l.drop (decodeL l).2) → P l) : ∀ l, P l := by
  have : ∀ n (l : List UInt8), l.length ≤ n → P l := by
    intro n
    induction n with
    | zero => intro l hl; have : l = [] := List.eq_nil_of_length_eq_zero (by omega); subst this; exact h0
    | succ n ih =>
      intro l hl
      by_cases hne : l = []
      · subst hne; exact h0
      · have hw := decodeL_width l
        have hp := length_pos hne
        exact h1 l hne (ih _ (by rw [List.length_drop]; omega))
  exact fun l => this l.length l (Nat.le_refl _)

/-! ### names -/
def nameCh (l : List UInt8) : Bool := good l && (plainN (decodeL l).1 && !decide ((decodeL l).1 = 47))
def nameAll (l : List UInt8) : Bool := (heads l).all nameCh
def isName (l : List UInt8) : Bool := decide (1 ≤ l.length) && (decide (l.length ≤ 24) && (!decide (l = [46]) && (!decide (l = [46, 46]) && nameAll l)))
theorem nameAll_step (l : List UInt8) (hne : l ≠ []) : nameAll l = (nameCh l && nameAll (l.drop (decodeL l).2)) := by
  unfold nameAll
  rw [heads_step l hne]; rfl

/-! ### escapes -/
def hexN (n : Nat) : UInt8 := if n < 10 then UInt8.ofNat (48 + n) else UInt8.ofNat (87 + n)
def hexB (b : UInt8) : List UInt8 := [92, 120, hexN (b.toNat / 16), hexN (b.toNat % 16)]
def escStep (l : List UInt8) : List UInt8 :=
  if good l = true then
    if plainN (decodeL l).1 = true then l.take (decodeL l).2
    else if (decodeL l).1 = 92 then [92, 92]
    else if (decodeL l).1 = 10 then [92, 110]
    else (l.take (decodeL l).2).flatMap hexB
  else (l.take (decodeL l).2).flatMap hexB
def esc (l : List UInt8) : List UInt8 := (heads l).flatMap escStep
theorem esc_nil : esc [] = [] := rfl
theorem esc_step (l : List UInt8) (hne : l ≠ []) : esc l = escStep l ++ esc (l.drop (decodeL l).2) := by
  unfold esc
  rw [heads_step l hne]; rfl

/-! ### reading escapes -/
def isDig (c : UInt8) : Bool := (decide (48 ≤ c.toNat) && decide (c.toNat ≤ 57)) || (decide (97 ≤ c.toNat) && decide (c.toNat ≤ 102))
def digV (c : UInt8) : Nat := if c.toNat ≤ 57 then c.toNat - 48 else c.toNat - 87
def readB (l : List UInt8) : UInt8 × Nat :=
  if l.getD 0 0 ≠ 92 then (l.getD 0 0, 1)
  else if 2 ≤ l.length ∧ l.getD 1 0 = 92 then (92, 2)
  else if 2 ≤ l.length ∧ l.getD 1 0 = 110 then (10, 2)
  else if 4 ≤ l.length ∧ l.getD 1 0 = 120 ∧ isDig (l.getD 2 0) = true ∧ isDig (l.getD 3 0) = true then (UInt8.ofNat (digV (l.getD 2 0) * 16 + digV (l.getD 3 0)), 4)
  else (0, 0)
theorem readB_le (l : List UInt8) (hne : l ≠ []) : (readB l).2 ≤ l.length := by
  have hl := length_pos hne
  unfold readB
  repeat' split
  all_goals (dsimp only; omega)
def unF : Nat → List UInt8 → Option (List UInt8)
  | 0, l => if l = [] then some [] else none
  | n + 1, l => if l = [] then some [] else if (readB l).2 = 0 then none else (unF n (l.drop (readB l).2)).map ((readB l).1 :: ·)
def unR (l : List UInt8) : Option (List UInt8) := unF l.length l
theorem unF_nil : ∀ n, unF n [] = some []
  | 0 => by simp [unF]
  | _ + 1 => by simp [unF]
theorem unF_fuel : ∀ (n m : Nat) (l : List UInt8), l.length ≤ n → l.length ≤ m → unF n l = unF m l
  | 0, m, l, hn, _ => by
    have : l = [] := List.eq_nil_of_length_eq_zero (by omega)
    subst this
    rw [unF_nil, unF_nil]
  | n + 1, 0, l, _, hm => by
    have : l = [] := List.eq_nil_of_length_eq_zero (by omega)
    subst this
    rw [unF_nil, unF_nil]
  | n + 1, m + 1, l, hn, hm => by
    unfold unF
    by_cases hne : l = []
    · simp [hne]
    · rw [if_neg hne, if_neg hne]
      by_cases h0 : (readB l).2 = 0
      · rw [if_pos h0, if_pos h0]
      · rw [if_neg h0, if_neg h0, unF_fuel n m (l.drop (readB l).2) (by rw [List.length_drop]; omega) (by rw [List.length_drop]; omega)]
theorem unR_nil : unR [] = some [] := rfl
theorem unR_step (l : List UInt8) (hne : l ≠ []) : unR l = if (readB l).2 = 0 then none else (unR (l.drop (readB l).2)).map ((readB l).1 :: ·) := by
  have hl := length_pos hne
  obtain ⟨n, hn⟩ : ∃ n, l.length = n + 1 := ⟨l.length - 1, by omega⟩
  unfold unR
  rw [hn]
  show (if l = [] then _ else if _ then _ else _) = _
  rw [if_neg hne]
  by_cases h0 : (readB l).2 = 0
  · rw [if_pos h0, if_pos h0]
  · rw [if_neg h0, if_neg h0, unF_fuel n (l.drop (readB l).2).length _ (by rw [List.length_drop]; omega) (Nat.le_refl _)]
/-- What a text of one line says. -/
def un (l : List UInt8) : Option (List UInt8) := (unR l).bind fun b => if esc b = l then some b else none

/-! ### paths -/
def partEndL (l : List UInt8) : Nat := 1 + ((l.drop 1).takeWhile (fun c => !decide (c = 47))).length
def pathF : Nat → Nat → List UInt8 → Option (List (List UInt8))
  | 0, _, l => if l = [] then some [] else none
  | n + 1, k, l => if l = [] then some [] else if k = 8 ∨ isName ((l.take (partEndL l)).drop 1) = false then none
    else (pathF n (k + 1) (l.drop (partEndL l))).map ((l.take (partEndL l)).drop 1 :: ·)
def pathL (l : List UInt8) : Option (List (List UInt8)) :=
  if l = [47] then some [] else if l.getD 0 0 ≠ 47 then none else pathF l.length 0 l
def joinL (ns : List (List UInt8)) : Option (List UInt8) :=
  if ns = [] then some [47] else if 8 < ns.length then none else if ns.all isName then some (ns.flatMap fun n => 47 :: n) else none

end Go.Proofs.Ytcgdocdpdapglaa
