/- The document's sum and the program's: a block of bytes: the numbers are the same. No walk. -/
import Derived.Test.YtbkaemekcjinaaaDoorE4
namespace Go.Proofs.YtbkaemekcjinaaaDoor
open Go.RowKit Go.Lib
theorem fillW_len (K : IntKind) (n : Nat) (bl : List UInt8) : ∀ (k i : Nat) (l : List Int), (fillW K n bl k i l).length = l.length := fillW_length K n bl
theorem fillWK (o : Bool) (bl : List UInt8) : ∀ (k i : Nat) (l : List Int), i + k ≤ l.length → (i + k) * (wd o / 8) ≤ bl.length → (∀ t, i ≤ t → t < i + k → l.getD t 0 = 0) →
    ∀ t, (fillW (KI o) (wd o / 8) bl k i l).getD t 0 = if i ≤ t ∧ t < i + k then ((valF bl (t * (wd o / 8)) (wd o / 8) 0 0 : Nat) : Int) else l.getD t 0
  | 0, i, l, _, _, _, t => by rw [fillW, if_neg (by omega)]
  | k + 1, i, l, hl, hb, hz, t => by
    have h0 := fillK o bl (i * (wd o / 8)) i (wd o / 8) 0 0 l (by omega) (by rw [hz i (by omega) (by omega)]; rfl) (by decide) (by omega) (by
      have : i * (wd o / 8) + (wd o / 8) = (i + 1) * (wd o / 8) := by rw [Nat.succ_mul]
      have h2 : (i + 1) * (wd o / 8) ≤ (i + (k + 1)) * (wd o / 8) := Nat.mul_le_mul_right _ (by omega)
      omega)
    rw [Nat.add_zero] at h0
    rw [fillW, h0, fillWK o bl k (i + 1) _ (by rw [List.length_set]; omega) (by rw [show i + 1 + k = i + (k + 1) by omega]; exact hb) (fun t h1 h2 => by
      rw [getD_set, if_neg (by omega)]; exact hz t (by omega) (by omega))]
    by_cases e : t = i
    · subst e
      rw [if_neg (by omega), getD_set, if_pos ⟨rfl, by omega⟩, if_pos ⟨Nat.le_refl _, by omega⟩]
    · by_cases h : i + 1 ≤ t ∧ t < i + 1 + k
      · rw [if_pos h, if_pos (by omega)]
      · rw [if_neg h, getD_set, if_neg (by omega), if_neg (by omega)]
theorem wordsL_len (b : List UInt8) (I c : Nat) : ∀ (k t : Nat) (l : List Nat), (wordsL b I c k t l).length = l.length + k
  | 0, _, _ => rfl
  | k + 1, t, l => by rw [wordsL, wordsL_len b I c k, List.length_append]; simp; omega
theorem wordsL_at (b : List UInt8) (I c : Nat) : ∀ (k t : Nat) (l : List Nat), l.length = t → ∀ j, j < t + k → (wordsL b I c k t l).getD j 0 = if j < t then l.getD j 0 else foldW b (I + j * c) c 0 0
  | 0, t, l, _, j, hj => by rw [wordsL, if_pos (by omega)]
  | k + 1, t, l, hl, j, hj => by
    rw [wordsL, wordsL_at b I c k (t + 1) _ (by rw [List.length_append, hl]; rfl) j (by omega)]
    by_cases h : j < t
    · rw [if_pos (by omega), if_pos h]
      simp only [List.getD_eq_getElem?_getD]
      rw [List.getElem?_append_left (by omega)]
    · by_cases h2 : j = t
      · subst h2
        rw [if_pos (by omega), if_neg h]
        simp only [List.getD_eq_getElem?_getD]
        rw [List.getElem?_append_right (by omega), hl, Nat.sub_self]
        rfl
      · rw [if_neg (by omega), if_neg h]
theorem wdI_wd (o : Bool) : wdI o = wd o := by cases o <;> rfl
theorem cvK (o : Bool) (x : Nat) (hx : x < 2 ^ wd o) : cvI o (x : Int) = (x : Int) := by
  unfold cvI
  cases o
  · rw [if_neg (by decide), show IntKind.u32 = KI false from rfl, wrapK, Nat.mod_eq_of_lt hx]
  · rw [if_pos rfl]
theorem cvS (o : Bool) (s : S8) (h : s.okW o) : S8I.of o s.int.list = s.int := by
  obtain ⟨ha, hb, hc, hd, he, hf, hg, hh⟩ := h
  show S8I.mk (cvI o (s.a : Nat)) (cvI o (s.b : Nat)) (cvI o (s.c : Nat)) (cvI o (s.d : Nat)) (cvI o (s.e : Nat)) (cvI o (s.f : Nat)) (cvI o (s.g : Nat)) (cvI o (s.h : Nat)) = _
  rw [cvK o _ ha, cvK o _ hb, cvK o _ hc, cvK o _ hd, cvK o _ he, cvK o _ hf, cvK o _ hg, cvK o _ hh]
  rfl
theorem blockK (o : Bool) (ks : List Nat) (hk : ks.length = rnds o) (hkc : ∀ t, t < rnds o → kcI o t = ((ks.getD t 0 : Nat) : Int)) (s : S8) (hs : s.okW o) (bl b : List UInt8) (I : Nat) (hbl : room o ≤ bl.length) (hbb : ∀ t, t < room o → bl.getD t 0 = b.getD (I + t) 0) :
    mixI (KI o) o s.int.list bl = (blockN o ks s.list (wordsL b I (wd o / 8) 16 0 [])).map (fun x : Nat => (x : Int)) := by
  have hr : 16 ≤ rnds o := by cases o <;> decide
  have hr8 : rnds o ≤ 80 := by cases o <;> decide
  have h16 : 16 * (wd o / 8) = room o := by cases o <;> rfl
  have hc8 : wd o / 8 ≤ 8 := by cases o <;> decide
  have hwl : (wordsL b I (wd o / 8) 16 0 []).length = 16 := by rw [wordsL_len]; rfl
  have hwb : ∀ x ∈ wordsL b I (wd o / 8) 16 0 [], x < 2 ^ wd o := by
    intro x hx
    obtain ⟨j, hj, rfl⟩ := List.getElem_of_mem hx
    have e : (wordsL b I (wd o / 8) 16 0 [])[j] = (wordsL b I (wd o / 8) 16 0 []).getD j 0 := by
      rw [List.getD_eq_getElem?_getD, List.getElem?_eq_getElem hj]; rfl
    rw [e, wordsL_at b I _ 16 0 [] rfl j (by omega), if_neg (by omega), foldW_val _ _ _ _ _ (by decide) (by omega)]
    have := valF_lt b (I + j * (wd o / 8)) (wd o / 8) 0 0 (by decide)
    rw [Nat.zero_add, pow_wd] at this
    exact this
  have hsame : ∀ i, i < 16 → (fillW (KI o) (wd o / 8) bl 16 0 (List.replicate 80 0)).getD i 0 = (((wordsL b I (wd o / 8) 16 0 []).getD i 0 : Nat) : Int) := by
    intro i hi
    rw [fillWK o bl 16 0 _ (by simp) (by rw [Nat.zero_add, h16]; exact hbl) (fun t _ h => by rw [List.getD_eq_getElem?_getD, List.getElem?_replicate, if_pos (by omega)]; rfl) i, if_pos ⟨Nat.zero_le _, by omega⟩, wordsL_at b I _ 16 0 [] rfl i (by omega), if_neg (by omega), foldW_val _ _ _ _ _ (by decide) (by omega)]
    congr 1
    refine valF_same bl b _ _ _ 0 0 (fun t ht => ?_)
    have h1 : i * (wd o / 8) + t < room o := by
      rw [← h16]
      have : (i + 1) * (wd o / 8) ≤ 16 * (wd o / 8) := Nat.mul_le_mul_right _ (by omega)
      rw [Nat.succ_mul] at this
      omega
    rw [hbb _ h1, Nat.add_assoc]
  have hsp := schK o (rnds o - 16) (fillW (KI o) (wd o / 8) bl 16 0 (List.replicate 80 0)) (wordsL b I (wd o / 8) 16 0 []) (by omega) (by rw [fillW_len, hwl]; simp; omega) (by rw [hwl]; exact hsame) hwb
  rw [hwl] at hsp
  obtain ⟨h1, h2⟩ := roundsK o ks (schN o (rnds o - 16) (wordsL b I (wd o / 8) 16 0 [])) (spreadI (KI o) o bl) (rnds o) hkc (fun t ht => by
    unfold spreadI
    rw [wdI_wd]
    exact hsp t (by omega)) (rnds o) 0 s (by omega) hs
  unfold mixI blockN
  rw [cvS o s hs, h1, hk, sumK o s _ hs h2]
  rfl
end Go.Proofs.YtbkaemekcjinaaaDoor
