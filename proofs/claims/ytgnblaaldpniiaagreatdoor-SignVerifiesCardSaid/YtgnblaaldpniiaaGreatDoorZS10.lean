/- The document's sum and the program's: rounds and sums: the numbers are the same. No walk.
The document's sum and the program's: a block: the numbers are the same. No walk.
The document's sum and the program's: words of bytes: the numbers are the same. No walk.
The document's sum and the program's: a block of bytes: the numbers are the same. No walk.
The document's sum and the program's: many blocks, what comes out: the numbers are the same. No walk.
The document's sum and the program's: the numbers are the same. No walk.
The document's sum and the program's: the padding is the same. No walk.
The constants: the first primes, their roots. No walk.
The document's sum and the program's: the constants; both sums are the same. No walk.
Arrays of numbers in a block: rows that are read and written place by place.
Package sha2's tables, as the rows list them: what a walk reads; a world that holds them. -/
import Derived.Test.YtgnblaaldpniiaaGreatDoorZS9
import Derived.Test.YtgnblaaldpniiaaGreatDoorZS3
import Derived.Test.YtgnblaaldpniiaaGreatDoorG4
import Derived.Test.YtgnblaaldpniiaaGreatDoorZS2
import Derived.Test.YtgnblaaldpniiaaGreatDoorZK1
import Derived.Deep.WholeRow
import Derived.Laws.CopyOwn
import Derived.Laws.Tables
import Derived.Test.YtgnblaaldpniiaaGreatDoorRows
import Derived.ProofKit
import Derived.OpenShut
import Derived.Deep.DeepHandedRow
import Derived.Lib.LaidTab
import Derived.LaidSub
section
set_option maxRecDepth 100000
set_option linter.unusedVariables false
set_option linter.unusedSimpArgs false
namespace Go.Proofs.YtgnblaaldpniiaaGreatDoor.Sh
open Go.RowKit Go.Lib
def S8.int (s : S8) : S8I := ⟨(s.a : Nat), (s.b : Nat), (s.c : Nat), (s.d : Nat), (s.e : Nat), (s.f : Nat), (s.g : Nat), (s.h : Nat)⟩
def S8.okW (o : Bool) (s : S8) : Prop := s.a < 2 ^ wd o ∧ s.b < 2 ^ wd o ∧ s.c < 2 ^ wd o ∧ s.d < 2 ^ wd o ∧ s.e < 2 ^ wd o ∧ s.f < 2 ^ wd o ∧ s.g < 2 ^ wd o ∧ s.h < 2 ^ wd o
theorem and_ltW (o : Bool) {a b : Nat} (ha : a < 2 ^ wd o) : a &&& b < 2 ^ wd o := Nat.lt_of_le_of_lt Nat.and_le_left ha
theorem not_low (e g : Nat) (he : e < 2 ^ 32) (hg : g < 2 ^ 32) : (18446744073709551615 - e) &&& g = (2 ^ 32 - 1 - e) &&& g := by
  have h1 : ((18446744073709551615 - e) &&& g) % 2 ^ 32 = (18446744073709551615 - e) &&& g := Nat.mod_eq_of_lt (Nat.lt_of_le_of_lt Nat.and_le_right hg)
  rw [← h1, Nat.and_mod_two_pow, Nat.mod_eq_of_lt hg]
  congr 1
  omega
theorem chK (o : Bool) (e f g : Nat) (he : e < 2 ^ wd o) (hf : f < 2 ^ wd o) (hg : g < 2 ^ wd o) :
    bits .xor (KI o) (bits .and (KI o) (e : Int) (f : Int)) (bits .and (KI o) (bits .xor (KI o) (KI o).max (e : Int)) (g : Int)) = ((chN e f g : Nat) : Int) := by
  have hn : 2 ^ wd o - 1 - e < 2 ^ wd o := by omega
  rw [andK o _ _ he hf, notK o _ he, andK o _ _ hn hg, xorK o _ _ (and_ltW o he) (and_ltW o hn)]
  congr 1
  unfold chN
  cases o
  · rw [not_low e g he hg]; rfl
  · rfl
theorem majK (o : Bool) (a b c : Nat) (ha : a < 2 ^ wd o) (hb : b < 2 ^ wd o) (hc : c < 2 ^ wd o) :
    bits .xor (KI o) (bits .xor (KI o) (bits .and (KI o) (a : Int) (b : Int)) (bits .and (KI o) (a : Int) (c : Int))) (bits .and (KI o) (b : Int) (c : Int)) = ((majN a b c : Nat) : Int) := by
  rw [andK o _ _ ha hb, andK o _ _ ha hc, andK o _ _ hb hc, xorK o _ _ (and_ltW o ha) (and_ltW o ha), xorK o _ _ (xor_ltW o (and_ltW o ha) (and_ltW o ha)) (and_ltW o hb)]
  rfl
theorem addK (o : Bool) (x y : Nat) : (KI o).wrap ((x : Int) + (y : Int)) = ((wordN o (x + y) : Nat) : Int) := by
  rw [← Int.natCast_add, wrapK]; rfl
theorem wordN_add (o : Bool) (x y : Nat) : wordN o (wordN o x + y) = wordN o (x + y) := by
  unfold wordN; rw [Nat.mod_add_mod]
theorem t1K (o : Bool) (k w : Nat) (s : S8) (h : s.okW o) : t1I o (KI o) (k : Int) (w : Int) s.int = ((oneN o k w s : Nat) : Int) := by
  obtain ⟨ha, hb, hc, hd, he, hf, hg, hh⟩ := h
  unfold t1I oneN S8.int
  dsimp only
  rw [bK o _ he, chK o _ _ _ he hf hg, addK, addK, addK, addK]
  congr 1
  rw [wordN_add, wordN_mod]
  cases o <;> (unfold wordN wd; simp only [Bool.false_eq_true, if_false, if_true]; omega)
theorem t2K (o : Bool) (s : S8) (h : s.okW o) : t2I o (KI o) s.int = ((twoS o s : Nat) : Int) := by
  obtain ⟨ha, hb, hc, hd, he, hf, hg, hh⟩ := h
  unfold t2I twoS S8.int
  dsimp only
  rw [aK o _ ha, majK o _ _ _ ha hb hc, addK, wordN_mod]
theorem roundK (o : Bool) (k w : Nat) (s : S8) (h : s.okW o) : roundI o (KI o) (k : Int) (w : Int) s.int = (roundN o k w s).int ∧ (roundN o k w s).okW o := by
  refine ⟨?_, ?_⟩
  · unfold roundI
    rw [t1K o k w s h, t2K o s h]
    unfold roundN S8.int
    dsimp only
    rw [addK, addK, wordN_mod, wordN_mod]
  · obtain ⟨ha, hb, hc, hd, he, hf, hg, hh⟩ := h
    exact ⟨wordN_ltW _ _, ha, hb, hc, wordN_ltW _ _, he, hf, hg⟩
end Go.Proofs.YtgnblaaldpniiaaGreatDoor.Sh
end
section
set_option maxRecDepth 100000
set_option linter.unusedVariables false
set_option linter.unusedSimpArgs false
namespace Go.Proofs.YtgnblaaldpniiaaGreatDoor.Sh
open Go.RowKit Go.Lib
theorem roundsK (o : Bool) (ks ws' : List Nat) (ws : List Int) (T : Nat) (hk : ∀ t, t < T → kcI o t = ((ks.getD t 0 : Nat) : Int)) (hw : ∀ t, t < T → ws.getD t 0 = ((ws'.getD t 0 : Nat) : Int)) :
    ∀ (k t : Nat) (s : S8), t + k ≤ T → s.okW o → roundsI o (KI o) ws k t s.int = (roundsN o ks ws' k t s).int ∧ (roundsN o ks ws' k t s).okW o
  | 0, _, s, _, h => ⟨rfl, h⟩
  | k + 1, t, s, ht, h => by
    obtain ⟨h1, h2⟩ := roundK o (ks.getD t 0) (ws'.getD t 0) s h
    rw [roundsI, roundsN, hk t (by omega), hw t (by omega), h1]
    exact roundsK o ks ws' ws T hk hw k (t + 1) _ (by omega) h2
theorem addIK (o : Bool) (x y : Nat) (hx : x < 2 ^ wd o) (hy : y < 2 ^ wd o) : addI o (x : Int) (y : Int) = ((addN o y x : Nat) : Int) := by
  unfold addI addN
  rw [wordN_mod]
  cases o
  · rw [if_neg (by decide)]
    have e1 : IntKind.u32.wrap (x : Int) = (x : Int) := by rw [show IntKind.u32 = KI false from rfl, wrapK, Nat.mod_eq_of_lt hx]
    rw [e1, show IntKind.u32 = KI false from rfl, addK, show IntKind.u64 = KI true from rfl, wrapK, Nat.mod_eq_of_lt (Nat.lt_trans (wordN_ltW false _) (by decide)), Nat.add_comm]
  · rw [if_pos rfl, show IntKind.u64 = KI true from rfl, addK, Nat.add_comm]
theorem addN_ltW (o : Bool) (x y : Nat) : addN o x y < 2 ^ wd o := wordN_ltW _ _
theorem sumK (o : Bool) (s m : S8) (hs : s.okW o) (hm : m.okW o) : sumR o m.int.list 8 0 s.int.list = (sumN o s.list 8 0 m.list).map (fun x : Nat => (x : Int)) := by
  obtain ⟨a0, a1, a2, a3, a4, a5, a6, a7⟩ := hs
  obtain ⟨b0, b1, b2, b3, b4, b5, b6, b7⟩ := hm
  have e1 : sumR o m.int.list 8 0 s.int.list = [addI o (s.a : Nat) (m.a : Nat), addI o (s.b : Nat) (m.b : Nat), addI o (s.c : Nat) (m.c : Nat), addI o (s.d : Nat) (m.d : Nat), addI o (s.e : Nat) (m.e : Nat), addI o (s.f : Nat) (m.f : Nat), addI o (s.g : Nat) (m.g : Nat), addI o (s.h : Nat) (m.h : Nat)] := rfl
  have e2 : sumN o s.list 8 0 m.list = [addN o m.a s.a, addN o m.b s.b, addN o m.c s.c, addN o m.d s.d, addN o m.e s.e, addN o m.f s.f, addN o m.g s.g, addN o m.h s.h] := rfl
  rw [e1, e2, addIK o _ _ a0 b0, addIK o _ _ a1 b1, addIK o _ _ a2 b2, addIK o _ _ a3 b3, addIK o _ _ a4 b4, addIK o _ _ a5 b5, addIK o _ _ a6 b6, addIK o _ _ a7 b7]
  rfl
theorem nextK (o : Bool) (l : List Int) (l' : List Nat) (ht : 16 ≤ l'.length) (h : ∀ i, i < l'.length → l.getD i 0 = ((l'.getD i 0 : Nat) : Int)) (hb : ∀ x ∈ l', x < 2 ^ wd o) :
    nextI o (KI o) l l'.length = ((nextW o l' : Nat) : Int) := by
  have g := fun i => getD_lt hb (Nat.two_pow_pos _) i
  unfold nextI nextW
  rw [h _ (by omega), h _ (by omega), h _ (by omega), h _ (by omega), dK o _ (g _), cK o _ (g _), ← Int.natCast_add, ← Int.natCast_add, addK]
  congr 1
  rw [wordN_mod]
  cases o <;> (unfold wordN wd; simp only [Bool.false_eq_true, if_false, if_true]; omega)
theorem schK (o : Bool) : ∀ (k : Nat) (l : List Int) (l' : List Nat), 16 ≤ l'.length → l'.length + k ≤ l.length → (∀ i, i < l'.length → l.getD i 0 = ((l'.getD i 0 : Nat) : Int)) → (∀ x ∈ l', x < 2 ^ wd o) →
    ∀ i, i < l'.length + k → (schR o (KI o) k l'.length l).getD i 0 = (((schN o k l').getD i 0 : Nat) : Int)
  | 0, l, l', _, _, h, _, i, hi => h i (by omega)
  | k + 1, l, l', ht, hl, h, hb, i, hi => by
    rw [schR, schN, nextK o l l' ht h hb]
    have hlen : (l' ++ [nextW o l']).length = l'.length + 1 := by simp
    have := schK o k (l.set l'.length ((nextW o l' : Nat) : Int)) (l' ++ [nextW o l']) (by omega) (by rw [hlen, List.length_set]; omega) (fun j hj => by
      rw [hlen] at hj
      rw [getD_set]
      by_cases e : l'.length = j
      · subst e
        rw [if_pos ⟨rfl, by omega⟩]
        simp
      · rw [if_neg (fun h => e h.1), h j (by omega)]
        congr 1
        simp only [List.getD_eq_getElem?_getD]
        rw [List.getElem?_append_left (by omega)]) (fun x hx => by
      rcases List.mem_append.1 hx with hx | hx
      · exact hb x hx
      · simp at hx; subst hx; exact wordN_ltW _ _) i (by rw [hlen]; omega)
    rw [hlen] at this
    exact this
end Go.Proofs.YtgnblaaldpniiaaGreatDoor.Sh
end
section
set_option maxRecDepth 100000
set_option linter.unusedVariables false
set_option linter.unusedSimpArgs false
namespace Go.Proofs.YtgnblaaldpniiaaGreatDoor.Sh
open Go.RowKit Go.Lib
theorem byteK (o : Bool) (v : Nat) (b : UInt8) (hv : v * 256 < 2 ^ wd o) : byteI (KI o) (v : Int) b = ((v * 256 + b.toNat : Nat) : Int) := by
  unfold byteI
  have hb : b.toNat < 2 ^ 8 := b.toNat_lt
  have hbw : b.toNat < 2 ^ wd o := Nat.lt_of_lt_of_le hb (Nat.pow_le_pow_right (by decide) (by cases o <;> decide))
  have e : (v : Int) * 2 ^ 8 = ((v * 256 : Nat) : Int) := by simp
  rw [e, wrapK, Nat.mod_eq_of_lt hv, orK o _ _ hv hbw]
  congr 1
  have := Nat.shiftLeft_add_eq_or_of_lt hb v
  rw [Nat.shiftLeft_eq] at this
  exact this.symm
def valF (b : List UInt8) (i : Nat) : Nat → Nat → Nat → Nat
  | 0, _, x => x
  | k + 1, j, x => valF b i k (j + 1) (x * 256 + (b.getD (i + j) 0).toNat)
theorem step_lt (x j : Nat) (b : UInt8) (hx : x < 256 ^ j) : x * 256 + b.toNat < 256 ^ (j + 1) := by
  have := b.toNat_lt
  rw [Nat.pow_succ]
  omega
theorem foldW_val (b : List UInt8) (i : Nat) : ∀ (k j x : Nat), x < 256 ^ j → j + k ≤ 8 → foldW b i k j x = valF b i k j x
  | 0, _, _, _, _ => rfl
  | k + 1, j, x, hx, hj => by
    have h1 := step_lt x j (b.getD (i + j) 0) hx
    have h2 : 256 ^ (j + 1) ≤ 256 ^ 8 := Nat.pow_le_pow_right (by omega) (by omega)
    have h3 : (256 : Nat) ^ 8 = 18446744073709551616 := by decide
    rw [h3] at h2
    have h5 : x * 256 + (b.getD (i + j) 0).toNat < 18446744073709551616 := Nat.lt_of_lt_of_le h1 h2
    have h4 : x * 256 < 18446744073709551616 := Nat.lt_of_le_of_lt (Nat.le_add_right _ _) h5
    rw [foldW, valF, Nat.mod_eq_of_lt h4, Nat.mod_eq_of_lt h5]
    exact foldW_val b i k (j + 1) _ h1 (by omega)
theorem valF_lt (b : List UInt8) (i : Nat) : ∀ (k j x : Nat), x < 256 ^ j → valF b i k j x < 256 ^ (j + k)
  | 0, _, _, h => h
  | k + 1, j, x, h => by
    rw [valF, show j + (k + 1) = (j + 1) + k by omega]
    exact valF_lt b i k (j + 1) _ (step_lt x j _ h)
theorem valF_same (b b' : List UInt8) (i i' : Nat) : ∀ (k j x : Nat), (∀ t, t < j + k → b.getD (i + t) 0 = b'.getD (i' + t) 0) → valF b i k j x = valF b' i' k j x
  | 0, _, _, _ => rfl
  | k + 1, j, x, h => by
    rw [valF, valF, h j (by omega)]
    exact valF_same b b' i i' k (j + 1) _ (fun t ht => h t (by omega))
theorem pow_wd (o : Bool) : 256 ^ (wd o / 8) = 2 ^ wd o := by cases o <;> decide
theorem fillK (o : Bool) (bl : List UInt8) (p i : Nat) : ∀ (k j x : Nat) (l : List Int), i < l.length → l.getD i 0 = ((x : Nat) : Int) → x < 256 ^ j → j + k ≤ wd o / 8 → p + j + k ≤ bl.length →
    fillB (KI o) ((bl.drop (p + j)).take k) i l = l.set i ((valF bl p k j x : Nat) : Int)
  | 0, j, x, l, hi, hx, _, _, _ => by
    rw [List.take_zero, fillB, valF, ← hx, List.getD_eq_getElem?_getD, List.getElem?_eq_getElem hi]
    exact (List.set_getElem_self hi).symm
  | k + 1, j, x, l, hi, hx, hl, hj, hp => by
    have h1 := step_lt x j (bl.getD (p + j) 0) hl
    have h2 : 256 ^ (j + 1) ≤ 256 ^ (wd o / 8) := Nat.pow_le_pow_right (by omega) (by omega)
    rw [pow_wd] at h2
    rw [List.drop_eq_getElem_cons (by omega), List.take_succ_cons, fillB, hx]
    have e : bl[p + j]'(by omega) = bl.getD (p + j) 0 := by
      rw [List.getD_eq_getElem?_getD, List.getElem?_eq_getElem (by omega)]; rfl
    rw [e, byteK o x _ (Nat.lt_of_le_of_lt (Nat.le_add_right _ _) (Nat.lt_of_lt_of_le h1 h2))]
    have := fillK o bl p i k (j + 1) (x * 256 + (bl.getD (p + j) 0).toNat) (l.set i ((x * 256 + (bl.getD (p + j) 0).toNat : Nat) : Int)) (by rw [List.length_set]; exact hi)
      (by rw [getD_set, if_pos ⟨rfl, hi⟩]) h1 (by omega) (by omega)
    rw [List.set_set] at this
    rw [valF]
    exact this
end Go.Proofs.YtgnblaaldpniiaaGreatDoor.Sh
end
section
set_option maxRecDepth 100000
set_option linter.unusedVariables false
set_option linter.unusedSimpArgs false
namespace Go.Proofs.YtgnblaaldpniiaaGreatDoor.Sh
open Go.RowKit Go.Lib
theorem fillW_len (K : IntKind) (n : Nat) (bl : List UInt8) : ∀ (k i : Nat) (l : List Int), (fillW K n bl k i l).length = l.length := fillW_length K n bl
theorem fillWK (o : Bool) (bl : List UInt8) : ∀ (k i : Nat) (l : List Int), i + k ≤ l.length → (i + k) * (wd o / 8) ≤ bl.length → (∀ t, i ≤ t → t < i + k → l.getD t 0 = 0) →
    ∀ t, (fillW (KI o) (wd o / 8) bl k i l).getD t 0 = if i ≤ t ∧ t < i + k then ((valF bl (t * (wd o / 8)) (wd o / 8) 0 0 : Nat) : Int) else l.getD t 0
  | 0, i, l, _, _, _, t => by rw [fillW, if_neg (by omega)]
  | k + 1, i, l, hl, hb, hz, t => by
    have h0 := fillK o bl (i * (wd o / 8)) i (wd o / 8) 0 0 l (by omega) (by rw [hz i (by omega) (by omega)]; rfl) (by decide) (by omega) (by
      have : i * (wd o / 8) + (wd o / 8) = (i + 1) * (wd o / 8) := by rw [Nat.succ_mul]
      have h2 : (i + 1) * (wd o / 8) ≤ (i + (k + 1)) * (wd o / 8) := Nat.mul_le_mul_right _ (by omega)
      omega)
    rw [Nat.add_zero] at h0
    rw [fillW, h0, fillWK o bl k (i + 1) _ (by rw [List.length_set]; omega) (by rw [show i + 1 + k = i + (k + 1) by omega]; exact hb) (fun t h1 h2 => by
      rw [getD_set, if_neg (by omega)]; exact hz t (by omega) (by omega))]
    by_cases e : t = i
    · subst e
      rw [if_neg (by omega), getD_set, if_pos ⟨rfl, by omega⟩, if_pos ⟨Nat.le_refl _, by omega⟩]
    · by_cases h : i + 1 ≤ t ∧ t < i + 1 + k
      · rw [if_pos h, if_pos (by omega)]
      · rw [if_neg h, getD_set, if_neg (by omega), if_neg (by omega)]
theorem wordsL_len (b : List UInt8) (I c : Nat) : ∀ (k t : Nat) (l : List Nat), (wordsL b I c k t l).length = l.length + k
  | 0, _, _ => rfl
  | k + 1, t, l => by rw [wordsL, wordsL_len b I c k, List.length_append]; simp; omega
theorem wordsL_at (b : List UInt8) (I c : Nat) : ∀ (k t : Nat) (l : List Nat), l.length = t → ∀ j, j < t + k → (wordsL b I c k t l).getD j 0 = if j < t then l.getD j 0 else foldW b (I + j * c) c 0 0
  | 0, t, l, _, j, hj => by rw [wordsL, if_pos (by omega)]
  | k + 1, t, l, hl, j, hj => by
    rw [wordsL, wordsL_at b I c k (t + 1) _ (by rw [List.length_append, hl]; rfl) j (by omega)]
    by_cases h : j < t
    · rw [if_pos (by omega), if_pos h]
      simp only [List.getD_eq_getElem?_getD]
      rw [List.getElem?_append_left (by omega)]
    · by_cases h2 : j = t
      · subst h2
        rw [if_pos (by omega), if_neg h]
        simp only [List.getD_eq_getElem?_getD]
        rw [List.getElem?_append_right (by omega), hl, Nat.sub_self]
        rfl
      · rw [if_neg (by omega), if_neg h]
theorem wdI_wd (o : Bool) : wdI o = wd o := by cases o <;> rfl
theorem cvK (o : Bool) (x : Nat) (hx : x < 2 ^ wd o) : cvI o (x : Int) = (x : Int) := by
  unfold cvI
  cases o
  · rw [if_neg (by decide), show IntKind.u32 = KI false from rfl, wrapK, Nat.mod_eq_of_lt hx]
  · rw [if_pos rfl]
theorem cvS (o : Bool) (s : S8) (h : s.okW o) : S8I.of o s.int.list = s.int := by
  obtain ⟨ha, hb, hc, hd, he, hf, hg, hh⟩ := h
  show S8I.mk (cvI o (s.a : Nat)) (cvI o (s.b : Nat)) (cvI o (s.c : Nat)) (cvI o (s.d : Nat)) (cvI o (s.e : Nat)) (cvI o (s.f : Nat)) (cvI o (s.g : Nat)) (cvI o (s.h : Nat)) = _
  rw [cvK o _ ha, cvK o _ hb, cvK o _ hc, cvK o _ hd, cvK o _ he, cvK o _ hf, cvK o _ hg, cvK o _ hh]
  rfl
theorem blockK (o : Bool) (ks : List Nat) (hk : ks.length = rnds o) (hkc : ∀ t, t < rnds o → kcI o t = ((ks.getD t 0 : Nat) : Int)) (s : S8) (hs : s.okW o) (bl b : List UInt8) (I : Nat) (hbl : room o ≤ bl.length) (hbb : ∀ t, t < room o → bl.getD t 0 = b.getD (I + t) 0) :
    mixI (KI o) o s.int.list bl = (blockN o ks s.list (wordsL b I (wd o / 8) 16 0 [])).map (fun x : Nat => (x : Int)) := by
  have hr : 16 ≤ rnds o := by cases o <;> decide
  have hr8 : rnds o ≤ 80 := by cases o <;> decide
  have h16 : 16 * (wd o / 8) = room o := by cases o <;> rfl
  have hc8 : wd o / 8 ≤ 8 := by cases o <;> decide
  have hwl : (wordsL b I (wd o / 8) 16 0 []).length = 16 := by rw [wordsL_len]; rfl
  have hwb : ∀ x ∈ wordsL b I (wd o / 8) 16 0 [], x < 2 ^ wd o := by
    intro x hx
    obtain ⟨j, hj, rfl⟩ := List.getElem_of_mem hx
    have e : (wordsL b I (wd o / 8) 16 0 [])[j] = (wordsL b I (wd o / 8) 16 0 []).getD j 0 := by
      rw [List.getD_eq_getElem?_getD, List.getElem?_eq_getElem hj]; rfl
    rw [e, wordsL_at b I _ 16 0 [] rfl j (by omega), if_neg (by omega), foldW_val _ _ _ _ _ (by decide) (by omega)]
    have := valF_lt b (I + j * (wd o / 8)) (wd o / 8) 0 0 (by decide)
    rw [Nat.zero_add, pow_wd] at this
    exact this
  have hsame : ∀ i, i < 16 → (fillW (KI o) (wd o / 8) bl 16 0 (List.replicate 80 0)).getD i 0 = (((wordsL b I (wd o / 8) 16 0 []).getD i 0 : Nat) : Int) := by
    intro i hi
    rw [fillWK o bl 16 0 _ (by simp) (by rw [Nat.zero_add, h16]; exact hbl) (fun t _ h => by rw [List.getD_eq_getElem?_getD, List.getElem?_replicate, if_pos (by omega)]; rfl) i, if_pos ⟨Nat.zero_le _, by omega⟩, wordsL_at b I _ 16 0 [] rfl i (by omega), if_neg (by omega), foldW_val _ _ _ _ _ (by decide) (by omega)]
    congr 1
    refine valF_same bl b _ _ _ 0 0 (fun t ht => ?_)
    have h1 : i * (wd o / 8) + t < room o := by
      rw [← h16]
      have : (i + 1) * (wd o / 8) ≤ 16 * (wd o / 8) := Nat.mul_le_mul_right _ (by omega)
      rw [Nat.succ_mul] at this
      omega
    rw [hbb _ h1, Nat.add_assoc]
  have hsp := schK o (rnds o - 16) (fillW (KI o) (wd o / 8) bl 16 0 (List.replicate 80 0)) (wordsL b I (wd o / 8) 16 0 []) (by omega) (by rw [fillW_len, hwl]; simp; omega) (by rw [hwl]; exact hsame) hwb
  rw [hwl] at hsp
  obtain ⟨h1, h2⟩ := roundsK o ks (schN o (rnds o - 16) (wordsL b I (wd o / 8) 16 0 [])) (spreadI (KI o) o bl) (rnds o) hkc (fun t ht => by
    unfold spreadI
    rw [wdI_wd]
    exact hsp t (by omega)) (rnds o) 0 s (by omega) hs
  unfold mixI blockN
  rw [cvS o s hs, h1, hk, sumK o s _ hs h2]
  rfl
end Go.Proofs.YtgnblaaldpniiaaGreatDoor.Sh
end
section
set_option maxRecDepth 100000
set_option linter.unusedVariables false
set_option linter.unusedSimpArgs false
namespace Go.Proofs.YtgnblaaldpniiaaGreatDoor.Sh
open Go.RowKit Go.Lib
theorem byK (x sh : Nat) : byI (x : Int) sh = UInt8.ofNat (x / 2 ^ sh) := by
  unfold byI
  have e : ((x : Int) / 2 ^ sh % 256).toNat = x / 2 ^ sh % 256 := by
    have : (x : Int) / 2 ^ sh % 256 = ((x / 2 ^ sh % 256 : Nat) : Int) := by simp
    rw [this]; rfl
  rw [e]
  apply UInt8.toNat.inj
  simp
theorem outBK (x : Nat) : ∀ (k : Nat) (acc : List UInt8), outB (x : Int) k acc = acc ++ dOutR x k
  | 0, acc => by rw [outB, dOutR, List.append_nil]
  | k + 1, acc => by rw [outB, outBK x k, dOutR, byK, List.append_assoc]; rfl
theorem outSK (o : Bool) : ∀ (l : List Nat) (acc : List UInt8), outS o (l.map (fun x : Nat => (x : Int))) acc = acc ++ dOutL o l
  | [], acc => by rw [List.map_nil, outS, show dOutL o [] = [] from rfl, List.append_nil]
  | x :: r, acc => by
    rw [List.map_cons, outS, outBK, outSK o r, wdI_wd, List.append_assoc]
    rfl
theorem list_of8 (l : List Nat) (h : l.length = 8) : (S8.of l).list = l := by
  obtain ⟨a0, a1, a2, a3, a4, a5, a6, a7, rfl⟩ := eight h
  rfl
theorem blockN_ltW (o : Bool) (ks sl ws : List Nat) : ∀ x ∈ blockN o ks sl ws, x < 2 ^ wd o := by
  unfold blockN
  generalize roundsN o ks (schN o (ks.length - 16) ws) ks.length 0 (S8.of sl) = m
  have e2 : sumN o sl 8 0 m.list = [addN o m.a (sl.getD 0 0), addN o m.b (sl.getD 1 0), addN o m.c (sl.getD 2 0), addN o m.d (sl.getD 3 0), addN o m.e (sl.getD 4 0), addN o m.f (sl.getD 5 0), addN o m.g (sl.getD 6 0), addN o m.h (sl.getD 7 0)] := rfl
  rw [e2]
  intro x hx
  simp only [List.mem_cons, List.not_mem_nil, or_false] at hx
  rcases hx with rfl | rfl | rfl | rfl | rfl | rfl | rfl | rfl <;> exact addN_ltW ..
theorem okW_of (o : Bool) (l : List Nat) (h : ∀ x ∈ l, x < 2 ^ wd o) : (S8.of l).okW o := by
  have g := fun i => getD_lt h (Nat.two_pow_pos _) i
  exact ⟨g 0, g 1, g 2, g 3, g 4, g 5, g 6, g 7⟩
theorem int_list (s : S8) : s.int.list = s.list.map (fun x : Nat => (x : Int)) := rfl
theorem putB_get : ∀ (p bl : List UInt8) (f t : Nat), f + p.length ≤ bl.length → (putB bl f p).getD t 0 = if f ≤ t ∧ t < f + p.length then p.getD (t - f) 0 else bl.getD t 0
  | [], bl, f, t, _ => by rw [putB, if_neg (by simp)]
  | b :: p, bl, f, t, h => by
    simp only [List.length_cons] at h
    rw [putB, putB_get p (bl.set f b) (f + 1) t (by rw [List.length_set]; omega)]
    simp only [List.length_cons]
    by_cases e : t = f
    · subst e
      rw [if_neg (by omega), if_pos (by omega), Nat.sub_self]
      simp [List.getD_eq_getElem?_getD, show t < bl.length by omega]
    · by_cases h1 : f + 1 ≤ t ∧ t < f + 1 + p.length
      · rw [if_pos h1, if_pos (by omega), show t - f = (t - (f + 1)) + 1 by omega, List.getD_cons_succ]
      · rw [if_neg h1, if_neg (by omega)]
        simp only [List.getD_eq_getElem?_getD]
        rw [List.getElem?_set_ne (by omega)]
theorem feedK (o : Bool) (ks : List Nat) (hk : ks.length = rnds o) (hkc : ∀ t, t < rnds o → kcI o t = ((ks.getD t 0 : Nat) : Int)) (p : List UInt8) :
    ∀ (T I : Nat) (sl : List Nat) (bl : List UInt8), sl.length = 8 → (∀ x ∈ sl, x < 2 ^ wd o) → bl.length = 128 → I + room o * T ≤ p.length →
    (feed o ⟨sl.map (fun x : Nat => (x : Int)), bl, 0⟩ ((p.drop I).take (room o * T))).st = (blocksL o ks p T I sl).map (fun x : Nat => (x : Int))
  | 0, I, sl, bl, _, _, _, _ => by rw [Nat.mul_zero, List.take_zero, feed_nil, blocksL]
  | T + 1, I, sl, bl, h8, hb, hbl, hp => by
    have hm : room o * (T + 1) = room o + room o * T := by rw [Nat.mul_succ, Nat.add_comm]
    have hr := room_le o
    have hr0 := room_pos o
    have hq : ((p.drop I).take (room o)).length = room o := by rw [List.length_take, List.length_drop]; omega
    have hw : 2 * wd o = room o := by cases o <;> rfl
    have hff := feed_full o ((p.drop I).take (room o)) ⟨sl.map (fun x : Nat => (x : Int)), bl, 0⟩ (by intro e; rw [e] at hq; simp at hq; omega) (by show 0 + _ = _; rw [hq]; omega)
    rw [hm, List.take_add, feed_append, hff]
    have hs := list_of8 sl h8
    have hblk := blockK o ks hk hkc (S8.of sl) (okW_of o sl hb) (putB bl 0 ((p.drop I).take (room o))) p I (by rw [putB_length]; omega) (fun t ht => by
      rw [putB_get _ _ _ _ (by rw [hq]; omega), if_pos ⟨Nat.zero_le _, by rw [hq]; omega⟩, Nat.sub_zero]
      simp only [List.getD_eq_getElem?_getD]
      rw [List.getElem?_take, if_pos ht, List.getElem?_drop])
    rw [int_list, hs] at hblk
    dsimp only
    rw [hblk, List.drop_drop, blocksL, hw]
    exact feedK o ks hk hkc p T (I + room o) _ _ (blockN_len _ _ _ _) (blockN_ltW _ _ _ _) (by rw [putB_length]; exact hbl) (by omega)
end Go.Proofs.YtgnblaaldpniiaaGreatDoor.Sh
end
section
set_option maxRecDepth 100000
set_option linter.unusedVariables false
set_option linter.unusedSimpArgs false
namespace Go.Proofs.YtgnblaaldpniiaaGreatDoor.Sh
open Go.RowKit Go.Lib
theorem lenR_len (n8 : Nat) : ∀ k, (lenR n8 k).length = k
  | 0 => rfl
  | k + 1 => by rw [lenR, List.length_cons, lenR_len n8 k]
theorem dPad_len (o : Bool) (s : List UInt8) : (dPadL o s).length = room o * ((dPadL o s).length / room o) := by
  have h : (dPadL o s).length = s.length + 1 + dPadZ o s.length + wd o / 4 := by
    unfold dPadL
    rw [List.length_append, List.length_append, List.length_append, List.length_replicate, lenR_len]; rfl
  rw [h]
  unfold dPadZ
  cases o
  · show _ + (2 * 32 - (_ + 32 / 4) % (2 * 32)) % (2 * 32) + 32 / 4 = (2 * 32) * (( _ + (2 * 32 - (_ + 32 / 4) % (2 * 32)) % (2 * 32) + 32 / 4) / (2 * 32))
    omega
  · show _ + (2 * 64 - (_ + 64 / 4) % (2 * 64)) % (2 * 64) + 64 / 4 = (2 * 64) * (( _ + (2 * 64 - (_ + 64 / 4) % (2 * 64)) % (2 * 64) + 64 / 4) / (2 * 64))
    omega
theorem sums_same (o : Bool) (ks hl : List Nat) (s : List UInt8) (hk : ks.length = rnds o) (hkc : ∀ t, t < rnds o → kcI o t = ((ks.getD t 0 : Nat) : Int)) (hi : initI o = hl.map (fun x : Nat => (x : Int))) (h8 : hl.length = 8) (hb : ∀ x ∈ hl, x < 2 ^ wd o)
    (hp : s ++ padL o s.length = dPadL o s) : shaL o s = docSum o ks hl s := by
  unfold shaL sumL
  rw [hs_append, hp]
  unfold hs
  have hl2 := dPad_len o s
  have h := feedK o ks hk hkc (dPadL o s) ((dPadL o s).length / room o) 0 hl (List.replicate 128 0) h8 hb (by simp) (by omega)
  rw [List.drop_zero, ← hl2, List.take_length] at h
  rw [hi, h, outSK, List.nil_append]
  unfold docSum
  rw [show 2 * wd o = room o by cases o <;> rfl]
end Go.Proofs.YtgnblaaldpniiaaGreatDoor.Sh
end
section
set_option maxRecDepth 100000
set_option linter.unusedVariables false
set_option linter.unusedSimpArgs false
namespace Go.Proofs.YtgnblaaldpniiaaGreatDoor.Sh
open Go.RowKit Go.Lib
def revB (bits : Nat) : Nat → Nat → List UInt8
  | 0, _ => []
  | k + 1, i => revB bits k (i + 1) ++ [UInt8.ofNat (bits / 2 ^ (8 * i))]
theorem padRK (bits m : Nat) : ∀ (k i : Nat) (pre suf : List UInt8), pre.length + k + i = m → padR bits m k i (pre ++ List.replicate k 0 ++ suf) = pre ++ revB bits k i ++ suf
  | 0, i, pre, suf, _ => by rw [padR, revB, List.replicate_zero]
  | k + 1, i, pre, suf, h => by
    have e : (pre ++ List.replicate (k + 1) 0 ++ suf).set (m - 1 - i) (UInt8.ofNat (bits / 2 ^ (8 * i))) = pre ++ List.replicate k 0 ++ (UInt8.ofNat (bits / 2 ^ (8 * i)) :: suf) := by
      rw [List.replicate_succ', ← List.append_assoc, List.append_assoc (pre ++ List.replicate k 0), List.set_append_right _ _ (by simp; omega)]
      rw [show m - 1 - i - (pre ++ List.replicate k (0 : UInt8)).length = 0 by (simp; omega)]
      rfl
    rw [padR, e, padRK bits m k (i + 1) pre _ (by omega), revB]
    simp
theorem pad_same (o : Bool) (s : List UInt8) (hs : s.length ≤ 2000) : s ++ padL o s.length = dPadL o s := by
  unfold dPadL padL
  rw [Nat.mod_eq_of_lt (a := s.length * 8) (by omega), List.append_assoc, List.append_assoc]
  congr 1
  have hz : (room o - (s.length + 1 + wdI o / 4) % room o) % room o = dPadZ o s.length := by unfold dPadZ; cases o <;> rfl
  rw [hz]
  generalize s.length * 8 = bits
  generalize dPadZ o s.length = Z
  cases o
  · show padR bits (1 + Z + 8) 8 0 ((List.replicate (1 + Z + 8) 0).set 0 128) = [128] ++ (List.replicate Z 0 ++ lenR bits 8)
    have e : (List.replicate (1 + Z + 8) (0 : UInt8)).set 0 128 = ([128] ++ List.replicate Z 0) ++ List.replicate 8 0 ++ [] := by
      rw [show 1 + Z + 8 = (Z + 8) + 1 by omega, List.replicate_succ, List.set_cons_zero, ← List.replicate_append_replicate]
      simp
    rw [e, padRK bits _ 8 0 _ _ (by simp; omega)]
    simp [revB, lenR]
  · show padR bits (1 + Z + 16) 8 0 ((List.replicate (1 + Z + 16) 0).set 0 128) = [128] ++ (List.replicate Z 0 ++ lenR bits 16)
    have e : (List.replicate (1 + Z + 16) (0 : UInt8)).set 0 128 = ([128] ++ List.replicate Z 0 ++ List.replicate 8 0) ++ List.replicate 8 0 ++ [] := by
      rw [show 1 + Z + 16 = (Z + 16) + 1 by omega, List.replicate_succ, List.set_cons_zero, ← List.replicate_append_replicate, show List.replicate 16 (0 : UInt8) = List.replicate 8 0 ++ List.replicate 8 0 from rfl]
      simp only [List.append_nil, List.cons_append, List.append_assoc, List.nil_append]
    rw [e, padRK bits _ 8 0 _ _ (by simp; omega)]
    simp [revB, lenR]
end Go.Proofs.YtgnblaaldpniiaaGreatDoor.Sh
end
section
set_option maxRecDepth 100000
set_option linter.unusedVariables false
set_option linter.unusedSimpArgs false
namespace Go.Proofs.YtgnblaaldpniiaaGreatDoor.Sh
open Go.RowKit Go.Lib
theorem pl64 : (plN 312).length = 64 := by kernel_rfl
theorem pl80 : (plN 410).length = 80 := by kernel_rfl
theorem pl_pre : (plN 410).take 64 = plN 312 := by kernel_rfl
theorem cubes_all : ((plN 410).map fun p => ((rootN p 3 : Nat) : Int)) = cubesL := by kernel_rfl
theorem squares_all : (((plN 410).take 8).map fun p => ((rootN p 2 : Nat) : Int)) = squaresL := by kernel_rfl
end Go.Proofs.YtgnblaaldpniiaaGreatDoor.Sh
end
section
set_option linter.unusedVariables false
set_option maxRecDepth 100000
set_option linter.unusedSimpArgs false
namespace Go.Proofs.YtgnblaaldpniiaaGreatDoor.Sh
open Go.RowKit Go.Lib
def prO (o : Bool) : List Nat := if o = true then plN 410 else plN 312
theorem prO_t : prO true = plN 410 := by unfold prO; rw [if_pos rfl]
theorem prO_f : prO false = plN 312 := by unfold prO; rw [if_neg (by decide)]
theorem prO_len (o : Bool) : (prO o).length = rnds o := by
  cases o
  · rw [prO_f, pl64]; rfl
  · rw [prO_t, pl80]; rfl
theorem take_getD (l : List Nat) (n t : Nat) (h : t < n) : (l.take n).getD t 0 = l.getD t 0 := by
  simp [List.getD, h]
theorem map_getD (f : Nat → Nat) (l : List Nat) (t : Nat) (h : t < l.length) : (l.map f).getD t 0 = f (l.getD t 0) := by
  simp [List.getD, h]
theorem map_getDI (f : Nat → Int) (l : List Nat) (t : Nat) (h : t < l.length) : (l.map f).getD t 0 = f (l.getD t 0) := by
  simp [List.getD, h]
theorem prO_get (o : Bool) (t : Nat) (h : t < rnds o) : (prO o).getD t 0 = (plN 410).getD t 0 := by
  cases o
  · rw [prO_f, ← pl_pre]
    exact take_getD _ 64 t h
  · rw [prO_t]
theorem rootN_lt (n p : Nat) : rootN n p < 18446744073709551616 := Nat.mod_lt _ (by decide)
theorem cubes_get (t : Nat) (h : t < 80) : cubesL.getD t 0 = ((rootN ((plN 410).getD t 0) 3 : Nat) : Int) := by
  rw [← cubes_all]
  exact map_getDI _ _ t (by rw [pl80]; exact h)
theorem constK_get (o : Bool) (t : Nat) (h : t < rnds o) : (constK o (prO o)).getD t 0 = rootN ((plN 410).getD t 0) 3 / 2 ^ (64 - wd o) := by
  rw [← prO_get o t h]
  exact map_getD _ _ t (by rw [prO_len]; exact h)
theorem kc_same (o : Bool) (t : Nat) (h : t < rnds o) : kcI o t = (((constK o (prO o)).getD t 0 : Nat) : Int) := by
  rw [constK_get o t h]
  unfold kcI
  cases o
  · have h2 : t < 64 := h
    rw [if_neg (by decide), cubes_get t (by omega)]
    have hr := rootN_lt ((plN 410).getD t 0) 3
    generalize rootN ((plN 410).getD t 0) 3 = r at hr ⊢
    show IntKind.u32.wrap ((r : Int) / 4294967296) = ((r / 4294967296 : Nat) : Int)
    simp [IntKind.wrap, IntKind.signed, IntKind.bits]
    omega
  · have h2 : t < 80 := h
    rw [if_pos rfl, cubes_get t h2]
    show _ = ((rootN ((plN 410).getD t 0) 3 / 1 : Nat) : Int)
    rw [Nat.div_one]
theorem take8 (o : Bool) : (prO o).take 8 = (plN 410).take 8 := by
  cases o
  · rw [prO_f, ← pl_pre, List.take_take]
    rfl
  · rw [prO_t]
theorem initI_eq (o : Bool) : initI o = squaresL.map fun x => if o = true then x else x / 4294967296 := by cases o <;> kernel_rfl
theorem init_same (o : Bool) : initI o = (constH o (prO o)).map (fun x : Nat => (x : Int)) := by
  rw [initI_eq, ← squares_all]
  unfold constH
  rw [take8, List.map_map, List.map_map]
  refine List.map_congr_left fun p _ => ?_
  simp only [Function.comp]
  unfold constR
  cases o
  · rw [if_neg (by decide)]
    show ((rootN p 2 : Nat) : Int) / 4294967296 = ((rootN p 2 / 4294967296 : Nat) : Int)
    omega
  · rw [if_pos rfl]
    show _ = ((rootN p 2 / 1 : Nat) : Int)
    rw [Nat.div_one]
theorem constK_len (o : Bool) : (constK o (prO o)).length = rnds o := by unfold constK; rw [List.length_map, prO_len]
theorem constH_len (o : Bool) : (constH o (prO o)).length = 8 := by
  unfold constH
  rw [List.length_map, List.length_take, prO_len]
  cases o <;> rfl
theorem constR_lt (o : Bool) (p n : Nat) : constR o p n < 2 ^ wd o := by
  have h := rootN_lt n p
  unfold constR
  cases o
  · show rootN n p / 4294967296 < 4294967296
    omega
  · show rootN n p / 1 < 18446744073709551616
    rw [Nat.div_one]; exact h
theorem constR_ltW (o : Bool) (p n : Nat) : constR o p n < 18446744073709551616 := Nat.lt_of_lt_of_le (constR_lt o p n) (by cases o <;> decide)
theorem doc_same (o : Bool) (s : List UInt8) (hs : s.length ≤ 2000) : shaL o s = docSum o (constK o (prO o)) (constH o (prO o)) s :=
  sums_same o _ _ s (constK_len o) (fun t ht => kc_same o t ht) (init_same o) (constH_len o) (fun x hx => by obtain ⟨n, _, rfl⟩ := List.mem_map.1 hx; exact constR_lt o 2 n) (pad_same o s hs)
theorem pr_lt (o : Bool) : ∀ p ∈ prO o, p < 1000000 := by
  intro p hp
  cases o
  · rw [prO_f] at hp; exact Nat.lt_trans (plN_lt 312 p hp) (by decide)
  · rw [prO_t] at hp; exact Nat.lt_trans (plN_lt 410 p hp) (by decide)
theorem ref_one (o : Bool) (ho : o = true) (s : List UInt8) (hs : s.length ≤ 2000) (w : World) : Calls Tryz.prog 32 #[.int .i64 (kd o), .string (S s)] w (OneH o s w) := by
  unfold OneH
  rw [doc_same o s hs]
  subst ho
  · exact docOne1_any _ _ s (constK_len true) (constH_len true) (fun x hx => by obtain ⟨n, _, rfl⟩ := List.mem_map.1 hx; exact constR_ltW true 3 n) (fun x hx => by obtain ⟨n, _, rfl⟩ := List.mem_map.1 hx; exact constR_ltW true 2 n) hs
      (fun w => of1_any _ prO_t.symm (prO_len true) (pr_lt true) w) w
end Go.Proofs.YtgnblaaldpniiaaGreatDoor.Sh
end
section
set_option maxRecDepth 100000
set_option linter.unusedVariables false
set_option linter.unusedSimpArgs false
namespace Go.Proofs.YtgnblaaldpniiaaGreatDoor.Sh
open Go.RowKit Go.Lib
def numC (k : IntKind) (l : List Nat) : List Value := l.map fun (x : Nat) => .int k (x : Int)
theorem numC_length (k : IntKind) (l : List Nat) : (numC k l).length = l.length := by simp [numC]
theorem numC_one (k : IntKind) (l : List Nat) : (numC k l).toArray.all (·.oneCell') = true := by simp [numC, Value.oneCell']
def aggN (k : IntKind) (l : List Nat) : Value := .agg (numC k l).toArray
structure Arr (w : World) (g : Nat) (t : TypeId) (k : IntKind) (l : List Nat) : Prop where
  blk : w.heap[g]? = some (.cells (numC k l).toArray t (0, 0))
section
variable {w w' : World} {g : Nat} {t : TypeId} {k : IntKind} {l : List Nat}
theorem Arr.lt (h : Arr w g t k l) : g < w.heap.size := (Array.getElem?_eq_some_iff.1 h.blk).1
theorem Arr.cell (h : Arr w g t k l) (i : Nat) (hi : i < l.length) : w.cell? ⟨g, i, none⟩ = some (.int k (l.getD i 0 : Nat)) := by
  rw [cell_of_row w g _ _ _ _ h.blk, List.getElem?_toArray]
  simp [numC, hi]
theorem Arr.frozen (h : Arr w g t k l) (i : Nat) : w.frozen? ⟨g, i, none⟩ = false := frozen_of_row w g i _ _ h.blk
theorem Arr.of_heap (h : Arr w g t k l) (e : w'.heap[g]? = w.heap[g]?) : Arr w' g t k l := ⟨e.trans h.blk⟩
theorem Arr.below {B : Nat} (h : Arr w g t k l) (hb : Below B w w') (hg : g < B) : Arr w' g t k l := h.of_heap (hb.block g hg)
theorem Arr.from (h : Arr w g t k l) (hb : Below w.heap.size w w') : Arr w' g t k l := h.below hb h.lt
theorem Arr.set (h : Arr w g t k l) (i x : Nat) : Arr (w.setCell ⟨g, i, none⟩ (.int k (x : Int))) g t k (l.set i x) := by
  refine ⟨(heap_setCell_same _ _ _ _ _ _ h.blk).trans ?_⟩
  rw [List.setIfInBounds_toArray]
  simp [numC, List.map_set]
theorem Arr.other (h : Arr w g t k l) {g' : Nat} (hne : g ≠ g') (i : Nat) (v : Value) : Arr (w.setCell ⟨g', i, none⟩ v) g t k l :=
  h.of_heap (Below.heap_setCell w ⟨g', i, none⟩ v g hne)
theorem Arr.new (w : World) (t : TypeId) (k : IntKind) (l : List Nat) : Arr (w.alloc (.cells (numC k l).toArray t)) w.heap.size t k l := ⟨heap_alloc_new w _⟩
theorem Arr.drewN (h : Arr w g t k l) (n : Nat) : Arr (w.drewN n) g t k l := ⟨h.blk⟩
end
theorem val_eq {k : IntKind} {a b : Int} (h : a = b) : Value.int k a = .int k b := by rw [h]
end Go.Proofs.YtgnblaaldpniiaaGreatDoor.Sh
end
section
set_option maxRecDepth 100000
set_option linter.unusedVariables false
set_option linter.unusedSimpArgs false
namespace Go.Proofs.YtgnblaaldpniiaaGreatDoor.Sh
open Go.ChangeShapes Go.WideShapes Go.ChangeAt Go.RowKit
abbrev theLaid : List (String × DataW Unit) := [("farrier/sha2.cubes", Rows.laid_farrier_sha2_cubes), ("farrier/sha2.squares", Rows.laid_farrier_sha2_squares)]
theorem gCubes : Tryz.prog.globalNamed "farrier/sha2.cubes" = some 1 := by kernel_rfl
theorem gSquares : Tryz.prog.globalNamed "farrier/sha2.squares" = some 0 := by kernel_rfl
theorem gCubesT : (Tryz.prog.globals[1]?).map (·.type) = some 144 := by kernel_rfl
theorem gSquaresT : (Tryz.prog.globals[0]?).map (·.type) = some 99 := by kernel_rfl
theorem cells80 : Tryz.prog.cellsOf 144 = 80 := by kernel_rfl
theorem cells8 : Tryz.prog.cellsOf 99 = 8 := by kernel_rfl
theorem cells1 : Tryz.prog.cellsOf 77 = 1 := by kernel_rfl
theorem vars_of_laid {W : World} (h : laidMetH Tryz.prog theLaid W) : Vars W := by
  have h1 : laidMet Tryz.prog (("farrier/sha2.cubes", Lib.tabData .u64 cubesL) :: [("farrier/sha2.squares", Rows.laid_farrier_sha2_squares)]) W := h
  have h2 : laidMet Tryz.prog (("farrier/sha2.squares", Lib.tabData .u64 squaresL) :: []) W := laidMetH.filter (fun x => x.1 == "farrier/sha2.squares") h
  have t1 := Lib.tabIs_of_head gCubes gCubesT Tryz.underlying144 Tryz.underlying77 cells1 cells80 h1
  have t2 := Lib.tabIs_of_head gSquares gSquaresT Tryz.underlying99 Tryz.underlying77 cells1 cells8 h2
  have c1 : ∀ j, j < 80 → W.cell? ⟨1, j, none⟩ = some (.int .u64 (cubesL.getD j 0)) := fun j hj => t1.cell gCubes j hj
  have c2 : ∀ j, j < 8 → W.cell? ⟨0, j, none⟩ = some (.int .u64 (squaresL.getD j 0)) := fun j hj => t2.cell gSquares j hj
  exact ⟨block_lt_of_cell (c1 0 (by omega)), c1, c2⟩
def layCells (cs : Array Value) : Obj → Obj
  | .cells _ t frozen => .cells cs t frozen
  | o => o
noncomputable def laidHeap (h : Array Obj) : Array Obj := (h.modify 0 (layCells #[.int .u64 7640891576956012808, .int .u64 13503953896175478587, .int .u64 4354685564936845355, .int .u64 11912009170470909681, .int .u64 5840696475078001361, .int .u64 11170449401992604703, .int .u64 2270897969802886507, .int .u64 6620516959819538809])).modify 1 (layCells #[.int .u64 4794697086780616226, .int .u64 8158064640168781261, .int .u64 13096744586834688815, .int .u64 16840607885511220156, .int .u64 4131703408338449720, .int .u64 6480981068601479193, .int .u64 10538285296894168987, .int .u64 12329834152419229976, .int .u64 15566598209576043074, .int .u64 1334009975649890238, .int .u64 2608012711638119052, .int .u64 6128411473006802146, .int .u64 8268148722764581231, .int .u64 9286055187155687089, .int .u64 11230858885718282805, .int .u64 13951009754708518548, .int .u64 16472876342353939154, .int .u64 17275323862435702243, .int .u64 1135362057144423861, .int .u64 2597628984639134821, .int .u64 3308224258029322869, .int .u64 5365058923640841347, .int .u64 6679025012923562964, .int .u64 8573033837759648693, .int .u64 10970295158949994411, .int .u64 12119686244451234320, .int .u64 12683024718118986047, .int .u64 13788192230050041572, .int .u64 14330467153632333762, .int .u64 15395433587784984357, .int .u64 489312712824947311, .int .u64 1452737877330783856, .int .u64 2861767655752347644, .int .u64 3322285676063803686, .int .u64 5560940570517711597, .int .u64 5996557281743188959, .int .u64 7280758554555802590, .int .u64 8532644243296465576, .int .u64 9350256976987008742, .int .u64 10552545826968843579, .int .u64 11727347734174303076, .int .u64 12113106623233404929, .int .u64 14000437183269869457, .int .u64 14369950271660146224, .int .u64 15101387698204529176, .int .u64 15463397548674623760, .int .u64 17586052441742319658, .int .u64 1182934255886127544, .int .u64 1847814050463011016, .int .u64 2177327727835720531, .int .u64 2830643537854262169, .int .u64 3796741975233480872, .int .u64 4115178125766777443, .int .u64 5681478168544905931, .int .u64 6601373596472566643, .int .u64 7507060721942968483, .int .u64 8399075790359081724, .int .u64 8693463985226723168, .int .u64 9568029438360202098, .int .u64 10144078919501101548, .int .u64 10430055236837252648, .int .u64 11840083180663258601, .int .u64 13761210420658862357, .int .u64 14299343276471374635, .int .u64 14566680578165727644, .int .u64 15097957966210449927, .int .u64 16922976911328602910, .int .u64 17689382322260857208, .int .u64 500013540394364858, .int .u64 748580250866718886, .int .u64 1242879168328830382, .int .u64 1977374033974150939, .int .u64 2944078676154940804, .int .u64 3659926193048069267, .int .u64 4368137639120453308, .int .u64 4836135668995329356, .int .u64 5532061633213252278, .int .u64 6448918945643986474, .int .u64 6902733635092675308, .int .u64 7801388544844847127])
noncomputable def laidWorld (os : Os) : World := { World.holding Tryz.prog os ⟨#[], #[], []⟩ with heap := laidHeap (World.holding Tryz.prog os ⟨#[], #[], []⟩).heap }
theorem laid_met (os : Os) (args : Array Value) : laidMet Tryz.prog theLaid ((laidWorld os).forCall (fun _ _ => 0) ⟨#[], args, []⟩).memory :=
  laidMet_of_run' 90 (by kernel_rfl) (by kernel_rfl)
theorem own : ownKnob Tryz.prog.godebug = none := by kernel_rfl
end Go.Proofs.YtgnblaaldpniiaaGreatDoor.Sh
end
