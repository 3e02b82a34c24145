/- The document's sum and the program's: rounds and sums: the numbers are the same. No walk. -/
import Derived.Test.YtbkaemekcjinaaaDoorE1
namespace Go.Proofs.YtbkaemekcjinaaaDoor
open Go.RowKit Go.Lib
def S8.int (s : S8) : S8I := ⟨(s.a : Nat), (s.b : Nat), (s.c : Nat), (s.d : Nat), (s.e : Nat), (s.f : Nat), (s.g : Nat), (s.h : Nat)⟩
def S8.okW (o : Bool) (s : S8) : Prop := s.a < 2 ^ wd o ∧ s.b < 2 ^ wd o ∧ s.c < 2 ^ wd o ∧ s.d < 2 ^ wd o ∧ s.e < 2 ^ wd o ∧ s.f < 2 ^ wd o ∧ s.g < 2 ^ wd o ∧ s.h < 2 ^ wd o
theorem and_ltW (o : Bool) {a b : Nat} (ha : a < 2 ^ wd o) : a &&& b < 2 ^ wd o := Nat.lt_of_le_of_lt Nat.and_le_left ha
theorem not_low (e g : Nat) (he : e < 2 ^ 32) (hg : g < 2 ^ 32) : (18446744073709551615 - e) &&& g = (2 ^ 32 - 1 - e) &&& g := by
  have h1 : ((18446744073709551615 - e) &&& g) % 2 ^ 32 = (18446744073709551615 - e) &&& g := Nat.mod_eq_of_lt (Nat.lt_of_le_of_lt Nat.and_le_right hg)
  rw [← h1, Nat.and_mod_two_pow, Nat.mod_eq_of_lt hg]
  congr 1
  omega
theorem chK (o : Bool) (e f g : Nat) (he : e < 2 ^ wd o) (hf : f < 2 ^ wd o) (hg : g < 2 ^ wd o) :
    bits .xor (KI o) (bits .and (KI o) (e : Int) (f : Int)) (bits .and (KI o) (bits .xor (KI o) (KI o).max (e : Int)) (g : Int)) = ((chN e f g : Nat) : Int) := by
  have hn : 2 ^ wd o - 1 - e < 2 ^ wd o := by omega
  rw [andK o _ _ he hf, notK o _ he, andK o _ _ hn hg, xorK o _ _ (and_ltW o he) (and_ltW o hn)]
  congr 1
  unfold chN
  cases o
  · rw [not_low e g he hg]; rfl
  · rfl
theorem majK (o : Bool) (a b c : Nat) (ha : a < 2 ^ wd o) (hb : b < 2 ^ wd o) (hc : c < 2 ^ wd o) :
    bits .xor (KI o) (bits .xor (KI o) (bits .and (KI o) (a : Int) (b : Int)) (bits .and (KI o) (a : Int) (c : Int))) (bits .and (KI o) (b : Int) (c : Int)) = ((majN a b c : Nat) : Int) := by
  rw [andK o _ _ ha hb, andK o _ _ ha hc, andK o _ _ hb hc, xorK o _ _ (and_ltW o ha) (and_ltW o ha), xorK o _ _ (xor_ltW o (and_ltW o ha) (and_ltW o ha)) (and_ltW o hb)]
  rfl
theorem addK (o : Bool) (x y : Nat) : (KI o).wrap ((x : Int) + (y : Int)) = ((wordN o (x + y) : Nat) : Int) := by
  rw [← Int.natCast_add, wrapK]; rfl
theorem wordN_add (o : Bool) (x y : Nat) : wordN o (wordN o x + y) = wordN o (x + y) := by
  unfold wordN; rw [Nat.mod_add_mod]
theorem t1K (o : Bool) (k w : Nat) (s : S8) (h : s.okW o) : t1I o (KI o) (k : Int) (w : Int) s.int = ((oneN o k w s : Nat) : Int) := by
  obtain ⟨ha, hb, hc, hd, he, hf, hg, hh⟩ := h
  unfold t1I oneN S8.int
  dsimp only
  rw [bK o _ he, chK o _ _ _ he hf hg, addK, addK, addK, addK]
  congr 1
  rw [wordN_add, wordN_mod]
  cases o <;> (unfold wordN wd; simp only [Bool.false_eq_true, if_false, if_true]; omega)
theorem t2K (o : Bool) (s : S8) (h : s.okW o) : t2I o (KI o) s.int = ((twoS o s : Nat) : Int) := by
  obtain ⟨ha, hb, hc, hd, he, hf, hg, hh⟩ := h
  unfold t2I twoS S8.int
  dsimp only
  rw [aK o _ ha, majK o _ _ _ ha hb hc, addK, wordN_mod]
theorem roundK (o : Bool) (k w : Nat) (s : S8) (h : s.okW o) : roundI o (KI o) (k : Int) (w : Int) s.int = (roundN o k w s).int ∧ (roundN o k w s).okW o := by
  refine ⟨?_, ?_⟩
  · unfold roundI
    rw [t1K o k w s h, t2K o s h]
    unfold roundN S8.int
    dsimp only
    rw [addK, addK, wordN_mod, wordN_mod]
  · obtain ⟨ha, hb, hc, hd, he, hf, hg, hh⟩ := h
    exact ⟨wordN_ltW _ _, ha, hb, hc, wordN_ltW _ _, he, hf, hg⟩
end Go.Proofs.YtbkaemekcjinaaaDoor
