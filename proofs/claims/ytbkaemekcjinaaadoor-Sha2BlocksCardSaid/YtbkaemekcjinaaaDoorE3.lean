/- The document's sum and the program's: a block: the numbers are the same. No walk. -/
import Derived.Test.YtbkaemekcjinaaaDoorE2
import Derived.Test.YtbkaemekcjinaaaDoorS13
namespace Go.Proofs.YtbkaemekcjinaaaDoor
open Go.RowKit Go.Lib
theorem roundsK (o : Bool) (ks ws' : List Nat) (ws : List Int) (T : Nat) (hk : ∀ t, t < T → kcI o t = ((ks.getD t 0 : Nat) : Int)) (hw : ∀ t, t < T → ws.getD t 0 = ((ws'.getD t 0 : Nat) : Int)) :
    ∀ (k t : Nat) (s : S8), t + k ≤ T → s.okW o → roundsI o (KI o) ws k t s.int = (roundsN o ks ws' k t s).int ∧ (roundsN o ks ws' k t s).okW o
  | 0, _, s, _, h => ⟨rfl, h⟩
  | k + 1, t, s, ht, h => by
    obtain ⟨h1, h2⟩ := roundK o (ks.getD t 0) (ws'.getD t 0) s h
    rw [roundsI, roundsN, hk t (by omega), hw t (by omega), h1]
    exact roundsK o ks ws' ws T hk hw k (t + 1) _ (by omega) h2
theorem addIK (o : Bool) (x y : Nat) (hx : x < 2 ^ wd o) (hy : y < 2 ^ wd o) : addI o (x : Int) (y : Int) = ((addN o y x : Nat) : Int) := by
  unfold addI addN
  rw [wordN_mod]
  cases o
  · rw [if_neg (by decide)]
    have e1 : IntKind.u32.wrap (x : Int) = (x : Int) := by rw [show IntKind.u32 = KI false from rfl, wrapK, Nat.mod_eq_of_lt hx]
    rw [e1, show IntKind.u32 = KI false from rfl, addK, show IntKind.u64 = KI true from rfl, wrapK, Nat.mod_eq_of_lt (Nat.lt_trans (wordN_ltW false _) (by decide)), Nat.add_comm]
  · rw [if_pos rfl, show IntKind.u64 = KI true from rfl, addK, Nat.add_comm]
theorem addN_ltW (o : Bool) (x y : Nat) : addN o x y < 2 ^ wd o := wordN_ltW _ _
theorem sumK (o : Bool) (s m : S8) (hs : s.okW o) (hm : m.okW o) : sumR o m.int.list 8 0 s.int.list = (sumN o s.list 8 0 m.list).map (fun x : Nat => (x : Int)) := by
  obtain ⟨a0, a1, a2, a3, a4, a5, a6, a7⟩ := hs
  obtain ⟨b0, b1, b2, b3, b4, b5, b6, b7⟩ := hm
  have e1 : sumR o m.int.list 8 0 s.int.list = [addI o (s.a : Nat) (m.a : Nat), addI o (s.b : Nat) (m.b : Nat), addI o (s.c : Nat) (m.c : Nat), addI o (s.d : Nat) (m.d : Nat), addI o (s.e : Nat) (m.e : Nat), addI o (s.f : Nat) (m.f : Nat), addI o (s.g : Nat) (m.g : Nat), addI o (s.h : Nat) (m.h : Nat)] := rfl
  have e2 : sumN o s.list 8 0 m.list = [addN o m.a s.a, addN o m.b s.b, addN o m.c s.c, addN o m.d s.d, addN o m.e s.e, addN o m.f s.f, addN o m.g s.g, addN o m.h s.h] := rfl
  rw [e1, e2, addIK o _ _ a0 b0, addIK o _ _ a1 b1, addIK o _ _ a2 b2, addIK o _ _ a3 b3, addIK o _ _ a4 b4, addIK o _ _ a5 b5, addIK o _ _ a6 b6, addIK o _ _ a7 b7]
  rfl
theorem nextK (o : Bool) (l : List Int) (l' : List Nat) (ht : 16 ≤ l'.length) (h : ∀ i, i < l'.length → l.getD i 0 = ((l'.getD i 0 : Nat) : Int)) (hb : ∀ x ∈ l', x < 2 ^ wd o) :
    nextI o (KI o) l l'.length = ((nextW o l' : Nat) : Int) := by
  have g := fun i => getD_lt hb (Nat.two_pow_pos _) i
  unfold nextI nextW
  rw [h _ (by omega), h _ (by omega), h _ (by omega), h _ (by omega), dK o _ (g _), cK o _ (g _), ← Int.natCast_add, ← Int.natCast_add, addK]
  congr 1
  rw [wordN_mod]
  cases o <;> (unfold wordN wd; simp only [Bool.false_eq_true, if_false, if_true]; omega)
theorem schK (o : Bool) : ∀ (k : Nat) (l : List Int) (l' : List Nat), 16 ≤ l'.length → l'.length + k ≤ l.length → (∀ i, i < l'.length → l.getD i 0 = ((l'.getD i 0 : Nat) : Int)) → (∀ x ∈ l', x < 2 ^ wd o) →
    ∀ i, i < l'.length + k → (schR o (KI o) k l'.length l).getD i 0 = (((schN o k l').getD i 0 : Nat) : Int)
  | 0, l, l', _, _, h, _, i, hi => h i (by omega)
  | k + 1, l, l', ht, hl, h, hb, i, hi => by
    rw [schR, schN, nextK o l l' ht h hb]
    have hlen : (l' ++ [nextW o l']).length = l'.length + 1 := by simp
    have := schK o k (l.set l'.length ((nextW o l' : Nat) : Int)) (l' ++ [nextW o l']) (by omega) (by rw [hlen, List.length_set]; omega) (fun j hj => by
      rw [hlen] at hj
      rw [getD_set]
      by_cases e : l'.length = j
      · subst e
        rw [if_pos ⟨rfl, by omega⟩]
        simp
      · rw [if_neg (fun h => e h.1), h j (by omega)]
        congr 1
        simp only [List.getD_eq_getElem?_getD]
        rw [List.getElem?_append_left (by omega)]) (fun x hx => by
      rcases List.mem_append.1 hx with hx | hx
      · exact hb x hx
      · simp at hx; subst hx; exact wordN_ltW _ _) i (by rw [hlen]; omega)
    rw [hlen] at this
    exact this
end Go.Proofs.YtbkaemekcjinaaaDoor
