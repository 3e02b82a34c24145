/- The document's sum and the program's: many blocks, what comes out: the numbers are the same. No walk. -/
import Derived.Test.YtbkaemekcjinaaaDoorE5
namespace Go.Proofs.YtbkaemekcjinaaaDoor
open Go.RowKit Go.Lib
theorem byK (x sh : Nat) : byI (x : Int) sh = UInt8.ofNat (x / 2 ^ sh) := by
  unfold byI
  have e : ((x : Int) / 2 ^ sh % 256).toNat = x / 2 ^ sh % 256 := by
    have : (x : Int) / 2 ^ sh % 256 = ((x / 2 ^ sh % 256 : Nat) : Int) := by simp
    rw [this]; rfl
  rw [e]
  apply UInt8.toNat.inj
  simp
theorem outBK (x : Nat) : ∀ (k : Nat) (acc : List UInt8), outB (x : Int) k acc = acc ++ dOutR x k
  | 0, acc => by rw [outB, dOutR, List.append_nil]
  | k + 1, acc => by rw [outB, outBK x k, dOutR, byK, List.append_assoc]; rfl
theorem outSK (o : Bool) : ∀ (l : List Nat) (acc : List UInt8), outS o (l.map (fun x : Nat => (x : Int))) acc = acc ++ dOutL o l
  | [], acc => by rw [List.map_nil, outS, show dOutL o [] = [] from rfl, List.append_nil]
  | x :: r, acc => by
    rw [List.map_cons, outS, outBK, outSK o r, wdI_wd, List.append_assoc]
    rfl
theorem list_of8 (l : List Nat) (h : l.length = 8) : (S8.of l).list = l := by
  obtain ⟨a0, a1, a2, a3, a4, a5, a6, a7, rfl⟩ := eight h
  rfl
theorem blockN_ltW (o : Bool) (ks sl ws : List Nat) : ∀ x ∈ blockN o ks sl ws, x < 2 ^ wd o := by
  unfold blockN
  generalize roundsN o ks (schN o (ks.length - 16) ws) ks.length 0 (S8.of sl) = m
  have e2 : sumN o sl 8 0 m.list = [addN o m.a (sl.getD 0 0), addN o m.b (sl.getD 1 0), addN o m.c (sl.getD 2 0), addN o m.d (sl.getD 3 0), addN o m.e (sl.getD 4 0), addN o m.f (sl.getD 5 0), addN o m.g (sl.getD 6 0), addN o m.h (sl.getD 7 0)] := rfl
  rw [e2]
  intro x hx
  simp only [List.mem_cons, List.not_mem_nil, or_false] at hx
  rcases hx with rfl | rfl | rfl | rfl | rfl | rfl | rfl | rfl <;> exact addN_ltW ..
theorem okW_of (o : Bool) (l : List Nat) (h : ∀ x ∈ l, x < 2 ^ wd o) : (S8.of l).okW o := by
  have g := fun i => getD_lt h (Nat.two_pow_pos _) i
  exact ⟨g 0, g 1, g 2, g 3, g 4, g 5, g 6, g 7⟩
theorem int_list (s : S8) : s.int.list = s.list.map (fun x : Nat => (x : Int)) := rfl
theorem putB_get : ∀ (p bl : List UInt8) (f t : Nat), f + p.length ≤ bl.length → (putB bl f p).getD t 0 = if f ≤ t ∧ t < f + p.length then p.getD (t - f) 0 else bl.getD t 0
  | [], bl, f, t, _ => by rw [putB, if_neg (by simp)]
  | b :: p, bl, f, t, h => by
    simp only [List.length_cons] at h
    rw [putB, putB_get p (bl.set f b) (f + 1) t (by rw [List.length_set]; omega)]
    simp only [List.length_cons]
    by_cases e : t = f
    · subst e
      rw [if_neg (by omega), if_pos (by omega), Nat.sub_self]
      simp [List.getD_eq_getElem?_getD, show t < bl.length by omega]
    · by_cases h1 : f + 1 ≤ t ∧ t < f + 1 + p.length
      · rw [if_pos h1, if_pos (by omega), show t - f = (t - (f + 1)) + 1 by omega, List.getD_cons_succ]
      · rw [if_neg h1, if_neg (by omega)]
        simp only [List.getD_eq_getElem?_getD]
        rw [List.getElem?_set_ne (by omega)]
theorem feedK (o : Bool) (ks : List Nat) (hk : ks.length = rnds o) (hkc : ∀ t, t < rnds o → kcI o t = ((ks.getD t 0 : Nat) : Int)) (p : List UInt8) :
    ∀ (T I : Nat) (sl : List Nat) (bl : List UInt8), sl.length = 8 → (∀ x ∈ sl, x < 2 ^ wd o) → bl.length = 128 → I + room o * T ≤ p.length →
    (feed o ⟨sl.map (fun x : Nat => (x : Int)), bl, 0⟩ ((p.drop I).take (room o * T))).st = (blocksL o ks p T I sl).map (fun x : Nat => (x : Int))
  | 0, I, sl, bl, _, _, _, _ => by rw [Nat.mul_zero, List.take_zero, feed_nil, blocksL]
  | T + 1, I, sl, bl, h8, hb, hbl, hp => by
    have hm : room o * (T + 1) = room o + room o * T := by rw [Nat.mul_succ, Nat.add_comm]
    have hr := room_le o
    have hr0 := room_pos o
    have hq : ((p.drop I).take (room o)).length = room o := by rw [List.length_take, List.length_drop]; omega
    have hw : 2 * wd o = room o := by cases o <;> rfl
    have hff := feed_full o ((p.drop I).take (room o)) ⟨sl.map (fun x : Nat => (x : Int)), bl, 0⟩ (by intro e; rw [e] at hq; simp at hq; omega) (by show 0 + _ = _; rw [hq]; omega)
    rw [hm, List.take_add, feed_append, hff]
    have hs := list_of8 sl h8
    have hblk := blockK o ks hk hkc (S8.of sl) (okW_of o sl hb) (putB bl 0 ((p.drop I).take (room o))) p I (by rw [putB_length]; omega) (fun t ht => by
      rw [putB_get _ _ _ _ (by rw [hq]; omega), if_pos ⟨Nat.zero_le _, by rw [hq]; omega⟩, Nat.sub_zero]
      simp only [List.getD_eq_getElem?_getD]
      rw [List.getElem?_take, if_pos ht, List.getElem?_drop])
    rw [int_list, hs] at hblk
    dsimp only
    rw [hblk, List.drop_drop, blocksL, hw]
    exact feedK o ks hk hkc p T (I + room o) _ _ (blockN_len _ _ _ _) (blockN_ltW _ _ _ _) (by rw [putB_length]; exact hbl) (by omega)
end Go.Proofs.YtbkaemekcjinaaaDoor
