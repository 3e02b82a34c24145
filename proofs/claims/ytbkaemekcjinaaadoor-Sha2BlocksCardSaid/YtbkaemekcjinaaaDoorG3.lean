/- Walks of the document's answer for package sha2: a kind's constants. -/
import Derived.Test.YtbkaemekcjinaaaDoorG1
import Derived.Test.YtbkaemekcjinaaaDoorH3
import Derived.Deep.RegionLawGrows
import Derived.Deep.RegionHeldLaw
import Derived.Test.YtbkaemekcjinaaaDoorH2
namespace Go.Proofs.YtbkaemekcjinaaaDoor
open Go.RowKit Go.Lib
theorem plN_prefix : ∀ (k n : Nat), ∃ t, plN (n + k) = plN n ++ t
  | 0, n => ⟨[], by simp⟩
  | k + 1, n => by
    obtain ⟨t, ht⟩ := plN_prefix k n
    rw [← Nat.add_assoc, plN, ht]
    split
    · exact ⟨t ++ [n + k], by rw [List.append_assoc]⟩
    · exact ⟨t, rfl⟩
theorem plN_same (N : Nat) : ∀ n, n ≤ N → (plN n).length = (plN N).length → plN n = plN N := by
  intro n hn h
  obtain ⟨t, ht⟩ := plN_prefix (N - n) n
  rw [show n + (N - n) = N by omega] at ht
  rw [ht, List.length_append] at h
  rw [ht, List.eq_nil_of_length_eq_zero (show t.length = 0 by omega), List.append_nil]
def constR (o : Bool) (p n : Nat) : Nat := rootN n p / 2 ^ (64 - wd o)
def constK (o : Bool) (ps : List Nat) : List Nat := ps.map (constR o 3)
def constH (o : Bool) (ps : List Nat) : List Nat := (ps.take 8).map (constR o 2)
theorem ownBlock_slice (g n c : Nat) : (Value.slice (some ⟨g, 0, none⟩) n c).ownBlock = some g := rfl
theorem own_other {w w' : World} {B : Nat} {e : TypeId} {v u : Value} {n : Nat} {xs : List Value} (h : w.ownsRow B e 1 v n xs) (hg : w.grownBy w' u.ownBlock) (hne : v.ownBlock = none ∨ u.ownBlock = none ∨ v.ownBlock ≠ u.ownBlock) : w'.ownsRow B e 1 v n xs := by
  refine ⟨h.1, ?_⟩
  rcases h.2 with hn | ⟨g, cap, cur, rfl, hB, hgg, rest⟩
  · exact Or.inl hn
  · refine Or.inr ⟨g, cap, cur, rfl, hB, (hg.block g (Array.getElem?_eq_some_iff.1 hgg).1 ?_).trans hgg, rest⟩
    rcases hne with h | h | h
    · cases h
    · rw [h]; intro e; cases e
    · exact h
theorem step_app2 {P : Program} {ops : Array Oper} {o : Oper} {a : Act} {w : World} {K : Act → World → Prop} {Q : Exit → Act → World → Prop} {E : Prop} (hgd : o.guard = none) (s x : Operand) (t : TypeId)
    (ho : o.op = .call { callee := .builtin .append, args := #[s, x], argTypes := #[t, t] })
    (base : Nat) (e : TypeId) (i : TypeInfo) (z : Value) (bytes : Nat) (ht : P.underlying t = some (.slice e)) (hi : P.info? e = some i) (hz : i.zero = some z)
    (hsize : i.size = 1) (hby : i.bytes = bytes) (hzs : z.cells.size = 1)
    (v : Value) (n : Nat) (xs : List Value) (hs : a.eval s = v) (hown : w.ownsRow base e 1 v n xs)
    (ad : Addr) (m c : Nat) (news : List Value) (hx : a.eval x = .slice (some ad) m c) (hl : news.length = m * 1) (hm : 0 < m) (hnews : ∀ j u, news[j]? = some u → w.cell? (ad.add j) = some u) (h1 : ∀ u ∈ news, u.oneCell' = true)
    (h63 : n + m ≤ maxLen) (hbytes : (n + m) * bytes ≤ 140737488355328) (hbase : base ≤ w.heap.size)
    (h : ∀ g cap w', w'.ownsRow base e 1 (.slice (some ⟨g, 0, none⟩) (n + m) cap) (n + m) (xs ++ news) → w.grownBy w' v.ownBlock → w'.ownsRow base e 1 v n xs → (v.ownBlock = some g ∨ w.heap.size ≤ g) → K (a.put o.dst (.slice (some ⟨g, 0, none⟩) (n + m) cap)) w') :
    if Region.wanted o (yielded ops a.tmps) = true then Oper.wp P o a w K Q else E := by
  rcases hown.2 with ⟨rfl, rfl⟩ | ⟨g0, cap0, cur, rfl, hB, hg0, _⟩
  · have hxs : xs = [] := List.eq_nil_of_length_eq_zero (by have := hown.1; simpa using this)
    subst hxs
    refine step_append_grows hgd s x t ho e i z 1 bytes ht hi hz hsize hby hzs (by omega) none 0 0 [] hs (fun _ => ⟨rfl, rfl⟩) rfl (fun b hb => by cases hb) ad m c news hx hl hnews h1 (by omega) h63 hbytes fun v' w' h2 h3 => ?_
    obtain ⟨g, cap, rfl, hg, _⟩ := own_pos h2 (by omega)
    exact h g cap w' (ownsRow_mono h2 hbase) h3 (World.ownsRow_nil _ _ _ _) (Or.inr hg)
  · by_cases hr : n + m ≤ cap0
    · exact step_fits hgd s x t ho base e i 1 ht hi hsize g0 n cap0 xs hs hown ad m c news hx hl hnews h1 hr fun w' h2 h3 => h g0 cap0 w' h2 h3 (ownsRow_less h2 hown.1) (Or.inl rfl)
    · refine step_append_grows hgd s x t ho e i z 1 bytes ht hi hz hsize hby hzs (by omega) (some ⟨g0, 0, none⟩) n cap0 xs hs (fun e => by cases e) hown.1 (fun b hb j u hj => by injection hb with hb; subst hb; exact hown.cells rfl j u hj) ad m c news hx hl hnews h1 (by omega) h63 hbytes fun v' w' h2 h3 => ?_
      obtain ⟨g, cap, rfl, hg, _⟩ := own_pos h2 (by omega)
      exact h g cap w' (ownsRow_mono h2 hbase) (grownBy_more h3) (own_other hown (u := .slice none 0 0) h3 (Or.inr (Or.inl rfl))) (Or.inr hg)
/-- What 'Of' has gathered: the primes stand, both rows are owned, apart from one another. -/
structure OS (w : World) (gp : Nat) (ps : List Nat) (vK vH : Value) (nK nH : Nat) (xK xH : List Value) (w' : World) : Prop where
  below : Below w.heap.size w w'
  primes : ∀ j, (h : j < ps.length) → w'.cell? ⟨gp, j, none⟩ = some (.int .i64 (ps[j] : Nat))
  gpl : gp < w'.heap.size
  gpb : w.heap.size + 2 ≤ gp
  big : w.heap.size + 2 ≤ w'.heap.size
  ownK : w'.ownsRow (w.heap.size + 2) 44 1 vK nK xK
  ownH : w'.ownsRow (w.heap.size + 2) 44 1 vH nH xH
  neK : vK.ownBlock ≠ some gp
  neH : vH.ownBlock ≠ some gp
  ne : vK.ownBlock = none ∨ vH.ownBlock = none ∨ vK.ownBlock ≠ vH.ownBlock
  res : ∃ R : Array Value, R.size = 15 ∧ w'.heap[w.heap.size]? = some (.cells R 42 (0, 0))
theorem OS.step {w w1 w2 : World} {gp : Nat} {ps : List Nat} {vK vH : Value} {nK nH : Nat} {xK xH : List Value} (h : OS w gp ps vK vH nK nH xK xH w1) (hb : Below w1.heap.size w1 w2) : OS w gp ps vK vH nK nH xK xH w2 :=
  ⟨h.below.trans (hb.mono (by have := h.big; omega)), fun j hj => (hb.cell (p := ⟨gp, j, none⟩) h.gpl).trans (h.primes j hj), Nat.lt_of_lt_of_le h.gpl hb.size, h.gpb, Nat.le_trans h.big hb.size, ownsRow_below h.ownK hb, ownsRow_below h.ownH hb, h.neK, h.neH, h.ne, by obtain ⟨R, hR, hr⟩ := h.res; exact ⟨R, hR, (hb.block _ (by have := h.big; omega)).trans hr⟩⟩
theorem own_setCell {w : World} {B b j : Nat} {e : TypeId} {v u : Value} {n : Nat} {xs : List Value} (h : w.ownsRow B e 1 v n xs) (hb : b < B) : (w.setCell ⟨b, j, none⟩ u).ownsRow B e 1 v n xs := ownsRow_setCell_below h hb u
theorem OS.set {w w1 : World} {gp : Nat} {ps : List Nat} {vK vH : Value} {nK nH : Nat} {xK xH : List Value} (h : OS w gp ps vK vH nK nH xK xH w1) (j : Nat) (u : Value) : OS w gp ps vK vH nK nH xK xH (w1.setCell ⟨w.heap.size + 1, j, none⟩ u) :=
  have hz : (w1.setCell ⟨w.heap.size + 1, j, none⟩ u).heap.size = w1.heap.size := by simp [World.setCell]
  ⟨h.below.setCell (by show w.heap.size ≤ w.heap.size + 1; omega) u, fun k hk => (World.cell?_of_block (w := w1) (heap_setCell_other w1 ⟨w.heap.size + 1, j, none⟩ gp u (by have := h.gpb; show gp ≠ w.heap.size + 1; omega))).trans (h.primes k hk), by rw [hz]; exact h.gpl, h.gpb, by rw [hz]; exact h.big, own_setCell h.ownK (by omega), own_setCell h.ownH (by omega), h.neK, h.neH, h.ne, by obtain ⟨R, hR, hr⟩ := h.res; exact ⟨R, hR, (heap_setCell_other w1 ⟨w.heap.size + 1, j, none⟩ w.heap.size u (by show w.heap.size ≠ w.heap.size + 1; omega)).trans hr⟩⟩
theorem OS.grow {w w1 w2 : World} {gp : Nat} {ps : List Nat} {vK vH v : Value} {nK nH : Nat} {xK xH : List Value} (h : OS w gp ps vK vH nK nH xK xH w1) (hg : w1.grownBy w2 v.ownBlock) (hv : v.ownBlock ≠ some gp) (hbl : ∀ k, v.ownBlock = some k → w.heap.size + 2 ≤ k) (oK : w2.ownsRow (w.heap.size + 2) 44 1 vK nK xK) (oH : w2.ownsRow (w.heap.size + 2) 44 1 vH nH xH) : OS w gp ps vK vH nK nH xK xH w2 :=
  ⟨h.below.grown hg (by have := h.big; omega) (fun k hk => by have := hbl k hk; omega), fun j hj => (World.cell?_of_block (w := w1) (hg.block gp h.gpl (fun e => hv e.symm))).trans (h.primes j hj), Nat.lt_of_lt_of_le h.gpl hg.size, h.gpb, Nat.le_trans h.big hg.size, oK, oH, h.neK, h.neH, h.ne, by obtain ⟨R, hR, hr⟩ := h.res; exact ⟨R, hR, (hg.block _ (by have := h.big; omega) (fun e => by have := hbl _ e.symm; omega)).trans hr⟩⟩
theorem OS.swap {w w1 : World} {gp : Nat} {ps : List Nat} {vK vH : Value} {nK nH : Nat} {xK xH : List Value} (h : OS w gp ps vK vH nK nH xK xH w1) : OS w gp ps vH vK nH nK xH xK w1 :=
  ⟨h.below, h.primes, h.gpl, h.gpb, h.big, h.ownH, h.ownK, h.neH, h.neK, h.ne.elim (fun e => Or.inr (Or.inl e)) (fun e => e.elim (fun e => Or.inl e) (fun e => Or.inr (Or.inr (Ne.symm e)))), h.res⟩
theorem own_blk {w : World} {B : Nat} {e : TypeId} {v : Value} {n : Nat} {xs : List Value} (h : w.ownsRow B e 1 v n xs) : ∀ k, v.ownBlock = some k → B ≤ k ∧ k < w.heap.size := by
  intro k hk
  rcases h.2 with ⟨rfl, _⟩ | ⟨g, cap, cur, rfl, hB, hg, _⟩
  · cases hk
  · obtain rfl : g = k := by injection hk
    exact ⟨hB, (Array.getElem?_eq_some_iff.1 hg).1⟩
abbrev SE (w : World) (gp : Nat) (ps : List Nat) (vK vH : Value) (nK nH : Nat) (xK xH : List Value) (i p : Nat) (W : Int) (w' : World) : Prop :=
  w'.cell? ⟨gp, i, none⟩ = some (.int .i64 (p : Nat)) ∧ w'.cell? ⟨w.heap.size + 1, 0, none⟩ = some (.int .i64 W) ∧ Hid (OS w gp ps vK vH nK nH xK xH w')
theorem SE.step {w w1 w2 : World} {gp : Nat} {ps : List Nat} {vK vH : Value} {nK nH : Nat} {xK xH : List Value} {i p : Nat} {W : Int} (h : SE w gp ps vK vH nK nH xK xH i p W w1) (hb : Below w1.heap.size w1 w2) : SE w gp ps vK vH nK nH xK xH i p W w2 :=
  ⟨(hb.cell (p := ⟨gp, i, none⟩) h.2.2.out.gpl).trans h.1, (hb.cell (p := ⟨w.heap.size + 1, 0, none⟩) (by have := h.2.2.out.big; show w.heap.size + 1 < _; omega)).trans h.2.1, h.2.2.out.step hb⟩
theorem SE.own {w w1 : World} {gp : Nat} {ps : List Nat} {vK vH : Value} {nK nH : Nat} {xK xH : List Value} {i p : Nat} {W : Int} (h : SE w gp ps vK vH nK nH xK xH i p W w1) : w1.ownsRow (w.heap.size + 2) 44 1 vK nK xK := h.2.2.out.ownK
theorem SE.big {w w1 : World} {gp : Nat} {ps : List Nat} {vK vH : Value} {nK nH : Nat} {xK xH : List Value} {i p : Nat} {W : Int} (h : SE w gp ps vK vH nK nH xK xH i p W w1) : w.heap.size + 2 ≤ w1.heap.size := h.2.2.out.big
theorem SE.app {w w1 w2 : World} {gp : Nat} {ps : List Nat} {vK vH : Value} {nK nH : Nat} {xK xH : List Value} {i p : Nat} {W : Int} (h : SE w gp ps vK vH nK nH xK xH i p W w1) (hg : w1.grownBy w2 vK.ownBlock) (ho : w2.ownsRow (w.heap.size + 2) 44 1 vK nK xK) : SE w gp ps vK vH nK nH xK xH i p W w2 := by
  have hs := h.2.2.out
  have hbl := own_blk hs.ownK
  refine ⟨(World.cell?_of_block (w := w1) (hg.block gp hs.gpl (fun e => hs.neK e.symm))).trans h.1, (World.cell?_of_block (w := w1) (hg.block (w.heap.size + 1) (by have := hs.big; omega) (fun e => by have := (hbl _ e.symm).1; omega))).trans h.2.1, hs.grow hg hs.neK (fun k hk => (hbl k hk).1) ho (own_other hs.ownH hg ?_)⟩
  rcases hs.ne with e | e | e
  · exact Or.inr (Or.inl e)
  · exact Or.inl e
  · exact Or.inr (Or.inr (Ne.symm e))
theorem SE.set {w w1 : World} {gp : Nat} {ps : List Nat} {vK vH : Value} {nK nH : Nat} {xK xH : List Value} {i p j : Nat} {W : Int} {u : Value} {T : TypeId} {cs : Array Value} (h : SE w gp ps vK vH nK nH xK xH i p W w1) (hh : w1.heap[w.heap.size + 1]? = some (.cells cs T (0, 0))) (hj : j ≠ 0) : SE w gp ps vK vH nK nH xK xH i p W (w1.setCell ⟨w.heap.size + 1, j, none⟩ u) := by
  have hs := h.2.2.out
  refine ⟨(World.cell?_of_block (w := w1) (heap_setCell_other w1 ⟨w.heap.size + 1, j, none⟩ gp u (by have := hs.gpb; show gp ≠ w.heap.size + 1; omega))).trans h.1, ?_, hs.set j u⟩
  have h1 := heap_setCell_same w1 (w.heap.size + 1) j cs T u hh
  rw [cell_of_row _ _ 0 _ _ _ h1, Array.getElem?_setIfInBounds_ne hj, ← cell_of_row w1 _ 0 _ _ _ hh]
  exact h.2.1
theorem SE.lies {w w1 : World} {gp g2 : Nat} {ps : List Nat} {vK vH : Value} {nK nH : Nat} {xK xH : List Value} {i p : Nat} {W : Int} (h : SE w gp ps vK vH nK nH xK xH i p W w1) (hl : vK.ownBlock = some g2 ∨ w1.heap.size ≤ g2) : g2 ≠ gp ∧ vH.ownBlock ≠ some g2 := by
  have hs := h.2.2.out
  rcases hl with e | e
  · refine ⟨fun hh => hs.neK (by rw [e, hh]), ?_⟩
    rcases hs.ne with e1 | e1 | e1
    · rw [e1] at e; cases e
    · rw [e1]; intro hh; cases hh
    · rw [← e]; exact Ne.symm e1
  · refine ⟨fun hh => by have := hs.gpl; omega, fun hh => ?_⟩
    have := (own_blk hs.ownH _ hh).2
    omega
end Go.Proofs.YtbkaemekcjinaaaDoor
