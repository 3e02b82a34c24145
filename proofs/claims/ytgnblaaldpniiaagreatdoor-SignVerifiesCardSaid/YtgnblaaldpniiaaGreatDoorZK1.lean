/- Small facts for walks over texts and rows of bytes: a list of bytes as a string, rows that the call owns, tests in the walk's own spelling. No program is spoken of.
Rows of bytes in this program: what the call owns, as a string.
The last step of a row whose call leaves a world of which we know that nothing below the old heap's end has changed.
Regions that draw their order, walked once in the order of the text, where the operations read and the callees make memory: the world at hand is any one that has grown out of the first one. A law for a region that stores at its end, too. No program is spoken of.
A whole row loaded in a region that draws its order. No program is spoken of.
Regions that draw their order and end in a store or an append, of which one operation (a move, which looks at no world) may come late: it is taken first, wherever it comes. No program is spoken of.
Regions that draw their order, of which one operation makes a new block (a variable), whenever it comes up: the others read, their callees make memory, the last ones stand in the order of the text. What the new block's number is hangs on the order; what the others yield does not. No program is spoken of. -/
import Derived.WalkKit
import Derived.WalkSpells
import Derived.OwnWalk
import Derived.Laws.AppendOwn
import Derived.Laws.AppendOwnNone
import Derived.Deep.QuietTactic
import Derived.BigQuiet
import Derived.Deep.RegionHeld3
import Derived.Deep.RegionWith
import Derived.Outline
import Derived.Lib.Hide
import Derived.Lib.OthersKept
import Derived.Lib.AppendStr
import Derived.Lib.UnsafeStr
import Derived.Lib.Strings
import Derived.RowKit3
import Derived.Test.YtgnblaaldpniiaaGreatDoorProg
import Derived.Below
import Derived.ChangeSame
import Derived.StillTail
import Derived.Laws.Rows
section
set_option linter.unusedVariables false
set_option maxRecDepth 100000
set_option linter.unusedSimpArgs false
namespace Go.Proofs.YtgnblaaldpniiaaGreatDoor
open Go.RowKit Go.Lib
theorem bool_ret {a b : Bool} (h : a = b) : Ending.returned (.bool a) = .returned (.bool b) := by rw [h]
theorem beq_dec (a b : List UInt8) : (a == b) = decide (a = b) := by
  by_cases h : a = b <;> simp [h]
def S (l : List UInt8) : ByteArray := ⟨l.toArray⟩
theorem S_data (l : List UInt8) : (S l).data.toList = l := rfl
theorem yI {α : Type} (l : List α) (i : Nat) (a : α) : l.toArray.setIfInBounds i a = (l.set i a).toArray := List.setIfInBounds_toArray ..
theorem yC {α : Type} (x : α) (l : List α) (i : Nat) (a : α) : (x :: l).set (i + 1) a = x :: l.set i a := List.set_cons_succ ..
theorem yZ {α : Type} (x : α) (l : List α) (a : α) : (x :: l).set 0 a = a :: l := List.set_cons_zero ..
theorem S_size (l : List UInt8) : (S l).size = l.length := by rw [Lib.size_eq]; rfl
theorem S_append (a b : List UInt8) : S a ++ S b = S (a ++ b) := by
  apply ByteArray.ext
  apply Array.ext'
  show (S a ++ S b).data.toList = _
  rw [ByteArray.data_append]; simp [S]
theorem toList_beq (s : ByteArray) (l : List UInt8) : (s.toList == l) = decide (s.data.toList = l) := by rw [Lib.toList_data, beq_dec]
theorem S_beq (a b : List UInt8) : ((S a).toList == (S b).toList) = decide (a = b) := by
  rw [Lib.toList_data, Lib.toList_data, S_data, S_data, beq_dec]
theorem beq_S_nil (r : List UInt8) (hne : r ≠ []) : ((S r).toList == []) = false := by
  rw [toList_beq, decide_eq_false_iff_not]; exact hne
theorem isEmpty_S (r : List UInt8) (hne : r ≠ []) : (S r).toList.isEmpty = false := by
  rw [Lib.toList_data]; show r.isEmpty = false; cases r <;> simp_all
theorem getD_at (s : ByteArray) (k : Nat) (h : k < s.size) : s.data.toList.getD k 0 = s[k] := by
  rw [List.getD_eq_getElem?_getD, List.getElem?_eq_getElem (by rw [← Lib.size_eq]; exact h)]; rfl
theorem byte_at (s : List UInt8) (k : Nat) (h : k < (S s).size) : (S s)[k] = s.getD k 0 := by
  have := getD_at (S s) k h
  rw [S_data] at this
  exact this.symm
theorem drop_cons (s : List UInt8) (k : Nat) (h : k < (S s).size) : s.drop k = (S s)[k] :: s.drop (k + 1) := by
  have h2 : k < s.length := by rw [← S_size]; exact h
  rw [List.drop_eq_getElem_cons h2, byte_at s k h]; simp [h2]
theorem row_new (w : World) (xs : List Value) (t : TypeId) : ∀ (j : Nat) (u : Value), xs[j]? = some u → (w.alloc (.cells xs.toArray t)).cell? ((⟨w.heap.size, 0, none⟩ : Addr).add j) = some u := by
  intro j u h
  have e : ((⟨w.heap.size, 0, none⟩ : Addr).add j) = ⟨w.heap.size, j, none⟩ := by
    unfold Addr.add; split <;> simp_all
  rw [e, cell_of_row _ w.heap.size j xs.toArray t (0, 0) (heap_alloc_new w _)]
  simpa using h
theorem ownsRow_below {B : Nat} {e : TypeId} {k : Nat} {v : Value} {n : Nat} {xs : List Value} {w w' : World} (h : w.ownsRow B e k v n xs) (hb : Below w.heap.size w w') : w'.ownsRow B e k v n xs := by
  refine ⟨h.1, ?_⟩
  rcases h.2 with hn | ⟨g, cap, cur, hv, hB, hg, rest⟩
  · exact Or.inl hn
  · exact Or.inr ⟨g, cap, cur, hv, hB, (hb.block g (Array.getElem?_eq_some_iff.1 hg).1).trans hg, rest⟩
theorem own_form {w : World} {base : Nat} {e : TypeId} {size : Nat} {v : Value} {n : Nat} {xs : List Value} (h : w.ownsRow base e size v n xs) : ∃ A cap, v = .slice A n cap := by
  rcases h.2 with ⟨rfl, rfl⟩ | ⟨g, cap, cur, rfl, _⟩
  · exact ⟨_, _, rfl⟩
  · exact ⟨_, _, rfl⟩
theorem empty_row (w : World) (B : Nat) (t : TypeId) (hB : B ≤ w.heap.size) : (w.alloc (.cells #[] t)).ownsRow B t 1 (.slice (some ⟨w.heap.size, 0, none⟩) 0 0) 0 [] :=
  ⟨rfl, Or.inr ⟨w.heap.size, 0, #[], rfl, hB, heap_alloc_new w _, by omega, by unfold maxLen; omega, rfl, rfl⟩⟩
end Go.Proofs.YtgnblaaldpniiaaGreatDoor
end
section
set_option maxRecDepth 100000
set_option linter.unusedVariables false
set_option linter.unusedSimpArgs false
namespace Go.Proofs.YtgnblaaldpniiaaGreatDoor
open Go.RowKit Go.Lib
theorem info5 : (Tryz.prog.info? 5).map (fun i => (i.zero, i.size, i.bytes)) = some (some (.int .u8 0), 1, 1) := by kernel_rfl
theorem conv_own {w : World} {B : Nat} {A : Option Addr} {n cap : Nat} {l : List UInt8} (h : w.ownsRow B 5 1 (.slice A n cap) n (byteCells l)) : (convert 37 9 (.slice A n cap)).run Tryz.prog w = .ok (.string (S l)) w := by
  have hl : l.length = n := by have := h.1; rw [byteCells_length] at this; omega
  rcases h.2 with ⟨hv, h0⟩ | ⟨g, cap', cur, hv, _⟩
  · obtain ⟨rfl, rfl, rfl⟩ : A = none ∧ n = 0 ∧ cap = 0 := by injection hv with e1 e2 e3; exact ⟨e1, e2, e3⟩
    have : l = [] := List.eq_nil_of_length_eq_zero hl
    subst this
    rw [run_convert_bytes_string w 37 9 5 none _ _ Tryz.underlying37 Tryz.underlying5 Tryz.underlying9]
    rfl
  · obtain ⟨rfl, rfl⟩ : A = some ⟨g, 0, none⟩ ∧ cap = cap' := by injection hv with e1 e2 e3; exact ⟨e1, e3⟩
    subst hl
    refine run_convert_bytes_back w 37 9 5 _ _ l Tryz.underlying37 Tryz.underlying5 Tryz.underlying9 (fun j hj => ?_)
    refine h.cells (g := g) rfl j _ ?_
    simp [byteCells, hj]
end Go.Proofs.YtgnblaaldpniiaaGreatDoor
end
section
set_option linter.unusedVariables false
set_option maxRecDepth 100000
set_option linter.unusedSimpArgs false
namespace Go.Proofs.YtgnblaaldpniiaaGreatDoor
open Go.RowKit Go.WideShapes Go.ChangeShapes
theorem post_below {H : Type} {enc : TypeId × Value → H} {P : Program} {f : Func} {s : ChangeSpec} {apart fresh handsOn again : Bool} {W W' : World} {args : Array Value} {v : Value} {ds gs : List (DataW H)} {before pa pv : List MemPlace}
    (hW : DataW.Whole enc P f.params.toList s.vars apart W args.toList ds gs before) (hb : Below W.heap.size W W')
    (hres : ∀ (b : Nat) (sp : Nat → Bool) (hd : Bool), DataW.TrodAll enc P W' b sp hd f.resultTypes.toList (v.resultList f.resultTypes.size) (s.fn H (ds ++ gs)).results [])
    (hargs : ∀ sp : Nat → Bool, (∀ p ∈ before, sp p.block = true) → DataW.TrodAll enc P W' 0 sp true f.params.toList args.toList (s.fn H (ds ++ gs)).args pa)
    (hvars : ∀ sp : Nat → Bool, (∀ p ∈ before, sp p.block = true) → DataW.TrodVars enc P W' sp s.vars (s.fn H (ds ++ gs)).vars pv)
    (hps : before = pa ++ pv)
    (hok : ∀ (j : Nat) (t : TypeId) (r : Value), f.resultTypes[j]? = some t → (v.resultList f.resultTypes.size)[j]? = some r → Value.okWide P W' .any 0 t r) :
    s.post enc P f apart fresh handsOn again W args v W' := by
  have hlt : ∀ p ∈ before, p.block < W.heap.size := fun p hp => hW.lt p hp
  have hold : ∀ p ∈ before, (fun b => decide (b < W.heap.size)) p.block = true := fun p hp => by simpa using hlt p hp
  refine ⟨ds, gs, before, [], pa, pv, hW, hres _ _ _, hargs _ hold, hvars _ hold, World.keptBut_mono (fun p hp => ⟨hp, ?_⟩) (hb.frame (· ∈ before)), fun _ => ?_⟩
  · rw [hps, List.mem_append] at hp
    exact Or.inr hp
  · obtain ⟨_, _, _, _, _, hz, hn⟩ := hW
    refine ⟨hok, _, _, ([] ++ pa) ++ pv, ⟨[] ++ pa, pv, trodAll_append (hargs _ (fun _ _ => rfl)) (hres _ _ _), hvars _ (fun _ _ => rfl), rfl, ?_, ?_⟩, ?_⟩
    · intro b off hp
      have hin : MemPlace.cell b off ∈ before := by rw [hps]; simpa using hp
      rw [hb.frozen (hlt _ hin)]
      exact hz b off hin
    · intro ha
      have := hn ha
      rw [hps] at this
      simpa using this
    · intro p hp _
      rw [hps]
      simpa using hp
end Go.Proofs.YtgnblaaldpniiaaGreatDoor
end
section
set_option maxRecDepth 100000
set_option linter.unusedVariables false
set_option linter.unusedSimpArgs false
namespace Go.Proofs.YtgnblaaldpniiaaGreatDoor
open Go.RowKit
structure Kept (p : Prop) : Prop where
  out : p
structure Held (S : World → Prop) where
  w : World
  h : S w
def From (w w' : World) : Prop := Below w.heap.size w w'
theorem From.refl (w : World) : From w w := Below.refl _ _
theorem From.trans {a b c : World} (h : From a b) (k : From b c) : From a c := Below.trans h (Below.mono k h.size)
theorem From.below {a b : World} (h : From a b) : Below a.heap.size a b := h
theorem From.cell {a b : World} (h : From a b) (g o : Nat) (hg : g < a.heap.size) : b.cell? ⟨g, o, none⟩ = a.cell? ⟨g, o, none⟩ := Below.cell (p := ⟨g, o, none⟩) h hg
theorem From.frozen {a b : World} (h : From a b) (g o : Nat) (hg : g < a.heap.size) : b.frozen? ⟨g, o, none⟩ = a.frozen? ⟨g, o, none⟩ := Below.frozen (p := ⟨g, o, none⟩) h hg
theorem From.heap {a b : World} (h : From a b) (g : Nat) (hg : g < a.heap.size) : b.heap[g]? = a.heap[g]? := h.block g hg
theorem From.of_drew {w w' : World} (h : From w.drew w') : Below w.heap.size w w' := ((Below.refl _ w).drew).trans h
section
variable {P : Program} {ops : Array Oper} {md : Region.Mode} {C : World → Prop}
theorem held_call {f : FuncId} {args : Array Value} {w : World} {v : Value} (u : Held (From w)) (h : Calls P f args u.w fun e w' => e = .returned v ∧ Below u.w.heap.size u.w w') :
    Calls P f args u.w fun e w'' => e = .returned v ∧ ∃ u' : Held (From w), w'' = u'.w :=
  h.mono fun _ w' ⟨he, hb⟩ => ⟨he, ⟨w', u.h.trans hb⟩, rfl⟩
instance (w : World) : Nonempty (Held (From w)) := ⟨⟨w, From.refl w⟩⟩
theorem wp_region_from {id : Nat} {Q : Exit → Act → World → Prop} {a : Act} {w : World} {l : List Oper} (hm : P.follows .mixedOrders = true) (hB : Region.lexB .any l.toArray = true)
    (h : wpQuiet P l.toArray (fun w' => ∃ u : Held (From w.drew), w' = u.w) (fun a' => ∀ w', From w.drew w' → Q .normal a' w') l a) : (Code.region id l.toArray true).wp P Q a w := by
  refine wp_region_quiet (C := fun w' => ∃ u : Held (From w.drew), w' = u.w) hm hB ⟨⟨w.drew, From.refl _⟩, rfl⟩ ?_
  have e : (fun a' => ∀ w', (∃ u : Held (From w.drew), w' = u.w) → Q .normal a' w') = (fun a' => ∀ w', From w.drew w' → Q .normal a' w') := by
    funext a'
    refine propext ⟨fun k w' hw => k w' ⟨⟨w', hw⟩, rfl⟩, fun k w' hw => ?_⟩
    obtain ⟨u, rfl⟩ := hw
    exact k _ u.h
  rw [e]
  simpa using h
def wpAnyT (P : Program) (md : Region.Mode) (ops : Array Oper) (C : World → Prop) (n : Nat) (L : Array Bool → Act → Prop) : Nat → Array Bool → Act → Prop
  | 0, listed, a => L listed a
  | f + 1, listed, a => Region.ready md ops listed ≠ [] ∧ ∀ i ∈ Region.ready md ops listed, i < n ∧ qOp P ops C i (wpAnyT P md ops C n L f (listed.setIfInBounds i true)) a
theorem wpAny_of_T {n g : Nat} {L : Array Bool → Act → Prop} {Q : Exit → Act → World → Prop} (hL : ∀ listed a w, C w → L listed a → wpAny P md ops Q g listed a w) :
    ∀ (f : Nat) (listed : Array Bool) (a : Act) (w : World), C w → wpAnyT P md ops C n L f listed a → wpAny P md ops Q (f + g) listed a w
  | 0, _, _, _, hw, h => by rw [Nat.zero_add]; exact hL _ _ _ hw h
  | f + 1, _, _, _, hw, h => by
    rw [Nat.add_right_comm]
    exact ⟨fun h0 => absurd h0 h.1, fun i hi => wpOp_of_qOp hw (fun a' w' hw' => wpAny_of_T hL f _ a' w' hw') (h.2 i hi).2⟩
theorem wpAnyT_first {n i : Nat} {oi : Oper} {v : Value} {L : Array Bool → Act → Prop} (hi : ops[i]? = some oi) (hsel : ∀ (j : Nat) (o : Oper) cs b, ops[j]? = some o → o.op ≠ .select cs b)
    (hs : Region.sinkB md ops n = true) (hc : Region.chainB md ops n = true) (hn : n < ops.size) (hin : i < n)
    (hdone : ∀ listed a, L listed a → ∀ j ∈ Region.ready md ops listed, n ≤ j) :
    ∀ (f : Nat) (listed : Array Bool) (a : Act), HeadInv md ops n listed →
      (∀ j oj, ops[j]? = some oj → j ≠ i → listed.getD j true = false → (∀ e ∈ oj.after, Region.binds md e = true → e.on ≠ i) → oi.apart ops oj = true) →
      i ∈ Region.ready md ops listed → YieldsIn P ops C oi v a →
      wpAnyT P md ops C n L f (listed.setIfInBounds i true) (a.put oi.dst v) → wpAnyT P md ops C n L (f + 1) listed a := by
  intro f
  induction f with
  | zero =>
    intro listed a inv _ hr hy H
    refine ⟨List.ne_nil_of_mem hr, fun j hj => ?_⟩
    have hjn : j < n := by
      apply Classical.byContradiction
      intro hge
      exact tail_waits hs hc hn inv _ i rfl hin (mem_ready.1 hr).1 j (by omega) hj
    refine ⟨hjn, ?_⟩
    by_cases hji : j = i
    · exact hji ▸ hy.qOp hi H
    · exact absurd (hdone _ _ H j (ready_mono hj hji)) (by omega)
  | succ f ih =>
    intro listed a inv hfree hr hy H
    refine ⟨List.ne_nil_of_mem hr, fun j hj => ?_⟩
    have hjn : j < n := by
      apply Classical.byContradiction
      intro hge
      exact tail_waits hs hc hn inv _ i rfl hin (mem_ready.1 hr).1 j (by omega) hj
    refine ⟨hjn, ?_⟩
    by_cases hji : j = i
    · exact hji ▸ hy.qOp hi H
    · obtain ⟨hjun, oj, hoj, hall⟩ := mem_ready.1 hj
      have hnot : ∀ e ∈ oj.after, Region.binds md e = true → e.on ≠ i := by
        intro e he hb heq
        have h1 := hall e he hb
        rw [heq, getD_both (mem_ready.1 hr).1] at h1
        exact Bool.noConfusion h1
      have h2 := qOp_put hoj (hfree j oj hoj hji hjun hnot) (fun cs b => hsel i oi cs b hi) (fun cs b => hsel j oj cs b hoj) hy (H.2 j (ready_mono hj hji)).2
      refine qOp_mono (fun a' h3 => ih (listed.setIfInBounds j true) a' (inv.set hj hjn) (fun k ok hk hki hun hno => hfree k ok hk hki ?_ hno) (ready_mono hr (Ne.symm hji)) h3.1 ?_) h2
      · by_cases hjk : j = k
        · exact hjk ▸ hjun
        · rwa [getD_set_ne true hjk] at hun
      · rw [Array.setIfInBounds_comm _ _ hji]
        exact h3.2
theorem wpAnyT_lex {n g : Nat} {Lq : Act → Prop} (hsel : Region.noSelect ops = true) (hs : Region.sinkB md ops n = true) (hc : Region.chainB md ops n = true) (hn : n < ops.size) :
    ∀ (l : List Oper) (k : Nat) (listed : Array Bool) (a : Act), (∀ j, j < l.length → l[j]? = ops[k + j]?) → k + l.length = n → HeadInv md ops n listed →
    Region.lexHead md ops g l.length k listed = true → wpQuiet P ops C Lq l a →
    wpAnyT P md ops C n (fun listed' a' => Region.seqB md ops g n listed' = true ∧ Lq a') l.length listed a
  | [], k, listed, a, _, hk, _, hB, h => by
    obtain rfl : k = n := by simpa using hk
    exact ⟨by simpa [Region.lexHead] using hB, h⟩
  | o :: l, k, listed, a, hl, hk, inv, hB, h => by
    have h0 : ops[k]? = some o := by simpa using (hl 0 (by simp)).symm
    simp only [List.length_cons, Region.lexHead, Bool.and_eq_true] at hB
    simp only [List.length_cons] at hk
    have hr' : k ∈ Region.ready md ops listed := by simpa using hB.1.1
    have hst : qOp P ops C k (wpQuiet P ops C Lq l) a := by unfold qOp; simp only [h0]; exact h
    obtain ⟨v, hy, hK⟩ := yieldsIn_of_qOp h0 hst
    exact wpAnyT_first h0 (Region.noSelect_spec hsel) hs hc hn (by omega) (fun _ _ hL => seqB_ready hL.1) l.length listed a inv (Region.free_spec h0 hB.1.2) hr' hy
      (wpAnyT_lex hsel hs hc hn l (k + 1) _ _ (fun j hj => by have := hl (j + 1) (by simp; omega); simpa [Nat.add_assoc, Nat.add_comm 1 j] using this) (by omega) (inv.set hr' (by omega)) hB.2 hK)
theorem wp_region_from_tail {id : Nat} {Q : Exit → Act → World → Prop} {a : Act} {w : World} {l : List Oper} (n : Nat) (hm : P.follows .mixedOrders = true) (hB : Region.lexTailB .any l.toArray n = true)
    (h : wpQuiet P l.toArray (fun w' => ∃ u : Held (From w.drew), w' = u.w) (fun a' => ∀ w', From w.drew w' → wpList P l.toArray Q (l.drop n) a' w') (l.take n) a) : (Code.region id l.toArray true).wp P Q a w := by
  simp only [Region.lexTailB, Bool.and_eq_true, decide_eq_true_eq] at hB
  obtain ⟨⟨⟨⟨hsel, hn⟩, hs⟩, hc⟩, hlex⟩ := hB
  have hnl : n < l.length := by simpa using hn
  have htl : (l.take n).length = n := by simp; omega
  have hdl : (l.drop n).length = l.toArray.size - n := by simp
  have inv0 : HeadInv .any l.toArray n (Array.replicate l.toArray.size false) :=
    ⟨by simp, fun j oj _ hl => (by rw [getD_replicate_false] at hl; cases hl), fun t _ ht => getD_in (by simpa using ht) (getD_replicate_false _ _)⟩
  have H := wpAnyT_lex (md := .any) (g := l.toArray.size - n) hsel hs hc hn (l.take n) 0 _ a (fun j hj => by
    rw [htl] at hj
    simp [hj]) (by simpa using htl) inv0 (by rw [htl]; exact hlex) h
  refine wp_region_any hm ?_
  have K := wpAny_of_T (Q := Q) (g := l.toArray.size - n) (fun listed a' w' hw hL => by
    obtain ⟨u, rfl⟩ := hw
    have := wpAny_of_seq (md := .any) (Q' := Q) (l.drop n) n listed a' u.w (fun j => by simp [List.getElem?_drop]) (by rw [hdl]; exact hL.1) (hL.2 _ u.h)
    rwa [hdl] at this) _ _ _ w.drew ⟨⟨w.drew, From.refl _⟩, rfl⟩ H
  rw [htl, show n + (l.toArray.size - n) = l.toArray.size by omega] at K
  exact K
end
end Go.Proofs.YtgnblaaldpniiaaGreatDoor
end
section
set_option maxRecDepth 100000
set_option linter.unusedVariables false
set_option linter.unusedSimpArgs false
namespace Go.Proofs.YtgnblaaldpniiaaGreatDoor
open Go.RowKit
section
variable {P : Program} {ops : Array Oper} {C : World → Prop}
theorem quiet_load_row {K : Act → Prop} {a : Act} {o : Oper} (ty : TypeId) (x : Operand) (ho : o.op = .load ty x) (g : Nat) (hx : a.eval x = .pointer (some ⟨g, 0, none⟩)) (t : TypeId) (cs : Array Value) (d : TypeDesc)
    (hg : ∀ w, C w → ∃ fr, w.heap[g]? = some (.cells cs t fr))
    (hu : P.underlying ty = some d) (hd : (match d with | .struct _ | .array _ _ => true | _ => false) = true) (hi : (P.info? ty).map (·.size) = some cs.size)
    (h : K (a.put o.dst (.agg cs))) : o.quiet P a C K := by
  refine ⟨.agg cs, fun w hw => ?_, h⟩
  obtain ⟨fr, hg⟩ := hg w hw
  unfold Oper.quietAt execOp
  simp only [ho, hx, Instr.loadAt, Instr.sureAddr, Sem.run_bind, Sem.run_pure, Result.andThen_ok, run_loadVar_row w g t ty cs fr d hg hu hd hi]
  exact ⟨rfl, rfl⟩
end
end Go.Proofs.YtgnblaaldpniiaaGreatDoor
end
section
set_option maxRecDepth 100000
set_option linter.unusedVariables false
set_option linter.unusedSimpArgs false
namespace Go.Proofs.YtgnblaaldpniiaaGreatDoor
open Go.RowKit
section
variable {P : Program} {ops : Array Oper} {md : Region.Mode} {C : World → Prop}
def sinkP (md : Region.Mode) (ops : Array Oper) (n : Nat) (pre : List Nat) : Bool :=
  (List.range n).all fun i => pre.contains i || (List.range (n + 1)).any fun j => decide (i < j) && Region.waitsFor md ops j i
theorem tail_waitsP {n : Nat} {pre : List Nat} {listed : Array Bool} (hs : sinkP md ops n pre = true) (hc : Region.chainB md ops n = true) (hn : n < ops.size) (inv : HeadInv md ops n listed)
    (hp : ∀ i ∈ pre, listed.getD i true = true) : ∀ (d i : Nat), n - i = d → i < n → listed.getD i true = false → ∀ t, n ≤ t → t ∉ Region.ready md ops listed := by
  intro d
  induction d using Nat.strongRecOn with
  | _ d ih =>
    intro i hd hi hun t ht hr
    obtain ⟨_, ot, hot, hall⟩ := mem_ready.1 hr
    have htlt : t < ops.size := (Array.getElem?_eq_some_iff.1 hot).1
    have late : ∀ k, n < k → k = t → False := fun k hk e => by
      subst e
      have h1 := List.all_eq_true.1 hc k (List.mem_range.2 htlt)
      simp only [Bool.or_eq_true, decide_eq_true_eq] at h1
      rcases h1 with h1 | h1
      · omega
      · obtain ⟨o', ho', e, he, hb, hon⟩ := Region.waitsFor_spec h1
        obtain rfl : o' = ot := Option.some.inj (ho'.symm.trans hot)
        have h2 := hall e he hb
        rw [hon, getD_both (inv.tail (k - 1) (by omega) (by omega))] at h2
        exact Bool.noConfusion h2
    by_cases htn : t = n
    · subst htn
      have h1 := List.all_eq_true.1 hs i (List.mem_range.2 hi)
      simp only [Bool.or_eq_true, List.contains_iff_mem] at h1
      rcases h1 with h1 | h1
      · rw [hp i h1] at hun; exact Bool.noConfusion hun
      · obtain ⟨j, hj, hj2⟩ := List.any_eq_true.1 h1
        simp only [Bool.and_eq_true, decide_eq_true_eq] at hj2
        obtain ⟨oj, hoj, e, he, hb, hon⟩ := Region.waitsFor_spec hj2.2
        have hjle : j ≤ t := by have := List.mem_range.1 hj; omega
        by_cases hjt : j = t
        · subst hjt
          obtain rfl : oj = ot := Option.some.inj (hoj.symm.trans hot)
          have h2 := hall e he hb
          rw [hon, getD_both hun] at h2
          exact Bool.noConfusion h2
        · cases hl : listed.getD j false with
          | true =>
            have h2 := inv.closed j oj hoj hl e he hb
            rw [hon, getD_both hun] at h2
            exact Bool.noConfusion h2
          | false => exact ih (t - j) (by omega) j rfl (by omega) (getD_in (by rw [inv.size]; omega) hl) t (Nat.le_refl _) hr
    · exact late t (by omega) rfl
theorem wpAnyT_firstP {n i : Nat} {pre : List Nat} {oi : Oper} {v : Value} {L : Array Bool → Act → Prop} (hi : ops[i]? = some oi) (hsel : ∀ (j : Nat) (o : Oper) cs b, ops[j]? = some o → o.op ≠ .select cs b)
    (hs : sinkP md ops n pre = true) (hc : Region.chainB md ops n = true) (hn : n < ops.size) (hin : i < n)
    (hdone : ∀ listed a, L listed a → ∀ j ∈ Region.ready md ops listed, n ≤ j) :
    ∀ (f : Nat) (listed : Array Bool) (a : Act), HeadInv md ops n listed → (∀ i ∈ pre, listed.getD i true = true) →
      (∀ j oj, ops[j]? = some oj → j ≠ i → listed.getD j true = false → (∀ e ∈ oj.after, Region.binds md e = true → e.on ≠ i) → oi.apart ops oj = true) →
      i ∈ Region.ready md ops listed → YieldsIn P ops C oi v a →
      wpAnyT P md ops C n L f (listed.setIfInBounds i true) (a.put oi.dst v) → wpAnyT P md ops C n L (f + 1) listed a := by
  intro f
  induction f with
  | zero =>
    intro listed a inv hp _ hr hy H
    refine ⟨List.ne_nil_of_mem hr, fun j hj => ?_⟩
    have hjn : j < n := by
      apply Classical.byContradiction
      intro hge
      exact tail_waitsP hs hc hn inv hp _ i rfl hin (mem_ready.1 hr).1 j (by omega) hj
    refine ⟨hjn, ?_⟩
    by_cases hji : j = i
    · exact hji ▸ hy.qOp hi H
    · exact absurd (hdone _ _ H j (ready_mono hj hji)) (by omega)
  | succ f ih =>
    intro listed a inv hp hfree hr hy H
    refine ⟨List.ne_nil_of_mem hr, fun j hj => ?_⟩
    have hjn : j < n := by
      apply Classical.byContradiction
      intro hge
      exact tail_waitsP hs hc hn inv hp _ i rfl hin (mem_ready.1 hr).1 j (by omega) hj
    refine ⟨hjn, ?_⟩
    by_cases hji : j = i
    · exact hji ▸ hy.qOp hi H
    · obtain ⟨hjun, oj, hoj, hall⟩ := mem_ready.1 hj
      have hnot : ∀ e ∈ oj.after, Region.binds md e = true → e.on ≠ i := by
        intro e he hb heq
        have h1 := hall e he hb
        rw [heq, getD_both (mem_ready.1 hr).1] at h1
        exact Bool.noConfusion h1
      have h2 := qOp_put hoj (hfree j oj hoj hji hjun hnot) (fun cs b => hsel i oi cs b hi) (fun cs b => hsel j oj cs b hoj) hy (H.2 j (ready_mono hj hji)).2
      refine qOp_mono (fun a' h3 => ih (listed.setIfInBounds j true) a' (inv.set hj hjn) (fun k hk => ?_) (fun k ok hk hki hun hno => hfree k ok hk hki ?_ hno) (ready_mono hr (Ne.symm hji)) h3.1 ?_) h2
      · by_cases hjk : j = k
        · subst hjk
          have := hp j hk
          rw [hjun] at this
          exact Bool.noConfusion this
        · rw [getD_set_ne true hjk]; exact hp k hk
      · by_cases hjk : j = k
        · exact hjk ▸ hjun
        · rwa [getD_set_ne true hjk] at hun
      · rw [Array.setIfInBounds_comm _ _ hji]
        exact h3.2
def ordB (md : Region.Mode) (ops : Array Oper) (g n : Nat) : List Nat → Array Bool → Bool
  | [], listed => Region.seqB md ops g n listed
  | k :: r, listed => decide (k < n) && (Region.ready md ops listed).contains k && Region.free md ops listed k && ordB md ops g n r (listed.setIfInBounds k true)
theorem wpAnyT_ord {n g : Nat} {pre : List Nat} {Lq : Act → Prop} (hsel : Region.noSelect ops = true) (hs : sinkP md ops n pre = true) (hc : Region.chainB md ops n = true) (hn : n < ops.size) :
    ∀ (ord : List Nat) (l : List Oper) (listed : Array Bool) (a : Act), ord.map (ops[·]?) = l.map some → HeadInv md ops n listed → (∀ i ∈ pre, listed.getD i true = true) →
    ordB md ops g n ord listed = true → wpQuiet P ops C Lq l a →
    wpAnyT P md ops C n (fun listed' a' => Region.seqB md ops g n listed' = true ∧ Lq a') l.length listed a
  | [], [], listed, a, _, _, _, hB, h => ⟨by simpa [ordB] using hB, h⟩
  | [], _ :: _, _, _, he, _, _, _, _ => by simp at he
  | _ :: _, [], _, _, he, _, _, _, _ => by simp at he
  | k :: ord, o :: l, listed, a, he, inv, hp, hB, h => by
    simp only [List.map_cons, List.cons.injEq] at he
    obtain ⟨h0, he⟩ := he
    simp only [ordB, Bool.and_eq_true, decide_eq_true_eq] at hB
    obtain ⟨⟨⟨hkn, hr⟩, hf⟩, hB⟩ := hB
    have hr' : k ∈ Region.ready md ops listed := by simpa using hr
    have hst : qOp P ops C k (wpQuiet P ops C Lq l) a := by unfold qOp; simp only [h0]; exact h
    obtain ⟨v, hy, hK⟩ := yieldsIn_of_qOp h0 hst
    have hun := (mem_ready.1 hr').1
    exact wpAnyT_firstP h0 (Region.noSelect_spec hsel) hs hc hn hkn (fun _ _ hL => seqB_ready hL.1) l.length listed a inv hp (Region.free_spec h0 hf) hr' hy
      (wpAnyT_ord hsel hs hc hn ord l _ _ he (inv.set hr' hkn) (fun i hi => by
        by_cases hki : k = i
        · subst hki
          have := hp k hi
          rw [hun] at this
          exact Bool.noConfusion this
        · rw [getD_set_ne true hki]; exact hp i hi) hB hK)
def tailPB (md : Region.Mode) (ops : Array Oper) (n p : Nat) : Bool :=
  Region.noSelect ops && decide (n < ops.size) && decide (p < n) && sinkP md ops n [p] && Region.chainB md ops n && (Region.ready md ops (Array.replicate ops.size false)).contains p &&
  Region.free md ops (Array.replicate ops.size false) p && ordB md ops (ops.size - n) n ((List.range n).eraseIdx p) ((Array.replicate ops.size false).setIfInBounds p true)
theorem wp_region_from_tailP {id : Nat} {Q : Exit → Act → World → Prop} {a : Act} {w : World} {l : List Oper} (n p : Nat) (op : Oper) (x : Operand) (hop : l[p]? = some op) (hmv : op.op = .move x) (hgd : op.guard = none)
    (hm : P.follows .mixedOrders = true) (hB : tailPB .any l.toArray n p = true) (hQ2 : ∀ c a' w, Q (.panic c) (a'.put op.dst (a.eval x)) w → Q (.panic c) a' w)
    (h : wpQuiet P l.toArray (fun w' => ∃ u : Held (From w.drew), w' = u.w) (fun a' => ∀ w', From w.drew w' → wpList P l.toArray Q (l.drop n) a' w') ((l.take n).eraseIdx p) (a.put op.dst (a.eval x))) : (Code.region id l.toArray true).wp P Q a w := by
  simp only [tailPB, Bool.and_eq_true, decide_eq_true_eq] at hB
  obtain ⟨⟨⟨⟨⟨⟨⟨hsel, hn⟩, hpn⟩, hs⟩, hc⟩, hrp⟩, hfp⟩, hord⟩ := hB
  have hnl : n < l.length := by simpa using hn
  have htl : ((l.take n).eraseIdx p).length = n - 1 := by rw [List.length_eraseIdx, if_pos (by simp; omega)]; simp; omega
  have hdl : (l.drop n).length = l.toArray.size - n := by simp
  have hopA : l.toArray[p]? = some op := by simpa using hop
  have hrp' : p ∈ Region.ready .any l.toArray (Array.replicate l.toArray.size false) := by simpa using hrp
  have inv0 : HeadInv .any l.toArray n (Array.replicate l.toArray.size false) :=
    ⟨by simp, fun j oj _ hl => (by rw [getD_replicate_false] at hl; cases hl), fun t _ ht => getD_in (by simpa using ht) (getD_replicate_false _ _)⟩
  have inv1 := inv0.set hrp' hpn
  have hp1 : ∀ i ∈ [p], ((Array.replicate l.toArray.size false).setIfInBounds p true).getD i true = true := by
    intro i hi
    obtain rfl : i = p := by simpa using hi
    have hi2 : i < l.length := by omega
    simp [hi2]
  have hmap : ((List.range n).eraseIdx p).map (l.toArray[·]?) = ((l.take n).eraseIdx p).map some := by
    rw [List.eraseIdx_eq_take_drop_succ, List.eraseIdx_eq_take_drop_succ, List.map_append, List.map_append, List.map_take, List.map_take, List.map_drop, List.map_drop]
    suffices e : (List.range n).map (l.toArray[·]?) = (l.take n).map some by rw [e]
    apply List.ext_getElem?
    intro j
    simp only [List.getElem?_map, List.getElem?_take]
    by_cases hj : j < n
    · rw [List.getElem?_range hj]
      simp [hj, show j < l.length by omega]
    · rw [List.getElem?_eq_none (by simp; omega)]
      simp [hj]
  have H := wpAnyT_ord (md := .any) (g := l.toArray.size - n) hsel hs hc hn _ _ _ _ hmap inv1 hp1 hord h
  refine wp_region_any hm ?_
  have hy : Yields P l.toArray op (a.eval x) a := Or.inl ⟨by simp [Region.wanted, hgd], fun w => by rw [BigFrame.run_move x hmv]⟩
  have hsz : l.toArray.size = (n - 1 + (l.toArray.size - n)) + 1 := by simp; omega
  have K := wpAny_of_T (Q := Q) (g := l.toArray.size - n) (fun listed a' w' hw hL => by
    obtain ⟨u, rfl⟩ := hw
    have := wpAny_of_seq (md := .any) (Q' := Q) (l.drop n) n listed a' u.w (fun j => by simp [List.getElem?_drop]) (by rw [hdl]; exact hL.1) (hL.2 _ u.h)
    rwa [hdl] at this) _ _ _ w.drew ⟨⟨w.drew, From.refl _⟩, rfl⟩ H
  rw [htl] at K
  have K2 := wpAny_take (P := P) (md := .any) (i := p) (v := a.eval x) hopA hsel hfp hrp hQ2 hy K
  rw [← hsz] at K2
  exact K2
end
end Go.Proofs.YtgnblaaldpniiaaGreatDoor
end
section
set_option maxRecDepth 100000
set_option linter.unusedVariables false
set_option linter.unusedSimpArgs false
namespace Go.Proofs.YtgnblaaldpniiaaGreatDoor
open Go.RowKit
section
variable {P : Program} {ops : Array Oper} {md : Region.Mode}
def cls (u : World) : World → Prop := fun w' => ∃ h : Held (From u), w' = h.w
theorem cls.of {u w : World} (h : From u w) : cls u w := ⟨⟨w, h⟩, rfl⟩
theorem cls.from {u w : World} (h : cls u w) : From u w := by obtain ⟨h, rfl⟩ := h; exact h.h
theorem put_same (a : Act) (d : Tmp) (v : Value) (hd : d < a.tmps.size) : (a.put (some d) v).tmps.getD d undef = v := by
  simp [Act.put, hd]
theorem put_else (a : Act) (x : Option Tmp) (d : Tmp) (v : Value) (h : x ≠ some d) : (a.put x v).tmps.getD d undef = a.tmps.getD d undef := by
  cases x with
  | none => rfl
  | some e =>
    have hne : e ≠ d := fun he => h (by rw [he])
    simp [Act.put, hne]
theorem put_size (a : Act) (x : Option Tmp) (v : Value) : (a.put x v).tmps.size = a.tmps.size := by
  cases x with
  | none => rfl
  | some e => simp [Act.put]
def ownB (ops : Array Oper) (n m : Nat) : Bool := (List.range n).all fun i => match ops[i]? with
  | some o => (match o.dst with
    | some d => decide (d < m) && (List.range n).all fun j => i == j || match ops[j]? with
      | some o' => !(o'.dst == some d)
      | none => true
    | none => false)
  | none => false
theorem ownB_spec {n m i : Nat} {o : Oper} (h : ownB ops n m = true) (hi : i < n) (ho : ops[i]? = some o) : ∃ d, o.dst = some d ∧ d < m ∧ ∀ j o', j < n → j ≠ i → ops[j]? = some o' → o'.dst ≠ some d := by
  have h1 := List.all_eq_true.1 h i (List.mem_range.2 hi)
  simp only [ho] at h1
  cases hd : o.dst with
  | none => rw [hd] at h1; simp at h1
  | some d =>
    rw [hd] at h1
    simp only [Bool.and_eq_true, decide_eq_true_eq] at h1
    refine ⟨d, rfl, h1.1, fun j o' hj hne ho' e => ?_⟩
    have h2 := List.all_eq_true.1 h1.2 j (List.mem_range.2 hj)
    simp only [ho', e, Bool.or_eq_true, beq_iff_eq] at h2
    rcases h2 with h2 | h2
    · exact hne h2.symm
    · simp at h2
variable {C : World → Prop}
theorem anyT_keep {n : Nat} {A : Act} {d : Tmp} {S : Array Bool → Prop} : ∀ (f : Nat) (listed : Array Bool) (a : Act), wpAnyT P md ops C n (fun l a' => S l ∧ a' = A) f listed a →
    (∀ j oj, ops[j]? = some oj → listed.getD j true = false → j < n → oj.dst ≠ some d) → A.tmps.getD d undef = a.tmps.getD d undef
  | 0, _, _, h, _ => by rw [h.2]
  | f + 1, listed, a, h, hd => by
    obtain ⟨hne, hall⟩ := h
    obtain ⟨i, hi⟩ := List.exists_mem_of_ne_nil _ hne
    obtain ⟨hin, hq⟩ := hall i hi
    obtain ⟨hun, oi, hoi, _⟩ := mem_ready.1 hi
    obtain ⟨v, _, hK⟩ := yieldsIn_of_qOp hoi hq
    rw [anyT_keep f _ _ hK fun j oj hj hl hjn => hd j oj hj (by
      by_cases e : i = j
      · subst e; exact hun
      · rwa [getD_set_ne true e] at hl) hjn]
    exact put_else a oi.dst d v (hd i oi hoi hun hin)
def Fresh (w0 : World) (ty : TypeId) (Z : Array Value) (x : Nat) (w : World) : Prop := w.heap[x]? = some (.cells Z ty (0, 0)) ∧ w0.heap.size ≤ x
theorem Fresh.from {w0 w w' : World} {ty : TypeId} {Z : Array Value} {x : Nat} (h : Fresh w0 ty Z x w) (hf : From w w') : Fresh w0 ty Z x w' :=
  ⟨(hf.heap x (Array.getElem?_eq_some_iff.1 h.1).1).trans h.1, h.2⟩
theorem anyA {n g p m : Nat} {op : Oper} {ty : TypeId} {Z : Array Value} {Q : Exit → Act → World → Prop} {AF : Nat → Act} {w0 : World}
    (hp : ops[p]? = some op) (hal : op.op = .alloc ty) (hgd : op.guard = none) (hz : ∀ w, (zeroValue ty).run P w = .ok (.agg Z) w)
    (hsel : ∀ (j : Nat) (o : Oper) cs b, ops[j]? = some o → o.op ≠ .select cs b) (hs : sinkP md ops n [] = true) (hc : Region.chainB md ops n = true) (hn : n < ops.size) (hpn : p < n) (how : ownB ops n m = true)
    (hAF : ∀ x d, op.dst ≠ some d → (AF x).tmps.getD d undef = (AF 0).tmps.getD d undef)
    (hT : ∀ x w, From w0 w → Fresh w0 ty Z x w → ∀ listed, Region.seqB md ops g n listed = true → wpAny P md ops Q g listed (AF x) w) :
    ∀ (f : Nat) (listed : Array Bool) (a : Act) (w : World), HeadInv md ops n listed → a.tmps.size = m → p ∈ Region.ready md ops listed →
      (∀ j oj, ops[j]? = some oj → j ≠ p → listed.getD j true = false → (∀ e ∈ oj.after, Region.binds md e = true → e.on ≠ p) → op.apart ops oj = true) → From w0 w →
      (∀ u, From w u → ∀ x, wpAnyT P md ops (cls u) n (fun l a' => Region.seqB md ops g n l = true ∧ a' = AF x) f (listed.setIfInBounds p true) (a.put op.dst (.pointer (some ⟨x, 0, none⟩)))) →
      wpAny P md ops Q (f + 1 + g) listed a w := by
  have halloc : ∀ (f : Nat) (listed : Array Bool) (a : Act) (w : World), From w0 w →
      (∀ u, From w u → ∀ x, wpAnyT P md ops (cls u) n (fun l a' => Region.seqB md ops g n l = true ∧ a' = AF x) f (listed.setIfInBounds p true) (a.put op.dst (.pointer (some ⟨x, 0, none⟩)))) →
      wpOp P ops Q p (wpAny P md ops Q (f + g) (listed.setIfInBounds p true)) a w := by
    intro f listed a w hw H
    unfold wpOp
    simp only [hp]
    have hwt : Region.wanted op (yielded ops a.tmps) = true := by simp [Region.wanted, hgd]
    rw [if_pos hwt]
    refine .inl ?_
    unfold Oper.wp execOp
    simp only [hal, Instr.alloc, Sem.run_bind, hz, newVar, newRow, run_newObj_alloc, Sem.run_pure, Result.andThen_ok]
    show wpAny P md ops Q (f + g) (listed.setIfInBounds p true) (a.put op.dst (.pointer (some ⟨w.heap.size, 0, none⟩))) (w.alloc (.cells Z ty))
    have hfr : From w (w.alloc (.cells Z ty)) := (Below.refl _ _).alloc (Nat.le_refl _) _
    have hF : Fresh w0 ty Z w.heap.size (w.alloc (.cells Z ty)) := ⟨heap_alloc_new w _, hw.size⟩
    refine wpAny_of_T (C := cls (w.alloc (.cells Z ty))) (L := fun l a' => Region.seqB md ops g n l = true ∧ a' = AF w.heap.size) (fun l a' w' hw' hL => ?_) f _ _ _ (cls.of (From.refl _)) (H _ hfr w.heap.size)
    rw [hL.2]
    exact hT _ _ ((hw.trans hfr).trans hw'.from) (hF.from hw'.from) l hL.1
  intro f
  induction f with
  | zero =>
    intro listed a w inv _ hpr _ hw H
    rw [Nat.zero_add, Nat.add_comm]
    refine ⟨fun h0 => absurd h0 (List.ne_nil_of_mem hpr), fun i hi => ?_⟩
    by_cases hip : i = p
    · subst hip
      have := halloc 0 listed a w hw H
      rwa [Nat.zero_add] at this
    · exfalso
      have hL := H w (From.refl w) 0
      have hr2 := ready_mono hi hip
      have hge := seqB_ready hL.1 i hr2
      exact tail_waitsP (pre := []) hs hc hn inv (fun _ h => by simp at h) _ p rfl hpn (mem_ready.1 hpr).1 i hge hi
  | succ f ih =>
    intro listed a w inv ham hpr hfree hw H
    rw [show f + 1 + 1 + g = (f + 1 + g) + 1 by omega]
    refine ⟨fun h0 => absurd h0 (List.ne_nil_of_mem hpr), fun i hi => ?_⟩
    by_cases hip : i = p
    · subst hip
      exact halloc (f + 1) listed a w hw H
    · obtain ⟨hiun, oi, hoi, hall⟩ := mem_ready.1 hi
      have hpun := (mem_ready.1 hpr).1
      have hnot : ∀ e ∈ oi.after, Region.binds md e = true → e.on ≠ p := by
        intro e he hb heq
        have h1 := hall e he hb
        rw [heq, getD_both hpun] at h1
        exact Bool.noConfusion h1
      have hap := Oper.apart_spec (hfree i oi hoi hip hiun hnot)
      have hr2 := ready_mono (md := md) hi hip
      have hin : i < n := ((H w (From.refl w) 0).2 i hr2).1
      obtain ⟨d, hdd, hdm, hdo⟩ := ownB_spec how hin hoi
      -- whatever has grown, it yields the same
      have key : ∀ u, From w u → ∀ x, YieldsIn P ops (cls u) oi ((AF 0).tmps.getD d undef) a ∧
          wpAnyT P md ops (cls u) n (fun l a' => Region.seqB md ops g n l = true ∧ a' = AF x) f ((listed.setIfInBounds i true).setIfInBounds p true) ((a.put oi.dst ((AF 0).tmps.getD d undef)).put op.dst (.pointer (some ⟨x, 0, none⟩))) := by
        intro u hu x
        obtain ⟨v, hy, hK⟩ := yieldsIn_of_qOp hoi ((H u hu x).2 i hr2).2
        have hkeep := anyT_keep (d := d) f _ _ hK (fun j oj hj hl hjn => hdo j oj hjn (fun e => by
          subst e
          rw [Array.getD_eq_getD_getElem?, Array.getElem?_setIfInBounds_self] at hl
          split at hl <;> simp at hl) hj)
        rw [hdd, put_same _ d v (by rw [put_size, ham]; exact hdm)] at hkeep
        have hv : (AF 0).tmps.getD d undef = v := by
          rw [← hkeep]
          exact (hAF x d (fun e => hdo p op hpn (Ne.symm hip) hp e)).symm
        rw [hv]
        refine ⟨hy.of_same (execOp_put oi (fun cs b => hsel i oi cs b hoi) a op.dst _ hap.1).symm (wanted_put oi a op.dst _ hap.1).symm, ?_⟩
        rw [Array.setIfInBounds_comm _ _ hip, Act.put_comm a v (.pointer (some ⟨x, 0, none⟩)) (x := oi.dst) (y := op.dst) (fun e he => by
          intro he2
          exact hap.2.1 e he2 he)]
        exact hK
      refine wpOp_of_qOp (C := cls w) (K := fun a' => a' = a.put oi.dst ((AF 0).tmps.getD d undef)) (cls.of (From.refl w)) (fun a' w' hw' ha' => ?_) ((key w (From.refl w) 0).1.qOp hoi rfl)
      subst ha'
      refine ih _ _ _ (inv.set hi hin) (by rw [put_size]; exact ham) (ready_mono hpr (Ne.symm hip)) (fun j oj hj hjp hl hno => hfree j oj hj hjp ?_ hno) (hw.trans hw'.from) fun u hu x => (key u (hw'.from.trans hu) x).2
      by_cases e : i = j
      · subst e; exact hiun
      · rwa [getD_set_ne true e] at hl
def tailAB (md : Region.Mode) (ops : Array Oper) (n p m : Nat) : Bool :=
  Region.noSelect ops && decide (n < ops.size) && decide (p < n) && sinkP md ops n [] && Region.chainB md ops n && (Region.ready md ops (Array.replicate ops.size false)).contains p &&
  Region.free md ops (Array.replicate ops.size false) p && ordB md ops (ops.size - n) n ((List.range n).eraseIdx p) ((Array.replicate ops.size false).setIfInBounds p true) && ownB ops n m
theorem wp_region_from_alloc {id : Nat} {Q : Exit → Act → World → Prop} {a : Act} {w : World} {l : List Oper} (n p : Nat) (op : Oper) (ty : TypeId) (Z : Array Value) (hop : l[p]? = some op) (hal : op.op = .alloc ty) (hgd : op.guard = none)
    (hz : ∀ w, (zeroValue ty).run P w = .ok (.agg Z) w) (hm : P.follows .mixedOrders = true) (hB : tailAB .any l.toArray n p a.tmps.size = true)
    (H : ∃ AF : Nat → Act, (∀ u, From w.drew u → ∀ x, wpQuiet P l.toArray (fun w' => ∃ h : Held (From u), w' = h.w) (fun a' => a' = AF x) ((l.take n).eraseIdx p) (a.put op.dst (.pointer (some ⟨x, 0, none⟩)))) ∧
      (∀ x, AF x = (AF 0).put op.dst (.pointer (some ⟨x, 0, none⟩))) ∧ (∀ x w', From w.drew w' → Fresh w ty Z x w' → wpList P l.toArray Q (l.drop n) (AF x) w')) : (Code.region id l.toArray true).wp P Q a w := by
  obtain ⟨AF, h, hAF, hT⟩ := H
  simp only [tailAB, Bool.and_eq_true, decide_eq_true_eq] at hB
  obtain ⟨⟨⟨⟨⟨⟨⟨⟨hsel, hn⟩, hpn⟩, hs⟩, hc⟩, hrp⟩, hfp⟩, hord⟩, how⟩ := hB
  have hnl : n < l.length := by simpa using hn
  have htl : ((l.take n).eraseIdx p).length = n - 1 := by rw [List.length_eraseIdx, if_pos (by simp; omega)]; simp; omega
  have hdl : (l.drop n).length = l.toArray.size - n := by simp
  have hopA : l.toArray[p]? = some op := by simpa using hop
  have hrp' : p ∈ Region.ready .any l.toArray (Array.replicate l.toArray.size false) := by simpa using hrp
  have inv0 : HeadInv .any l.toArray n (Array.replicate l.toArray.size false) :=
    ⟨by simp, fun j oj _ hl => (by rw [getD_replicate_false] at hl; cases hl), fun t _ ht => getD_in (by simpa using ht) (getD_replicate_false _ _)⟩
  have inv1 := inv0.set hrp' hpn
  have hmap : ((List.range n).eraseIdx p).map (l.toArray[·]?) = ((l.take n).eraseIdx p).map some := by
    rw [List.eraseIdx_eq_take_drop_succ, List.eraseIdx_eq_take_drop_succ, List.map_append, List.map_append, List.map_take, List.map_take, List.map_drop, List.map_drop]
    suffices e : (List.range n).map (l.toArray[·]?) = (l.take n).map some by rw [e]
    apply List.ext_getElem?
    intro j
    simp only [List.getElem?_map, List.getElem?_take]
    by_cases hj : j < n
    · rw [List.getElem?_range hj]
      simp [hj, show j < l.length by omega]
    · rw [List.getElem?_eq_none (by simp; omega)]
      simp [hj]
  refine wp_region_any hm ?_
  have hsz : l.toArray.size = (n - 1) + 1 + (l.toArray.size - n) := by simp; omega
  have hT2 : ∀ x w', From w.drew w' → Fresh w.drew ty Z x w' → ∀ listed, Region.seqB .any l.toArray (l.toArray.size - n) n listed = true → wpAny P .any l.toArray Q (l.toArray.size - n) listed (AF x) w' := fun x w' hw' hF listed hl => by
    have := wpAny_of_seq (md := .any) (Q' := Q) (l.drop n) n listed (AF x) w' (fun j => by simp [List.getElem?_drop]) (by rw [hdl]; exact hl) (hT x w' hw' hF)
    rwa [hdl] at this
  have K := anyA (g := l.toArray.size - n) (w0 := w.drew) hopA hal hgd hz (Region.noSelect_spec hsel) hs hc hn hpn how (fun x d hd => by rw [hAF x]; exact put_else _ _ _ _ hd) hT2 (n - 1) _ a w.drew inv0 rfl hrp' (Region.free_spec hopA hfp) (From.refl _) fun u hu x => by
    have H := wpAnyT_ord (md := .any) (g := l.toArray.size - n) (pre := []) (C := cls u) (Lq := fun a' => a' = AF x) hsel hs hc hn _ _ _ _ hmap inv1 (fun _ h => by simp at h) hord (h u hu x)
    rw [htl] at H
    exact H
  rw [← hsz] at K
  exact K
end
end Go.Proofs.YtgnblaaldpniiaaGreatDoor
end
