/- Regions that draw their order and end in a store or an append, of which one operation (a move, which looks at no world) may come late: it is taken first, wherever it comes. No program is spoken of. -/
import Derived.Test.YthlkpdfdbdfbjaaSway
namespace Go.Proofs.Ythlkpdfdbdfbjaa
open Go.RowKit
section
variable {P : Program} {ops : Array Oper} {md : Region.Mode} {C : World → Prop}
/-- For each of the first n operations but those of pre there is one behind it, up to number n, that waits for it. -/
def sinkP (md : Region.Mode) (ops : Array Oper) (n : Nat) (pre : List Nat) : Bool :=
  (List.range n).all fun i => pre.contains i || (List.range (n + 1)).any fun j => decide (i < j) && Region.waitsFor md ops j i
theorem tail_waitsP {n : Nat} {pre : List Nat} {listed : Array Bool} (hs : sinkP md ops n pre = true) (hc : Region.chainB md ops n = true) (hn : n < ops.size) (inv : HeadInv md ops n listed)
    (hp : ∀ i ∈ pre, listed.getD i true = true) : ∀ (d i : Nat), n - i = d → i < n → listed.getD i true = false → ∀ t, n ≤ t → t ∉ Region.ready md ops listed := by
  intro d
  induction d using Nat.strongRecOn with
  | _ d ih =>
    intro i hd hi hun t ht hr
    obtain ⟨_, ot, hot, hall⟩ := mem_ready.1 hr
    have htlt : t < ops.size := (Array.getElem?_eq_some_iff.1 hot).1
    have late : ∀ k, n < k → k = t → False := fun k hk e => by
      subst e
      have h1 := List.all_eq_true.1 hc k (List.mem_range.2 htlt)
      simp only [Bool.or_eq_true, decide_eq_true_eq] at h1
      rcases h1 with h1 | h1
      · omega
      · obtain ⟨o', ho', e, he, hb, hon⟩ := Region.waitsFor_spec h1
        obtain rfl : o' = ot := Option.some.inj (ho'.symm.trans hot)
        have h2 := hall e he hb
        rw [hon, getD_both (inv.tail (k - 1) (by omega) (by omega))] at h2
        exact Bool.noConfusion h2
    by_cases htn : t = n
    · subst htn
      have h1 := List.all_eq_true.1 hs i (List.mem_range.2 hi)
      simp only [Bool.or_eq_true, List.contains_iff_mem] at h1
      rcases h1 with h1 | h1
      · rw [hp i h1] at hun; exact Bool.noConfusion hun
      · obtain ⟨j, hj, hj2⟩ := List.any_eq_true.1 h1
        simp only [Bool.and_eq_true, decide_eq_true_eq] at hj2
        obtain ⟨oj, hoj, e, he, hb, hon⟩ := Region.waitsFor_spec hj2.2
        have hjle : j ≤ t := by have := List.mem_range.1 hj; omega
        by_cases hjt : j = t
        · subst hjt
          obtain rfl : oj = ot := Option.some.inj (hoj.symm.trans hot)
          have h2 := hall e he hb
          rw [hon, getD_both hun] at h2
          exact Bool.noConfusion h2
        · cases hl : listed.getD j false with
          | true =>
            have h2 := inv.closed j oj hoj hl e he hb
            rw [hon, getD_both hun] at h2
            exact Bool.noConfusion h2
          | false => exact ih (t - j) (by omega) j rfl (by omega) (getD_in (by rw [inv.size]; omega) hl) t (Nat.le_refl _) hr
    · exact late t (by omega) rfl
theorem wpAnyT_firstP {n i : Nat} {pre : List Nat} {oi : Oper} {v : Value} {L : Array Bool → Act → Prop} (hi : ops[i]? = some oi) (hsel : ∀ (j : Nat) (o : Oper) cs b, ops[j]? = some o → o.op ≠ .select cs b)
    (hs : sinkP md ops n pre = true) (hc : Region.chainB md ops n = true) (hn : n < ops.size) (hin : i < n)
    (hdone : ∀ listed a, L listed a → ∀ j ∈ Region.ready md ops listed, n ≤ j) :
    ∀ (f : Nat) (listed : Array Bool) (a : Act), HeadInv md ops n listed → (∀ i ∈ pre, listed.getD i true = true) →
      (∀ j oj, ops[j]? = some oj → j ≠ i → listed.getD j true = false → (∀ e ∈ oj.after, Region.binds md e = true → e.on ≠ i) → oi.apart ops oj = true) →
      i ∈ Region.ready md ops listed → YieldsIn P ops C oi v a →
      wpAnyT P md ops C n L f (listed.setIfInBounds i true) (a.put oi.dst v) → wpAnyT P md ops C n L (f + 1) listed a := by
  intro f
  induction f with
  | zero =>
    intro listed a inv hp _ hr hy H
    refine ⟨List.ne_nil_of_mem hr, fun j hj => ?_⟩
    have hjn : j < n := by
      apply Classical.byContradiction
      intro hge
      exact tail_waitsP hs hc hn inv hp _ i rfl hin (mem_ready.1 hr).1 j (by omega) hj
    refine ⟨hjn, ?_⟩
    by_cases hji : j = i
    · exact hji ▸ hy.qOp hi H
    · exact absurd (hdone _ _ H j (ready_mono hj hji)) (by omega)
  | succ f ih =>
    intro listed a inv hp hfree hr hy H
    refine ⟨List.ne_nil_of_mem hr, fun j hj => ?_⟩
    have hjn : j < n := by
      apply Classical.byContradiction
      intro hge
      exact tail_waitsP hs hc hn inv hp _ i rfl hin (mem_ready.1 hr).1 j (by omega) hj
    refine ⟨hjn, ?_⟩
    by_cases hji : j = i
    · exact hji ▸ hy.qOp hi H
    · obtain ⟨hjun, oj, hoj, hall⟩ := mem_ready.1 hj
      have hnot : ∀ e ∈ oj.after, Region.binds md e = true → e.on ≠ i := by
        intro e he hb heq
        have h1 := hall e he hb
        rw [heq, getD_both (mem_ready.1 hr).1] at h1
        exact Bool.noConfusion h1
      have h2 := qOp_put hoj (hfree j oj hoj hji hjun hnot) (fun cs b => hsel i oi cs b hi) (fun cs b => hsel j oj cs b hoj) hy (H.2 j (ready_mono hj hji)).2
      refine qOp_mono (fun a' h3 => ih (listed.setIfInBounds j true) a' (inv.set hj hjn) (fun k hk => ?_) (fun k ok hk hki hun hno => hfree k ok hk hki ?_ hno) (ready_mono hr (Ne.symm hji)) h3.1 ?_) h2
      · by_cases hjk : j = k
        · subst hjk
          have := hp j hk
          rw [hjun] at this
          exact Bool.noConfusion this
        · rw [getD_set_ne true hjk]; exact hp k hk
      · by_cases hjk : j = k
        · exact hjk ▸ hjun
        · rwa [getD_set_ne true hjk] at hun
      · rw [Array.setIfInBounds_comm _ _ hji]
        exact h3.2
/-- In this order the numbers may come up, each free. -/
def ordB (md : Region.Mode) (ops : Array Oper) (g n : Nat) : List Nat → Array Bool → Bool
  | [], listed => Region.seqB md ops g n listed
  | k :: r, listed => decide (k < n) && (Region.ready md ops listed).contains k && Region.free md ops listed k && ordB md ops g n r (listed.setIfInBounds k true)
theorem wpAnyT_ord {n g : Nat} {pre : List Nat} {Lq : Act → Prop} (hsel : Region.noSelect ops = true) (hs : sinkP md ops n pre = true) (hc : Region.chainB md ops n = true) (hn : n < ops.size) :
    ∀ (ord : List Nat) (l : List Oper) (listed : Array Bool) (a : Act), ord.map (ops[·]?) = l.map some → HeadInv md ops n listed → (∀ i ∈ pre, listed.getD i true = true) →
    ordB md ops g n ord listed = true → wpQuiet P ops C Lq l a →
    wpAnyT P md ops C n (fun listed' a' => Region.seqB md ops g n listed' = true ∧ Lq a') l.length listed a
  | [], [], listed, a, _, _, _, hB, h => ⟨by simpa [ordB] using hB, h⟩
  | [], _ :: _, _, _, he, _, _, _, _ => by simp at he
  | _ :: _, [], _, _, he, _, _, _, _ => by simp at he
  | k :: ord, o :: l, listed, a, he, inv, hp, hB, h => by
    simp only [List.map_cons, List.cons.injEq] at he
    obtain ⟨h0, he⟩ := he
    simp only [ordB, Bool.and_eq_true, decide_eq_true_eq] at hB
    obtain ⟨⟨⟨hkn, hr⟩, hf⟩, hB⟩ := hB
    have hr' : k ∈ Region.ready md ops listed := by simpa using hr
    have hst : qOp P ops C k (wpQuiet P ops C Lq l) a := by unfold qOp; simp only [h0]; exact h
    obtain ⟨v, hy, hK⟩ := yieldsIn_of_qOp h0 hst
    have hun := (mem_ready.1 hr').1
    exact wpAnyT_firstP h0 (Region.noSelect_spec hsel) hs hc hn hkn (fun _ _ hL => seqB_ready hL.1) l.length listed a inv hp (Region.free_spec h0 hf) hr' hy
      (wpAnyT_ord hsel hs hc hn ord l _ _ he (inv.set hr' hkn) (fun i hi => by
        by_cases hki : k = i
        · subst hki
          have := hp k hi
          rw [hun] at this
          exact Bool.noConfusion this
        · rw [getD_set_ne true hki]; exact hp i hi) hB hK)
/-- What is asked of a region: number p, a move, may come up at once and touches nobody's; the others of the first n in their order; then the rest in its. -/
def tailPB (md : Region.Mode) (ops : Array Oper) (n p : Nat) : Bool :=
  Region.noSelect ops && decide (n < ops.size) && decide (p < n) && sinkP md ops n [p] && Region.chainB md ops n && (Region.ready md ops (Array.replicate ops.size false)).contains p &&
  Region.free md ops (Array.replicate ops.size false) p && ordB md ops (ops.size - n) n ((List.range n).eraseIdx p) ((Array.replicate ops.size false).setIfInBounds p true)
theorem wp_region_from_tailP {id : Nat} {Q : Exit → Act → World → Prop} {a : Act} {w : World} {l : List Oper} (n p : Nat) (op : Oper) (x : Operand) (hop : l[p]? = some op) (hmv : op.op = .move x) (hgd : op.guard = none)
    (hm : P.follows .mixedOrders = true) (hB : tailPB .any l.toArray n p = true) (hQ2 : ∀ c a' w, Q (.panic c) (a'.put op.dst (a.eval x)) w → Q (.panic c) a' w)
    (h : wpQuiet P l.toArray (fun w' => ∃ u : Held (From w.drew), w' = u.w) (fun a' => ∀ w', From w.drew w' → wpList P l.toArray Q (l.drop n) a' w') ((l.take n).eraseIdx p) (a.put op.dst (a.eval x))) : (Code.region id l.toArray true).wp P Q a w := by
  simp only [tailPB, Bool.and_eq_true, decide_eq_true_eq] at hB
  obtain ⟨⟨⟨⟨⟨⟨⟨hsel, hn⟩, hpn⟩, hs⟩, hc⟩, hrp⟩, hfp⟩, hord⟩ := hB
  have hnl : n < l.length := by simpa using hn
  have htl : ((l.take n).eraseIdx p).length = n - 1 := by rw [List.length_eraseIdx, if_pos (by simp; omega)]; simp; omega
  have hdl : (l.drop n).length = l.toArray.size - n := by simp
  have hopA : l.toArray[p]? = some op := by simpa using hop
  have hrp' : p ∈ Region.ready .any l.toArray (Array.replicate l.toArray.size false) := by simpa using hrp
  have inv0 : HeadInv .any l.toArray n (Array.replicate l.toArray.size false) :=
    ⟨by simp, fun j oj _ hl => (by rw [getD_replicate_false] at hl; cases hl), fun t _ ht => getD_in (by simpa using ht) (getD_replicate_false _ _)⟩
  have inv1 := inv0.set hrp' hpn
  have hp1 : ∀ i ∈ [p], ((Array.replicate l.toArray.size false).setIfInBounds p true).getD i true = true := by
    intro i hi
    obtain rfl : i = p := by simpa using hi
    have hi2 : i < l.length := by omega
    simp [hi2]
  have hmap : ((List.range n).eraseIdx p).map (l.toArray[·]?) = ((l.take n).eraseIdx p).map some := by
    rw [List.eraseIdx_eq_take_drop_succ, List.eraseIdx_eq_take_drop_succ, List.map_append, List.map_append, List.map_take, List.map_take, List.map_drop, List.map_drop]
    suffices e : (List.range n).map (l.toArray[·]?) = (l.take n).map some by rw [e]
    apply List.ext_getElem?
    intro j
    simp only [List.getElem?_map, List.getElem?_take]
    by_cases hj : j < n
    · rw [List.getElem?_range hj]
      simp [hj, show j < l.length by omega]
    · rw [List.getElem?_eq_none (by simp; omega)]
      simp [hj]
  have H := wpAnyT_ord (md := .any) (g := l.toArray.size - n) hsel hs hc hn _ _ _ _ hmap inv1 hp1 hord h
  refine wp_region_any hm ?_
  have hy : Yields P l.toArray op (a.eval x) a := Or.inl ⟨by simp [Region.wanted, hgd], fun w => by rw [BigFrame.run_move x hmv]⟩
  have hsz : l.toArray.size = (n - 1 + (l.toArray.size - n)) + 1 := by simp; omega
  have K := wpAny_of_T (Q := Q) (g := l.toArray.size - n) (fun listed a' w' hw hL => by
    obtain ⟨u, rfl⟩ := hw
    have := wpAny_of_seq (md := .any) (Q' := Q) (l.drop n) n listed a' u.w (fun j => by simp [List.getElem?_drop]) (by rw [hdl]; exact hL.1) (hL.2 _ u.h)
    rwa [hdl] at this) _ _ _ w.drew ⟨⟨w.drew, From.refl _⟩, rfl⟩ H
  rw [htl] at K
  have K2 := wpAny_take (P := P) (md := .any) (i := p) (v := a.eval x) hopA hsel hfp hrp hQ2 hy K
  rw [← hsz] at K2
  exact K2
end
end Go.Proofs.Ythlkpdfdbdfbjaa
