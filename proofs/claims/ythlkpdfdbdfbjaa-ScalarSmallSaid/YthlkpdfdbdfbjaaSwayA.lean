/- Regions that draw their order, of which one operation makes a new block (a variable), whenever it comes up: the others read, their callees make memory, the last ones stand in the order of the text. What the new block's number is hangs on the order; what the others yield does not. No program is spoken of. -/
import Derived.Test.YthlkpdfdbdfbjaaSwayP
namespace Go.Proofs.Ythlkpdfdbdfbjaa
open Go.RowKit
section
variable {P : Program} {ops : Array Oper} {md : Region.Mode}
/-- What has grown out of u. -/
def cls (u : World) : World → Prop := fun w' => ∃ h : Held (From u), w' = h.w
theorem cls.of {u w : World} (h : From u w) : cls u w := ⟨⟨w, h⟩, rfl⟩
theorem cls.from {u w : World} (h : cls u w) : From u w := by obtain ⟨h, rfl⟩ := h; exact h.h
theorem put_same (a : Act) (d : Tmp) (v : Value) (hd : d < a.tmps.size) : (a.put (some d) v).tmps.getD d undef = v := by
  simp [Act.put, hd]
theorem put_else (a : Act) (x : Option Tmp) (d : Tmp) (v : Value) (h : x ≠ some d) : (a.put x v).tmps.getD d undef = a.tmps.getD d undef := by
  cases x with
  | none => rfl
  | some e =>
    have hne : e ≠ d := fun he => h (by rw [he])
    simp [Act.put, hne]
theorem put_size (a : Act) (x : Option Tmp) (v : Value) : (a.put x v).tmps.size = a.tmps.size := by
  cases x with
  | none => rfl
  | some e => simp [Act.put]
/-- Each of the first n operations has a slot of its own. -/
def ownB (ops : Array Oper) (n m : Nat) : Bool := (List.range n).all fun i => match ops[i]? with
  | some o => (match o.dst with
    | some d => decide (d < m) && (List.range n).all fun j => i == j || match ops[j]? with
      | some o' => !(o'.dst == some d)
      | none => true
    | none => false)
  | none => false
theorem ownB_spec {n m i : Nat} {o : Oper} (h : ownB ops n m = true) (hi : i < n) (ho : ops[i]? = some o) : ∃ d, o.dst = some d ∧ d < m ∧ ∀ j o', j < n → j ≠ i → ops[j]? = some o' → o'.dst ≠ some d := by
  have h1 := List.all_eq_true.1 h i (List.mem_range.2 hi)
  simp only [ho] at h1
  cases hd : o.dst with
  | none => rw [hd] at h1; simp at h1
  | some d =>
    rw [hd] at h1
    simp only [Bool.and_eq_true, decide_eq_true_eq] at h1
    refine ⟨d, rfl, h1.1, fun j o' hj hne ho' e => ?_⟩
    have h2 := List.all_eq_true.1 h1.2 j (List.mem_range.2 hj)
    simp only [ho', e, Bool.or_eq_true, beq_iff_eq] at h2
    rcases h2 with h2 | h2
    · exact hne h2.symm
    · simp at h2
variable {C : World → Prop}
theorem anyT_keep {n : Nat} {A : Act} {d : Tmp} {S : Array Bool → Prop} : ∀ (f : Nat) (listed : Array Bool) (a : Act), wpAnyT P md ops C n (fun l a' => S l ∧ a' = A) f listed a →
    (∀ j oj, ops[j]? = some oj → listed.getD j true = false → j < n → oj.dst ≠ some d) → A.tmps.getD d undef = a.tmps.getD d undef
  | 0, _, _, h, _ => by rw [h.2]
  | f + 1, listed, a, h, hd => by
    obtain ⟨hne, hall⟩ := h
    obtain ⟨i, hi⟩ := List.exists_mem_of_ne_nil _ hne
    obtain ⟨hin, hq⟩ := hall i hi
    obtain ⟨hun, oi, hoi, _⟩ := mem_ready.1 hi
    obtain ⟨v, _, hK⟩ := yieldsIn_of_qOp hoi hq
    rw [anyT_keep f _ _ hK fun j oj hj hl hjn => hd j oj hj (by
      by_cases e : i = j
      · subst e; exact hun
      · rwa [getD_set_ne true e] at hl) hjn]
    exact put_else a oi.dst d v (hd i oi hoi hun hin)
/-- The new block holds its first value, and is new. -/
def Fresh (w0 : World) (ty : TypeId) (Z : Array Value) (x : Nat) (w : World) : Prop := w.heap[x]? = some (.cells Z ty (0, 0)) ∧ w0.heap.size ≤ x
theorem Fresh.from {w0 w w' : World} {ty : TypeId} {Z : Array Value} {x : Nat} (h : Fresh w0 ty Z x w) (hf : From w w') : Fresh w0 ty Z x w' :=
  ⟨(hf.heap x (Array.getElem?_eq_some_iff.1 h.1).1).trans h.1, h.2⟩
theorem anyA {n g p m : Nat} {op : Oper} {ty : TypeId} {Z : Array Value} {Q : Exit → Act → World → Prop} {AF : Nat → Act} {w0 : World}
    (hp : ops[p]? = some op) (hal : op.op = .alloc ty) (hgd : op.guard = none) (hz : ∀ w, (zeroValue ty).run P w = .ok (.agg Z) w)
    (hsel : ∀ (j : Nat) (o : Oper) cs b, ops[j]? = some o → o.op ≠ .select cs b) (hs : sinkP md ops n [] = true) (hc : Region.chainB md ops n = true) (hn : n < ops.size) (hpn : p < n) (how : ownB ops n m = true)
    (hAF : ∀ x d, op.dst ≠ some d → (AF x).tmps.getD d undef = (AF 0).tmps.getD d undef)
    (hT : ∀ x w, From w0 w → Fresh w0 ty Z x w → ∀ listed, Region.seqB md ops g n listed = true → wpAny P md ops Q g listed (AF x) w) :
    ∀ (f : Nat) (listed : Array Bool) (a : Act) (w : World), HeadInv md ops n listed → a.tmps.size = m → p ∈ Region.ready md ops listed →
      (∀ j oj, ops[j]? = some oj → j ≠ p → listed.getD j true = false → (∀ e ∈ oj.after, Region.binds md e = true → e.on ≠ p) → op.apart ops oj = true) → From w0 w →
      (∀ u, From w u → ∀ x, wpAnyT P md ops (cls u) n (fun l a' => Region.seqB md ops g n l = true ∧ a' = AF x) f (listed.setIfInBounds p true) (a.put op.dst (.pointer (some ⟨x, 0, none⟩)))) →
      wpAny P md ops Q (f + 1 + g) listed a w := by
  have halloc : ∀ (f : Nat) (listed : Array Bool) (a : Act) (w : World), From w0 w →
      (∀ u, From w u → ∀ x, wpAnyT P md ops (cls u) n (fun l a' => Region.seqB md ops g n l = true ∧ a' = AF x) f (listed.setIfInBounds p true) (a.put op.dst (.pointer (some ⟨x, 0, none⟩)))) →
      wpOp P ops Q p (wpAny P md ops Q (f + g) (listed.setIfInBounds p true)) a w := by
    intro f listed a w hw H
    unfold wpOp
    simp only [hp]
    have hwt : Region.wanted op (yielded ops a.tmps) = true := by simp [Region.wanted, hgd]
    rw [if_pos hwt]
    refine .inl ?_
    unfold Oper.wp execOp
    simp only [hal, Instr.alloc, Sem.run_bind, hz, newVar, newRow, run_newObj_alloc, Sem.run_pure, Result.andThen_ok]
    show wpAny P md ops Q (f + g) (listed.setIfInBounds p true) (a.put op.dst (.pointer (some ⟨w.heap.size, 0, none⟩))) (w.alloc (.cells Z ty))
    have hfr : From w (w.alloc (.cells Z ty)) := (Below.refl _ _).alloc (Nat.le_refl _) _
    have hF : Fresh w0 ty Z w.heap.size (w.alloc (.cells Z ty)) := ⟨heap_alloc_new w _, hw.size⟩
    refine wpAny_of_T (C := cls (w.alloc (.cells Z ty))) (L := fun l a' => Region.seqB md ops g n l = true ∧ a' = AF w.heap.size) (fun l a' w' hw' hL => ?_) f _ _ _ (cls.of (From.refl _)) (H _ hfr w.heap.size)
    rw [hL.2]
    exact hT _ _ ((hw.trans hfr).trans hw'.from) (hF.from hw'.from) l hL.1
  intro f
  induction f with
  | zero =>
    intro listed a w inv _ hpr _ hw H
    rw [Nat.zero_add, Nat.add_comm]
    refine ⟨fun h0 => absurd h0 (List.ne_nil_of_mem hpr), fun i hi => ?_⟩
    by_cases hip : i = p
    · subst hip
      have := halloc 0 listed a w hw H
      rwa [Nat.zero_add] at this
    · exfalso
      have hL := H w (From.refl w) 0
      have hr2 := ready_mono hi hip
      have hge := seqB_ready hL.1 i hr2
      exact tail_waitsP (pre := []) hs hc hn inv (fun _ h => by simp at h) _ p rfl hpn (mem_ready.1 hpr).1 i hge hi
  | succ f ih =>
    intro listed a w inv ham hpr hfree hw H
    rw [show f + 1 + 1 + g = (f + 1 + g) + 1 by omega]
    refine ⟨fun h0 => absurd h0 (List.ne_nil_of_mem hpr), fun i hi => ?_⟩
    by_cases hip : i = p
    · subst hip
      exact halloc (f + 1) listed a w hw H
    · obtain ⟨hiun, oi, hoi, hall⟩ := mem_ready.1 hi
      have hpun := (mem_ready.1 hpr).1
      have hnot : ∀ e ∈ oi.after, Region.binds md e = true → e.on ≠ p := by
        intro e he hb heq
        have h1 := hall e he hb
        rw [heq, getD_both hpun] at h1
        exact Bool.noConfusion h1
      have hap := Oper.apart_spec (hfree i oi hoi hip hiun hnot)
      have hr2 := ready_mono (md := md) hi hip
      have hin : i < n := ((H w (From.refl w) 0).2 i hr2).1
      obtain ⟨d, hdd, hdm, hdo⟩ := ownB_spec how hin hoi
      -- whatever has grown, it yields the same
      have key : ∀ u, From w u → ∀ x, YieldsIn P ops (cls u) oi ((AF 0).tmps.getD d undef) a ∧
          wpAnyT P md ops (cls u) n (fun l a' => Region.seqB md ops g n l = true ∧ a' = AF x) f ((listed.setIfInBounds i true).setIfInBounds p true) ((a.put oi.dst ((AF 0).tmps.getD d undef)).put op.dst (.pointer (some ⟨x, 0, none⟩))) := by
        intro u hu x
        obtain ⟨v, hy, hK⟩ := yieldsIn_of_qOp hoi ((H u hu x).2 i hr2).2
        have hkeep := anyT_keep (d := d) f _ _ hK (fun j oj hj hl hjn => hdo j oj hjn (fun e => by
          subst e
          rw [Array.getD_eq_getD_getElem?, Array.getElem?_setIfInBounds_self] at hl
          split at hl <;> simp at hl) hj)
        rw [hdd, put_same _ d v (by rw [put_size, ham]; exact hdm)] at hkeep
        have hv : (AF 0).tmps.getD d undef = v := by
          rw [← hkeep]
          exact (hAF x d (fun e => hdo p op hpn (Ne.symm hip) hp e)).symm
        rw [hv]
        refine ⟨hy.of_same (execOp_put oi (fun cs b => hsel i oi cs b hoi) a op.dst _ hap.1).symm (wanted_put oi a op.dst _ hap.1).symm, ?_⟩
        rw [Array.setIfInBounds_comm _ _ hip, Act.put_comm a v (.pointer (some ⟨x, 0, none⟩)) (x := oi.dst) (y := op.dst) (fun e he => by
          intro he2
          exact hap.2.1 e he2 he)]
        exact hK
      refine wpOp_of_qOp (C := cls w) (K := fun a' => a' = a.put oi.dst ((AF 0).tmps.getD d undef)) (cls.of (From.refl w)) (fun a' w' hw' ha' => ?_) ((key w (From.refl w) 0).1.qOp hoi rfl)
      subst ha'
      refine ih _ _ _ (inv.set hi hin) (by rw [put_size]; exact ham) (ready_mono hpr (Ne.symm hip)) (fun j oj hj hjp hl hno => hfree j oj hj hjp ?_ hno) (hw.trans hw'.from) fun u hu x => (key u (hw'.from.trans hu) x).2
      by_cases e : i = j
      · subst e; exact hiun
      · rwa [getD_set_ne true e] at hl
/-- What is asked of a region: number p may come up at once and touches nobody's; the others of the first n in their order; then the rest in its; each has a slot of its own. -/
def tailAB (md : Region.Mode) (ops : Array Oper) (n p m : Nat) : Bool :=
  Region.noSelect ops && decide (n < ops.size) && decide (p < n) && sinkP md ops n [] && Region.chainB md ops n && (Region.ready md ops (Array.replicate ops.size false)).contains p &&
  Region.free md ops (Array.replicate ops.size false) p && ordB md ops (ops.size - n) n ((List.range n).eraseIdx p) ((Array.replicate ops.size false).setIfInBounds p true) && ownB ops n m
theorem wp_region_from_alloc {id : Nat} {Q : Exit → Act → World → Prop} {a : Act} {w : World} {l : List Oper} (n p : Nat) (op : Oper) (ty : TypeId) (Z : Array Value) (hop : l[p]? = some op) (hal : op.op = .alloc ty) (hgd : op.guard = none)
    (hz : ∀ w, (zeroValue ty).run P w = .ok (.agg Z) w) (hm : P.follows .mixedOrders = true) (hB : tailAB .any l.toArray n p a.tmps.size = true)
    (H : ∃ AF : Nat → Act, (∀ u, From w.drew u → ∀ x, wpQuiet P l.toArray (fun w' => ∃ h : Held (From u), w' = h.w) (fun a' => a' = AF x) ((l.take n).eraseIdx p) (a.put op.dst (.pointer (some ⟨x, 0, none⟩)))) ∧
      (∀ x, AF x = (AF 0).put op.dst (.pointer (some ⟨x, 0, none⟩))) ∧ (∀ x w', From w.drew w' → Fresh w ty Z x w' → wpList P l.toArray Q (l.drop n) (AF x) w')) : (Code.region id l.toArray true).wp P Q a w := by
  obtain ⟨AF, h, hAF, hT⟩ := H
  simp only [tailAB, Bool.and_eq_true, decide_eq_true_eq] at hB
  obtain ⟨⟨⟨⟨⟨⟨⟨⟨hsel, hn⟩, hpn⟩, hs⟩, hc⟩, hrp⟩, hfp⟩, hord⟩, how⟩ := hB
  have hnl : n < l.length := by simpa using hn
  have htl : ((l.take n).eraseIdx p).length = n - 1 := by rw [List.length_eraseIdx, if_pos (by simp; omega)]; simp; omega
  have hdl : (l.drop n).length = l.toArray.size - n := by simp
  have hopA : l.toArray[p]? = some op := by simpa using hop
  have hrp' : p ∈ Region.ready .any l.toArray (Array.replicate l.toArray.size false) := by simpa using hrp
  have inv0 : HeadInv .any l.toArray n (Array.replicate l.toArray.size false) :=
    ⟨by simp, fun j oj _ hl => (by rw [getD_replicate_false] at hl; cases hl), fun t _ ht => getD_in (by simpa using ht) (getD_replicate_false _ _)⟩
  have inv1 := inv0.set hrp' hpn
  have hmap : ((List.range n).eraseIdx p).map (l.toArray[·]?) = ((l.take n).eraseIdx p).map some := by
    rw [List.eraseIdx_eq_take_drop_succ, List.eraseIdx_eq_take_drop_succ, List.map_append, List.map_append, List.map_take, List.map_take, List.map_drop, List.map_drop]
    suffices e : (List.range n).map (l.toArray[·]?) = (l.take n).map some by rw [e]
    apply List.ext_getElem?
    intro j
    simp only [List.getElem?_map, List.getElem?_take]
    by_cases hj : j < n
    · rw [List.getElem?_range hj]
      simp [hj, show j < l.length by omega]
    · rw [List.getElem?_eq_none (by simp; omega)]
      simp [hj]
  refine wp_region_any hm ?_
  have hsz : l.toArray.size = (n - 1) + 1 + (l.toArray.size - n) := by simp; omega
  have hT2 : ∀ x w', From w.drew w' → Fresh w.drew ty Z x w' → ∀ listed, Region.seqB .any l.toArray (l.toArray.size - n) n listed = true → wpAny P .any l.toArray Q (l.toArray.size - n) listed (AF x) w' := fun x w' hw' hF listed hl => by
    have := wpAny_of_seq (md := .any) (Q' := Q) (l.drop n) n listed (AF x) w' (fun j => by simp [List.getElem?_drop]) (by rw [hdl]; exact hl) (hT x w' hw' hF)
    rwa [hdl] at this
  have K := anyA (g := l.toArray.size - n) (w0 := w.drew) hopA hal hgd hz (Region.noSelect_spec hsel) hs hc hn hpn how (fun x d hd => by rw [hAF x]; exact put_else _ _ _ _ hd) hT2 (n - 1) _ a w.drew inv0 rfl hrp' (Region.free_spec hopA hfp) (From.refl _) fun u hu x => by
    have H := wpAnyT_ord (md := .any) (g := l.toArray.size - n) (pre := []) (C := cls u) (Lq := fun a' => a' = AF x) hsel hs hc hn _ _ _ _ hmap inv1 (fun _ h => by simp at h) hord (h u hu x)
    rw [htl] at H
    exact H
  rw [← hsz] at K
  exact K
end
end Go.Proofs.Ythlkpdfdbdfbjaa
