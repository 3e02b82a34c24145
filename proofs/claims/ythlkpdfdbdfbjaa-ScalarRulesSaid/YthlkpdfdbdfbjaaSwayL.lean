/- A law for regions that draw their order: one operation takes a component of what a call told, and may come late; one makes a new block, whenever it comes up; the others read; the last ones stand in the order of the text. No program is spoken of. -/
import Derived.Test.YthlkpdfdbdfbjaaSwayA
namespace Go.Proofs.Ythlkpdfdbdfbjaa
open Go.RowKit
section
variable {P : Program} {ops : Array Oper} {Q : Exit → Act → World → Prop}
/-- Only number q may come late, and whatever might come ahead of it waits for all that q waits for. -/
def lateB (ops : Array Oper) (q : Nat) : Bool :=
  Region.noSelect ops && (List.range ops.size).all fun j => match ops[j]?, ops[q]? with
    | some oj, some oq => (oj.after.all fun e => Region.binds .any e || !Region.binds .text e || (e.on == q && !(j == q) && oq.after.all fun d => !Region.binds .any d || oj.after.any fun e' => Region.binds .any e' && e'.on == d.on)) &&
        (j == q || (oj.after.any fun e => Region.binds .any e && e.on == q) || (oq.after.any fun e => Region.binds .any e && e.on == j) || oq.apart ops oj)
    | _, _ => false
theorem binds_any_text {e : Edge} (h : Region.binds .any e = true) : Region.binds .text e = true := by
  cases e with
  | mk on g => cases g <;> simp_all [Region.binds]
theorem late_spec {q j : Nat} {oj oq : Oper} (h : lateB ops q = true) (hj : ops[j]? = some oj) (hq : ops[q]? = some oq) :
    (∀ e ∈ oj.after, Region.binds .text e = true → Region.binds .any e = true ∨ (e.on = q ∧ j ≠ q ∧ ∀ d ∈ oq.after, Region.binds .any d = true → ∃ e' ∈ oj.after, Region.binds .any e' = true ∧ e'.on = d.on)) ∧
    (j = q ∨ (∃ e ∈ oj.after, Region.binds .any e = true ∧ e.on = q) ∨ (∃ e ∈ oq.after, Region.binds .any e = true ∧ e.on = j) ∨ oq.apart ops oj = true) := by
  unfold lateB at h
  rw [Bool.and_eq_true] at h
  have hlt : j < ops.size := (Array.getElem?_eq_some_iff.1 hj).1
  have h1 := List.all_eq_true.1 h.2 j (List.mem_range.2 hlt)
  simp only [hj, hq, Bool.and_eq_true] at h1
  obtain ⟨h1, h2⟩ := h1
  refine ⟨fun e he hb => ?_, ?_⟩
  · have h3 := Array.all_eq_true_iff_forall_mem.1 h1 e he
    simp only [Bool.or_eq_true, Bool.and_eq_true, Bool.not_eq_true', beq_iff_eq] at h3
    rcases h3 with (h3 | h3) | h3
    · exact .inl h3
    · rw [hb] at h3; exact Bool.noConfusion h3
    · refine .inr ⟨h3.1.1, by simpa using h3.1.2, fun d hd hbd => ?_⟩
      have h4 := Array.all_eq_true_iff_forall_mem.1 h3.2 d hd
      simp only [Bool.or_eq_true, Bool.not_eq_true'] at h4
      rcases h4 with h4 | h4
      · rw [hbd] at h4; exact Bool.noConfusion h4
      · obtain ⟨i, hi, h5⟩ := Array.any_eq_true.1 h4
        simp only [Bool.and_eq_true, beq_iff_eq] at h5
        exact ⟨_, Array.getElem_mem hi, h5.1, h5.2⟩
  · simp only [Bool.or_eq_true, beq_iff_eq] at h2
    rcases h2 with ((h2 | h2) | h2) | h2
    · exact .inl h2
    · obtain ⟨i, hi, h5⟩ := Array.any_eq_true.1 h2
      simp only [Bool.and_eq_true, beq_iff_eq] at h5
      exact .inr (.inl ⟨_, Array.getElem_mem hi, h5.1, h5.2⟩)
    · obtain ⟨i, hi, h5⟩ := Array.any_eq_true.1 h2
      simp only [Bool.and_eq_true, beq_iff_eq] at h5
      exact .inr (.inr (.inl ⟨_, Array.getElem_mem hi, h5.1, h5.2⟩))
    · exact .inr (.inr (.inr h2))
theorem ready_text_any {i : Nat} {listed : Array Bool} (h : i ∈ Region.ready .text ops listed) : i ∈ Region.ready .any ops listed := by
  obtain ⟨h1, o, ho, h2⟩ := mem_ready.1 h
  exact mem_ready.2 ⟨h1, o, ho, fun e he hb => h2 e he (binds_any_text hb)⟩
theorem ready_late {q i : Nat} {oq : Oper} {listed : Array Bool} (hB : lateB ops q = true) (hq : ops[q]? = some oq) (hs : listed.size = ops.size) (h : i ∈ Region.ready .any ops listed) :
    i ∈ Region.ready .text ops listed ∨ q ∈ Region.ready .text ops listed := by
  obtain ⟨h1, o, ho, h2⟩ := mem_ready.1 h
  by_cases hall : ∀ e ∈ o.after, Region.binds .text e = true → listed.getD e.on false = true
  · exact .inl (mem_ready.2 ⟨h1, o, ho, hall⟩)
  · simp only [Classical.not_forall] at hall
    obtain ⟨e, he, hb, hl⟩ := hall
    rcases (late_spec hB ho hq).1 e he hb with h3 | ⟨h3, _, h4⟩
    · exact absurd (h2 e he h3) hl
    · refine .inr (mem_ready.2 ⟨?_, oq, hq, fun d hd hbd => ?_⟩)
      · rw [h3] at hl
        have hlt : q < listed.size := by rw [hs]; exact (Array.getElem?_eq_some_iff.1 hq).1
        simp only [Array.getD_eq_getD_getElem?, Array.getElem?_eq_getElem hlt, Option.getD_some] at hl ⊢
        simpa using hl
      · rcases (late_spec hB hq hq).1 d hd hbd with h5 | ⟨_, h5, _⟩
        · obtain ⟨e', he', hb', hon⟩ := h4 d hd h5
          rw [← hon]
          exact h2 e' he' hb'
        · exact absurd rfl h5
theorem run_extractL {o : Oper} {x : Operand} {k : Nat} (ho : o.op = .extract x k) (a : Act) {w : World} {K : Act → World → Prop} (h : o.wp P a w K Q ∨ (o.asks P a w ∧ LetsOut Q)) :
    ∃ v, (∀ w, (execOp a.eval o).run P w = .ok (.value v) w) ∧ K (a.put o.dst v) w := by
  by_cases hv : ∃ vs v, a.eval x = .tuple vs ∧ vs[k]? = some v
  · obtain ⟨vs, v, h1, h2⟩ := hv
    have hr : ∀ w, (execOp a.eval o).run P w = .ok (.value v) w := fun w => by
      simp [execOp, ho, Instr.extract, h1, h2]
    refine ⟨v, hr, ?_⟩
    rcases h with h | h
    · unfold Oper.wp at h
      rw [hr w] at h
      exact h
    · have h3 := h.1.1
      simp [execOp, ho, Instr.extract, h1, h2] at h3
      exact absurd (show noRoomEvent ∈ (#[] : Array Event) from h3) (by simp)
  · have hr : ∃ why, execOp a.eval o = (do pure (.value (← (stuck why : Sem Value)))) := by
      cases hx : a.eval x with
      | tuple vs =>
        cases hk : vs[k]? with
        | some v => exact absurd ⟨vs, v, hx, hk⟩ hv
        | none => exact Exists.intro "Extract: no such component" (by simp only [execOp, ho, Instr.extract, hx, hk])
      | _ => exact Exists.intro "Extract: tuple expected" (by simp only [execOp, ho, Instr.extract, hx])
    obtain ⟨why, hr⟩ := hr
    exfalso
    rcases h with h | h
    · unfold Oper.wp at h
      rw [hr] at h
      simp [stuck, Oper.upon] at h
    · have h3 := h.1.1
      rw [hr] at h3
      exact absurd (show noRoomEvent ∈ (#[] : Array Event) from h3) (by simp)
theorem any_of_text {q : Nat} {oq : Oper} {x : Operand} {k : Nat} (hq : ops[q]? = some oq) (hex : oq.op = .extract x k) (hB : lateB ops q = true) (hQ : ∀ c v a w, Q (.panic c) (a.put oq.dst v) w → Q (.panic c) a w) :
    ∀ (f : Nat) (listed : Array Bool) (a : Act) (w : World), listed.size = ops.size → wpAny P .text ops Q f listed a w → wpAny P .any ops Q f listed a w := by
  have hsel : ∀ (j : Nat) (o : Oper) cs b, ops[j]? = some o → o.op ≠ .select cs b := by
    unfold lateB at hB
    rw [Bool.and_eq_true] at hB
    exact Region.noSelect_spec hB.1
  intro f
  induction f with
  | zero =>
    intro listed a w hs h
    refine ⟨?_, h.2⟩
    match hr : Region.ready .any ops listed with
    | [] => rfl
    | i :: r =>
      exfalso
      rcases ready_late hB hq hs (i := i) (by rw [hr]; simp) with h1 | h1 <;> (rw [h.1] at h1; simp at h1)
  | succ f ih =>
    intro listed a w hs h
    by_cases hqr : q ∈ Region.ready .text ops listed
    · have h2 := h.2 q hqr
      unfold wpOp at h2
      simp only [hq] at h2
      have hfree : ∀ j oj, ops[j]? = some oj → j ≠ q → listed.getD j true = false → (∀ e ∈ oj.after, Region.binds .any e = true → e.on ≠ q) → oq.apart ops oj = true := fun j oj hj hne hun hno => by
        rcases (late_spec hB hj hq).2 with h3 | ⟨e, he, hb, hon⟩ | ⟨e, he, hb, hon⟩ | h3
        · exact absurd h3 hne
        · exact absurd hon (hno e he hb)
        · obtain ⟨_, oq', hq', h4⟩ := mem_ready.1 hqr
          obtain rfl : oq = oq' := Option.some.inj (hq.symm.trans hq')
          have h5 := h4 e he (binds_any_text hb)
          rw [hon, getD_both hun] at h5
          exact Bool.noConfusion h5
        · exact h3
      by_cases hw : Region.wanted oq (yielded ops a.tmps) = true
      · rw [if_pos hw] at h2
        obtain ⟨v, hr, hK⟩ := run_extractL hex a h2
        exact wpAny_first hq hsel (fun c a w hp => hQ c v a w hp) f listed a w hfree (ready_text_any hqr) (.inl ⟨hw, hr⟩) (ih _ _ _ (by simpa using hs) hK)
      · rw [if_neg hw] at h2
        exact wpAny_first hq hsel (fun c a w hp => hQ c undef a w hp) f listed a w hfree (ready_text_any hqr) (.inr ⟨by simpa using hw, rfl⟩) (ih _ _ _ (by simpa using hs) h2)
    · have hsub : ∀ i, i ∈ Region.ready .any ops listed → i ∈ Region.ready .text ops listed := fun i hi => by
        rcases ready_late hB hq hs hi with h1 | h1
        · exact h1
        · exact absurd h1 hqr
      refine ⟨fun h0 => h.1 ?_, fun i hi => wpOp_mono (fun a w hK => ih _ a w (by simpa using hs) hK) (h.2 i (hsub i hi))⟩
      match hr : Region.ready .text ops listed with
      | [] => rfl
      | i :: r =>
        exfalso
        have := ready_text_any (ops := ops) (listed := listed) (i := i) (by rw [hr]; simp)
        rw [h0] at this
        simp at this
theorem wp_region_from_allocL {id : Nat} {Q : Exit → Act → World → Prop} {a : Act} {w : World} {l : List Oper} (n p q : Nat) (op oq : Oper) (xq : Operand) (kq : Nat) (ty : TypeId) (Z : Array Value) (hop : l[p]? = some op) (hoq : l[q]? = some oq) (hex : oq.op = .extract xq kq) (hal : op.op = .alloc ty) (hgd : op.guard = none)
    (hz : ∀ w, (zeroValue ty).run P w = .ok (.agg Z) w) (hm : P.follows .mixedOrders = true) (hB : tailAB .text l.toArray n p a.tmps.size = true) (hL : lateB l.toArray q = true) (hQ2 : ∀ c v a' w, Q (.panic c) (a'.put oq.dst v) w → Q (.panic c) a' w)
    (H : ∃ AF : Nat → Act, (∀ u, From w.drew u → ∀ x, wpQuiet P l.toArray (fun w' => ∃ h : Held (From u), w' = h.w) (fun a' => a' = AF x) ((l.take n).eraseIdx p) (a.put op.dst (.pointer (some ⟨x, 0, none⟩)))) ∧
      (∀ x, AF x = (AF 0).put op.dst (.pointer (some ⟨x, 0, none⟩))) ∧ (∀ x w', From w.drew w' → Fresh w ty Z x w' → wpList P l.toArray Q (l.drop n) (AF x) w')) : (Code.region id l.toArray true).wp P Q a w := by
  obtain ⟨AF, h, hAF, hT⟩ := H
  simp only [tailAB, Bool.and_eq_true, decide_eq_true_eq] at hB
  obtain ⟨⟨⟨⟨⟨⟨⟨⟨hsel, hn⟩, hpn⟩, hs⟩, hc⟩, hrp⟩, hfp⟩, hord⟩, how⟩ := hB
  have hnl : n < l.length := by simpa using hn
  have htl : ((l.take n).eraseIdx p).length = n - 1 := by rw [List.length_eraseIdx, if_pos (by simp; omega)]; simp; omega
  have hdl : (l.drop n).length = l.toArray.size - n := by simp
  have hopA : l.toArray[p]? = some op := by simpa using hop
  have hrp' : p ∈ Region.ready .text l.toArray (Array.replicate l.toArray.size false) := by simpa using hrp
  have inv0 : HeadInv .text l.toArray n (Array.replicate l.toArray.size false) :=
    ⟨by simp, fun j oj _ hl => (by rw [getD_replicate_false] at hl; cases hl), fun t _ ht => getD_in (by simpa using ht) (getD_replicate_false _ _)⟩
  have inv1 := inv0.set hrp' hpn
  have hmap : ((List.range n).eraseIdx p).map (l.toArray[·]?) = ((l.take n).eraseIdx p).map some := by
    rw [List.eraseIdx_eq_take_drop_succ, List.eraseIdx_eq_take_drop_succ, List.map_append, List.map_append, List.map_take, List.map_take, List.map_drop, List.map_drop]
    suffices e : (List.range n).map (l.toArray[·]?) = (l.take n).map some by rw [e]
    apply List.ext_getElem?
    intro j
    simp only [List.getElem?_map, List.getElem?_take]
    by_cases hj : j < n
    · rw [List.getElem?_range hj]
      simp [hj, show j < l.length by omega]
    · rw [List.getElem?_eq_none (by simp; omega)]
      simp [hj]
  refine wp_region_any hm (any_of_text (by simpa using hoq) hex hL hQ2 _ _ _ _ (by simp) ?_)
  have hsz : l.toArray.size = (n - 1) + 1 + (l.toArray.size - n) := by simp; omega
  have hT2 : ∀ x w', From w.drew w' → Fresh w.drew ty Z x w' → ∀ listed, Region.seqB .text l.toArray (l.toArray.size - n) n listed = true → wpAny P .text l.toArray Q (l.toArray.size - n) listed (AF x) w' := fun x w' hw' hF listed hl => by
    have := wpAny_of_seq (md := .text) (Q' := Q) (l.drop n) n listed (AF x) w' (fun j => by simp [List.getElem?_drop]) (by rw [hdl]; exact hl) (hT x w' hw' hF)
    rwa [hdl] at this
  have K := anyA (g := l.toArray.size - n) (w0 := w.drew) hopA hal hgd hz (Region.noSelect_spec hsel) hs hc hn hpn how (fun x d hd => by rw [hAF x]; exact put_else _ _ _ _ hd) hT2 (n - 1) _ a w.drew inv0 rfl hrp' (Region.free_spec hopA hfp) (From.refl _) fun u hu x => by
    have H := wpAnyT_ord (md := .text) (g := l.toArray.size - n) (pre := []) (C := cls u) (Lq := fun a' => a' = AF x) hsel hs hc hn _ _ _ _ hmap inv1 (fun _ h => by simp at h) hord (h u hu x)
    rw [htl] at H
    exact H
  rw [← hsz] at K
  exact K
end
end Go.Proofs.Ythlkpdfdbdfbjaa
