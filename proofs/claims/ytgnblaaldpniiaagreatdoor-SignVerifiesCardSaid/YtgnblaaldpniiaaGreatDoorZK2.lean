/- Regions that draw their order: what only reads is taken first, what acts comes up one by one; the condition on the world need not hold behind the last operation. No program is spoken of.
A law for regions that draw their order: one operation takes a component of what a call told, and may come late; one makes a new block, whenever it comes up; the others read; the last ones stand in the order of the text. No program is spoken of.
Regions that draw their order, of which two operations make new blocks (variables), whenever they come up: the others read, their callees make memory, the last ones stand in the order of the text. No program is spoken of. -/
import Derived.OrdersHeld
import Derived.Test.YtgnblaaldpniiaaGreatDoorZK1
section
set_option maxRecDepth 100000
set_option linter.unusedVariables false
set_option linter.unusedSimpArgs false
namespace Go.Proofs.YtgnblaaldpniiaaGreatDoor
open Go.RowKit
section
variable {P : Program} {ops : Array Oper} {Q : Exit → Act → World → Prop} {md : Region.Mode} {S : World → Prop} {last : Nat}
def wpAnyG (P : Program) (md : Region.Mode) (ops : Array Oper) (Q : Exit → Act → World → Prop) (S : World → Prop) (last : Nat) : Nat → Array Bool → Act → World → Prop
  | 0, listed, a, w => Region.ready md ops listed = [] ∧ Q .normal a w
  | fuel + 1, listed, a, w =>
    (Region.ready md ops listed = [] → Q .normal a w) ∧
    ∀ i ∈ Region.ready md ops listed, wpOp P ops Q i (fun a' w' => (i = last ∨ S w') ∧ wpAnyG P md ops Q S last fuel (listed.setIfInBounds i true) a' w') a w
theorem wpAny_of_G : ∀ (fuel : Nat) (listed : Array Bool) (a : Act) (w : World), wpAnyG P md ops Q S last fuel listed a w → wpAny P md ops Q fuel listed a w
  | 0, _, _, _, h => h
  | fuel + 1, _, _, _, h => ⟨h.1, fun i hi => wpOp_mono (fun a' w' h' => wpAny_of_G fuel _ a' w' h'.2) (h.2 i hi)⟩
def lastB (md : Region.Mode) (ops : Array Oper) (last : Nat) : Bool := (List.range ops.size).all fun k => k == last || Region.waitsFor md ops last k
theorem last_only (hl : lastB md ops last = true) {listed : Array Bool} {i j : Nat} (hi : i ∈ Region.ready md ops listed) (hj : j ∈ Region.ready md ops listed) (hij : j ≠ i) : j ≠ last := by
  intro e
  subst e
  obtain ⟨hiun, oi, hoi, _⟩ := mem_ready.1 hi
  obtain ⟨_, oj, hoj, hall⟩ := mem_ready.1 hj
  have h1 := List.all_eq_true.1 hl i (List.mem_range.2 (Array.getElem?_eq_some_iff.1 hoi).1)
  simp only [Bool.or_eq_true, beq_iff_eq] at h1
  rcases h1 with h1 | h1
  · exact hij h1.symm
  · obtain ⟨o', ho', e, he, hb, hon⟩ := Region.waitsFor_spec h1
    obtain rfl : o' = oj := Option.some.inj (ho'.symm.trans hoj)
    have h2 := hall e he hb
    rw [hon, getD_both hiun] at h2
    exact Bool.noConfusion h2
theorem wpAnyG_first {i : Nat} {oi : Oper} {v : Value} (hlast : lastB md ops last = true) (hi : ops[i]? = some oi) (hsel : ∀ (j : Nat) (o : Oper) cs b, ops[j]? = some o → o.op ≠ .select cs b)
    (hQ : ∀ c a w, Q (.panic c) (a.put oi.dst v) w → Q (.panic c) a w) :
    ∀ (fuel : Nat) (listed : Array Bool) (a : Act) (w : World),
      (∀ j oj, ops[j]? = some oj → j ≠ i → listed.getD j true = false → (∀ e ∈ oj.after, Region.binds md e = true → e.on ≠ i) → oi.apart ops oj = true) →
      i ∈ Region.ready md ops listed → YieldsIf P ops S oi v a → S w →
      wpAnyG P md ops Q S last fuel (listed.setIfInBounds i true) (a.put oi.dst v) w → wpAnyG P md ops Q S last (fuel + 1) listed a w := by
  intro fuel
  induction fuel with
  | zero =>
    intro listed a w _ hr hy hS H
    refine ⟨fun h => (by rw [h] at hr; cases hr), fun j hj => ?_⟩
    by_cases hji : j = i
    · subst hji; exact hy.wpOp hi hS ⟨Or.inr hS, H⟩
    · have := ready_mono hj hji
      rw [H.1] at this
      cases this
  | succ fuel ih =>
    intro listed a w hfree hr hy hS H
    refine ⟨fun h => (by rw [h] at hr; cases hr), fun j hj => ?_⟩
    by_cases hji : j = i
    · subst hji; exact hy.wpOp hi hS ⟨Or.inr hS, H⟩
    · have h1 := H.2 j (ready_mono hj hji)
      obtain ⟨hjun, oj, hoj, hall⟩ := mem_ready.1 hj
      have hnot : ∀ e ∈ oj.after, Region.binds md e = true → e.on ≠ i := by
        intro e he hb heq
        have h1 := hall e he hb
        rw [heq, getD_both (mem_ready.1 hr).1] at h1
        exact Bool.noConfusion h1
      have h2 := wpOp_putIf hoj (hfree j oj hoj hji hjun hnot) (fun cs b => hsel i oi cs b hi) (fun cs b => hsel j oj cs b hoj) hQ hy h1
      have hfree' : ∀ k ok, ops[k]? = some ok → k ≠ i → (listed.setIfInBounds j true).getD k true = false →
          (∀ e ∈ ok.after, Region.binds md e = true → e.on ≠ i) → oi.apart ops ok = true := fun k ok hk hki hun hno => by
        refine hfree k ok hk hki ?_ hno
        by_cases hjk : j = k
        · subst hjk; exact hjun
        · rw [getD_set_ne true hjk] at hun; exact hun
      have hjl := last_only hlast hr hj hji
      refine wpOp_mono (fun a' w' h3 => ⟨h3.2.1, ih (listed.setIfInBounds j true) a' w' hfree' (ready_mono hr (Ne.symm hji)) h3.1 (h3.2.1.resolve_left hjl) ?_⟩) h2
      rw [Array.setIfInBounds_comm _ _ hji]
      exact h3.2.2
def wpMix (P : Program) (ops : Array Oper) (Q : Exit → Act → World → Prop) (S : World → Prop) : List (Nat × Oper) → Act → World → Prop
  | [], a, w => Q .normal a w
  | (0, o) :: r, a, w => ∃ v, YieldsIf P ops S o v a ∧ S w ∧ wpMix P ops Q S r (a.put o.dst v) w
  | (1, o) :: r, a, w => ∀ K : Act → World → Prop, (∀ a' w', S w' → wpMix P ops Q S r a' w' → K a' w') → if Region.wanted o (yielded ops a.tmps) = true then o.wp P a w K Q else K (a.put o.dst undef) w
  | (_ + 2, o) :: r, a, w => ∀ K : Act → World → Prop, (∀ a' w', wpMix P ops Q S r a' w' → K a' w') → if Region.wanted o (yielded ops a.tmps) = true then o.wp P a w K Q else K (a.put o.dst undef) w
def pickOps (l : List Oper) : List (Nat × Nat) → List (Nat × Oper)
  | [] => []
  | p :: r => match l[p.1]? with
    | some o => (p.2, o) :: pickOps l r
    | none => []
def mixB (md : Region.Mode) (ops : Array Oper) (last : Nat) : List (Nat × Nat) → Array Bool → Bool
  | [], listed => (Region.ready md ops listed).isEmpty
  | (k, 0) :: r, listed => Region.free md ops listed k && (Region.ready md ops listed).contains k && mixB md ops last r (listed.setIfInBounds k true)
  | (k, 1) :: r, listed => decide (Region.ready md ops listed = [k]) && mixB md ops last r (listed.setIfInBounds k true)
  | (k, _ + 2) :: r, listed => decide (k = last) && decide (Region.ready md ops listed = [k]) && mixB md ops last r (listed.setIfInBounds k true)
theorem wpAnyG_mix {l : List Oper} (hlast : lastB md l.toArray last = true) (hsel : Region.noSelect l.toArray = true) (hQ : ∀ c d v a w, Q (.panic c) (a.put d v) w → Q (.panic c) a w) :
    ∀ (ks : List (Nat × Nat)) (listed : Array Bool) (a : Act) (w : World), mixB md l.toArray last ks listed = true → wpMix P l.toArray Q S (pickOps l ks) a w → wpAnyG P md l.toArray Q S last ks.length listed a w
  | [], listed, a, w, hB, h => ⟨by simpa [mixB] using hB, h⟩
  | (k, 0) :: r, listed, a, w, hB, h => by
    simp only [mixB, Bool.and_eq_true] at hB
    obtain ⟨⟨hf, hr⟩, hB⟩ := hB
    have hr' : k ∈ Region.ready md l.toArray listed := by simpa using hr
    obtain ⟨_, o, ho, _⟩ := mem_ready.1 hr'
    have hol : l[k]? = some o := by simpa using ho
    simp only [pickOps, hol] at h
    obtain ⟨v, hy, hS, h⟩ := h
    exact wpAnyG_first hlast ho (Region.noSelect_spec hsel) (fun c a w => hQ c _ _ a w) r.length listed a w (Region.free_spec ho hf) hr' hy hS (wpAnyG_mix hlast hsel hQ r _ _ _ hB h)
  | (k, 1) :: r, listed, a, w, hB, h => by
    simp only [mixB, Bool.and_eq_true, decide_eq_true_eq] at hB
    obtain ⟨hr, hB⟩ := hB
    have hr' : k ∈ Region.ready md l.toArray listed := by rw [hr]; simp
    obtain ⟨_, o, ho, _⟩ := mem_ready.1 hr'
    have hol : l[k]? = some o := by simpa using ho
    simp only [pickOps, hol] at h
    refine ⟨fun h0 => (by rw [hr] at h0; cases h0), fun i hi => ?_⟩
    rw [hr] at hi
    obtain rfl : i = k := by simpa using hi
    unfold wpOp
    simp only [ho]
    have h2 := h (fun a' w' => (i = last ∨ S w') ∧ wpAnyG P md l.toArray Q S last r.length (listed.setIfInBounds i true) a' w') fun a' w' hs hm => ⟨Or.inr hs, wpAnyG_mix hlast hsel hQ r _ _ _ hB hm⟩
    by_cases hw : Region.wanted o (yielded l.toArray a.tmps) = true
    · rw [if_pos hw] at h2 ⊢; exact Or.inl h2
    · rw [if_neg hw] at h2 ⊢; exact h2
  | (k, _ + 2) :: r, listed, a, w, hB, h => by
    simp only [mixB, Bool.and_eq_true, decide_eq_true_eq] at hB
    obtain ⟨⟨hk, hr⟩, hB⟩ := hB
    have hr' : k ∈ Region.ready md l.toArray listed := by rw [hr]; simp
    obtain ⟨_, o, ho, _⟩ := mem_ready.1 hr'
    have hol : l[k]? = some o := by simpa using ho
    simp only [pickOps, hol] at h
    refine ⟨fun h0 => (by rw [hr] at h0; cases h0), fun i hi => ?_⟩
    rw [hr] at hi
    obtain rfl : i = k := by simpa using hi
    unfold wpOp
    simp only [ho]
    have h2 := h (fun a' w' => (i = last ∨ S w') ∧ wpAnyG P md l.toArray Q S last r.length (listed.setIfInBounds i true) a' w') fun a' w' hm => ⟨Or.inl hk, wpAnyG_mix hlast hsel hQ r _ _ _ hB hm⟩
    by_cases hw : Region.wanted o (yielded l.toArray a.tmps) = true
    · rw [if_pos hw] at h2 ⊢; exact Or.inl h2
    · rw [if_neg hw] at h2 ⊢; exact h2
theorem wp_region_mix {id : Nat} {a : Act} {w : World} {l : List Oper} (S : World → Prop) (last : Nat) (ks : List (Nat × Nat)) (hm : P.follows .mixedOrders = true)
    (hB : (decide (ks.length = l.length) && lastB .any l.toArray last && Region.noSelect l.toArray && mixB .any l.toArray last ks (Array.replicate l.toArray.size false)) = true)
    (hQ : ∀ c d v a w, Q (.panic c) (a.put d v) w → Q (.panic c) a w)
    (h : wpMix P l.toArray Q S (pickOps l ks) a w.drew) : (Code.region id l.toArray true).wp P Q a w := by
  simp only [Bool.and_eq_true, decide_eq_true_eq] at hB
  obtain ⟨⟨⟨hlen, hl⟩, hs⟩, hB⟩ := hB
  refine wp_region_any hm (wpAny_of_G (S := S) (last := last) _ _ _ _ ?_)
  have := wpAnyG_mix (Q := Q) (S := S) (P := P) hl hs hQ ks _ a w.drew hB h
  rw [hlen] at this
  simpa using this
end
end Go.Proofs.YtgnblaaldpniiaaGreatDoor
end
section
set_option maxRecDepth 100000
set_option linter.unusedVariables false
set_option linter.unusedSimpArgs false
namespace Go.Proofs.YtgnblaaldpniiaaGreatDoor
open Go.RowKit
section
variable {P : Program} {ops : Array Oper} {Q : Exit → Act → World → Prop}
def lateB (ops : Array Oper) (q : Nat) : Bool :=
  Region.noSelect ops && (List.range ops.size).all fun j => match ops[j]?, ops[q]? with
    | some oj, some oq => (oj.after.all fun e => Region.binds .any e || !Region.binds .text e || (e.on == q && !(j == q) && oq.after.all fun d => !Region.binds .any d || oj.after.any fun e' => Region.binds .any e' && e'.on == d.on)) &&
        (j == q || (oj.after.any fun e => Region.binds .any e && e.on == q) || (oq.after.any fun e => Region.binds .any e && e.on == j) || oq.apart ops oj)
    | _, _ => false
theorem binds_any_text {e : Edge} (h : Region.binds .any e = true) : Region.binds .text e = true := by
  cases e with
  | mk on g => cases g <;> simp_all [Region.binds]
theorem late_spec {q j : Nat} {oj oq : Oper} (h : lateB ops q = true) (hj : ops[j]? = some oj) (hq : ops[q]? = some oq) :
    (∀ e ∈ oj.after, Region.binds .text e = true → Region.binds .any e = true ∨ (e.on = q ∧ j ≠ q ∧ ∀ d ∈ oq.after, Region.binds .any d = true → ∃ e' ∈ oj.after, Region.binds .any e' = true ∧ e'.on = d.on)) ∧
    (j = q ∨ (∃ e ∈ oj.after, Region.binds .any e = true ∧ e.on = q) ∨ (∃ e ∈ oq.after, Region.binds .any e = true ∧ e.on = j) ∨ oq.apart ops oj = true) := by
  unfold lateB at h
  rw [Bool.and_eq_true] at h
  have hlt : j < ops.size := (Array.getElem?_eq_some_iff.1 hj).1
  have h1 := List.all_eq_true.1 h.2 j (List.mem_range.2 hlt)
  simp only [hj, hq, Bool.and_eq_true] at h1
  obtain ⟨h1, h2⟩ := h1
  refine ⟨fun e he hb => ?_, ?_⟩
  · have h3 := Array.all_eq_true_iff_forall_mem.1 h1 e he
    simp only [Bool.or_eq_true, Bool.and_eq_true, Bool.not_eq_true', beq_iff_eq] at h3
    rcases h3 with (h3 | h3) | h3
    · exact .inl h3
    · rw [hb] at h3; exact Bool.noConfusion h3
    · refine .inr ⟨h3.1.1, by simpa using h3.1.2, fun d hd hbd => ?_⟩
      have h4 := Array.all_eq_true_iff_forall_mem.1 h3.2 d hd
      simp only [Bool.or_eq_true, Bool.not_eq_true'] at h4
      rcases h4 with h4 | h4
      · rw [hbd] at h4; exact Bool.noConfusion h4
      · obtain ⟨i, hi, h5⟩ := Array.any_eq_true.1 h4
        simp only [Bool.and_eq_true, beq_iff_eq] at h5
        exact ⟨_, Array.getElem_mem hi, h5.1, h5.2⟩
  · simp only [Bool.or_eq_true, beq_iff_eq] at h2
    rcases h2 with ((h2 | h2) | h2) | h2
    · exact .inl h2
    · obtain ⟨i, hi, h5⟩ := Array.any_eq_true.1 h2
      simp only [Bool.and_eq_true, beq_iff_eq] at h5
      exact .inr (.inl ⟨_, Array.getElem_mem hi, h5.1, h5.2⟩)
    · obtain ⟨i, hi, h5⟩ := Array.any_eq_true.1 h2
      simp only [Bool.and_eq_true, beq_iff_eq] at h5
      exact .inr (.inr (.inl ⟨_, Array.getElem_mem hi, h5.1, h5.2⟩))
    · exact .inr (.inr (.inr h2))
theorem ready_text_any {i : Nat} {listed : Array Bool} (h : i ∈ Region.ready .text ops listed) : i ∈ Region.ready .any ops listed := by
  obtain ⟨h1, o, ho, h2⟩ := mem_ready.1 h
  exact mem_ready.2 ⟨h1, o, ho, fun e he hb => h2 e he (binds_any_text hb)⟩
theorem ready_late {q i : Nat} {oq : Oper} {listed : Array Bool} (hB : lateB ops q = true) (hq : ops[q]? = some oq) (hs : listed.size = ops.size) (h : i ∈ Region.ready .any ops listed) :
    i ∈ Region.ready .text ops listed ∨ q ∈ Region.ready .text ops listed := by
  obtain ⟨h1, o, ho, h2⟩ := mem_ready.1 h
  by_cases hall : ∀ e ∈ o.after, Region.binds .text e = true → listed.getD e.on false = true
  · exact .inl (mem_ready.2 ⟨h1, o, ho, hall⟩)
  · simp only [Classical.not_forall] at hall
    obtain ⟨e, he, hb, hl⟩ := hall
    rcases (late_spec hB ho hq).1 e he hb with h3 | ⟨h3, _, h4⟩
    · exact absurd (h2 e he h3) hl
    · refine .inr (mem_ready.2 ⟨?_, oq, hq, fun d hd hbd => ?_⟩)
      · rw [h3] at hl
        have hlt : q < listed.size := by rw [hs]; exact (Array.getElem?_eq_some_iff.1 hq).1
        simp only [Array.getD_eq_getD_getElem?, Array.getElem?_eq_getElem hlt, Option.getD_some] at hl ⊢
        simpa using hl
      · rcases (late_spec hB hq hq).1 d hd hbd with h5 | ⟨_, h5, _⟩
        · obtain ⟨e', he', hb', hon⟩ := h4 d hd h5
          rw [← hon]
          exact h2 e' he' hb'
        · exact absurd rfl h5
theorem run_extractL {o : Oper} {x : Operand} {k : Nat} (ho : o.op = .extract x k) (a : Act) {w : World} {K : Act → World → Prop} (h : o.wp P a w K Q ∨ (o.asks P a w ∧ LetsOut Q)) :
    ∃ v, (∀ w, (execOp a.eval o).run P w = .ok (.value v) w) ∧ K (a.put o.dst v) w := by
  by_cases hv : ∃ vs v, a.eval x = .tuple vs ∧ vs[k]? = some v
  · obtain ⟨vs, v, h1, h2⟩ := hv
    have hr : ∀ w, (execOp a.eval o).run P w = .ok (.value v) w := fun w => by
      simp [execOp, ho, Instr.extract, h1, h2]
    refine ⟨v, hr, ?_⟩
    rcases h with h | h
    · unfold Oper.wp at h
      rw [hr w] at h
      exact h
    · have h3 := h.1.1
      simp [execOp, ho, Instr.extract, h1, h2] at h3
      exact absurd (show noRoomEvent ∈ (#[] : Array Event) from h3) (by simp)
  · have hr : ∃ why, execOp a.eval o = (do pure (.value (← (stuck why : Sem Value)))) := by
      cases hx : a.eval x with
      | tuple vs =>
        cases hk : vs[k]? with
        | some v => exact absurd ⟨vs, v, hx, hk⟩ hv
        | none => exact Exists.intro "Extract: no such component" (by simp only [execOp, ho, Instr.extract, hx, hk])
      | _ => exact Exists.intro "Extract: tuple expected" (by simp only [execOp, ho, Instr.extract, hx])
    obtain ⟨why, hr⟩ := hr
    exfalso
    rcases h with h | h
    · unfold Oper.wp at h
      rw [hr] at h
      simp [stuck, Oper.upon] at h
    · have h3 := h.1.1
      rw [hr] at h3
      exact absurd (show noRoomEvent ∈ (#[] : Array Event) from h3) (by simp)
theorem any_of_text {q : Nat} {oq : Oper} {x : Operand} {k : Nat} (hq : ops[q]? = some oq) (hex : oq.op = .extract x k) (hB : lateB ops q = true) (hQ : ∀ c v a w, Q (.panic c) (a.put oq.dst v) w → Q (.panic c) a w) :
    ∀ (f : Nat) (listed : Array Bool) (a : Act) (w : World), listed.size = ops.size → wpAny P .text ops Q f listed a w → wpAny P .any ops Q f listed a w := by
  have hsel : ∀ (j : Nat) (o : Oper) cs b, ops[j]? = some o → o.op ≠ .select cs b := by
    unfold lateB at hB
    rw [Bool.and_eq_true] at hB
    exact Region.noSelect_spec hB.1
  intro f
  induction f with
  | zero =>
    intro listed a w hs h
    refine ⟨?_, h.2⟩
    match hr : Region.ready .any ops listed with
    | [] => rfl
    | i :: r =>
      exfalso
      rcases ready_late hB hq hs (i := i) (by rw [hr]; simp) with h1 | h1 <;> (rw [h.1] at h1; simp at h1)
  | succ f ih =>
    intro listed a w hs h
    by_cases hqr : q ∈ Region.ready .text ops listed
    · have h2 := h.2 q hqr
      unfold wpOp at h2
      simp only [hq] at h2
      have hfree : ∀ j oj, ops[j]? = some oj → j ≠ q → listed.getD j true = false → (∀ e ∈ oj.after, Region.binds .any e = true → e.on ≠ q) → oq.apart ops oj = true := fun j oj hj hne hun hno => by
        rcases (late_spec hB hj hq).2 with h3 | ⟨e, he, hb, hon⟩ | ⟨e, he, hb, hon⟩ | h3
        · exact absurd h3 hne
        · exact absurd hon (hno e he hb)
        · obtain ⟨_, oq', hq', h4⟩ := mem_ready.1 hqr
          obtain rfl : oq = oq' := Option.some.inj (hq.symm.trans hq')
          have h5 := h4 e he (binds_any_text hb)
          rw [hon, getD_both hun] at h5
          exact Bool.noConfusion h5
        · exact h3
      by_cases hw : Region.wanted oq (yielded ops a.tmps) = true
      · rw [if_pos hw] at h2
        obtain ⟨v, hr, hK⟩ := run_extractL hex a h2
        exact wpAny_first hq hsel (fun c a w hp => hQ c v a w hp) f listed a w hfree (ready_text_any hqr) (.inl ⟨hw, hr⟩) (ih _ _ _ (by simpa using hs) hK)
      · rw [if_neg hw] at h2
        exact wpAny_first hq hsel (fun c a w hp => hQ c undef a w hp) f listed a w hfree (ready_text_any hqr) (.inr ⟨by simpa using hw, rfl⟩) (ih _ _ _ (by simpa using hs) h2)
    · have hsub : ∀ i, i ∈ Region.ready .any ops listed → i ∈ Region.ready .text ops listed := fun i hi => by
        rcases ready_late hB hq hs hi with h1 | h1
        · exact h1
        · exact absurd h1 hqr
      refine ⟨fun h0 => h.1 ?_, fun i hi => wpOp_mono (fun a w hK => ih _ a w (by simpa using hs) hK) (h.2 i (hsub i hi))⟩
      match hr : Region.ready .text ops listed with
      | [] => rfl
      | i :: r =>
        exfalso
        have := ready_text_any (ops := ops) (listed := listed) (i := i) (by rw [hr]; simp)
        rw [h0] at this
        simp at this
theorem wp_region_from_allocL {id : Nat} {Q : Exit → Act → World → Prop} {a : Act} {w : World} {l : List Oper} (n p q : Nat) (op oq : Oper) (xq : Operand) (kq : Nat) (ty : TypeId) (Z : Array Value) (hop : l[p]? = some op) (hoq : l[q]? = some oq) (hex : oq.op = .extract xq kq) (hal : op.op = .alloc ty) (hgd : op.guard = none)
    (hz : ∀ w, (zeroValue ty).run P w = .ok (.agg Z) w) (hm : P.follows .mixedOrders = true) (hB : tailAB .text l.toArray n p a.tmps.size = true) (hL : lateB l.toArray q = true) (hQ2 : ∀ c v a' w, Q (.panic c) (a'.put oq.dst v) w → Q (.panic c) a' w)
    (H : ∃ AF : Nat → Act, (∀ u, From w.drew u → ∀ x, wpQuiet P l.toArray (fun w' => ∃ h : Held (From u), w' = h.w) (fun a' => a' = AF x) ((l.take n).eraseIdx p) (a.put op.dst (.pointer (some ⟨x, 0, none⟩)))) ∧
      (∀ x, AF x = (AF 0).put op.dst (.pointer (some ⟨x, 0, none⟩))) ∧ (∀ x w', From w.drew w' → Fresh w ty Z x w' → wpList P l.toArray Q (l.drop n) (AF x) w')) : (Code.region id l.toArray true).wp P Q a w := by
  obtain ⟨AF, h, hAF, hT⟩ := H
  simp only [tailAB, Bool.and_eq_true, decide_eq_true_eq] at hB
  obtain ⟨⟨⟨⟨⟨⟨⟨⟨hsel, hn⟩, hpn⟩, hs⟩, hc⟩, hrp⟩, hfp⟩, hord⟩, how⟩ := hB
  have hnl : n < l.length := by simpa using hn
  have htl : ((l.take n).eraseIdx p).length = n - 1 := by rw [List.length_eraseIdx, if_pos (by simp; omega)]; simp; omega
  have hdl : (l.drop n).length = l.toArray.size - n := by simp
  have hopA : l.toArray[p]? = some op := by simpa using hop
  have hrp' : p ∈ Region.ready .text l.toArray (Array.replicate l.toArray.size false) := by simpa using hrp
  have inv0 : HeadInv .text l.toArray n (Array.replicate l.toArray.size false) :=
    ⟨by simp, fun j oj _ hl => (by rw [getD_replicate_false] at hl; cases hl), fun t _ ht => getD_in (by simpa using ht) (getD_replicate_false _ _)⟩
  have inv1 := inv0.set hrp' hpn
  have hmap : ((List.range n).eraseIdx p).map (l.toArray[·]?) = ((l.take n).eraseIdx p).map some := by
    rw [List.eraseIdx_eq_take_drop_succ, List.eraseIdx_eq_take_drop_succ, List.map_append, List.map_append, List.map_take, List.map_take, List.map_drop, List.map_drop]
    suffices e : (List.range n).map (l.toArray[·]?) = (l.take n).map some by rw [e]
    apply List.ext_getElem?
    intro j
    simp only [List.getElem?_map, List.getElem?_take]
    by_cases hj : j < n
    · rw [List.getElem?_range hj]
      simp [hj, show j < l.length by omega]
    · rw [List.getElem?_eq_none (by simp; omega)]
      simp [hj]
  refine wp_region_any hm (any_of_text (by simpa using hoq) hex hL hQ2 _ _ _ _ (by simp) ?_)
  have hsz : l.toArray.size = (n - 1) + 1 + (l.toArray.size - n) := by simp; omega
  have hT2 : ∀ x w', From w.drew w' → Fresh w.drew ty Z x w' → ∀ listed, Region.seqB .text l.toArray (l.toArray.size - n) n listed = true → wpAny P .text l.toArray Q (l.toArray.size - n) listed (AF x) w' := fun x w' hw' hF listed hl => by
    have := wpAny_of_seq (md := .text) (Q' := Q) (l.drop n) n listed (AF x) w' (fun j => by simp [List.getElem?_drop]) (by rw [hdl]; exact hl) (hT x w' hw' hF)
    rwa [hdl] at this
  have K := anyA (g := l.toArray.size - n) (w0 := w.drew) hopA hal hgd hz (Region.noSelect_spec hsel) hs hc hn hpn how (fun x d hd => by rw [hAF x]; exact put_else _ _ _ _ hd) hT2 (n - 1) _ a w.drew inv0 rfl hrp' (Region.free_spec hopA hfp) (From.refl _) fun u hu x => by
    have H := wpAnyT_ord (md := .text) (g := l.toArray.size - n) (pre := []) (C := cls u) (Lq := fun a' => a' = AF x) hsel hs hc hn _ _ _ _ hmap inv1 (fun _ h => by simp at h) hord (h u hu x)
    rw [htl] at H
    exact H
  rw [← hsz] at K
  exact K
end
end Go.Proofs.YtgnblaaldpniiaaGreatDoor
end
section
set_option maxRecDepth 100000
set_option linter.unusedVariables false
set_option linter.unusedSimpArgs false
namespace Go.Proofs.YtgnblaaldpniiaaGreatDoor
open Go.RowKit
section
variable {P : Program} {ops : Array Oper} {md : Region.Mode}
theorem alloc_op {p : Nat} {op : Oper} {ty : TypeId} {Z : Array Value} {Q : Exit → Act → World → Prop} {K : Act → World → Prop} (hp : ops[p]? = some op) (hal : op.op = .alloc ty) (hgd : op.guard = none) (hz : ∀ w, (zeroValue ty).run P w = .ok (.agg Z) w) {a : Act} {w : World}
    (h : K (a.put op.dst (.pointer (some ⟨w.heap.size, 0, none⟩))) (w.alloc (.cells Z ty))) : wpOp P ops Q p K a w := by
  unfold wpOp
  simp only [hp]
  have hwt : Region.wanted op (yielded ops a.tmps) = true := by simp [Region.wanted, hgd]
  rw [if_pos hwt]
  refine .inl ?_
  unfold Oper.wp execOp
  simp only [hal, Instr.alloc, Sem.run_bind, hz, newVar, newRow, run_newObj_alloc, Sem.run_pure, Result.andThen_ok]
  exact h
theorem anyA2 {n g p q m : Nat} {op oq : Oper} {ty : TypeId} {Z : Array Value} {Q : Exit → Act → World → Prop} {AF : Nat → Nat → Act} {w0 : World}
    (hp : ops[p]? = some op) (hal : op.op = .alloc ty) (hgd : op.guard = none) (hq : ops[q]? = some oq) (halq : oq.op = .alloc ty) (hgdq : oq.guard = none) (hpq : p ≠ q) (hdq : ∀ d, op.dst = some d → oq.dst ≠ some d) (hz : ∀ w, (zeroValue ty).run P w = .ok (.agg Z) w)
    (hsel : ∀ (j : Nat) (o : Oper) cs b, ops[j]? = some o → o.op ≠ .select cs b) (hs : sinkP md ops n [] = true) (hc : Region.chainB md ops n = true) (hn : n < ops.size) (hpn : p < n) (hqn : q < n) (how : ownB ops n m = true)
    (hAF : ∀ x y d, op.dst ≠ some d → oq.dst ≠ some d → (AF x y).tmps.getD d undef = (AF 0 0).tmps.getD d undef)
    (hAp : ∀ x y d, op.dst ≠ some d → (AF x y).tmps.getD d undef = (AF 0 y).tmps.getD d undef) (hAq : ∀ x y d, oq.dst ≠ some d → (AF x y).tmps.getD d undef = (AF x 0).tmps.getD d undef)
    (hT : ∀ x y w, x ≠ y → From w0 w → Fresh w0 ty Z x w → Fresh w0 ty Z y w → ∀ listed, Region.seqB md ops g n listed = true → wpAny P md ops Q g listed (AF x y) w) :
    ∀ (f : Nat) (listed : Array Bool) (a : Act) (w : World), HeadInv md ops n listed → a.tmps.size = m → p ∈ Region.ready md ops listed → q ∈ Region.ready md ops listed →
      (∀ j oj, ops[j]? = some oj → j ≠ p → listed.getD j true = false → (∀ e ∈ oj.after, Region.binds md e = true → e.on ≠ p) → op.apart ops oj = true) →
      (∀ j oj, ops[j]? = some oj → j ≠ q → listed.getD j true = false → (∀ e ∈ oj.after, Region.binds md e = true → e.on ≠ q) → oq.apart ops oj = true) → From w0 w →
      (∀ u, From w u → ∀ x y, wpAnyT P md ops (cls u) n (fun l a' => Region.seqB md ops g n l = true ∧ a' = AF x y) f ((listed.setIfInBounds p true).setIfInBounds q true) ((a.put op.dst (.pointer (some ⟨x, 0, none⟩))).put oq.dst (.pointer (some ⟨y, 0, none⟩)))) →
      wpAny P md ops Q (f + 2 + g) listed a w := by
  have growA : ∀ w : World, From w (w.alloc (.cells Z ty)) := fun w => (Below.refl _ _).alloc (Nat.le_refl _) _
  -- one of the two has come up: the other's turn is anyA's
  have first : ∀ (f : Nat) (listed : Array Bool) (a : Act) (w : World), HeadInv md ops n listed → a.tmps.size = m → p ∈ Region.ready md ops listed → q ∈ Region.ready md ops listed →
      (∀ j oj, ops[j]? = some oj → j ≠ q → listed.getD j true = false → (∀ e ∈ oj.after, Region.binds md e = true → e.on ≠ q) → oq.apart ops oj = true) → From w0 w →
      (∀ u, From w u → ∀ x y, wpAnyT P md ops (cls u) n (fun l a' => Region.seqB md ops g n l = true ∧ a' = AF x y) f ((listed.setIfInBounds p true).setIfInBounds q true) ((a.put op.dst (.pointer (some ⟨x, 0, none⟩))).put oq.dst (.pointer (some ⟨y, 0, none⟩)))) →
      wpOp P ops Q p (wpAny P md ops Q (f + 1 + g) (listed.setIfInBounds p true)) a w := by
    intro f listed a w inv ham hpr hqr hfq hw H
    refine alloc_op hp hal hgd hz ?_
    have hF : Fresh w0 ty Z w.heap.size (w.alloc (.cells Z ty)) := ⟨heap_alloc_new w _, hw.size⟩
    refine anyA (AF := fun y => AF w.heap.size y) (w0 := w.alloc (.cells Z ty)) hq halq hgdq hz hsel hs hc hn hqn how (fun y d hd => hAq _ y d hd) (fun y w' hw' hFy listed hl => ?_) f _ _ _ (inv.set hpr hpn) (by rw [put_size]; exact ham) (ready_mono hqr (Ne.symm hpq))
      (fun j oj hj hjq hl hno => hfq j oj hj hjq ?_ hno) (From.refl _) (fun u hu y => H u ((growA w).trans hu) _ y)
    · refine hT _ _ _ ?_ ((hw.trans (growA w)).trans hw') (hF.from hw') ⟨hFy.1, Nat.le_trans (hw.trans (growA w)).size hFy.2⟩ listed hl
      have h1 := hFy.2
      rw [World.size_alloc] at h1
      omega
    · by_cases e : p = j
      · subst e; exact (mem_ready.1 hpr).1
      · rwa [getD_set_ne true e] at hl
  have second : ∀ (f : Nat) (listed : Array Bool) (a : Act) (w : World), HeadInv md ops n listed → a.tmps.size = m → p ∈ Region.ready md ops listed → q ∈ Region.ready md ops listed →
      (∀ j oj, ops[j]? = some oj → j ≠ p → listed.getD j true = false → (∀ e ∈ oj.after, Region.binds md e = true → e.on ≠ p) → op.apart ops oj = true) → From w0 w →
      (∀ u, From w u → ∀ x y, wpAnyT P md ops (cls u) n (fun l a' => Region.seqB md ops g n l = true ∧ a' = AF x y) f ((listed.setIfInBounds p true).setIfInBounds q true) ((a.put op.dst (.pointer (some ⟨x, 0, none⟩))).put oq.dst (.pointer (some ⟨y, 0, none⟩)))) →
      wpOp P ops Q q (wpAny P md ops Q (f + 1 + g) (listed.setIfInBounds q true)) a w := by
    intro f listed a w inv ham hpr hqr hfp hw H
    refine alloc_op hq halq hgdq hz ?_
    have hF : Fresh w0 ty Z w.heap.size (w.alloc (.cells Z ty)) := ⟨heap_alloc_new w _, hw.size⟩
    refine anyA (AF := fun x => AF x w.heap.size) (w0 := w.alloc (.cells Z ty)) hp hal hgd hz hsel hs hc hn hpn how (fun x d hd => hAp x _ d hd) (fun x w' hw' hFx listed hl => ?_) f _ _ _ (inv.set hqr hqn) (by rw [put_size]; exact ham) (ready_mono hpr hpq)
      (fun j oj hj hjp hl hno => hfp j oj hj hjp ?_ hno) (From.refl _) (fun u hu x => ?_)
    · refine hT _ _ _ ?_ ((hw.trans (growA w)).trans hw') ⟨hFx.1, Nat.le_trans (hw.trans (growA w)).size hFx.2⟩ (hF.from hw') listed hl
      have h1 := hFx.2
      rw [World.size_alloc] at h1
      omega
    · by_cases e : q = j
      · subst e; exact (mem_ready.1 hqr).1
      · rwa [getD_set_ne true e] at hl
    · have h := H u ((growA w).trans hu) x w.heap.size
      rw [Array.setIfInBounds_comm _ _ hpq, Act.put_comm a (.pointer (some ⟨x, 0, none⟩)) (.pointer (some ⟨w.heap.size, 0, none⟩)) (x := op.dst) (y := oq.dst) (fun e he => fun he2 => hdq e he he2)] at h
      exact h
  intro f
  induction f with
  | zero =>
    intro listed a w inv ham hpr hqr hfp hfq hw H
    rw [show 0 + 2 + g = (0 + 1 + g) + 1 by omega]
    refine ⟨fun h0 => absurd h0 (List.ne_nil_of_mem hpr), fun i hi => ?_⟩
    by_cases hip : i = p
    · subst hip
      exact first 0 listed a w inv ham hpr hqr hfq hw H
    · by_cases hiq : i = q
      · subst hiq
        exact second 0 listed a w inv ham hpr hqr hfp hw H
      · exfalso
        have hL := H w (From.refl w) 0 0
        have hr2 := ready_mono (ready_mono hi hip) hiq
        have hge := seqB_ready hL.1 i hr2
        exact tail_waitsP (pre := []) hs hc hn inv (fun _ h => by simp at h) _ p rfl hpn (mem_ready.1 hpr).1 i hge hi
  | succ f ih =>
    intro listed a w inv ham hpr hqr hfp hfq hw H
    rw [show f + 1 + 2 + g = (f + 2 + g) + 1 by omega]
    refine ⟨fun h0 => absurd h0 (List.ne_nil_of_mem hpr), fun i hi => ?_⟩
    by_cases hip : i = p
    · subst hip
      exact first (f + 1) listed a w inv ham hpr hqr hfq hw H
    by_cases hiq : i = q
    · subst hiq
      exact second (f + 1) listed a w inv ham hpr hqr hfp hw H
    obtain ⟨hiun, oi, hoi, hall⟩ := mem_ready.1 hi
    have hnotp : ∀ e ∈ oi.after, Region.binds md e = true → e.on ≠ p := by
      intro e he hb heq
      have h1 := hall e he hb
      rw [heq, getD_both (mem_ready.1 hpr).1] at h1
      exact Bool.noConfusion h1
    have hnotq : ∀ e ∈ oi.after, Region.binds md e = true → e.on ≠ q := by
      intro e he hb heq
      have h1 := hall e he hb
      rw [heq, getD_both (mem_ready.1 hqr).1] at h1
      exact Bool.noConfusion h1
    have hap := Oper.apart_spec (hfp i oi hoi hip hiun hnotp)
    have haq := Oper.apart_spec (hfq i oi hoi hiq hiun hnotq)
    have hr2 := ready_mono (md := md) (ready_mono (md := md) hi hip) hiq
    have hin : i < n := ((H w (From.refl w) 0 0).2 i hr2).1
    obtain ⟨d, hdd, hdm, hdo⟩ := ownB_spec how hin hoi
    have key : ∀ u, From w u → ∀ x y, YieldsIn P ops (cls u) oi ((AF 0 0).tmps.getD d undef) a ∧
        wpAnyT P md ops (cls u) n (fun l a' => Region.seqB md ops g n l = true ∧ a' = AF x y) f (((listed.setIfInBounds i true).setIfInBounds p true).setIfInBounds q true) (((a.put oi.dst ((AF 0 0).tmps.getD d undef)).put op.dst (.pointer (some ⟨x, 0, none⟩))).put oq.dst (.pointer (some ⟨y, 0, none⟩))) := by
      intro u hu x y
      obtain ⟨v, hy, hK⟩ := yieldsIn_of_qOp hoi ((H u hu x y).2 i hr2).2
      have hkeep := anyT_keep (d := d) f _ _ hK (fun j oj hj hl hjn => hdo j oj hjn (fun e => by
        subst e
        rw [Array.getD_eq_getD_getElem?, Array.getElem?_setIfInBounds_self] at hl
        split at hl <;> simp at hl) hj)
      rw [hdd, put_same _ d v (by rw [put_size, put_size, ham]; exact hdm)] at hkeep
      have hv : (AF 0 0).tmps.getD d undef = v := by
        rw [← hkeep]
        exact (hAF x y d (fun e => hdo p op hpn (Ne.symm hip) hp e) (fun e => hdo q oq hqn (Ne.symm hiq) hq e)).symm
      rw [hv]
      have hy1 : YieldsIn P ops (cls u) oi v (a.put op.dst (.pointer (some ⟨x, 0, none⟩))) := hy.of_same (execOp_put oi (fun cs b => hsel i oi cs b hoi) (a.put op.dst (.pointer (some ⟨x, 0, none⟩))) oq.dst _ haq.1).symm (wanted_put oi (a.put op.dst (.pointer (some ⟨x, 0, none⟩))) oq.dst _ haq.1).symm
      refine ⟨hy1.of_same (execOp_put oi (fun cs b => hsel i oi cs b hoi) a op.dst _ hap.1).symm (wanted_put oi a op.dst _ hap.1).symm, ?_⟩
      rw [Array.setIfInBounds_comm _ _ hip, Array.setIfInBounds_comm _ _ hiq]
      rw [Act.put_comm a v (.pointer (some ⟨x, 0, none⟩)) (x := oi.dst) (y := op.dst) (fun e he he2 => hap.2.1 e he2 he)]
      rw [Act.put_comm (a.put op.dst (.pointer (some ⟨x, 0, none⟩))) v (.pointer (some ⟨y, 0, none⟩)) (x := oi.dst) (y := oq.dst) (fun e he he2 => haq.2.1 e he2 he)]
      exact hK
    refine wpOp_of_qOp (C := cls w) (K := fun a' => a' = a.put oi.dst ((AF 0 0).tmps.getD d undef)) (cls.of (From.refl w)) (fun a' w' hw' ha' => ?_) ((key w (From.refl w) 0 0).1.qOp hoi rfl)
    subst ha'
    refine ih _ _ _ (inv.set hi hin) (by rw [put_size]; exact ham) (ready_mono hpr (Ne.symm hip)) (ready_mono hqr (Ne.symm hiq)) (fun j oj hj hjp hl hno => hfp j oj hj hjp ?_ hno) (fun j oj hj hjp hl hno => hfq j oj hj hjp ?_ hno) (hw.trans hw'.from) fun u hu x y => (key u (hw'.from.trans hu) x y).2
    · by_cases e : i = j
      · subst e; exact hiun
      · rwa [getD_set_ne true e] at hl
    · by_cases e : i = j
      · subst e; exact hiun
      · rwa [getD_set_ne true e] at hl
def tailAAB (md : Region.Mode) (ops : Array Oper) (n p q m : Nat) : Bool :=
  Region.noSelect ops && decide (n < ops.size) && decide (p < n) && decide (q < n) && decide (q < p) && sinkP md ops n [] && Region.chainB md ops n && (Region.ready md ops (Array.replicate ops.size false)).contains p && (Region.ready md ops (Array.replicate ops.size false)).contains q &&
  Region.free md ops (Array.replicate ops.size false) p && Region.free md ops (Array.replicate ops.size false) q && ordB md ops (ops.size - n) n (((List.range n).eraseIdx p).eraseIdx q) (((Array.replicate ops.size false).setIfInBounds p true).setIfInBounds q true) && ownB ops n m
theorem wp_region_from_alloc2 {id : Nat} {Q : Exit → Act → World → Prop} {a : Act} {w : World} {l : List Oper} (n p q : Nat) (op oq : Oper) (ty : TypeId) (Z : Array Value) (hop : l[p]? = some op) (hal : op.op = .alloc ty) (hgd : op.guard = none) (hoq : l[q]? = some oq) (halq : oq.op = .alloc ty) (hgdq : oq.guard = none) (hdq : ∀ d, op.dst = some d → oq.dst ≠ some d)
    (hz : ∀ w, (zeroValue ty).run P w = .ok (.agg Z) w) (hm : P.follows .mixedOrders = true) (hB : tailAAB .any l.toArray n p q a.tmps.size = true)
    (H : ∃ AF : Nat → Nat → Act, (∀ u, From w.drew u → ∀ x y, wpQuiet P l.toArray (fun w' => ∃ h : Held (From u), w' = h.w) (fun a' => a' = AF x y) (((l.take n).eraseIdx p).eraseIdx q) ((a.put op.dst (.pointer (some ⟨x, 0, none⟩))).put oq.dst (.pointer (some ⟨y, 0, none⟩)))) ∧
      (∀ x y, AF x y = ((AF 0 0).put op.dst (.pointer (some ⟨x, 0, none⟩))).put oq.dst (.pointer (some ⟨y, 0, none⟩))) ∧ (∀ x y w', x ≠ y → From w.drew w' → Fresh w ty Z x w' → Fresh w ty Z y w' → wpList P l.toArray Q (l.drop n) (AF x y) w')) : (Code.region id l.toArray true).wp P Q a w := by
  obtain ⟨AF, h, hAF, hT⟩ := H
  simp only [tailAAB, Bool.and_eq_true, decide_eq_true_eq] at hB
  obtain ⟨⟨⟨⟨⟨⟨⟨⟨⟨⟨⟨⟨hsel, hn⟩, hpn⟩, hqn⟩, hqp⟩, hs⟩, hc⟩, hrp⟩, hrq⟩, hfp⟩, hfq⟩, hord⟩, how⟩ := hB
  have hnl : n < l.length := by simpa using hn
  have htl1 : ((l.take n).eraseIdx p).length = n - 1 := by rw [List.length_eraseIdx, if_pos (by simp; omega)]; simp; omega
  have htl : (((l.take n).eraseIdx p).eraseIdx q).length = n - 2 := by rw [List.length_eraseIdx, if_pos (by omega)]; omega
  have hdl : (l.drop n).length = l.toArray.size - n := by simp
  have hopA : l.toArray[p]? = some op := by simpa using hop
  have hoqA : l.toArray[q]? = some oq := by simpa using hoq
  have hrp' : p ∈ Region.ready .any l.toArray (Array.replicate l.toArray.size false) := by simpa using hrp
  have hrq' : q ∈ Region.ready .any l.toArray (Array.replicate l.toArray.size false) := by simpa using hrq
  have inv0 : HeadInv .any l.toArray n (Array.replicate l.toArray.size false) :=
    ⟨by simp, fun j oj _ hl => (by rw [getD_replicate_false] at hl; cases hl), fun t _ ht => getD_in (by simpa using ht) (getD_replicate_false _ _)⟩
  have inv1 := inv0.set hrp' hpn
  have inv2 := inv1.set (ready_mono hrq' (by omega)) hqn
  have hmap1 : ((List.range n).eraseIdx p).map (l.toArray[·]?) = ((l.take n).eraseIdx p).map some := by
    rw [List.eraseIdx_eq_take_drop_succ, List.eraseIdx_eq_take_drop_succ, List.map_append, List.map_append, List.map_take, List.map_take, List.map_drop, List.map_drop]
    suffices e : (List.range n).map (l.toArray[·]?) = (l.take n).map some by rw [e]
    apply List.ext_getElem?
    intro j
    simp only [List.getElem?_map, List.getElem?_take]
    by_cases hj : j < n
    · rw [List.getElem?_range hj]
      simp [hj, show j < l.length by omega]
    · rw [List.getElem?_eq_none (by simp; omega)]
      simp [hj]
  have hmap : (((List.range n).eraseIdx p).eraseIdx q).map (l.toArray[·]?) = (((l.take n).eraseIdx p).eraseIdx q).map some := by
    rw [List.eraseIdx_eq_take_drop_succ _ q, List.eraseIdx_eq_take_drop_succ _ q, List.map_append, List.map_append, List.map_take, List.map_take, List.map_drop, List.map_drop, hmap1]
  refine wp_region_any hm ?_
  have hsz : l.toArray.size = (n - 2) + 2 + (l.toArray.size - n) := by simp; omega
  have hT2 : ∀ x y w', x ≠ y → From w.drew w' → Fresh w.drew ty Z x w' → Fresh w.drew ty Z y w' → ∀ listed, Region.seqB .any l.toArray (l.toArray.size - n) n listed = true → wpAny P .any l.toArray Q (l.toArray.size - n) listed (AF x y) w' := fun x y w' hxy hw' hF hF2 listed hl => by
    have := wpAny_of_seq (md := .any) (Q' := Q) (l.drop n) n listed (AF x y) w' (fun j => by simp [List.getElem?_drop]) (by rw [hdl]; exact hl) (hT x y w' hxy hw' hF hF2)
    rwa [hdl] at this
  have K := anyA2 (g := l.toArray.size - n) (w0 := w.drew) hopA hal hgd hoqA halq hgdq (by omega) hdq hz (Region.noSelect_spec hsel) hs hc hn hpn hqn how
    (fun x y d hd hd2 => by rw [hAF x y]; exact (put_else _ _ _ _ hd2).trans (put_else _ _ _ _ hd))
    (fun x y d hd => by
      rw [hAF x y, hAF 0 y]
      by_cases e : oq.dst = some d
      · rw [e]
        by_cases hlt : d < (((AF 0 0).put op.dst (.pointer (some ⟨x, 0, none⟩)))).tmps.size
        · rw [put_same _ _ _ hlt, put_same _ _ _ (by rw [put_size] at hlt ⊢; exact hlt)]
        · rw [Array.getD_eq_getD_getElem?, Array.getD_eq_getD_getElem?, Array.getElem?_eq_none (by rw [put_size]; exact Nat.not_lt.1 hlt), Array.getElem?_eq_none (by rw [put_size, put_size]; rw [put_size] at hlt; exact Nat.not_lt.1 hlt)]
      · rw [put_else _ _ _ _ e, put_else _ _ _ _ e, put_else _ _ _ _ hd, put_else _ _ _ _ hd])
    (fun x y d hd => by rw [hAF x y, hAF x 0, put_else _ _ _ _ hd, put_else _ _ _ _ hd]) hT2 (n - 2) _ a w.drew inv0 rfl hrp' hrq' (Region.free_spec hopA hfp) (Region.free_spec hoqA hfq) (From.refl _) fun u hu x y => by
    have H := wpAnyT_ord (md := .any) (g := l.toArray.size - n) (pre := []) (C := cls u) (Lq := fun a' => a' = AF x y) hsel hs hc hn _ _ _ _ hmap inv2 (fun _ h => by simp at h) hord (h u hu x y)
    rw [htl] at H
    exact H
  rw [← hsz] at K
  exact K
end
end Go.Proofs.YtgnblaaldpniiaaGreatDoor
end
