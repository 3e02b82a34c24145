/- Regions that draw their order: what only reads is taken first, what acts comes up one by one; the condition on the world need not hold behind the last operation. No program is spoken of.
A law for regions that draw their order: one operation takes a component of what a call told, and may come late; one makes a new block, whenever it comes up; the others read; the last ones stand in the order of the text. No program is spoken of.
A call's own blocks as one state of the memory: which block holds which cells; laws of the walk over it. No program is spoken of.
A value of one cell within one of a call's own blocks: plain, and in a region that draws its order. No program is spoken of.
Rows that may bear the mark of a conversion (what '[]byte(s)' makes): an append of one element onto them, whether it stays or grows. No program is spoken of. -/
import Derived.OrdersHeld
import Derived.Test.YtgnblaaldpniiaaDoorZK1
import Derived.Deep.WholeRow
import Derived.Deep.MidRow
import Derived.Great.Ranges
import Derived.Laws.Tables
import Derived.Laws.CopyOwn
import Derived.ArgAppend
import Derived.Lib.ConvBytes
section
set_option maxRecDepth 100000
set_option linter.unusedVariables false
set_option linter.unusedSimpArgs false
namespace Go.Proofs.YtgnblaaldpniiaaDoor
open Go.RowKit
section
variable {P : Program} {ops : Array Oper} {Q : Exit → Act → World → Prop} {md : Region.Mode} {S : World → Prop} {last : Nat}
def wpAnyG (P : Program) (md : Region.Mode) (ops : Array Oper) (Q : Exit → Act → World → Prop) (S : World → Prop) (last : Nat) : Nat → Array Bool → Act → World → Prop
  | 0, listed, a, w => Region.ready md ops listed = [] ∧ Q .normal a w
  | fuel + 1, listed, a, w =>
    (Region.ready md ops listed = [] → Q .normal a w) ∧
    ∀ i ∈ Region.ready md ops listed, wpOp P ops Q i (fun a' w' => (i = last ∨ S w') ∧ wpAnyG P md ops Q S last fuel (listed.setIfInBounds i true) a' w') a w
theorem wpAny_of_G : ∀ (fuel : Nat) (listed : Array Bool) (a : Act) (w : World), wpAnyG P md ops Q S last fuel listed a w → wpAny P md ops Q fuel listed a w
  | 0, _, _, _, h => h
  | fuel + 1, _, _, _, h => ⟨h.1, fun i hi => wpOp_mono (fun a' w' h' => wpAny_of_G fuel _ a' w' h'.2) (h.2 i hi)⟩
def lastB (md : Region.Mode) (ops : Array Oper) (last : Nat) : Bool := (List.range ops.size).all fun k => k == last || Region.waitsFor md ops last k
theorem last_only (hl : lastB md ops last = true) {listed : Array Bool} {i j : Nat} (hi : i ∈ Region.ready md ops listed) (hj : j ∈ Region.ready md ops listed) (hij : j ≠ i) : j ≠ last := by
  intro e
  subst e
  obtain ⟨hiun, oi, hoi, _⟩ := mem_ready.1 hi
  obtain ⟨_, oj, hoj, hall⟩ := mem_ready.1 hj
  have h1 := List.all_eq_true.1 hl i (List.mem_range.2 (Array.getElem?_eq_some_iff.1 hoi).1)
  simp only [Bool.or_eq_true, beq_iff_eq] at h1
  rcases h1 with h1 | h1
  · exact hij h1.symm
  · obtain ⟨o', ho', e, he, hb, hon⟩ := Region.waitsFor_spec h1
    obtain rfl : o' = oj := Option.some.inj (ho'.symm.trans hoj)
    have h2 := hall e he hb
    rw [hon, getD_both hiun] at h2
    exact Bool.noConfusion h2
theorem wpAnyG_first {i : Nat} {oi : Oper} {v : Value} (hlast : lastB md ops last = true) (hi : ops[i]? = some oi) (hsel : ∀ (j : Nat) (o : Oper) cs b, ops[j]? = some o → o.op ≠ .select cs b)
    (hQ : ∀ c a w, Q (.panic c) (a.put oi.dst v) w → Q (.panic c) a w) :
    ∀ (fuel : Nat) (listed : Array Bool) (a : Act) (w : World),
      (∀ j oj, ops[j]? = some oj → j ≠ i → listed.getD j true = false → (∀ e ∈ oj.after, Region.binds md e = true → e.on ≠ i) → oi.apart ops oj = true) →
      i ∈ Region.ready md ops listed → YieldsIf P ops S oi v a → S w →
      wpAnyG P md ops Q S last fuel (listed.setIfInBounds i true) (a.put oi.dst v) w → wpAnyG P md ops Q S last (fuel + 1) listed a w := by
  intro fuel
  induction fuel with
  | zero =>
    intro listed a w _ hr hy hS H
    refine ⟨fun h => (by rw [h] at hr; cases hr), fun j hj => ?_⟩
    by_cases hji : j = i
    · subst hji; exact hy.wpOp hi hS ⟨Or.inr hS, H⟩
    · have := ready_mono hj hji
      rw [H.1] at this
      cases this
  | succ fuel ih =>
    intro listed a w hfree hr hy hS H
    refine ⟨fun h => (by rw [h] at hr; cases hr), fun j hj => ?_⟩
    by_cases hji : j = i
    · subst hji; exact hy.wpOp hi hS ⟨Or.inr hS, H⟩
    · have h1 := H.2 j (ready_mono hj hji)
      obtain ⟨hjun, oj, hoj, hall⟩ := mem_ready.1 hj
      have hnot : ∀ e ∈ oj.after, Region.binds md e = true → e.on ≠ i := by
        intro e he hb heq
        have h1 := hall e he hb
        rw [heq, getD_both (mem_ready.1 hr).1] at h1
        exact Bool.noConfusion h1
      have h2 := wpOp_putIf hoj (hfree j oj hoj hji hjun hnot) (fun cs b => hsel i oi cs b hi) (fun cs b => hsel j oj cs b hoj) hQ hy h1
      have hfree' : ∀ k ok, ops[k]? = some ok → k ≠ i → (listed.setIfInBounds j true).getD k true = false →
          (∀ e ∈ ok.after, Region.binds md e = true → e.on ≠ i) → oi.apart ops ok = true := fun k ok hk hki hun hno => by
        refine hfree k ok hk hki ?_ hno
        by_cases hjk : j = k
        · subst hjk; exact hjun
        · rw [getD_set_ne true hjk] at hun; exact hun
      have hjl := last_only hlast hr hj hji
      refine wpOp_mono (fun a' w' h3 => ⟨h3.2.1, ih (listed.setIfInBounds j true) a' w' hfree' (ready_mono hr (Ne.symm hji)) h3.1 (h3.2.1.resolve_left hjl) ?_⟩) h2
      rw [Array.setIfInBounds_comm _ _ hji]
      exact h3.2.2
def wpMix (P : Program) (ops : Array Oper) (Q : Exit → Act → World → Prop) (S : World → Prop) : List (Nat × Oper) → Act → World → Prop
  | [], a, w => Q .normal a w
  | (0, o) :: r, a, w => ∃ v, YieldsIf P ops S o v a ∧ S w ∧ wpMix P ops Q S r (a.put o.dst v) w
  | (1, o) :: r, a, w => ∀ K : Act → World → Prop, (∀ a' w', S w' → wpMix P ops Q S r a' w' → K a' w') → if Region.wanted o (yielded ops a.tmps) = true then o.wp P a w K Q else K (a.put o.dst undef) w
  | (_ + 2, o) :: r, a, w => ∀ K : Act → World → Prop, (∀ a' w', wpMix P ops Q S r a' w' → K a' w') → if Region.wanted o (yielded ops a.tmps) = true then o.wp P a w K Q else K (a.put o.dst undef) w
def pickOps (l : List Oper) : List (Nat × Nat) → List (Nat × Oper)
  | [] => []
  | p :: r => match l[p.1]? with
    | some o => (p.2, o) :: pickOps l r
    | none => []
def mixB (md : Region.Mode) (ops : Array Oper) (last : Nat) : List (Nat × Nat) → Array Bool → Bool
  | [], listed => (Region.ready md ops listed).isEmpty
  | (k, 0) :: r, listed => Region.free md ops listed k && (Region.ready md ops listed).contains k && mixB md ops last r (listed.setIfInBounds k true)
  | (k, 1) :: r, listed => decide (Region.ready md ops listed = [k]) && mixB md ops last r (listed.setIfInBounds k true)
  | (k, _ + 2) :: r, listed => decide (k = last) && decide (Region.ready md ops listed = [k]) && mixB md ops last r (listed.setIfInBounds k true)
theorem wpAnyG_mix {l : List Oper} (hlast : lastB md l.toArray last = true) (hsel : Region.noSelect l.toArray = true) (hQ : ∀ c d v a w, Q (.panic c) (a.put d v) w → Q (.panic c) a w) :
    ∀ (ks : List (Nat × Nat)) (listed : Array Bool) (a : Act) (w : World), mixB md l.toArray last ks listed = true → wpMix P l.toArray Q S (pickOps l ks) a w → wpAnyG P md l.toArray Q S last ks.length listed a w
  | [], listed, a, w, hB, h => ⟨by simpa [mixB] using hB, h⟩
  | (k, 0) :: r, listed, a, w, hB, h => by
    simp only [mixB, Bool.and_eq_true] at hB
    obtain ⟨⟨hf, hr⟩, hB⟩ := hB
    have hr' : k ∈ Region.ready md l.toArray listed := by simpa using hr
    obtain ⟨_, o, ho, _⟩ := mem_ready.1 hr'
    have hol : l[k]? = some o := by simpa using ho
    simp only [pickOps, hol] at h
    obtain ⟨v, hy, hS, h⟩ := h
    exact wpAnyG_first hlast ho (Region.noSelect_spec hsel) (fun c a w => hQ c _ _ a w) r.length listed a w (Region.free_spec ho hf) hr' hy hS (wpAnyG_mix hlast hsel hQ r _ _ _ hB h)
  | (k, 1) :: r, listed, a, w, hB, h => by
    simp only [mixB, Bool.and_eq_true, decide_eq_true_eq] at hB
    obtain ⟨hr, hB⟩ := hB
    have hr' : k ∈ Region.ready md l.toArray listed := by rw [hr]; simp
    obtain ⟨_, o, ho, _⟩ := mem_ready.1 hr'
    have hol : l[k]? = some o := by simpa using ho
    simp only [pickOps, hol] at h
    refine ⟨fun h0 => (by rw [hr] at h0; cases h0), fun i hi => ?_⟩
    rw [hr] at hi
    obtain rfl : i = k := by simpa using hi
    unfold wpOp
    simp only [ho]
    have h2 := h (fun a' w' => (i = last ∨ S w') ∧ wpAnyG P md l.toArray Q S last r.length (listed.setIfInBounds i true) a' w') fun a' w' hs hm => ⟨Or.inr hs, wpAnyG_mix hlast hsel hQ r _ _ _ hB hm⟩
    by_cases hw : Region.wanted o (yielded l.toArray a.tmps) = true
    · rw [if_pos hw] at h2 ⊢; exact Or.inl h2
    · rw [if_neg hw] at h2 ⊢; exact h2
  | (k, _ + 2) :: r, listed, a, w, hB, h => by
    simp only [mixB, Bool.and_eq_true, decide_eq_true_eq] at hB
    obtain ⟨⟨hk, hr⟩, hB⟩ := hB
    have hr' : k ∈ Region.ready md l.toArray listed := by rw [hr]; simp
    obtain ⟨_, o, ho, _⟩ := mem_ready.1 hr'
    have hol : l[k]? = some o := by simpa using ho
    simp only [pickOps, hol] at h
    refine ⟨fun h0 => (by rw [hr] at h0; cases h0), fun i hi => ?_⟩
    rw [hr] at hi
    obtain rfl : i = k := by simpa using hi
    unfold wpOp
    simp only [ho]
    have h2 := h (fun a' w' => (i = last ∨ S w') ∧ wpAnyG P md l.toArray Q S last r.length (listed.setIfInBounds i true) a' w') fun a' w' hm => ⟨Or.inl hk, wpAnyG_mix hlast hsel hQ r _ _ _ hB hm⟩
    by_cases hw : Region.wanted o (yielded l.toArray a.tmps) = true
    · rw [if_pos hw] at h2 ⊢; exact Or.inl h2
    · rw [if_neg hw] at h2 ⊢; exact h2
theorem wp_region_mix {id : Nat} {a : Act} {w : World} {l : List Oper} (S : World → Prop) (last : Nat) (ks : List (Nat × Nat)) (hm : P.follows .mixedOrders = true)
    (hB : (decide (ks.length = l.length) && lastB .any l.toArray last && Region.noSelect l.toArray && mixB .any l.toArray last ks (Array.replicate l.toArray.size false)) = true)
    (hQ : ∀ c d v a w, Q (.panic c) (a.put d v) w → Q (.panic c) a w)
    (h : wpMix P l.toArray Q S (pickOps l ks) a w.drew) : (Code.region id l.toArray true).wp P Q a w := by
  simp only [Bool.and_eq_true, decide_eq_true_eq] at hB
  obtain ⟨⟨⟨hlen, hl⟩, hs⟩, hB⟩ := hB
  refine wp_region_any hm (wpAny_of_G (S := S) (last := last) _ _ _ _ ?_)
  have := wpAnyG_mix (Q := Q) (S := S) (P := P) hl hs hQ ks _ a w.drew hB h
  rw [hlen] at this
  simpa using this
end
end Go.Proofs.YtgnblaaldpniiaaDoor
end
section
set_option maxRecDepth 100000
set_option linter.unusedVariables false
set_option linter.unusedSimpArgs false
namespace Go.Proofs.YtgnblaaldpniiaaDoor
open Go.RowKit
section
variable {P : Program} {ops : Array Oper} {Q : Exit → Act → World → Prop}
def lateB (ops : Array Oper) (q : Nat) : Bool :=
  Region.noSelect ops && (List.range ops.size).all fun j => match ops[j]?, ops[q]? with
    | some oj, some oq => (oj.after.all fun e => Region.binds .any e || !Region.binds .text e || (e.on == q && !(j == q) && oq.after.all fun d => !Region.binds .any d || oj.after.any fun e' => Region.binds .any e' && e'.on == d.on)) &&
        (j == q || (oj.after.any fun e => Region.binds .any e && e.on == q) || (oq.after.any fun e => Region.binds .any e && e.on == j) || oq.apart ops oj)
    | _, _ => false
theorem binds_any_text {e : Edge} (h : Region.binds .any e = true) : Region.binds .text e = true := by
  cases e with
  | mk on g => cases g <;> simp_all [Region.binds]
theorem late_spec {q j : Nat} {oj oq : Oper} (h : lateB ops q = true) (hj : ops[j]? = some oj) (hq : ops[q]? = some oq) :
    (∀ e ∈ oj.after, Region.binds .text e = true → Region.binds .any e = true ∨ (e.on = q ∧ j ≠ q ∧ ∀ d ∈ oq.after, Region.binds .any d = true → ∃ e' ∈ oj.after, Region.binds .any e' = true ∧ e'.on = d.on)) ∧
    (j = q ∨ (∃ e ∈ oj.after, Region.binds .any e = true ∧ e.on = q) ∨ (∃ e ∈ oq.after, Region.binds .any e = true ∧ e.on = j) ∨ oq.apart ops oj = true) := by
  unfold lateB at h
  rw [Bool.and_eq_true] at h
  have hlt : j < ops.size := (Array.getElem?_eq_some_iff.1 hj).1
  have h1 := List.all_eq_true.1 h.2 j (List.mem_range.2 hlt)
  simp only [hj, hq, Bool.and_eq_true] at h1
  obtain ⟨h1, h2⟩ := h1
  refine ⟨fun e he hb => ?_, ?_⟩
  · have h3 := Array.all_eq_true_iff_forall_mem.1 h1 e he
    simp only [Bool.or_eq_true, Bool.and_eq_true, Bool.not_eq_true', beq_iff_eq] at h3
    rcases h3 with (h3 | h3) | h3
    · exact .inl h3
    · rw [hb] at h3; exact Bool.noConfusion h3
    · refine .inr ⟨h3.1.1, by simpa using h3.1.2, fun d hd hbd => ?_⟩
      have h4 := Array.all_eq_true_iff_forall_mem.1 h3.2 d hd
      simp only [Bool.or_eq_true, Bool.not_eq_true'] at h4
      rcases h4 with h4 | h4
      · rw [hbd] at h4; exact Bool.noConfusion h4
      · obtain ⟨i, hi, h5⟩ := Array.any_eq_true.1 h4
        simp only [Bool.and_eq_true, beq_iff_eq] at h5
        exact ⟨_, Array.getElem_mem hi, h5.1, h5.2⟩
  · simp only [Bool.or_eq_true, beq_iff_eq] at h2
    rcases h2 with ((h2 | h2) | h2) | h2
    · exact .inl h2
    · obtain ⟨i, hi, h5⟩ := Array.any_eq_true.1 h2
      simp only [Bool.and_eq_true, beq_iff_eq] at h5
      exact .inr (.inl ⟨_, Array.getElem_mem hi, h5.1, h5.2⟩)
    · obtain ⟨i, hi, h5⟩ := Array.any_eq_true.1 h2
      simp only [Bool.and_eq_true, beq_iff_eq] at h5
      exact .inr (.inr (.inl ⟨_, Array.getElem_mem hi, h5.1, h5.2⟩))
    · exact .inr (.inr (.inr h2))
theorem ready_text_any {i : Nat} {listed : Array Bool} (h : i ∈ Region.ready .text ops listed) : i ∈ Region.ready .any ops listed := by
  obtain ⟨h1, o, ho, h2⟩ := mem_ready.1 h
  exact mem_ready.2 ⟨h1, o, ho, fun e he hb => h2 e he (binds_any_text hb)⟩
theorem ready_late {q i : Nat} {oq : Oper} {listed : Array Bool} (hB : lateB ops q = true) (hq : ops[q]? = some oq) (hs : listed.size = ops.size) (h : i ∈ Region.ready .any ops listed) :
    i ∈ Region.ready .text ops listed ∨ q ∈ Region.ready .text ops listed := by
  obtain ⟨h1, o, ho, h2⟩ := mem_ready.1 h
  by_cases hall : ∀ e ∈ o.after, Region.binds .text e = true → listed.getD e.on false = true
  · exact .inl (mem_ready.2 ⟨h1, o, ho, hall⟩)
  · simp only [Classical.not_forall] at hall
    obtain ⟨e, he, hb, hl⟩ := hall
    rcases (late_spec hB ho hq).1 e he hb with h3 | ⟨h3, _, h4⟩
    · exact absurd (h2 e he h3) hl
    · refine .inr (mem_ready.2 ⟨?_, oq, hq, fun d hd hbd => ?_⟩)
      · rw [h3] at hl
        have hlt : q < listed.size := by rw [hs]; exact (Array.getElem?_eq_some_iff.1 hq).1
        simp only [Array.getD_eq_getD_getElem?, Array.getElem?_eq_getElem hlt, Option.getD_some] at hl ⊢
        simpa using hl
      · rcases (late_spec hB hq hq).1 d hd hbd with h5 | ⟨_, h5, _⟩
        · obtain ⟨e', he', hb', hon⟩ := h4 d hd h5
          rw [← hon]
          exact h2 e' he' hb'
        · exact absurd rfl h5
theorem run_extractL {o : Oper} {x : Operand} {k : Nat} (ho : o.op = .extract x k) (a : Act) {w : World} {K : Act → World → Prop} (h : o.wp P a w K Q ∨ (o.asks P a w ∧ LetsOut Q)) :
    ∃ v, (∀ w, (execOp a.eval o).run P w = .ok (.value v) w) ∧ K (a.put o.dst v) w := by
  by_cases hv : ∃ vs v, a.eval x = .tuple vs ∧ vs[k]? = some v
  · obtain ⟨vs, v, h1, h2⟩ := hv
    have hr : ∀ w, (execOp a.eval o).run P w = .ok (.value v) w := fun w => by
      simp [execOp, ho, Instr.extract, h1, h2]
    refine ⟨v, hr, ?_⟩
    rcases h with h | h
    · unfold Oper.wp at h
      rw [hr w] at h
      exact h
    · have h3 := h.1.1
      simp [execOp, ho, Instr.extract, h1, h2] at h3
      exact absurd (show noRoomEvent ∈ (#[] : Array Event) from h3) (by simp)
  · have hr : ∃ why, execOp a.eval o = (do pure (.value (← (stuck why : Sem Value)))) := by
      cases hx : a.eval x with
      | tuple vs =>
        cases hk : vs[k]? with
        | some v => exact absurd ⟨vs, v, hx, hk⟩ hv
        | none => exact Exists.intro "Extract: no such component" (by simp only [execOp, ho, Instr.extract, hx, hk])
      | _ => exact Exists.intro "Extract: tuple expected" (by simp only [execOp, ho, Instr.extract, hx])
    obtain ⟨why, hr⟩ := hr
    exfalso
    rcases h with h | h
    · unfold Oper.wp at h
      rw [hr] at h
      simp [stuck, Oper.upon] at h
    · have h3 := h.1.1
      rw [hr] at h3
      exact absurd (show noRoomEvent ∈ (#[] : Array Event) from h3) (by simp)
theorem any_of_text {q : Nat} {oq : Oper} {x : Operand} {k : Nat} (hq : ops[q]? = some oq) (hex : oq.op = .extract x k) (hB : lateB ops q = true) (hQ : ∀ c v a w, Q (.panic c) (a.put oq.dst v) w → Q (.panic c) a w) :
    ∀ (f : Nat) (listed : Array Bool) (a : Act) (w : World), listed.size = ops.size → wpAny P .text ops Q f listed a w → wpAny P .any ops Q f listed a w := by
  have hsel : ∀ (j : Nat) (o : Oper) cs b, ops[j]? = some o → o.op ≠ .select cs b := by
    unfold lateB at hB
    rw [Bool.and_eq_true] at hB
    exact Region.noSelect_spec hB.1
  intro f
  induction f with
  | zero =>
    intro listed a w hs h
    refine ⟨?_, h.2⟩
    match hr : Region.ready .any ops listed with
    | [] => rfl
    | i :: r =>
      exfalso
      rcases ready_late hB hq hs (i := i) (by rw [hr]; simp) with h1 | h1 <;> (rw [h.1] at h1; simp at h1)
  | succ f ih =>
    intro listed a w hs h
    by_cases hqr : q ∈ Region.ready .text ops listed
    · have h2 := h.2 q hqr
      unfold wpOp at h2
      simp only [hq] at h2
      have hfree : ∀ j oj, ops[j]? = some oj → j ≠ q → listed.getD j true = false → (∀ e ∈ oj.after, Region.binds .any e = true → e.on ≠ q) → oq.apart ops oj = true := fun j oj hj hne hun hno => by
        rcases (late_spec hB hj hq).2 with h3 | ⟨e, he, hb, hon⟩ | ⟨e, he, hb, hon⟩ | h3
        · exact absurd h3 hne
        · exact absurd hon (hno e he hb)
        · obtain ⟨_, oq', hq', h4⟩ := mem_ready.1 hqr
          obtain rfl : oq = oq' := Option.some.inj (hq.symm.trans hq')
          have h5 := h4 e he (binds_any_text hb)
          rw [hon, getD_both hun] at h5
          exact Bool.noConfusion h5
        · exact h3
      by_cases hw : Region.wanted oq (yielded ops a.tmps) = true
      · rw [if_pos hw] at h2
        obtain ⟨v, hr, hK⟩ := run_extractL hex a h2
        exact wpAny_first hq hsel (fun c a w hp => hQ c v a w hp) f listed a w hfree (ready_text_any hqr) (.inl ⟨hw, hr⟩) (ih _ _ _ (by simpa using hs) hK)
      · rw [if_neg hw] at h2
        exact wpAny_first hq hsel (fun c a w hp => hQ c undef a w hp) f listed a w hfree (ready_text_any hqr) (.inr ⟨by simpa using hw, rfl⟩) (ih _ _ _ (by simpa using hs) h2)
    · have hsub : ∀ i, i ∈ Region.ready .any ops listed → i ∈ Region.ready .text ops listed := fun i hi => by
        rcases ready_late hB hq hs hi with h1 | h1
        · exact h1
        · exact absurd h1 hqr
      refine ⟨fun h0 => h.1 ?_, fun i hi => wpOp_mono (fun a w hK => ih _ a w (by simpa using hs) hK) (h.2 i (hsub i hi))⟩
      match hr : Region.ready .text ops listed with
      | [] => rfl
      | i :: r =>
        exfalso
        have := ready_text_any (ops := ops) (listed := listed) (i := i) (by rw [hr]; simp)
        rw [h0] at this
        simp at this
theorem wp_region_from_allocL {id : Nat} {Q : Exit → Act → World → Prop} {a : Act} {w : World} {l : List Oper} (n p q : Nat) (op oq : Oper) (xq : Operand) (kq : Nat) (ty : TypeId) (Z : Array Value) (hop : l[p]? = some op) (hoq : l[q]? = some oq) (hex : oq.op = .extract xq kq) (hal : op.op = .alloc ty) (hgd : op.guard = none)
    (hz : ∀ w, (zeroValue ty).run P w = .ok (.agg Z) w) (hm : P.follows .mixedOrders = true) (hB : tailAB .text l.toArray n p a.tmps.size = true) (hL : lateB l.toArray q = true) (hQ2 : ∀ c v a' w, Q (.panic c) (a'.put oq.dst v) w → Q (.panic c) a' w)
    (H : ∃ AF : Nat → Act, (∀ u, From w.drew u → ∀ x, wpQuiet P l.toArray (fun w' => ∃ h : Held (From u), w' = h.w) (fun a' => a' = AF x) ((l.take n).eraseIdx p) (a.put op.dst (.pointer (some ⟨x, 0, none⟩)))) ∧
      (∀ x, AF x = (AF 0).put op.dst (.pointer (some ⟨x, 0, none⟩))) ∧ (∀ x w', From w.drew w' → Fresh w ty Z x w' → wpList P l.toArray Q (l.drop n) (AF x) w')) : (Code.region id l.toArray true).wp P Q a w := by
  obtain ⟨AF, h, hAF, hT⟩ := H
  simp only [tailAB, Bool.and_eq_true, decide_eq_true_eq] at hB
  obtain ⟨⟨⟨⟨⟨⟨⟨⟨hsel, hn⟩, hpn⟩, hs⟩, hc⟩, hrp⟩, hfp⟩, hord⟩, how⟩ := hB
  have hnl : n < l.length := by simpa using hn
  have htl : ((l.take n).eraseIdx p).length = n - 1 := by rw [List.length_eraseIdx, if_pos (by simp; omega)]; simp; omega
  have hdl : (l.drop n).length = l.toArray.size - n := by simp
  have hopA : l.toArray[p]? = some op := by simpa using hop
  have hrp' : p ∈ Region.ready .text l.toArray (Array.replicate l.toArray.size false) := by simpa using hrp
  have inv0 : HeadInv .text l.toArray n (Array.replicate l.toArray.size false) :=
    ⟨by simp, fun j oj _ hl => (by rw [getD_replicate_false] at hl; cases hl), fun t _ ht => getD_in (by simpa using ht) (getD_replicate_false _ _)⟩
  have inv1 := inv0.set hrp' hpn
  have hmap : ((List.range n).eraseIdx p).map (l.toArray[·]?) = ((l.take n).eraseIdx p).map some := by
    rw [List.eraseIdx_eq_take_drop_succ, List.eraseIdx_eq_take_drop_succ, List.map_append, List.map_append, List.map_take, List.map_take, List.map_drop, List.map_drop]
    suffices e : (List.range n).map (l.toArray[·]?) = (l.take n).map some by rw [e]
    apply List.ext_getElem?
    intro j
    simp only [List.getElem?_map, List.getElem?_take]
    by_cases hj : j < n
    · rw [List.getElem?_range hj]
      simp [hj, show j < l.length by omega]
    · rw [List.getElem?_eq_none (by simp; omega)]
      simp [hj]
  refine wp_region_any hm (any_of_text (by simpa using hoq) hex hL hQ2 _ _ _ _ (by simp) ?_)
  have hsz : l.toArray.size = (n - 1) + 1 + (l.toArray.size - n) := by simp; omega
  have hT2 : ∀ x w', From w.drew w' → Fresh w.drew ty Z x w' → ∀ listed, Region.seqB .text l.toArray (l.toArray.size - n) n listed = true → wpAny P .text l.toArray Q (l.toArray.size - n) listed (AF x) w' := fun x w' hw' hF listed hl => by
    have := wpAny_of_seq (md := .text) (Q' := Q) (l.drop n) n listed (AF x) w' (fun j => by simp [List.getElem?_drop]) (by rw [hdl]; exact hl) (hT x w' hw' hF)
    rwa [hdl] at this
  have K := anyA (g := l.toArray.size - n) (w0 := w.drew) hopA hal hgd hz (Region.noSelect_spec hsel) hs hc hn hpn how (fun x d hd => by rw [hAF x]; exact put_else _ _ _ _ hd) hT2 (n - 1) _ a w.drew inv0 rfl hrp' (Region.free_spec hopA hfp) (From.refl _) fun u hu x => by
    have H := wpAnyT_ord (md := .text) (g := l.toArray.size - n) (pre := []) (C := cls u) (Lq := fun a' => a' = AF x) hsel hs hc hn _ _ _ _ hmap inv1 (fun _ h => by simp at h) hord (h u hu x)
    rw [htl] at H
    exact H
  rw [← hsz] at K
  exact K
end
end Go.Proofs.YtgnblaaldpniiaaDoor
end
section
set_option linter.unusedSimpArgs false
set_option linter.unusedVariables false
set_option maxRecDepth 100000
namespace Go.Proofs.YtgnblaaldpniiaaDoor
open Go.RowKit
abbrev Cells := Nat × TypeId × List Value
structure RMem (w0 w : World) (L : List Cells) : Prop where
  below : Below w0.heap.size w0 w
  holds : ∀ g t cs, (g, t, cs) ∈ L → w.heap[g]? = some (.cells cs.toArray t (0, 0))
  ours : ∀ g t cs, (g, t, cs) ∈ L → w0.heap.size ≤ g
  apart : (L.map (·.1)).Nodup
section
variable {w0 w w' : World} {L : List Cells} {g : Nat} {t : TypeId} {x y : List Value}
theorem RMem.start (w : World) : RMem w w [] := ⟨Below.refl _ _, by simp, by simp, by simp⟩
theorem RMem.lt (H : RMem w0 w L) (h : (g, t, x) ∈ L) : g < w.heap.size := (Array.getElem?_eq_some_iff.1 (H.holds g t x h)).1
theorem RMem.grow (H : RMem w0 w L) (hb : Below w.heap.size w w') : RMem w0 w' L :=
  ⟨H.below.trans (hb.mono H.below.size), fun g t x h => (hb.block g (H.lt h)).trans (H.holds g t x h), H.ours, H.apart⟩
theorem RMem.more (H : RMem w0 w L) (hb : Below w.heap.size w w') (hg : w.heap.size ≤ g) (hx : w'.heap[g]? = some (.cells x.toArray t (0, 0))) : RMem w0 w' ((g, t, x) :: L) := by
  have H2 := H.grow hb
  refine ⟨H2.below, fun g' t' y h => ?_, fun g' t' y h => ?_, ?_⟩
  · rcases List.mem_cons.1 h with h | h
    · injection h with h1 h2; injection h2 with h2 h3; subst h1; subst h2; subst h3; exact hx
    · exact H2.holds g' t' y h
  · rcases List.mem_cons.1 h with h | h
    · injection h with h1 h2; subst h1; exact Nat.le_trans H.below.size hg
    · exact H.ours g' t' y h
  · rw [List.map_cons, List.nodup_cons]
    refine ⟨fun h => ?_, H.apart⟩
    obtain ⟨⟨g', t', y⟩, hm, he⟩ := List.mem_map.1 h
    have := H.lt hm
    simp only at he
    omega
theorem RMem.new (H : RMem w0 w L) (t : TypeId) (x : List Value) : RMem w0 (w.alloc (.cells x.toArray t)) ((w.heap.size, t, x) :: L) :=
  H.more ((Below.refl _ w).alloc (Nat.le_refl _) _) (Nat.le_refl _) (heap_alloc_new w _)
theorem RMem.from (H : RMem w0 w L) (h : From w.drew w') : RMem w0 w' L := H.grow h.of_drew
theorem RMem.drop {p : Cells} (H : RMem w0 w (p :: L)) : RMem w0 w L :=
  ⟨H.below, fun g t x h => H.holds g t x (List.mem_cons_of_mem _ h), fun g t x h => H.ours g t x (List.mem_cons_of_mem _ h), (List.nodup_cons.1 (show (p.1 :: L.map (·.1)).Nodup from H.apart)).2⟩
theorem RMem.cell (H : RMem w0 w L) (hm : (g, t, x) ∈ L) (i : Nat) (v : Value) (hi : x[i]? = some v) : w.cell? ⟨g, i, none⟩ = some v := by
  rw [cell_of_row w g _ _ _ _ (H.holds g t x hm), List.getElem?_toArray]
  exact hi
theorem RMem.frozen (H : RMem w0 w L) (hm : (g, t, x) ∈ L) (i : Nat) : w.frozen? ⟨g, i, none⟩ = false := frozen_of_row w g i _ _ (H.holds g t x hm)
theorem RMem.range (H : RMem w0 w L) (hm : (g, t, x) ∈ L) (o n : Nat) : w.rangeAt g o ((x.drop o).take n) := fun j v hj => by
  refine H.cell hm (o + j) v ?_
  rw [List.getElem?_take] at hj
  split at hj
  · rw [List.getElem?_drop] at hj
    exact hj
  · cases hj
theorem RMem.change {A B : List Cells} (H : RMem w0 w (A ++ (g, t, x) :: B)) (hb : Below w0.heap.size w0 w') (ho : ∀ g', g' ≠ g → w'.heap[g']? = w.heap[g']?) (hy : w'.heap[g]? = some (.cells y.toArray t (0, 0))) : RMem w0 w' (A ++ (g, t, y) :: B) := by
  have hk : (A ++ (g, t, y) :: B).map (·.1) = (A ++ (g, t, x) :: B).map (·.1) := by simp
  have hne : ∀ p ∈ A ++ B, p.1 ≠ g := by
    have h := H.apart
    rw [List.map_append, List.map_cons] at h
    have h2 := List.nodup_append.1 h
    intro p hp e
    rcases List.mem_append.1 hp with hp | hp
    · exact h2.2.2 p.1 (List.mem_map.2 ⟨p, hp, rfl⟩) g (List.mem_cons_self ..) e
    · exact (List.nodup_cons.1 h2.2.1).1 (List.mem_map.2 ⟨p, hp, e⟩)
  have hin : ∀ g' t' z, (g', t', z) ∈ A ++ (g, t, y) :: B → (g' = g ∧ t' = t ∧ z = y) ∨ ((g', t', z) ∈ A ++ B) := by
    intro g' t' z h
    rcases List.mem_append.1 h with h | h
    · exact .inr (List.mem_append_left _ h)
    · rcases List.mem_cons.1 h with h | h
      · injection h with h1 h2; injection h2 with h2 h3; exact .inl ⟨h1, h2, h3⟩
      · exact .inr (List.mem_append_right _ h)
  have hold : ∀ g' t' z, (g', t', z) ∈ A ++ B → (g', t', z) ∈ A ++ (g, t, x) :: B := fun g' t' z h => by
    rcases List.mem_append.1 h with h | h
    · exact List.mem_append_left _ h
    · exact List.mem_append_right _ (List.mem_cons_of_mem _ h)
  refine ⟨hb, fun g' t' z h => ?_, fun g' t' z h => ?_, by rw [hk]; exact H.apart⟩
  · rcases hin g' t' z h with ⟨rfl, rfl, rfl⟩ | h
    · exact hy
    · exact (ho g' (hne _ h)).trans (H.holds g' t' z (hold _ _ _ h))
  · rcases hin g' t' z h with ⟨rfl, rfl, rfl⟩ | h
    · exact H.ours g' t' x (by simp)
    · exact H.ours g' t' z (hold _ _ _ h)
theorem setRow_elsewhere (w : World) (g g' : Nat) (cs : Array Value) (h : g' ≠ g) : (w.setRow g cs).heap[g']? = w.heap[g']? := by
  show (w.heap.modify g _)[g']? = _
  rw [Array.getElem?_modify, if_neg (Ne.symm h)]
theorem RMem.put {A B : List Cells} (H : RMem w0 w (A ++ (g, t, x) :: B)) (y : List Value) : RMem w0 (w.setRow g y.toArray) (A ++ (g, t, y) :: B) :=
  H.change (below_setRow H.below (H.ours g t x (by simp)) _) (fun g' h => setRow_elsewhere w g g' _ h) (setRow_heap _ _ _ _ _ _ (H.holds g t x (by simp)))
theorem RMem.set {A B : List Cells} (H : RMem w0 w (A ++ (g, t, x) :: B)) (i : Nat) (v : Value) : RMem w0 (w.setCell ⟨g, i, none⟩ v) (A ++ (g, t, x.set i v) :: B) :=
  H.change (H.below.setCell (H.ours g t x (by simp)) _) (fun g' h => Below.heap_setCell w ⟨g, i, none⟩ v g' h) (by
    rw [heap_setCell_same _ _ _ _ _ _ (H.holds g t x (by simp)), List.setIfInBounds_toArray])
theorem RMem.set0 {B : List Cells} (H : RMem w0 w ((g, t, x) :: B)) (i : Nat) (v : Value) : RMem w0 (w.setCell ⟨g, i, none⟩ v) ((g, t, x.set i v) :: B) := RMem.set (A := []) H i v
end
section
variable {P : Program} {ops : Array Oper} {rest : List Oper} {o : Oper} {a : Act} {w0 w : World} {Q : Exit → Act → World → Prop} {L : List Cells}
theorem r_box (hg : o.guard = none) (T : TypeId) (x : Operand) (ho : o.op = .box T x) (cs : List Value) (hx : a.eval x = .agg cs.toArray) (H : RMem w0 w L)
    (h : ∀ g w', RMem w0 w' ((g, T, cs) :: L) → wpList P ops Q rest (a.put o.dst (.pointer (some ⟨g, 0, none⟩))) w') : wpList P ops Q (o :: rest) a w :=
  Great.wpList_boxTo hg T x ho o.dst rfl w.heap.size rfl cs.toArray (by rw [hx]; rfl) (h _ _ (H.new T cs))
theorem r_alloc (hg : o.guard = none) (T : TypeId) (ho : o.op = .alloc T) (Z : List Value) (hz : ∀ w, (zeroValue T).run P w = .ok (.agg Z.toArray) w) (H : RMem w0 w L)
    (h : ∀ g w', RMem w0 w' ((g, T, Z) :: L) → wpList P ops Q rest (a.put o.dst (.pointer (some ⟨g, 0, none⟩))) w') : wpList P ops Q (o :: rest) a w := by
  refine wpList_plain hg fun K hK => ?_
  unfold Oper.wp execOp
  simp only [ho, Instr.alloc, Sem.run_bind, hz, newVar, newRow, run_newObj_alloc, Sem.run_pure, Result.andThen_ok]
  exact hK _ _ (h _ _ (H.new T Z))
theorem r_load (hg : o.guard = none) (T : TypeId) (x : Operand) (ho : o.op = .load T x) (d : TypeDesc) (hu : P.underlying T = some d) (hd : (match d with | .struct _ | .array _ _ => true | _ => false) = true) (g : Nat) (t : TypeId) (cs : List Value)
    (hx : a.eval x = .pointer (some ⟨g, 0, none⟩)) (H : RMem w0 w L) (hm : (g, t, cs) ∈ L) (hi : (P.info? T).map (·.size) = some cs.length)
    (h : wpList P ops Q rest (a.put o.dst (.agg cs.toArray)) w) : wpList P ops Q (o :: rest) a w :=
  wpList_load_row hg T x ho g hx t cs.toArray (0, 0) d (H.holds g t cs hm) hu hd (by rw [List.size_toArray]; exact hi) h
theorem r_store (hg : o.guard = none) (T : TypeId) (x v : Operand) (ho : o.op = .store T x v) (g : Nat) (t : TypeId) (old cs : List Value) (hx : a.eval x = .pointer (some ⟨g, 0, none⟩)) (hv : a.eval v = .agg cs.toArray) (A B : List Cells)
    (H : RMem w0 w (A ++ (g, t, old) :: B)) (hi : (P.info? T).map (·.size) = some cs.length) (hl : old.length = cs.length) (h1 : cs.toArray.all (·.oneCell') = true)
    (h : ∀ w', RMem w0 w' (A ++ (g, t, cs) :: B) → wpList P ops Q rest (a.put o.dst undef) w') : wpList P ops Q (o :: rest) a w :=
  wpList_store_row hg T x v ho g cs.toArray hx hv t old.toArray (H.holds g t old (by simp)) (by rw [List.size_toArray]; exact hi) (by rw [List.size_toArray, List.size_toArray, hl]) h1 (h _ (H.put cs))
theorem r_store_fin (hg : o.guard = none) (T : TypeId) (x v : Operand) (ho : o.op = .store T x v) (g : Nat) (t : TypeId) (old cs : List Value) (hx : a.eval x = .pointer (some ⟨g, 0, none⟩)) (hv : a.eval v = .agg cs.toArray)
    (H : RMem w0 w L) (hm : (g, t, old) ∈ L) (hi : (P.info? T).map (·.size) = some cs.length) (hl : old.length = cs.length) (h1 : cs.toArray.all (·.oneCell') = true)
    (h : ∀ w', RMem w0 w' [(g, t, cs)] → wpList P ops Q rest (a.put o.dst undef) w') : wpList P ops Q (o :: rest) a w := by
  obtain ⟨A, B, rfl⟩ := List.append_of_mem hm
  refine r_store hg T x v ho g t old cs hx hv A B H hi hl h1 fun w' H' => h w' ?_
  have hm' : (g, t, cs) ∈ A ++ (g, t, cs) :: B := by simp
  exact ⟨H'.below, fun g' t' z h => by rw [List.mem_singleton] at h; injection h with h1 h2; injection h2 with h2 h3; subst h1; subst h2; subst h3; exact H'.holds g' t' z hm',
    fun g' t' z h => by rw [List.mem_singleton] at h; injection h with h1 h2; injection h2 with h2 h3; subst h1; subst h2; subst h3; exact H'.ours g' t' z hm', by simp⟩
theorem r_call {f : FuncId} {args : Array Value} {v : Value} {Q : Ending → World → Prop} (H : RMem w0 w L) (c : Calls P f args w fun e w' => e = .returned v ∧ Below w.heap.size w w')
    (h : ∀ w', RMem w0 w' L → Q (.returned v) w') : Calls P f args w Q :=
  c.mono fun _ w' ⟨he, hb⟩ => he ▸ h w' (H.grow hb)
theorem r_ret {fn : Func} {p : Tmp} {T t : TypeId} {cs : List Value} {g : Nat} {d : TypeDesc} (hr : fn.results = #[.cell p T]) (hu : P.underlying T = some d) (hd : (match d with | .struct _ | .array _ _ => true | _ => false) = true) (a : Act) (hp : a.tmps.getD p undef = .pointer (some ⟨g, 0, none⟩)) (hf : a.defers = []) (H : RMem w0 w L) (hm : (g, t, cs) ∈ L)
    (hi : (P.info? T).map (·.size) = some cs.length) {R : Ending → World → Prop} (h : R (.returned (.agg cs.toArray)) w) : bodyPost P fn R .ret a w :=
  bodyPost_ret (results_cell_row hr _ _ g t cs.toArray (0, 0) d hp (H.holds g t cs hm) hu hd (by rw [List.size_toArray]; exact hi)) hf h
theorem r_build (hg : o.guard = none) (T : TypeId) (parts : Array (Nat × Operand)) (ho : o.op = .build T parts) (ps : List (Nat × Value)) (e : (parts.map fun (i, x) => (i, a.eval x)).toList = ps) (cs : List Value) (hb : P.built T ps = some cs.toArray)
    (h : wpList P ops Q rest (a.put o.dst (.agg cs.toArray)) w) : wpList P ops Q (o :: rest) a w := by
  refine wpList_build hg T parts ho ?_ ?_
  · rw [e, hb]; rfl
  · rw [e, hb]; exact h
end
section
variable {P : Program} {ops : Array Oper} {o : Oper} {a : Act} {w0 w : World} {L : List Cells} {K : Act → Prop}
theorem rq_load (T : TypeId) (x : Operand) (ho : o.op = .load T x) (d : TypeDesc) (hu : P.underlying T = some d) (hd : (match d with | .struct _ | .array _ _ => true | _ => false) = true) (g : Nat) (t : TypeId) (cs : List Value) (u : World) (hw : From w.drew u)
    (hx : a.eval x = .pointer (some ⟨g, 0, none⟩)) (H : RMem w0 w L) (hm : (g, t, cs) ∈ L) (hi : (P.info? T).map (·.size) = some cs.length)
    (h : K (a.put o.dst (.agg cs.toArray))) : o.quiet P a (fun w' => ∃ k : Held (From u), w' = k.w) K :=
  quiet_load_row T x ho g hx t cs.toArray d (fun _ ⟨k, e⟩ => ⟨(0, 0), e ▸ (H.from (hw.trans k.h)).holds g t cs hm⟩) hu hd (by rw [List.size_toArray]; exact hi) h
theorem rq_build (T : TypeId) (parts : Array (Nat × Operand)) (ho : o.op = .build T parts) (ps : List (Nat × Value)) (e : (parts.map fun (i, x) => (i, a.eval x)).toList = ps) (cs : List Value) (hb : P.built T ps = some cs.toArray) {C : World → Prop}
    (h : K (a.put o.dst (.agg cs.toArray))) : o.quiet P a C K := by
  refine ⟨.agg cs.toArray, fun w' _ => ?_, h⟩
  unfold Oper.quietAt execOp
  simp only [ho, Sem.run_bind, run_build w' T (parts.map fun (i, x) => (i, a.eval x)) cs.toArray (by rw [e]; exact hb), Result.andThen_ok, Sem.run_pure]
  exact ⟨rfl, rfl⟩
theorem RMem.extra {w' : World} {g : Nat} {t : TypeId} {Z : List Value} (H : RMem w0 w L) (h : From w.drew w') (hF : Fresh w t Z.toArray g w') : RMem w0 w' ((g, t, Z) :: L) := H.more h.of_drew hF.2 hF.1
end
end Go.Proofs.YtgnblaaldpniiaaDoor
end
section
set_option linter.unusedVariables false
set_option maxRecDepth 100000
set_option linter.unusedSimpArgs false
namespace Go.Proofs.YtgnblaaldpniiaaDoor
open Go.RowKit
theorem not_row {d : TypeDesc} (h : d.isRow = false) : ∀ P T w, @Program.underlying P T = some d → (isAgg T).run P w = .ok false w := by
  intro P T w hu
  unfold isAgg
  rw [Sem.run_bind, run_underlying hu w]
  cases d <;> simp_all
theorem run_load_cell {P : Program} (w : World) (T : TypeId) (d : TypeDesc) (hu : P.underlying T = some d) (hd : d.isRow = false) (p : Addr) (v : Value) (hc : w.cell? p = some v) : (loadVar T p).run P w = .ok v w := by
  unfold loadVar
  rw [Sem.run_bind, not_row hd P T w hu]
  simp [hc]
section
variable {P : Program} {ops : Array Oper} {rest : List Oper} {o : Oper} {a : Act} {w0 w : World} {Q : Exit → Act → World → Prop} {L : List Cells}
theorem r_cell (hg : o.guard = none) (T : TypeId) (x : Operand) (ho : o.op = .load T x) (d : TypeDesc) (hu : P.underlying T = some d) (hd : d.isRow = false) (g i : Nat) (t : TypeId) (cs : List Value) (v : Value)
    (hx : a.eval x = .pointer (some ⟨g, i, none⟩)) (H : RMem w0 w L) (hm : (g, t, cs) ∈ L) (hi : cs[i]? = some v)
    (h : wpList P ops Q rest (a.put o.dst v) w) : wpList P ops Q (o :: rest) a w := by
  refine wpList_plain hg fun K hK => ?_
  unfold Oper.wp execOp
  simp only [ho, hx, Instr.loadAt, Instr.sureAddr, Sem.run_bind, Sem.run_pure, Result.andThen_ok, run_load_cell w T d hu hd _ v (H.cell hm i v hi)]
  exact hK _ _ h
theorem rq_cell {K : Act → Prop} (T : TypeId) (x : Operand) (ho : o.op = .load T x) (d : TypeDesc) (hu : P.underlying T = some d) (hd : d.isRow = false) (g i : Nat) (t : TypeId) (cs : List Value) (v : Value) (u : World) (hw : From w.drew u)
    (hx : a.eval x = .pointer (some ⟨g, i, none⟩)) (H : RMem w0 w L) (hm : (g, t, cs) ∈ L) (hi : cs[i]? = some v)
    (h : K (a.put o.dst v)) : o.quiet P a (fun w' => ∃ k : Held (From u), w' = k.w) K := by
  refine ⟨v, fun w' hw' => ?_, h⟩
  obtain ⟨k, rfl⟩ := hw'
  unfold Oper.quietAt execOp
  simp only [ho, hx, Instr.loadAt, Instr.sureAddr, Sem.run_bind, Sem.run_pure, Result.andThen_ok, run_load_cell k.w T d hu hd _ v ((H.from (hw.trans k.h)).cell hm i v hi)]
  exact ⟨rfl, rfl⟩
end
end Go.Proofs.YtgnblaaldpniiaaDoor
end
section
set_option maxRecDepth 100000
set_option linter.unusedVariables false
set_option linter.unusedSimpArgs false
namespace Go.Proofs.YtgnblaaldpniiaaDoor
open Go.RowKit Go.Lib
def OwnF (w : World) (B : Nat) (e : TypeId) (v : Value) (n : Nat) (xs : List Value) : Prop :=
  xs.length = n ∧ ∃ g cap cur fr, v = .slice (some ⟨g, 0, none⟩) n cap ∧ B ≤ g ∧ w.heap[g]? = some (.cells cur e fr) ∧ (fr = (0, 0) ∨ fr = (cur.size, cur.size + 1)) ∧ n ≤ cap ∧ cap ≤ cur.size ∧ cur.toList.take n = xs
theorem OwnF.below {w w' : World} {B : Nat} {e : TypeId} {v : Value} {n : Nat} {xs : List Value} (h : OwnF w B e v n xs) (hb : Below w.heap.size w w') : OwnF w' B e v n xs := by
  obtain ⟨hl, g, cap, cur, fr, hv, hB, hg, rest⟩ := h
  exact ⟨hl, g, cap, cur, fr, hv, hB, (hb.block g (Array.getElem?_eq_some_iff.1 hg).1).trans hg, rest⟩
theorem OwnF.lt {w : World} {B : Nat} {e : TypeId} {v : Value} {n : Nat} {xs : List Value} (h : OwnF w B e v n xs) : ∀ g, v.ownBlock = some g → B ≤ g ∧ g < w.heap.size := by
  obtain ⟨hl, g, cap, cur, fr, rfl, hB, hg, rest⟩ := h
  intro k hk
  obtain rfl : g = k := by injection hk
  exact ⟨hB, (Array.getElem?_eq_some_iff.1 hg).1⟩
theorem OwnF.cell {w : World} {B : Nat} {e : TypeId} {g n cap : Nat} {xs : List Value} (h : OwnF w B e (.slice (some ⟨g, 0, none⟩) n cap) n xs) (j : Nat) (hj : j < n) : w.cell? ⟨g, j, none⟩ = xs[j]? := by
  obtain ⟨hl, g', cap', cur, fr, hv, hB, hg, hfr, hnc, hcs, ht⟩ := h
  obtain ⟨rfl, rfl⟩ : g = g' ∧ cap = cap' := by injection hv with e1 e2 e3; injection e1 with e1; injection e1 with e1; exact ⟨e1, e3⟩
  rw [cell_of_row w g j cur e fr hg, ← ht, List.getElem?_take, if_pos hj, Array.getElem?_toList]
theorem OwnF.bytes (w : World) (B : Nat) (hB : B ≤ w.heap.size) (e : TypeId) (l : List UInt8) : OwnF (Lib.bytesWorld w e (S l)) B e (.slice (some ⟨w.heap.size, 0, none⟩) l.length (grownCap w l.length 0 e)) l.length (byteCells l) := by
  have hge := grownCap_ge w l.length 0 e
  refine ⟨byteCells_length l, w.heap.size, _, _, _, rfl, hB, Lib.bytesWorld_at_new w e _, Or.inr rfl, ?_, ?_, ?_⟩
  · omega
  · unfold Lib.bytesCells; rw [S_size, Array.size_append, Array.size_map, Array.size_replicate]; show _ ≤ l.toArray.size + _; simp; omega
  · unfold Lib.bytesCells
    rw [Array.toList_append, List.take_append_of_le_length (by simp [S])]
    simp only [S, byteCells, List.map_toArray]
    exact List.take_of_length_le (by simp)
end Go.Proofs.YtgnblaaldpniiaaDoor
end
