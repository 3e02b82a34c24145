/- The law package's own calls: small numbers' elements; the calls that the document fixes. -/
import Derived.Test.YtbkaemekcjinaaaR6
import Derived.Test.YtbkaemekcjinaaaFN
set_option linter.unusedSimpArgs false
set_option linter.unusedVariables false
namespace Go.Proofs.Ytbkaemekcjinaaa
open Go.RowKit
theorem num_any (n : Nat) (h : n < 4294967296) (wS : World) : Calls Try.prog 25 #[.int .i64 (n : Int)] wS (BytesPost n wS) := by
  have H := AMem.start wS
  have cS := Kept.mk fun w => Small_any n h w
  have cB := Kept.mk fun w => Bytes_any n (Nat.lt_trans h (by decide +kernel)) w
  clear h
  go_enter Try.func25, Try.ntmps25
  go_wp2_with (first
    | (go_at_call 32; with_reducible refine a_call (by assumption) (cS.out _) ?_; intro w H)
    | (go_at_call 29; with_reducible refine a_call (by assumption) (cB.out _) ?_; intro w H))
  go_ret
  exact ⟨rfl, H.below⟩
def BoolPost (b : Bool) (w : World) (e : Ending) (w' : World) : Prop := e = .returned (.bool b) ∧ Below w.heap.size w w'
theorem last_lt : pF - 1 < pF := by decide +kernel
theorem small_lt (n : Nat) (h : n < 1000) : n < pF := Nat.lt_trans h (by decide +kernel)
theorem not_p : isEl (leB pF) = false := by
  unfold isEl
  rw [numB_leB pF p_big]
  simp
set_option maxRecDepth 100000 in
set_option maxHeartbeats 4000000 in
theorem fixed_any (wS : World) : Calls Try.prog 12 #[] wS (BoolPost true wS) := by
  have H := AMem.start wS
  have cS0 := fun w => Small_any 0 (by omega) w
  have cS1 := fun w => Small_any 1 (by omega) w
  have cMi := fun w => Minus_any 0 1 (by decide +kernel) (by decide +kernel) w
  have cBl := fun w => Bytes_any (pF - 1) (by decide +kernel) w
  have cBp := fun w => Bytes_any pF p_big w
  have cn0 := fun w => num_any 0 (by omega) w
  have cn1 := fun w => num_any 1 (by omega) w
  have cn2 := fun w => num_any 2 (by omega) w
  have cn4 := fun w => num_any 4 (by omega) w
  have cA := fun w => addE (pF - 1) 2 last_lt (small_lt 2 (by omega)) w
  have cSu := fun w => subE 0 1 (small_lt 0 (by omega)) (small_lt 1 (by omega)) w
  have cI := fun w => invE 2 (small_lt 2 (by omega)) w
  obtain ⟨c2, hc2⟩ : ∃ c, invF 2 = c := ⟨_, rfl⟩
  rw [hc2] at cI
  have hcl : c2 < pF := hc2 ▸ invF_lt 2
  have cM := fun w => mulE c2 2 hcl (small_lt 2 (by omega)) w
  have hm : c2 * 2 % pF = 1 := by
    rw [← hc2]
    exact invF_mul 2 (by decide) (small_lt 2 (by omega))
  rw [hm] at cM
  rw [show (pF - 1 + 2) % pF = 1 by decide +kernel] at cA
  rw [show (0 + (pF - 1)) % pF = pF - 1 by decide +kernel] at cSu cMi
  have cR4 := fun w => rootE 4 (small_lt 4 (by omega)) cand4.1 w
  rw [cand4.2] at cR4
  have cR2 := fun w => rootE_no 2 (small_lt 2 (by omega)) cand2 w
  have cAb := fun w => add_bad [] (leB 1) (by rfl) w
  have cI1 := fun w => isE (pF - 1) last_lt w
  have cI2 := fun w => is_any (leB pF) w
  rw [not_p] at cI2
  clear hc2 hcl hm
  rw [show ((0 : Nat) : Int) = 0 from rfl] at cS0 cn0
  rw [show ((1 : Nat) : Int) = 1 from rfl] at cS1 cn1
  rw [show ((2 : Nat) : Int) = 2 from rfl] at cn2
  rw [show ((4 : Nat) : Int) = 4 from rfl] at cn4
  unfold AP at cS0 cS1 cMi
  unfold BytesPost at cBl cBp cn0 cn1 cn2 cn4
  unfold EP E at cA cSu cI cM
  unfold RP E at cR4
  unfold RN E at cR2
  unfold StrPost at cAb
  unfold E at cI1
  have hP := fun w => P_any w
  unfold AP at hP
  generalize Md (pF - 1) = dl at cMi cBl
  generalize Md pF = dp at hP cBp
  generalize Md 0 = d0 at cS0 cMi
  generalize Md 1 = d1 at cS1 cMi
  generalize S (leB (pF - 1)) = sl at cBl cA cSu cI1
  generalize S (leB pF) = sp at cBp cI2
  generalize S (leB 0) = s0 at cn0 cSu
  generalize S (leB 1) = s1 at cn1 cA cSu cM cAb
  generalize S (leB 2) = s2 at cn2 cA cI cM cR4 cR2
  generalize S (leB 4) = s4 at cn4 cR4
  generalize S (leB c2) = sc at cI cM
  replace cS0 := Kept.mk cS0
  replace cS1 := Kept.mk cS1
  replace cMi := Kept.mk cMi
  replace cBl := Kept.mk cBl
  replace cBp := Kept.mk cBp
  replace cn0 := Kept.mk cn0
  replace cn1 := Kept.mk cn1
  replace cn2 := Kept.mk cn2
  replace cn4 := Kept.mk cn4
  replace cA := Kept.mk cA
  replace cSu := Kept.mk cSu
  replace cI := Kept.mk cI
  replace cM := Kept.mk cM
  replace cR4 := Kept.mk cR4
  replace cR2 := Kept.mk cR2
  replace cAb := Kept.mk cAb
  replace cI1 := Kept.mk cI1
  replace cI2 := Kept.mk cI2
  replace hP := Kept.mk hP
  go_enter Try.func12, Try.ntmps12
  go_wp2_with (first
    | (go_at_call 32; with_reducible refine a_call (by assumption) (cS0.out _) ?_; intro w H)
    | (go_at_call 32; with_reducible refine a_call (by assumption) (cS1.out _) ?_; intro w H)
    | (go_at_call 31; with_reducible refine a_call (by assumption) (cMi.out _) ?_; intro w H)
    | (go_at_call 29; with_reducible refine a_call (by assumption) (cBl.out _) ?_; intro w H)
    | (go_at_call 29; with_reducible refine a_call (by assumption) (cBp.out _) ?_; intro w H)
    | (go_at_call 33; with_reducible refine a_call (by assumption) (hP.out _) ?_; intro w H)
    | (go_at_call 25; with_reducible refine a_call (by assumption) (cn0.out _) ?_; intro w H)
    | (go_at_call 25; with_reducible refine a_call (by assumption) (cn1.out _) ?_; intro w H)
    | (go_at_call 25; with_reducible refine a_call (by assumption) (cn2.out _) ?_; intro w H)
    | (go_at_call 25; with_reducible refine a_call (by assumption) (cn4.out _) ?_; intro w H)
    | (go_at_call 15; with_reducible refine a_call (by assumption) (cA.out _) ?_; intro w H)
    | (go_at_call 15; refine a_call (by assumption) (cAb.out _) ?_; intro w H)
    | (go_at_call 17; with_reducible refine a_call (by assumption) (cSu.out _) ?_; intro w H)
    | (go_at_call 21; with_reducible refine a_call (by assumption) (cI.out _) ?_; intro w H)
    | (go_at_call 19; with_reducible refine a_call (by assumption) (cM.out _) ?_; intro w H)
    | (go_at_call 23; with_reducible refine a_call (by assumption) (cR4.out _) ?_; intro w H)
    | (go_at_call 23; with_reducible refine a_call (by assumption) (cR2.out _) ?_; intro w H)
    | (go_at_call 13; with_reducible refine a_call (by assumption) (cI1.out _) ?_; intro w H)
    | (go_at_call 13; with_reducible refine a_call (by assumption) (cI2.out _) ?_; intro w H))
  go_ret
  exact ⟨rfl, H.below⟩
end Go.Proofs.Ytbkaemekcjinaaa
