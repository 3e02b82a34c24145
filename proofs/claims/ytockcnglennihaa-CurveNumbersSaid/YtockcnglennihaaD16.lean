/- Rows of stage 6 from what package curve answers: numbers added. -/
import Derived.Test.YtockcnglennihaaD15
set_option linter.unusedSimpArgs false
set_option linter.unusedVariables false
set_option maxRecDepth 100000
namespace Go.Proofs.Ytockcnglennihaa
open Go.RowKit
set_option maxHeartbeats 6400000 in
theorem numbers_core (a b p n m nm m1 bs bb x : ByteArray) (hsa : a.size = 32) (hsb : b.size = 32) (cF : ∀ w, Calls Try.prog 14 #[] w (RetV (.bool true) w)) (cI : ∀ w, Calls Try.prog 15 #[.string p] w (RetV (.bool true) w)) (cMa : ∀ w, Calls Try.prog 21 #[.string a, .string p] w (RetV (.tuple #[.string n, .int .i64 0]) w)) (cMb : ∀ w, Calls Try.prog 21 #[.string b, .string p] w (RetV (.tuple #[.string m, .int .i64 0]) w)) (cA1 : ∀ w, Calls Try.prog 10 #[.string n, .string m] w (RetV (.tuple #[.string nm, .int .i64 0]) w)) (cM1 : ∀ w, Calls Try.prog 21 #[.string m1, .string p] w (RetV (.tuple #[.string p, .int .i64 0]) w)) (cB : ∀ w, Calls Try.prog 17 #[] w (RetV (.string bs) w)) (cMbb : ∀ w, Calls Try.prog 21 #[.string b, .string bs] w (RetV (.tuple #[.string bb, .int .i64 0]) w)) (cA2 : ∀ w, Calls Try.prog 10 #[.string n, .string bb] w (RetV (.tuple #[.string x, .int .i64 0]) w)) (cBo : ∀ w, Calls Try.prog 23 #[.string a, .string p, .string b] w (RetV (.tuple #[.string x, .int .i64 0]) w)) (cMod : ∀ ga ca w, AtS w ga [1] → Calls Try.prog 25 #[.slice (some ⟨ga, 0, none⟩) 1 ca] w (RetV (.string m1) w)) (N : Nat) (cS : ∀ w, Calls Try.prog 26 #[.string a, .string b] w fun e w' => ∃ r ok, e = .returned (.tuple #[.string (S r), .bool ok]) ∧ Below w.heap.size w w' ∧ (ok = true → r.length = 32 ∧ numB r = N)) (cMs : ∀ r : List UInt8, r.length = 32 ∧ numB r = N → ∀ w, Calls Try.prog 21 #[.string (S r), .string p] w (RetV (.tuple #[.string nm, .int .i64 0]) w)) (wS : World) : Calls Try.prog 6 #[.string a, .string b, .string p] wS (RetV (.bool true) wS) := by
  have HB := Kept.mk (Below.refl wS.heap.size wS)
  replace cF := Kept.mk cF
  replace cI := Kept.mk cI
  replace cMa := Kept.mk cMa
  replace cMb := Kept.mk cMb
  replace cA1 := Kept.mk cA1
  replace cM1 := Kept.mk cM1
  replace cB := Kept.mk cB
  replace cMbb := Kept.mk cMbb
  replace cA2 := Kept.mk cA2
  replace cBo := Kept.mk cBo
  replace cMod := Kept.mk cMod
  replace cS := Kept.mk cS
  replace cMs := Kept.mk cMs
  go_enter Try.func6, Try.ntmps6
  go_wp2_with (first
    | (go_at_call 26; fail "later")
    | (refine s_flat rfl _ _ rfl [1] rfl (by decide) (by decide) (by rfl) (SM.start _) ?_; intro g2 w2 H2; have hb2 := H2.below; have hN := Kept.mk (H2.holds g2 [1] (.head _)); clear H2; have HB := Kept.mk (HB.out.trans (hb2.mono HB.out.size)); clear hb2)
    | (go_at_call 25; (refine (cMod.out _ _ _ hN.out).mono ?_); rintro _ w2 ⟨rfl, hb2⟩; have HB := Kept.mk (HB.out.trans (hb2.mono HB.out.size)); clear hb2)
    | (go_at_call 14; (with_reducible refine (cF.out _).mono ?_); rintro _ w2 ⟨rfl, hb2⟩; have HB := Kept.mk (HB.out.trans (hb2.mono HB.out.size)); clear hb2)
    | (go_at_call 15; (with_reducible refine (cI.out _).mono ?_); rintro _ w2 ⟨rfl, hb2⟩; have HB := Kept.mk (HB.out.trans (hb2.mono HB.out.size)); clear hb2)
    | (go_at_call 21; (with_reducible refine (cMa.out _).mono ?_); rintro _ w2 ⟨rfl, hb2⟩; have HB := Kept.mk (HB.out.trans (hb2.mono HB.out.size)); clear hb2)
    | (go_at_call 21; (with_reducible refine (cMb.out _).mono ?_); rintro _ w2 ⟨rfl, hb2⟩; have HB := Kept.mk (HB.out.trans (hb2.mono HB.out.size)); clear hb2)
    | (go_at_call 10; (with_reducible refine (cA1.out _).mono ?_); rintro _ w2 ⟨rfl, hb2⟩; have HB := Kept.mk (HB.out.trans (hb2.mono HB.out.size)); clear hb2)
    | (go_at_call 21; (with_reducible refine (cM1.out _).mono ?_); rintro _ w2 ⟨rfl, hb2⟩; have HB := Kept.mk (HB.out.trans (hb2.mono HB.out.size)); clear hb2)
    | (go_at_call 17; (with_reducible refine (cB.out _).mono ?_); rintro _ w2 ⟨rfl, hb2⟩; have HB := Kept.mk (HB.out.trans (hb2.mono HB.out.size)); clear hb2)
    | (go_at_call 21; (with_reducible refine (cMbb.out _).mono ?_); rintro _ w2 ⟨rfl, hb2⟩; have HB := Kept.mk (HB.out.trans (hb2.mono HB.out.size)); clear hb2)
    | (go_at_call 10; (with_reducible refine (cA2.out _).mono ?_); rintro _ w2 ⟨rfl, hb2⟩; have HB := Kept.mk (HB.out.trans (hb2.mono HB.out.size)); clear hb2)
    | (go_at_call 23; (with_reducible refine (cBo.out _).mono ?_); rintro _ w2 ⟨rfl, hb2⟩; have HB := Kept.mk (HB.out.trans (hb2.mono HB.out.size)); clear hb2))
  refine (cS.out _).mono ?_
  rintro _ w2 ⟨r, ok, rfl, hb2, hok⟩
  have HB := Kept.mk (HB.out.trans (hb2.mono HB.out.size)); clear hb2
  cases ok with
  | false =>
    clear hok
    go_wp2
    go_ret
    exact ⟨rfl, HB.out⟩
  | true =>
    have c9 := Kept.mk (cMs.out r (hok rfl))
    clear hok
    go_wp2_with (go_at_call 21; (with_reducible refine (c9.out _).mono ?_); rintro _ w2 ⟨rfl, hb2⟩; have HB := Kept.mk (HB.out.trans (hb2.mono HB.out.size)); clear hb2)
    go_ret
    exact ⟨rfl, HB.out⟩
set_option maxHeartbeats 6400000 in
theorem numbers_no1 (a b p : ByteArray) (hsa : ((a.size : Int) != 32) = true) (cF : ∀ w, Calls Try.prog 14 #[] w (RetV (.bool true) w)) (wS : World) : Calls Try.prog 6 #[.string a, .string b, .string p] wS (RetV (.bool true) wS) := by
  have H := RMem.start wS
  replace cF := Kept.mk cF
  go_enter Try.func6, Try.ntmps6
  go_wp2_with (first
    | (go_at_call 14; with_reducible refine r_call (by assumption) (cF.out _) ?_; intro w H))
  go_ret
  exact ⟨rfl, H.below⟩
set_option maxHeartbeats 6400000 in
theorem numbers_no2 (a b p : ByteArray) (hsa : a.size = 32) (hsb : ((b.size : Int) != 32) = true) (cF : ∀ w, Calls Try.prog 14 #[] w (RetV (.bool true) w)) (wS : World) : Calls Try.prog 6 #[.string a, .string b, .string p] wS (RetV (.bool true) wS) := by
  have H := RMem.start wS
  replace cF := Kept.mk cF
  go_enter Try.func6, Try.ntmps6
  go_wp2_with (first
    | (go_at_call 14; with_reducible refine r_call (by assumption) (cF.out _) ?_; intro w H))
  go_ret
  exact ⟨rfl, H.below⟩
set_option maxHeartbeats 6400000 in
theorem numbers_no3 (a b p : ByteArray) (hsa : a.size = 32) (hsb : b.size = 32) (cF : ∀ w, Calls Try.prog 14 #[] w (RetV (.bool true) w)) (cI : ∀ w, Calls Try.prog 15 #[.string p] w (RetV (.bool false) w)) (wS : World) : Calls Try.prog 6 #[.string a, .string b, .string p] wS (RetV (.bool true) wS) := by
  have H := RMem.start wS
  replace cF := Kept.mk cF
  replace cI := Kept.mk cI
  go_enter Try.func6, Try.ntmps6
  go_wp2_with (first
    | (go_at_call 14; with_reducible refine r_call (by assumption) (cF.out _) ?_; intro w H)
    | (go_at_call 15; with_reducible refine r_call (by assumption) (cI.out _) ?_; intro w H))
  go_ret
  exact ⟨rfl, H.below⟩
theorem mod1 : numB (modB [1]) = 1 := by rw [modB_num]; decide +kernel
theorem law_numbers (c : CurveOk) (a b p : List UInt8) (w : World) : Calls Try.prog 6 #[.string (S a), .string (S b), .string (S p)] w (RetV (.bool true) w) := by
  by_cases ha : a.length = 32
  · by_cases hb : b.length = 32
    · cases hp : dec p with
      | none => exact numbers_no3 (S a) (S b) (S p) (size_is a ha) (size_is b hb) (fixed_any c) (is_none c hp) w
      | some P =>
        have oP := dec_on hp
        have dB := dec_enc pbase_on
        have a1 := c.add (dec_enc (pmul_on oP (numB a))) (dec_enc (pmul_on oP (numB b)))
        rw [← pmul_add oP] at a1
        have m1 := c.mul (modB_len [1]) hp
        rw [mod1, pmul_one oP, enc_of hp] at m1
        have a2 := c.add (dec_enc (pmul_on oP (numB a))) (dec_enc (pmul_on pbase_on (numB b)))
        refine numbers_core (S a) (S b) (S p) _ _ _ _ _ _ _ (size_is a ha) (size_is b hb) (fixed_any c) (is_some c hp) (c.mul ha hp) (c.mul hb hp) a1 m1 c.base (c.mul hb dB) a2 (c.both ha hp hb) (fun ga ca w h => Mod_walk [1] ga 1 ca rfl (by omega) (fun x hx => by simp at hx; omega) w h) (numB a + numB b) (lawsum_any a b ha hb) (fun r hr w => ?_) w
        have h := c.mul hr.1 hp w
        rw [hr.2] at h
        exact h
    · exact numbers_no2 (S a) (S b) (S p) (size_is a ha) (size_no b hb) (fixed_any c) w
  · exact numbers_no1 (S a) (S b) (S p) (size_no a ha) (fixed_any c) w
end Go.Proofs.Ytockcnglennihaa
