/- Rows of stage 6 from what package curve answers: points, times, group, negs. -/
import Derived.Test.YtockcnglennihaaD13
set_option linter.unusedSimpArgs false
set_option linter.unusedVariables false
set_option maxRecDepth 100000
namespace Go.Proofs.Ytockcnglennihaa
open Go.RowKit
set_option maxHeartbeats 6400000 in
theorem points_core (sp sq ra rn bs zs : ByteArray) (n1 n2 : Int) (b1 b2 : Bool) (cF : ∀ w, Calls Try.prog 14 #[] w (RetV (.bool true) w)) (c1 : ∀ w, Calls Try.prog 10 #[.string sp, .string sq] w (RetV (.tuple #[.string ra, .int .i64 n1]) w)) (c2 : ∀ w, Calls Try.prog 11 #[.string sp, .string sq] w (RetV (.tuple #[.string ra, .int .i64 n1]) w)) (c3 : ∀ w, Calls Try.prog 12 #[.string sp] w (RetV (.tuple #[.string rn, .int .i64 n2]) w)) (c4 : ∀ w, Calls Try.prog 13 #[.string sp] w (RetV (.tuple #[.string rn, .int .i64 n2]) w)) (c5 : ∀ w, Calls Try.prog 15 #[.string sp] w (RetV (.bool b1) w)) (c6 : ∀ w, Calls Try.prog 16 #[.string sp] w (RetV (.bool b1) w)) (c7 : ∀ w, Calls Try.prog 15 #[.string sq] w (RetV (.bool b2) w)) (c8 : ∀ w, Calls Try.prog 16 #[.string sq] w (RetV (.bool b2) w)) (c9 : ∀ w, Calls Try.prog 17 #[] w (RetV (.string bs) w)) (cA : ∀ w, Calls Try.prog 18 #[] w (RetV (.string bs) w)) (cB : ∀ w, Calls Try.prog 19 #[] w (RetV (.string zs) w)) (cC : ∀ w, Calls Try.prog 20 #[] w (RetV (.string zs) w)) (wS : World) : Calls Try.prog 3 #[.string sp, .string sq] wS (RetV (.bool true) wS) := by
  have H := RMem.start wS
  replace cF := Kept.mk cF
  replace c1 := Kept.mk c1
  replace c2 := Kept.mk c2
  replace c3 := Kept.mk c3
  replace c4 := Kept.mk c4
  replace c5 := Kept.mk c5
  replace c6 := Kept.mk c6
  replace c7 := Kept.mk c7
  replace c8 := Kept.mk c8
  replace c9 := Kept.mk c9
  replace cA := Kept.mk cA
  replace cB := Kept.mk cB
  replace cC := Kept.mk cC
  go_enter Try.func3, Try.ntmps3
  go_wp2_with (first
    | (go_at_call 14; with_reducible refine r_call (by assumption) (cF.out _) ?_; intro w H)
    | (go_at_call 10; with_reducible refine r_call (by assumption) (c1.out _) ?_; intro w H)
    | (go_at_call 11; with_reducible refine r_call (by assumption) (c2.out _) ?_; intro w H)
    | (go_at_call 12; with_reducible refine r_call (by assumption) (c3.out _) ?_; intro w H)
    | (go_at_call 13; with_reducible refine r_call (by assumption) (c4.out _) ?_; intro w H)
    | (go_at_call 15; with_reducible refine r_call (by assumption) (c5.out _) ?_; intro w H)
    | (go_at_call 16; with_reducible refine r_call (by assumption) (c6.out _) ?_; intro w H)
    | (go_at_call 15; with_reducible refine r_call (by assumption) (c7.out _) ?_; intro w H)
    | (go_at_call 16; with_reducible refine r_call (by assumption) (c8.out _) ?_; intro w H)
    | (go_at_call 17; with_reducible refine r_call (by assumption) (c9.out _) ?_; intro w H)
    | (go_at_call 18; with_reducible refine r_call (by assumption) (cA.out _) ?_; intro w H)
    | (go_at_call 19; with_reducible refine r_call (by assumption) (cB.out _) ?_; intro w H)
    | (go_at_call 20; with_reducible refine r_call (by assumption) (cC.out _) ?_; intro w H))
  go_ret
  exact ⟨rfl, H.below⟩
theorem law_points (c : CurveOk) (p q : List UInt8) (w : World) : Calls Try.prog 3 #[.string (S p), .string (S q)] w (RetV (.bool true) w) := by
  have hb := BaseS_any
  rw [← enc_base] at hb
  have hz := ZeroS_any
  rw [← enc_zero] at hz
  cases hp : dec p with
  | none => exact points_core (S p) (S q) _ _ _ _ _ _ (isPt p) (isPt q) (fixed_any c) (c.add0 p q (.inl hp)) (AddC_bad p q (.inl hp)) (c.neg0 hp) (NegC_bad hp) (c.is p) (IsC_any p) (c.is q) (IsC_any q) c.base hb c.zero hz w
  | some P =>
    cases hq : dec q with
    | none => exact points_core (S p) (S q) _ _ _ _ _ _ (isPt p) (isPt q) (fixed_any c) (c.add0 p q (.inr hq)) (AddC_bad p q (.inr hq)) (c.neg hp) (NegC_ok hp) (c.is p) (IsC_any p) (c.is q) (IsC_any q) c.base hb c.zero hz w
    | some Q => exact points_core (S p) (S q) _ _ _ _ _ _ (isPt p) (isPt q) (fixed_any c) (c.add hp hq) (AddC_ok hp hq) (c.neg hp) (NegC_ok hp) (c.is p) (IsC_any p) (c.is q) (IsC_any q) c.base hb c.zero hz w
set_option maxHeartbeats 6400000 in
theorem times_core (k sp b r1 r2 : ByteArray) (n1 n2 : Int) (cF : ∀ w, Calls Try.prog 14 #[] w (RetV (.bool true) w)) (c1 : ∀ w, Calls Try.prog 21 #[.string k, .string sp] w (RetV (.tuple #[.string r1, .int .i64 n1]) w)) (c2 : ∀ w, Calls Try.prog 22 #[.string k, .string sp] w (RetV (.tuple #[.string r1, .int .i64 n1]) w)) (c3 : ∀ w, Calls Try.prog 23 #[.string k, .string sp, .string b] w (RetV (.tuple #[.string r2, .int .i64 n2]) w)) (c4 : ∀ w, Calls Try.prog 24 #[.string k, .string sp, .string b] w (RetV (.tuple #[.string r2, .int .i64 n2]) w)) (wS : World) : Calls Try.prog 4 #[.string k, .string sp, .string b] wS (RetV (.bool true) wS) := by
  have H := RMem.start wS
  replace cF := Kept.mk cF
  replace c1 := Kept.mk c1
  replace c2 := Kept.mk c2
  replace c3 := Kept.mk c3
  replace c4 := Kept.mk c4
  go_enter Try.func4, Try.ntmps4
  go_wp2_with (first
    | (go_at_call 14; with_reducible refine r_call (by assumption) (cF.out _) ?_; intro w H)
    | (go_at_call 21; with_reducible refine r_call (by assumption) (c1.out _) ?_; intro w H)
    | (go_at_call 22; with_reducible refine r_call (by assumption) (c2.out _) ?_; intro w H)
    | (go_at_call 23; with_reducible refine r_call (by assumption) (c3.out _) ?_; intro w H)
    | (go_at_call 24; with_reducible refine r_call (by assumption) (c4.out _) ?_; intro w H))
  go_ret
  exact ⟨rfl, H.below⟩
theorem law_times (c : CurveOk) (k p b : List UInt8) (w : World) : Calls Try.prog 4 #[.string (S k), .string (S p), .string (S b)] w (RetV (.bool true) w) := by
  by_cases h : k.length = 32 ∧ (∃ P, dec p = some P)
  · obtain ⟨hk, P, hp⟩ := h
    by_cases hb : b.length = 32
    · exact times_core (S k) (S p) (S b) _ _ _ _ (fixed_any c) (c.mul hk hp) (MulC_ok hk hp) (c.both hk hp hb) (BothC_ok hk hp hb) w
    · exact times_core (S k) (S p) (S b) _ _ _ _ (fixed_any c) (c.mul hk hp) (MulC_ok hk hp) (c.both0 k p b (.inr (.inr hb))) (BothC_bad k p b (.inr (.inr hb))) w
  · have h1 : k.length ≠ 32 ∨ dec p = none := by
      cases hp : dec p with
      | none => exact .inr rfl
      | some P => exact .inl fun hk => h ⟨hk, P, hp⟩
    have h2 : k.length ≠ 32 ∨ dec p = none ∨ b.length ≠ 32 := h1.elim .inl fun x => .inr (.inl x)
    exact times_core (S k) (S p) (S b) _ _ _ _ (fixed_any c) (c.mul0 k p h1) (MulC_bad k p h1) (c.both0 k p b h2) (BothC_bad k p b h2) w
set_option maxHeartbeats 6400000 in
theorem group_core (p q r pq qr x z n : ByteArray) (cF : ∀ w, Calls Try.prog 14 #[] w (RetV (.bool true) w)) (i1 : ∀ w, Calls Try.prog 15 #[.string p] w (RetV (.bool true) w)) (i2 : ∀ w, Calls Try.prog 15 #[.string q] w (RetV (.bool true) w)) (i3 : ∀ w, Calls Try.prog 15 #[.string r] w (RetV (.bool true) w)) (i4 : ∀ w, Calls Try.prog 15 #[.string pq] w (RetV (.bool true) w)) (i5 : ∀ w, Calls Try.prog 15 #[.string n] w (RetV (.bool true) w)) (a1 : ∀ w, Calls Try.prog 10 #[.string p, .string q] w (RetV (.tuple #[.string pq, .int .i64 0]) w)) (a2 : ∀ w, Calls Try.prog 10 #[.string q, .string p] w (RetV (.tuple #[.string pq, .int .i64 0]) w)) (a3 : ∀ w, Calls Try.prog 10 #[.string q, .string r] w (RetV (.tuple #[.string qr, .int .i64 0]) w)) (a4 : ∀ w, Calls Try.prog 10 #[.string pq, .string r] w (RetV (.tuple #[.string x, .int .i64 0]) w)) (a5 : ∀ w, Calls Try.prog 10 #[.string p, .string qr] w (RetV (.tuple #[.string x, .int .i64 0]) w)) (a6 : ∀ w, Calls Try.prog 10 #[.string p, .string z] w (RetV (.tuple #[.string p, .int .i64 0]) w)) (n1 : ∀ w, Calls Try.prog 12 #[.string p] w (RetV (.tuple #[.string n, .int .i64 0]) w)) (a7 : ∀ w, Calls Try.prog 10 #[.string p, .string n] w (RetV (.tuple #[.string z, .int .i64 0]) w)) (cZ : ∀ w, Calls Try.prog 19 #[] w (RetV (.string z) w)) (wS : World) : Calls Try.prog 5 #[.string p, .string q, .string r] wS (RetV (.bool true) wS) := by
  have H := RMem.start wS
  replace cF := Kept.mk cF
  replace i1 := Kept.mk i1
  replace i2 := Kept.mk i2
  replace i3 := Kept.mk i3
  replace i4 := Kept.mk i4
  replace i5 := Kept.mk i5
  replace a1 := Kept.mk a1
  replace a2 := Kept.mk a2
  replace a3 := Kept.mk a3
  replace a4 := Kept.mk a4
  replace a5 := Kept.mk a5
  replace a6 := Kept.mk a6
  replace n1 := Kept.mk n1
  replace a7 := Kept.mk a7
  replace cZ := Kept.mk cZ
  go_enter Try.func5, Try.ntmps5
  go_wp2_with (first
    | (go_at_call 14; with_reducible refine r_call (by assumption) (cF.out _) ?_; intro w H)
    | (go_at_call 15; with_reducible refine r_call (by assumption) (i1.out _) ?_; intro w H)
    | (go_at_call 15; with_reducible refine r_call (by assumption) (i2.out _) ?_; intro w H)
    | (go_at_call 15; with_reducible refine r_call (by assumption) (i3.out _) ?_; intro w H)
    | (go_at_call 15; with_reducible refine r_call (by assumption) (i4.out _) ?_; intro w H)
    | (go_at_call 15; with_reducible refine r_call (by assumption) (i5.out _) ?_; intro w H)
    | (go_at_call 10; with_reducible refine r_call (by assumption) (a1.out _) ?_; intro w H)
    | (go_at_call 10; with_reducible refine r_call (by assumption) (a2.out _) ?_; intro w H)
    | (go_at_call 10; with_reducible refine r_call (by assumption) (a3.out _) ?_; intro w H)
    | (go_at_call 10; with_reducible refine r_call (by assumption) (a4.out _) ?_; intro w H)
    | (go_at_call 10; with_reducible refine r_call (by assumption) (a5.out _) ?_; intro w H)
    | (go_at_call 10; with_reducible refine r_call (by assumption) (a6.out _) ?_; intro w H)
    | (go_at_call 12; with_reducible refine r_call (by assumption) (n1.out _) ?_; intro w H)
    | (go_at_call 10; with_reducible refine r_call (by assumption) (a7.out _) ?_; intro w H)
    | (go_at_call 19; with_reducible refine r_call (by assumption) (cZ.out _) ?_; intro w H))
  go_ret
  exact ⟨rfl, H.below⟩
set_option maxHeartbeats 6400000 in
theorem group_no1 (p q r : ByteArray) (cF : ∀ w, Calls Try.prog 14 #[] w (RetV (.bool true) w)) (i1 : ∀ w, Calls Try.prog 15 #[.string p] w (RetV (.bool false) w)) (wS : World) : Calls Try.prog 5 #[.string p, .string q, .string r] wS (RetV (.bool true) wS) := by
  have H := RMem.start wS
  replace cF := Kept.mk cF
  replace i1 := Kept.mk i1
  go_enter Try.func5, Try.ntmps5
  go_wp2_with (first
    | (go_at_call 14; with_reducible refine r_call (by assumption) (cF.out _) ?_; intro w H)
    | (go_at_call 15; with_reducible refine r_call (by assumption) (i1.out _) ?_; intro w H))
  go_ret
  exact ⟨rfl, H.below⟩
set_option maxHeartbeats 6400000 in
theorem group_no2 (p q r : ByteArray) (cF : ∀ w, Calls Try.prog 14 #[] w (RetV (.bool true) w)) (i1 : ∀ w, Calls Try.prog 15 #[.string p] w (RetV (.bool true) w)) (i2 : ∀ w, Calls Try.prog 15 #[.string q] w (RetV (.bool false) w)) (wS : World) : Calls Try.prog 5 #[.string p, .string q, .string r] wS (RetV (.bool true) wS) := by
  have H := RMem.start wS
  replace cF := Kept.mk cF
  replace i1 := Kept.mk i1
  replace i2 := Kept.mk i2
  go_enter Try.func5, Try.ntmps5
  go_wp2_with (first
    | (go_at_call 14; with_reducible refine r_call (by assumption) (cF.out _) ?_; intro w H)
    | (go_at_call 15; with_reducible refine r_call (by assumption) (i1.out _) ?_; intro w H)
    | (go_at_call 15; with_reducible refine r_call (by assumption) (i2.out _) ?_; intro w H))
  go_ret
  exact ⟨rfl, H.below⟩
set_option maxHeartbeats 6400000 in
theorem group_no3 (p q r : ByteArray) (cF : ∀ w, Calls Try.prog 14 #[] w (RetV (.bool true) w)) (i1 : ∀ w, Calls Try.prog 15 #[.string p] w (RetV (.bool true) w)) (i2 : ∀ w, Calls Try.prog 15 #[.string q] w (RetV (.bool true) w)) (i3 : ∀ w, Calls Try.prog 15 #[.string r] w (RetV (.bool false) w)) (wS : World) : Calls Try.prog 5 #[.string p, .string q, .string r] wS (RetV (.bool true) wS) := by
  have H := RMem.start wS
  replace cF := Kept.mk cF
  replace i1 := Kept.mk i1
  replace i2 := Kept.mk i2
  replace i3 := Kept.mk i3
  go_enter Try.func5, Try.ntmps5
  go_wp2_with (first
    | (go_at_call 14; with_reducible refine r_call (by assumption) (cF.out _) ?_; intro w H)
    | (go_at_call 15; with_reducible refine r_call (by assumption) (i1.out _) ?_; intro w H)
    | (go_at_call 15; with_reducible refine r_call (by assumption) (i2.out _) ?_; intro w H)
    | (go_at_call 15; with_reducible refine r_call (by assumption) (i3.out _) ?_; intro w H))
  go_ret
  exact ⟨rfl, H.below⟩
theorem is_some (c : CurveOk) {l : List UInt8} {P : Pt} (h : dec l = some P) : ∀ w, Calls Try.prog 15 #[.string (S l)] w (RetV (.bool true) w) := by
  have h2 := c.is l
  unfold isPt at h2
  rw [h] at h2
  exact h2
theorem is_none (c : CurveOk) {l : List UInt8} (h : dec l = none) : ∀ w, Calls Try.prog 15 #[.string (S l)] w (RetV (.bool false) w) := by
  have h2 := c.is l
  unfold isPt at h2
  rw [h] at h2
  exact h2
theorem enc_of {l : List UInt8} {P : Pt} (h : dec l = some P) : encP P = l := (dec_some h).2
theorem law_group (c : CurveOk) (p q r : List UInt8) (w : World) : Calls Try.prog 5 #[.string (S p), .string (S q), .string (S r)] w (RetV (.bool true) w) := by
  cases hp : dec p with
  | none => exact group_no1 (S p) (S q) (S r) (fixed_any c) (is_none c hp) w
  | some P =>
    cases hq : dec q with
    | none => exact group_no2 (S p) (S q) (S r) (fixed_any c) (is_some c hp) (is_none c hq) w
    | some Q =>
      cases hr : dec r with
      | none => exact group_no3 (S p) (S q) (S r) (fixed_any c) (is_some c hp) (is_some c hq) (is_none c hr) w
      | some T =>
        have oP := dec_on hp
        have oQ := dec_on hq
        have oT := dec_on hr
        have e1 := dec_enc (padd_on oP oQ)
        have e2 := dec_enc (padd_on oQ oT)
        have e3 := dec_enc (pneg_on oP)
        have a2 := c.add hq hp
        rw [padd_comm Q P] at a2
        have a5 := c.add hp e2
        rw [← padd_assoc oP oQ oT] at a5
        have a6 := c.add hp (dec_enc pzero_on)
        rw [padd_zero oP, enc_of hp] at a6
        have a7 := c.add hp e3
        rw [padd_neg oP] at a7
        exact group_core (S p) (S q) (S r) _ _ _ _ _ (fixed_any c) (is_some c hp) (is_some c hq) (is_some c hr) (is_some c e1) (is_some c e3) (c.add hp hq) a2 (c.add hq hr) (c.add e1 hr) a5 a6 (c.neg hp) a7 c.zero w
set_option maxHeartbeats 6400000 in
theorem negs_core (p q s n a b : ByteArray) (cF : ∀ w, Calls Try.prog 14 #[] w (RetV (.bool true) w)) (i1 : ∀ w, Calls Try.prog 15 #[.string p] w (RetV (.bool true) w)) (i2 : ∀ w, Calls Try.prog 15 #[.string q] w (RetV (.bool true) w)) (a1 : ∀ w, Calls Try.prog 10 #[.string p, .string q] w (RetV (.tuple #[.string s, .int .i64 0]) w)) (n1 : ∀ w, Calls Try.prog 12 #[.string s] w (RetV (.tuple #[.string n, .int .i64 0]) w)) (n2 : ∀ w, Calls Try.prog 12 #[.string p] w (RetV (.tuple #[.string a, .int .i64 0]) w)) (n3 : ∀ w, Calls Try.prog 12 #[.string q] w (RetV (.tuple #[.string b, .int .i64 0]) w)) (a2 : ∀ w, Calls Try.prog 10 #[.string a, .string b] w (RetV (.tuple #[.string n, .int .i64 0]) w)) (n4 : ∀ w, Calls Try.prog 12 #[.string a] w (RetV (.tuple #[.string p, .int .i64 0]) w)) (wS : World) : Calls Try.prog 9 #[.string p, .string q] wS (RetV (.bool true) wS) := by
  have H := RMem.start wS
  replace cF := Kept.mk cF
  replace i1 := Kept.mk i1
  replace i2 := Kept.mk i2
  replace a1 := Kept.mk a1
  replace n1 := Kept.mk n1
  replace n2 := Kept.mk n2
  replace n3 := Kept.mk n3
  replace a2 := Kept.mk a2
  replace n4 := Kept.mk n4
  go_enter Try.func9, Try.ntmps9
  go_wp2_with (first
    | (go_at_call 14; with_reducible refine r_call (by assumption) (cF.out _) ?_; intro w H)
    | (go_at_call 15; with_reducible refine r_call (by assumption) (i1.out _) ?_; intro w H)
    | (go_at_call 15; with_reducible refine r_call (by assumption) (i2.out _) ?_; intro w H)
    | (go_at_call 10; with_reducible refine r_call (by assumption) (a1.out _) ?_; intro w H)
    | (go_at_call 12; with_reducible refine r_call (by assumption) (n1.out _) ?_; intro w H)
    | (go_at_call 12; with_reducible refine r_call (by assumption) (n2.out _) ?_; intro w H)
    | (go_at_call 12; with_reducible refine r_call (by assumption) (n3.out _) ?_; intro w H)
    | (go_at_call 10; with_reducible refine r_call (by assumption) (a2.out _) ?_; intro w H)
    | (go_at_call 12; with_reducible refine r_call (by assumption) (n4.out _) ?_; intro w H))
  go_ret
  exact ⟨rfl, H.below⟩
set_option maxHeartbeats 6400000 in
theorem negs_no1 (p q : ByteArray) (cF : ∀ w, Calls Try.prog 14 #[] w (RetV (.bool true) w)) (i1 : ∀ w, Calls Try.prog 15 #[.string p] w (RetV (.bool false) w)) (wS : World) : Calls Try.prog 9 #[.string p, .string q] wS (RetV (.bool true) wS) := by
  have H := RMem.start wS
  replace cF := Kept.mk cF
  replace i1 := Kept.mk i1
  go_enter Try.func9, Try.ntmps9
  go_wp2_with (first
    | (go_at_call 14; with_reducible refine r_call (by assumption) (cF.out _) ?_; intro w H)
    | (go_at_call 15; with_reducible refine r_call (by assumption) (i1.out _) ?_; intro w H))
  go_ret
  exact ⟨rfl, H.below⟩
set_option maxHeartbeats 6400000 in
theorem negs_no2 (p q : ByteArray) (cF : ∀ w, Calls Try.prog 14 #[] w (RetV (.bool true) w)) (i1 : ∀ w, Calls Try.prog 15 #[.string p] w (RetV (.bool true) w)) (i2 : ∀ w, Calls Try.prog 15 #[.string q] w (RetV (.bool false) w)) (wS : World) : Calls Try.prog 9 #[.string p, .string q] wS (RetV (.bool true) wS) := by
  have H := RMem.start wS
  replace cF := Kept.mk cF
  replace i1 := Kept.mk i1
  replace i2 := Kept.mk i2
  go_enter Try.func9, Try.ntmps9
  go_wp2_with (first
    | (go_at_call 14; with_reducible refine r_call (by assumption) (cF.out _) ?_; intro w H)
    | (go_at_call 15; with_reducible refine r_call (by assumption) (i1.out _) ?_; intro w H)
    | (go_at_call 15; with_reducible refine r_call (by assumption) (i2.out _) ?_; intro w H))
  go_ret
  exact ⟨rfl, H.below⟩
theorem law_negs (c : CurveOk) (p q : List UInt8) (w : World) : Calls Try.prog 9 #[.string (S p), .string (S q)] w (RetV (.bool true) w) := by
  cases hp : dec p with
  | none => exact negs_no1 (S p) (S q) (fixed_any c) (is_none c hp) w
  | some P =>
    cases hq : dec q with
    | none => exact negs_no2 (S p) (S q) (fixed_any c) (is_some c hp) (is_none c hq) w
    | some Q =>
      have oP := dec_on hp
      have oQ := dec_on hq
      have e1 := dec_enc (padd_on oP oQ)
      have e2 := dec_enc (pneg_on oP)
      have e3 := dec_enc (pneg_on oQ)
      have a2 := c.add e2 e3
      rw [← pneg_padd oP oQ] at a2
      have n4 := c.neg e2
      rw [pneg_pneg oP, enc_of hp] at n4
      exact negs_core (S p) (S q) _ _ _ _ (fixed_any c) (is_some c hp) (is_some c hq) (c.add hp hq) (c.neg e1) (c.neg hp) (c.neg hq) a2 n4 w
end Go.Proofs.Ytockcnglennihaa
