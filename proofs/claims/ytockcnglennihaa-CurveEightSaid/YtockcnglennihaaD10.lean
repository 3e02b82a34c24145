/- The document's answer for package curve: its calls, by points. -/
import Derived.Test.YtockcnglennihaaD9
set_option linter.unusedSimpArgs false
set_option linter.unusedVariables false
set_option maxRecDepth 100000
namespace Go.Proofs.Ytockcnglennihaa
open Go.RowKit
theorem dec_on {l : List UInt8} {P : Pt} (h : dec l = some P) : OnC P := (dec_some h).1
theorem parseD_ok {l : List UInt8} {P : Pt} (h : dec l = some P) (w : World) : Calls Try.prog 32 #[.string (S l)] w (RetV (.tuple #[.agg (ptC P.x P.y 1).toArray, .bool true]) w) := by
  have h2 := Parse_any l w
  unfold PPost px py pz isPt at h2
  rw [h] at h2
  exact h2
theorem parseD_no {l : List UInt8} (h : dec l = none) (w : World) : Calls Try.prog 32 #[.string (S l)] w (RetV (.tuple #[.agg (ptC 0 0 0).toArray, .bool false]) w) := by
  have h2 := Parse_any l w
  unfold PPost px py pz isPt at h2
  rw [h] at h2
  exact h2
theorem IsC_any (l : List UInt8) (w : World) : Calls Try.prog 16 #[.string (S l)] w (RetV (.bool (isPt l)) w) := is_core (S l) (px l) (py l) (pz l) (isPt l) (fun w => Parse_any l w) w
theorem bytesT {t : T3} (ht : t.Ok) {P : Pt} (hP : OnC P) (h : RepT t P) (w : World) : Calls Try.prog 33 #[.agg (ptC t.x t.y t.z).toArray] w (RetV (.string (S (encP P))) w) := by
  rw [← rep_enc hP h]
  exact BytesP_any _ _ _ ht.x ht.y ht.z w
theorem size_no (k : List UInt8) (h : k.length ≠ 32) : (((S k).size : Int) != 32) = true := by rw [S_size]; simp; omega
theorem size_is (k : List UInt8) (h : k.length = 32) : (S k).size = 32 := by rw [S_size, h]
theorem two256 : big = 2 ^ 256 := by decide +kernel
theorem numB_two (k : List UInt8) (h : k.length = 32) : numB k < 2 ^ 256 := by rw [← two256]; exact numB_lt k h
theorem AddC_ok {s t : List UInt8} {P Q : Pt} (hs : dec s = some P) (ht : dec t = some Q) (w : World) : Calls Try.prog 11 #[.string (S s), .string (S t)] w (RetV (.tuple #[.string (S (encP (padd P Q))), .int .i64 0]) w) :=
  add_core (S s) (S t) (S (encP (padd P Q))) P.x P.y 1 Q.x Q.y 1 (tadd (tone P) (tone Q)).x (tadd (tone P) (tone Q)).y (tadd (tone P) (tone Q)).z
    (parseD_ok hs) (parseD_ok ht) D_any (Plus_T (tone P) (tone Q) (tone_ok (dec_on hs)) (tone_ok (dec_on ht)))
    (bytesT (tadd_ok _ _) (padd_on (dec_on hs) (dec_on ht)) (tadd_rep (dec_on hs) (dec_on ht) (tone_rep P) (tone_rep Q))) w
theorem AddC_bad (s t : List UInt8) (h : dec s = none ∨ dec t = none) (w : World) : Calls Try.prog 11 #[.string (S s), .string (S t)] w (RetV (.tuple #[.string ⟨#[]⟩, .int .i64 60]) w) := by
  cases hs : dec s with
  | none => exact add_no1 (S s) (S t) (isPt t) 0 0 0 (px t) (py t) (pz t) (parseD_no hs) (fun w => Parse_any t w) w
  | some P =>
    have ht : dec t = none := by
      rcases h with h | h
      · rw [h] at hs; cases hs
      · exact h
    exact add_no2 (S s) (S t) P.x P.y 1 0 0 0 (parseD_ok hs) (parseD_no ht) w
theorem NegC_ok {s : List UInt8} {P : Pt} (hs : dec s = some P) (w : World) : Calls Try.prog 13 #[.string (S s)] w (RetV (.tuple #[.string (S (encP (pneg P))), .int .i64 0]) w) := by
  have hP := dec_on hs
  have hn := pneg_on hP
  refine neg_core (S s) (S (encP (pneg P))) P.x P.y 1 (sb 0 P.x) (parseD_ok hs) (small_at 0 (by omega) 0 rfl) (minusD 0 P.x (by decide +kernel) hP.xl) (At_any (sb 0 P.x) P.y) ?_ w
  have h2 := bytesT (tone_ok hn) hn (tone_rep (pneg P))
  have e := neg_eq hP
  rw [e] at h2 ⊢
  exact h2
theorem NegC_bad {s : List UInt8} (h : dec s = none) (w : World) : Calls Try.prog 13 #[.string (S s)] w (RetV (.tuple #[.string ⟨#[]⟩, .int .i64 60]) w) := neg_no (S s) 0 0 0 (parseD_no h) w
theorem manyT {P : Pt} (hP : OnC P) (k : List UInt8) (hk : k.length = 32) : RepT (lad 256 (numB k) (tone P)) (pmul (numB k) P) := lad_rep hP (tone_rep P) 256 (numB k) (numB_two k hk)
theorem MulC_ok {k s : List UInt8} {P : Pt} (hk : k.length = 32) (hs : dec s = some P) (w : World) : Calls Try.prog 22 #[.string (S k), .string (S s)] w (RetV (.tuple #[.string (S (encP (pmul (numB k) P))), .int .i64 0]) w) :=
  mul_core (S k) (S s) (S (encP (pmul (numB k) P))) P.x P.y 1 (lad 256 (numB k) (tone P)).x (lad 256 (numB k) (tone P)).y (lad 256 (numB k) (tone P)).z (size_is k hk)
    (parseD_ok hs) (Many_any k hk (tone P) (tone_ok (dec_on hs))) (bytesT (lad_ok (tone_ok (dec_on hs)) _ _) (pmul_on (dec_on hs) _) (manyT (dec_on hs) k hk)) w
theorem MulC_bad (k s : List UInt8) (h : k.length ≠ 32 ∨ dec s = none) (w : World) : Calls Try.prog 22 #[.string (S k), .string (S s)] w (RetV (.tuple #[.string ⟨#[]⟩, .int .i64 60]) w) := by
  cases hs : dec s with
  | none => exact mul_no1 (S k) (S s) 0 0 0 (parseD_no hs) w
  | some P =>
    have hk : k.length ≠ 32 := by
      rcases h with h | h
      · exact h
      · rw [h] at hs; cases hs
    exact mul_no2 (S k) (S s) P.x P.y 1 (size_no k hk) (parseD_ok hs) w
theorem dec_base : dec (leB pbase.y) = some pbase := by rw [← enc_base]; exact dec_enc pbase_on
theorem BothC_ok {a s b : List UInt8} {P : Pt} (ha : a.length = 32) (hs : dec s = some P) (hb : b.length = 32) (w : World) : Calls Try.prog 24 #[.string (S a), .string (S s), .string (S b)] w (RetV (.tuple #[.string (S (encP (padd (pmul (numB a) P) (pmul (numB b) pbase)))), .int .i64 0]) w) := by
  have hP := dec_on hs
  obtain ⟨t1, e1⟩ : ∃ t, lad 256 (numB a) (tone P) = t := ⟨_, rfl⟩
  obtain ⟨t2, e2⟩ : ∃ t, lad 256 (numB b) (tone pbase) = t := ⟨_, rfl⟩
  have r1 := manyT hP a ha
  have r2 := manyT pbase_on b hb
  have k1 := lad_ok (tone_ok hP) 256 (numB a)
  have k2 := lad_ok (tone_ok pbase_on) 256 (numB b)
  have m1 := fun w => Many_any a ha (tone P) (tone_ok hP) w
  have m2 := fun w => Many_any b hb (tone pbase) (tone_ok pbase_on) w
  rw [e1] at r1 k1 m1
  rw [e2] at r2 k2 m2
  exact both_core (S a) (S s) (S b) _ (S (leB pbase.y)) P.x P.y 1 pbase.x pbase.y 1 t1.x t1.y t1.z t2.x t2.y t2.z (tadd t1 t2).x (tadd t1 t2).y (tadd t1 t2).z
    (size_is a ha) (size_is b hb) (parseD_ok hs) BaseS_any (parseD_ok dec_base) m1 m2 D_any (Plus_T t1 t2 k1 k2)
    (bytesT (tadd_ok _ _) (padd_on (pmul_on hP _) (pmul_on pbase_on _)) (tadd_rep (pmul_on hP _) (pmul_on pbase_on _) r1 r2)) w
theorem BothC_bad (a s b : List UInt8) (h : a.length ≠ 32 ∨ dec s = none ∨ b.length ≠ 32) (w : World) : Calls Try.prog 24 #[.string (S a), .string (S s), .string (S b)] w (RetV (.tuple #[.string ⟨#[]⟩, .int .i64 60]) w) := by
  cases hs : dec s with
  | none => exact both_no1 (S a) (S s) (S b) 0 0 0 (parseD_no hs) w
  | some P =>
    by_cases ha : a.length = 32
    · have hb : b.length ≠ 32 := by
        rcases h with h | h | h
        · exact absurd ha h
        · rw [h] at hs; cases hs
        · exact h
      exact both_no3 (S a) (S s) (S b) P.x P.y 1 (size_is a ha) (size_no b hb) (parseD_ok hs) w
    · exact both_no2 (S a) (S s) (S b) P.x P.y 1 (size_no a ha) (parseD_ok hs) w
end Go.Proofs.Ytockcnglennihaa
