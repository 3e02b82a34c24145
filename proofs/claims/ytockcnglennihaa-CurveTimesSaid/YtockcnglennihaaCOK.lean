/- Package curve answers by points as the group asks: what the laws are proved from. -/
import Derived.Test.YtockcnglennihaaU7
set_option linter.unusedSimpArgs false
set_option linter.unusedVariables false
set_option maxRecDepth 100000
namespace Go.Proofs.Ytockcnglennihaa
open Go.RowKit
theorem up_some {l : List UInt8} {P : Pt} (h : dec l = some P) (w : World) : Calls Try.prog 29 #[.string (S l)] w (RetV (.tuple #[.agg (tC4 (tof P)).toArray, .bool true]) w) := by
  have h2 := uparse_any l w
  rw [upt_some' h] at h2
  exact h2
theorem up_none {l : List UInt8} (h : dec l = none) (w : World) : Calls Try.prog 29 #[.string (S l)] w (RetV (.tuple #[.agg (qC ⟨#[]⟩ ⟨#[]⟩ ⟨#[]⟩ ⟨#[]⟩).toArray, .bool false]) w) := by
  have h2 := uparse_any l w
  rw [upt_none h] at h2
  exact h2
theorem up_any (l : List UInt8) : ∃ x y z t : ByteArray, ∀ w, Calls Try.prog 29 #[.string (S l)] w (RetV (.tuple #[.agg (qC x y z t).toArray, .bool (isPt l)]) w) := by
  unfold isPt
  cases h : dec l with
  | none => exact ⟨_, _, _, _, fun w => up_none h w⟩
  | some P => exact ⟨_, _, _, _, fun w => up_some h w⟩
theorem isPt_no {l : List UInt8} (h : dec l = none) : isPt l = false := by unfold isPt; rw [h]; rfl
theorem isPt_yes {l : List UInt8} {P : Pt} (h : dec l = some P) : isPt l = true := by unfold isPt; rw [h]; rfl
theorem usize_ne {k : List UInt8} (h : k.length ≠ 32) : (((S k).size : Int) != 32) = true := by rw [S_size]; simp; omega
theorem usize_is {k : List UInt8} (h : k.length = 32) : (S k).size = 32 := by rw [S_size, h]
theorem curveOk : CurveOk where
  is l w := by
    obtain ⟨x, y, z, t, h⟩ := up_any l
    exact uis_core _ _ _ _ _ _ h w
  base w := by
    have h := uBase w
    rw [litY, ← enc_base] at h
    exact h
  zero w := by
    have h := uZero w
    rw [lit1, ← enc_zero] at h
    exact h
  add := by
    intro s t P Q hs ht w
    have hP := (dec_some hs).1
    have hQ := (dec_some ht).1
    exact uadd_core _ _ _ _ _ _ _ _ _ _ _ _ _ _ _ (up_some hs) (up_some ht) (fun w => plus_T4 _ _ (tof_ok hP) (tof_ok hQ) w) (fun w => bytes_T4 (dadd_ok _ _) (padd_on hP hQ) (dadd_rep hP hQ (tof_rep P) (tof_rep Q)) w) w
  add0 s t h w := by
    obtain ⟨x2, y2, z2, t2, h2⟩ := up_any t
    by_cases hs : dec s = none
    · exact uadd_no1 _ _ _ _ _ _ _ _ _ _ _ (up_none hs) h2 w
    · have ht := h.resolve_left hs
      obtain ⟨P, hP⟩ := Option.ne_none_iff_exists'.1 hs
      exact uadd_no2 _ _ _ _ _ _ _ _ _ _ (up_some hP) (up_none ht) w
  neg := by
    intro s P hs w
    have hP := (dec_some hs).1
    exact uneg_core _ _ _ _ _ _ _ _ _ _ (up_some hs) (fun w => neg_T4 hP w) (fun w => bytes_T4 (tof_ok (pneg_on hP)) (pneg_on hP) (tof_rep _) w) w
  neg0 := by
    intro s hs w
    exact uneg_no _ _ _ _ _ (up_none hs) w
  mul := by
    intro k s P hk hs w
    have hP := (dec_some hs).1
    exact umul_core _ _ _ _ _ _ _ (usize_is hk) (up_some hs) (fun g w hg => upost_of (pmul_on hP _) (total1 k hk (tof P) P (tof_ok hP) hP (tof_rep P) g w hg)) w
  mul0 k s h w := by
    by_cases hs : dec s = none
    · exact umul_no1 _ _ _ _ _ _ (up_none hs) w
    · obtain ⟨P, hP⟩ := Option.ne_none_iff_exists'.1 hs
      exact umul_no2 _ _ _ _ _ _ (usize_ne (h.resolve_right hs)) (up_some hP) w
  both := by
    intro a s b P ha hs hb w
    have hP := (dec_some hs).1
    exact uboth_core _ _ _ _ _ _ _ _ _ _ _ _ (usize_is ha) (usize_is hb) (up_some hs) at_base (fun g w hg => upost_of (padd_on (pmul_on hP _) (pmul_on pbase_on _)) (total2 a ha (tof P) P (tof_ok hP) hP (tof_rep P) b hb (tof pbase) pbase (tof_ok pbase_on) pbase_on (tof_rep pbase) g w hg)) w
  both0 a s b h w := by
    by_cases hs : dec s = none
    · exact uboth_no1 _ _ _ _ _ _ _ (up_none hs) w
    · obtain ⟨P, hP⟩ := Option.ne_none_iff_exists'.1 hs
      by_cases ha : a.length = 32
      · have hb : b.length ≠ 32 := (h.resolve_left (fun h => h ha)).resolve_left hs
        exact uboth_no3 _ _ _ _ _ _ _ (usize_is ha) (usize_ne hb) (up_some hP) w
      · exact uboth_no2 _ _ _ _ _ _ _ (usize_ne ha) (up_some hP) w
end Go.Proofs.Ytockcnglennihaa
