/- What package curve answers, by points; the law package's fixed calls from it. -/
import Derived.Test.YtockcnglennihaaD12
set_option linter.unusedSimpArgs false
set_option linter.unusedVariables false
set_option maxRecDepth 100000
namespace Go.Proofs.Ytockcnglennihaa
open Go.RowKit
/-- Package curve answers so. -/
structure CurveOk : Prop where
  is : ∀ l w, Calls Try.prog 15 #[.string (S l)] w (RetV (.bool (isPt l)) w)
  base : ∀ w, Calls Try.prog 17 #[] w (RetV (.string (S (encP pbase))) w)
  zero : ∀ w, Calls Try.prog 19 #[] w (RetV (.string (S (encP pzero))) w)
  add : ∀ {s t P Q}, dec s = some P → dec t = some Q → ∀ w, Calls Try.prog 10 #[.string (S s), .string (S t)] w (RetV (.tuple #[.string (S (encP (padd P Q))), .int .i64 0]) w)
  add0 : ∀ s t, dec s = none ∨ dec t = none → ∀ w, Calls Try.prog 10 #[.string (S s), .string (S t)] w (RetV (.tuple #[.string ⟨#[]⟩, .int .i64 60]) w)
  neg : ∀ {s P}, dec s = some P → ∀ w, Calls Try.prog 12 #[.string (S s)] w (RetV (.tuple #[.string (S (encP (pneg P))), .int .i64 0]) w)
  neg0 : ∀ {s}, dec s = none → ∀ w, Calls Try.prog 12 #[.string (S s)] w (RetV (.tuple #[.string ⟨#[]⟩, .int .i64 60]) w)
  mul : ∀ {k s P}, k.length = 32 → dec s = some P → ∀ w, Calls Try.prog 21 #[.string (S k), .string (S s)] w (RetV (.tuple #[.string (S (encP (pmul (numB k) P))), .int .i64 0]) w)
  mul0 : ∀ k s, k.length ≠ 32 ∨ dec s = none → ∀ w, Calls Try.prog 21 #[.string (S k), .string (S s)] w (RetV (.tuple #[.string ⟨#[]⟩, .int .i64 60]) w)
  both : ∀ {a s b P}, a.length = 32 → dec s = some P → b.length = 32 → ∀ w, Calls Try.prog 23 #[.string (S a), .string (S s), .string (S b)] w (RetV (.tuple #[.string (S (encP (padd (pmul (numB a) P) (pmul (numB b) pbase)))), .int .i64 0]) w)
  both0 : ∀ a s b, a.length ≠ 32 ∨ dec s = none ∨ b.length ≠ 32 → ∀ w, Calls Try.prog 23 #[.string (S a), .string (S s), .string (S b)] w (RetV (.tuple #[.string ⟨#[]⟩, .int .i64 60]) w)
theorem isPt_enc {P : Pt} (hP : OnC P) : isPt (encP P) = true := by unfold isPt; rw [dec_enc hP]; rfl
theorem isPt_some {l : List UInt8} (h : isPt l = true) : ∃ P, dec l = some P := Option.isSome_iff_exists.1 h
theorem num_enc {P : Pt} (hP : OnC P) : numB (encP P) = P.y + P.x % 2 * tt := by
  have hyl := hP.yl
  have hpt := p_tt
  have htt := tt_big
  have hn : P.y + P.x % 2 * tt < big := by
    have : P.x % 2 = 0 ∨ P.x % 2 = 1 := by omega
    rcases this with e | e
    · rw [e]; omega
    · rw [e]; omega
  exact numB_leB _ hn
theorem odd_num : numB ((encP pzero).set 31 128) = 1 + tt := by decide +kernel
theorem odd_no : isPt ((encP pzero).set 31 128) = false := by
  cases h : isPt ((encP pzero).set 31 128) with
  | false => rfl
  | true =>
    obtain ⟨P, hd⟩ := isPt_some h
    obtain ⟨hP, he⟩ := dec_some hd
    have h1 := num_enc hP
    rw [he, odd_num] at h1
    have hyl := hP.yl
    have hxl := hP.xl
    have hpt := p_tt
    have h2 : P.x % 2 = 0 ∨ P.x % 2 = 1 := by omega
    have h3 : P.x % 2 = 1 ∧ P.y = 1 := by
      rcases h2 with e | e
      · rw [e] at h1; omega
      · rw [e] at h1; omega
    have h4 := same_y hP pzero_on h3.2
    have h5 : P.x = 0 ∨ P.x + 0 = pF := h4
    omega
theorem zz_num : numB zz32 = 0 := by decide +kernel
theorem no_dec : dec [] = none := by unfold dec; rw [if_neg (by decide)]
theorem no_pt : isPt [] = false := by unfold isPt; rw [no_dec]; rfl
theorem fixed_any (c : CurveOk) (w : World) : Calls Try.prog 14 #[] w (RetV (.bool true) w) := by
  have hb := dec_enc pbase_on
  have hn := c.neg hb
  have ha := c.add hb (dec_enc (pneg_on pbase_on))
  rw [padd_neg pbase_on] at ha
  have hm := c.mul (k := zz32) rfl hb
  rw [zz_num] at hm
  have hi := c.is (encP pbase)
  rw [isPt_enc pbase_on] at hi
  have ho := c.is ((encP pzero).set 31 128)
  rw [odd_no] at ho
  have he := c.is []
  rw [no_pt] at he
  have hsz : (S (encP pbase)).size = 32 := by rw [S_size, encP_len]
  have hsz2 : (S (encP pzero)).size = 32 := by rw [S_size, encP_len]
  have e0 : (encP pbase).getD 0 0 = 88 := by decide +kernel
  have e31 : (encP pbase).getD 31 0 = 102 := by decide +kernel
  have z0 : (encP pzero).getD 0 0 = 1 := by decide +kernel
  have g0 : ∀ h : 0 < (S (encP pbase)).size, (S (encP pbase))[0] = 88 := fun h => by rw [byte_at, e0]
  have g31 : ∀ h : 31 < (S (encP pbase)).size, (S (encP pbase))[31] = 102 := fun h => by rw [byte_at, e31]
  have gz : ∀ h : 0 < (S (encP pzero)).size, (S (encP pzero))[0] = 1 := fun h => by rw [byte_at, z0]
  exact fixed_core (S (encP pbase)) (S (encP (pneg pbase))) (S (encP pzero)) (S zz32) (S ((encP pzero).set 31 128)) ⟨#[]⟩ (encP pzero) _ (encP_len _) rfl rfl rfl rfl hsz (by omega) (by omega) (g0 _) (g31 _) (by omega) (gz _)
    c.base hn ha hm (c.mul0 [] _ (.inl (by decide))) c.zero hi ho he w
end Go.Proofs.Ytockcnglennihaa
