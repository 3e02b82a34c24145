/- Points and their bytes: each point has its own, and what has them. No walk. -/
import Derived.Test.YtockcnglennihaaD6
set_option linter.unusedSimpArgs false
set_option linter.unusedVariables false
set_option maxRecDepth 100000
namespace Go.Proofs.Ytockcnglennihaa
open Go.RowKit
/-- 2^255. -/
def tt : Nat := 57896044618658097711785492504343953926634992332820282019728792003956564819968
theorem tt_eq : tt = 128 * 256 ^ 31 := by decide +kernel
theorem tt_big : tt + tt = big := by decide +kernel
theorem p_tt : pF < tt := by decide +kernel
theorem tt_pos : 0 < tt := by decide +kernel
def encP (P : Pt) : List UInt8 := encL P.x P.y
theorem encP_eq (P : Pt) : encP P = leB (P.y + P.x % 2 * tt) := rfl
/-- The point of bytes. -/
def dec (l : List UInt8) : Option Pt :=
  if l.length = 32 then
    if numB l % tt < pF then
      if cand (sqY (numB l % tt)) * cand (sqY (numB l % tt)) % pF = sqY (numB l % tt) then
        if numB l / tt = 0 then some ⟨evenN (cand (sqY (numB l % tt))), numB l % tt⟩
        else if evenN (cand (sqY (numB l % tt))) = 0 then none else some ⟨sb 0 (evenN (cand (sqY (numB l % tt)))), numB l % tt⟩
      else none
    else none
  else none
theorem even_par (r : Nat) (h : r < pF) : evenN r % 2 = 0 := by
  unfold evenN
  have := p_odd
  split
  · rename_i e
    have e : r % 2 = 1 := by simpa using e
    omega
  · rename_i e
    have e : ¬ r % 2 = 1 := by simpa using e
    omega
theorem sqY_M (y : Nat) : M ((sqY y : Int) * (1 + (dF : Int) * ((y : Int) * y))) ((y : Int) * y - 1) := by
  have h1 : M (ml y y : Int) ((y : Int) * y) := ml_M y y
  have h2 : M (sb (ml y y) 1 : Int) ((y : Int) * y - 1) := (sb_M _ 1 (by decide +kernel)).trans (h1.sub (.refl _))
  have h3 : M (ad 1 (ml dF (ml y y)) : Int) (1 + (dF : Int) * ((y : Int) * y)) := (ad_M _ _).trans ((M.refl _).add ((ml_M _ _).trans ((M.refl _).mul h1)))
  have hn : ¬ M (ad 1 (ml dF (ml y y)) : Int) 0 := fun h => one_d_nz (y : Int) (h3.symm.trans h)
  have h4 : M (sqY y : Int) ((sb (ml y y) 1 : Int) * (fi (ad 1 (ml dF (ml y y))) : Int)) := ml_M _ _
  refine (h4.mul h3.symm).trans ?_
  rw [Int.mul_assoc]
  exact ((M.refl _).mul (fi_mul hn)).trans ((M.of_eq (Int.mul_one _)).trans h2)
theorem sqY_lt (y : Nat) : sqY y < pF := ml_lt _ _
theorem sqY_of {P : Pt} (hP : OnC P) : sqY P.y = P.x * P.x % pF := by
  refine nat_M (sqY_lt _) (Nat.mod_lt _ (by decide +kernel)) ?_
  refine M.trans ?_ ((M.mod (P.x * P.x)).trans (.of_eq (Int.natCast_mul _ _))).symm
  exact ((sqY_M P.y).trans (x_sq hP).symm).cancel (one_d_nz _)
theorem on_of {x y : Nat} (hx : x < pF) (hy : y < pF) (h : M ((x : Int) * x) (sqY y : Int)) : OnC ⟨x, y⟩ := by
  refine ⟨hx, hy, Eqn.rule ?_⟩
  have h2 := (h.mul (M.refl (1 + (dF : Int) * ((y : Int) * y)))).trans (sqY_M y)
  unfold Eqn
  show M ((y : Int) * y - (x : Int) * x - 1) ((dF : Int) * ((x : Int) * x * ((y : Int) * y)))
  have h3 := h2.symm.sub (M.refl ((x : Int) * x))
  refine (M.of_eq ?_).trans (h3.trans (.of_eq ?_))
  · omega
  · rw [Int.mul_add, Int.mul_one, show (x : Int) * x * ((dF : Int) * ((y : Int) * y)) = (dF : Int) * ((x : Int) * x * ((y : Int) * y)) by ac_rfl]
    omega
theorem root_on {y : Nat} (hy : y < pF) (h : cand (sqY y) * cand (sqY y) % pF = sqY y) : OnC ⟨evenN (cand (sqY y)), y⟩ := by
  refine on_of (even_lt _) hy ?_
  rw [← Int.natCast_mul, M_nat, even_sq _ (cand_lt _), h, Nat.mod_eq_of_lt (sqY_lt y)]
theorem sb0 {x : Nat} (h0 : x ≠ 0) (hx : x < pF) : sb 0 x = pF - x := neg_pos' x h0 hx
theorem neg_M (x : Nat) (hx : x ≤ pF) : M (sb 0 x : Int) (-(x : Int)) := (sb_M 0 x hx).trans (.of_eq (by omega))
theorem neg_eq {P : Pt} (hP : OnC P) : pneg P = ⟨sb 0 P.x, P.y⟩ := by
  unfold pneg
  rw [nat_M (rm_lt _) (sb_lt 0 P.x) ((rm_M _).trans (neg_M P.x (Nat.le_of_lt hP.xl)).symm)]
theorem neg_on {x y : Nat} (h : OnC ⟨x, y⟩) : OnC ⟨sb 0 x, y⟩ := by
  have h2 := pneg_on h
  rw [neg_eq h] at h2
  exact h2
theorem num_split {l : List UInt8} (hl : l.length = 32) : numB l / tt ≤ 1 := by
  have h := numB_lt l hl
  have h2 := tt_big
  have h3 : numB l / tt < 2 := Nat.div_lt_of_lt_mul (by omega)
  omega
/-- Bytes of a point are the point's. -/
theorem dec_some {l : List UInt8} {P : Pt} (h : dec l = some P) : OnC P ∧ encP P = l := by
  unfold dec at h
  by_cases hl : l.length = 32
  · rw [if_pos hl] at h
    have hs := num_split hl
    have hd := Nat.div_add_mod (numB l) tt
    have hb := leB_numB l hl (numB_lt l hl)
    obtain ⟨y, hy⟩ : ∃ y, numB l % tt = y := ⟨_, rfl⟩
    rw [hy] at h hd
    by_cases hyp : y < pF
    · rw [if_pos hyp] at h
      by_cases hc : cand (sqY y) * cand (sqY y) % pF = sqY y
      · rw [if_pos hc] at h
        have hon := root_on hyp hc
        have hpar := even_par _ (cand_lt (sqY y))
        have hxl := even_lt (sqY y)
        generalize evenN (cand (sqY y)) = x at h hon hpar hxl
        by_cases ho : numB l / tt = 0
        · rw [if_pos ho] at h
          injection h with h
          subst h
          refine ⟨hon, ?_⟩
          show leB (y + x % 2 * tt) = l
          rw [hpar, Nat.zero_mul, Nat.add_zero, ← hb]
          congr 1
          rw [ho, Nat.mul_zero] at hd
          omega
        · rw [if_neg ho] at h
          by_cases hx0 : x = 0
          · rw [if_pos hx0] at h
            cases h
          · rw [if_neg hx0] at h
            injection h with h
            subst h
            refine ⟨neg_on hon, ?_⟩
            show leB (y + sb 0 x % 2 * tt) = l
            have hodd : sb 0 x % 2 = 1 := by
              rw [sb0 hx0 hxl]
              have := p_odd
              omega
            rw [hodd, Nat.one_mul, ← hb]
            congr 1
            rw [Nat.le_antisymm hs (Nat.pos_of_ne_zero ho), Nat.mul_one] at hd
            omega
      · rw [if_neg hc] at h; cases h
    · rw [if_neg hyp] at h; cases h
  · rw [if_neg hl] at h; cases h
theorem dec_enc {P : Pt} (hP : OnC P) : dec (encP P) = some P := by
  have hyl := hP.yl
  have hxl := hP.xl
  have hpt := p_tt
  have htt := tt_big
  have hn : P.y + P.x % 2 * tt < big := by
    have : P.x % 2 = 0 ∨ P.x % 2 = 1 := by omega
    rcases this with e | e
    · rw [e]; omega
    · rw [e]; omega
  have hnum : numB (encP P) = P.y + P.x % 2 * tt := numB_leB _ hn
  have hmod : (P.y + P.x % 2 * tt) % tt = P.y := by rw [Nat.add_mul_mod_self_right, Nat.mod_eq_of_lt (by omega)]
  have hdiv : (P.y + P.x % 2 * tt) / tt = P.x % 2 := by rw [Nat.add_mul_div_right _ _ tt_pos, Nat.div_eq_of_lt (by omega), Nat.zero_add]
  have hlen : (encP P).length = 32 := leB_len _
  unfold dec
  rw [if_pos hlen, hnum, hmod, hdiv, if_pos hyl, sqY_of hP, if_pos (cand_sq P.x hxl)]
  have hpar := even_par _ (cand_lt (P.x * P.x % pF))
  have hr := even_root P.x hxl
  generalize evenN (cand (P.x * P.x % pF)) = r at hpar hr ⊢
  have hodd := p_odd
  by_cases hx0 : P.x = 0
  · have h1 : r = 0 := by
      rcases hr with e | e
      · omega
      · rw [hx0, neg_zero'] at e; exact e
    rw [if_pos (by rw [hx0])]
    subst h1
    cases P
    simp only at hx0
    rw [hx0]
  · rw [neg_pos' P.x hx0 hxl] at hr
    by_cases hev : P.x % 2 = 0
    · rw [if_pos hev]
      have h1 : r = P.x := by omega
      rw [h1]
    · rw [if_neg hev]
      have h1 : r = pF - P.x := by omega
      rw [if_neg (by omega), h1, sb0 (by omega) (by omega), show pF - (pF - P.x) = P.x by omega]
theorem enc_inj {P Q : Pt} (hP : OnC P) (hQ : OnC Q) (h : encP P = encP Q) : P = Q := by
  have h1 := dec_enc hP
  rw [h, dec_enc hQ] at h1
  injection h1 with h1
  exact h1.symm
theorem encP_len (P : Pt) : (encP P).length = 32 := leB_len _
/-- Three numbers' point. -/
theorem rep_enc {t : T3} {P : Pt} (hP : OnC P) (h : RepT t P) : encL (ml t.x (fi t.z)) (ml t.y (fi t.z)) = encP P := by
  have hz : M ((t.z : Int) * (fi t.z : Int)) 1 := (M.of_eq (Int.mul_comm _ _)).trans (fi_mul h.nz)
  have ex : ml t.x (fi t.z) = P.x := nat_M (ml_lt _ _) hP.xl (by
    refine (ml_M _ _).trans ((h.xz.symm.mul (.refl _)).trans ?_)
    rw [Int.mul_assoc]
    exact ((M.refl _).mul hz).trans (.of_eq (Int.mul_one _)))
  have ey : ml t.y (fi t.z) = P.y := nat_M (ml_lt _ _) hP.yl (by
    refine (ml_M _ _).trans ((h.yz.symm.mul (.refl _)).trans ?_)
    rw [Int.mul_assoc]
    exact ((M.refl _).mul hz).trans (.of_eq (Int.mul_one _)))
  rw [ex, ey]
  rfl
theorem enc_base : encP pbase = leB pbase.y := by
  rw [encP_eq, show pbase.x % 2 = 0 by decide +kernel, Nat.zero_mul, Nat.add_zero]
theorem enc_zero : encP pzero = leB 1 := rfl
end Go.Proofs.Ytockcnglennihaa
