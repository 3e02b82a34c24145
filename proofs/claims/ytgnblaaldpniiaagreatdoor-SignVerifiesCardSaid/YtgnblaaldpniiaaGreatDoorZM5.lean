/- Points and their bytes: each point has its own, and what has them. No walk.
The document's answer for package curve: its calls.
The document's answer for package curve: its calls, over letters.
The document's answer for package curve: its calls, by points.
What package curve answers, by points; the law package's fixed calls from it.
Package field's calls in the words of package curve.
Package curve: points of four strings in blocks; laws of the walk over them; its elements' methods. -/
import Derived.Test.YtgnblaaldpniiaaGreatDoorZM4
import Derived.Test.YtgnblaaldpniiaaGreatDoorZK3
import Derived.Test.YtgnblaaldpniiaaGreatDoorZK2
section
set_option linter.unusedSimpArgs false
set_option linter.unusedVariables false
set_option maxRecDepth 100000
namespace Go.Proofs.YtgnblaaldpniiaaGreatDoor
open Go.RowKit
def tt : Nat := 57896044618658097711785492504343953926634992332820282019728792003956564819968
theorem tt_eq : tt = 128 * 256 ^ 31 := by decide +kernel
theorem tt_big : tt + tt = big := by decide +kernel
theorem p_tt : pF < tt := by decide +kernel
theorem tt_pos : 0 < tt := by decide +kernel
def encP (P : Pt) : List UInt8 := encL P.x P.y
theorem encP_eq (P : Pt) : encP P = leB (P.y + P.x % 2 * tt) := rfl
def dec (l : List UInt8) : Option Pt :=
  if l.length = 32 then
    if numB l % tt < pF then
      if cand (sqY (numB l % tt)) * cand (sqY (numB l % tt)) % pF = sqY (numB l % tt) then
        if numB l / tt = 0 then some ⟨evenN (cand (sqY (numB l % tt))), numB l % tt⟩
        else if evenN (cand (sqY (numB l % tt))) = 0 then none else some ⟨sb 0 (evenN (cand (sqY (numB l % tt)))), numB l % tt⟩
      else none
    else none
  else none
theorem even_par (r : Nat) (h : r < pF) : evenN r % 2 = 0 := by
  unfold evenN
  have := p_odd
  split
  · rename_i e
    have e : r % 2 = 1 := by simpa using e
    omega
  · rename_i e
    have e : ¬ r % 2 = 1 := by simpa using e
    omega
theorem sqY_M (y : Nat) : M ((sqY y : Int) * (1 + (dF : Int) * ((y : Int) * y))) ((y : Int) * y - 1) := by
  have h1 : M (ml y y : Int) ((y : Int) * y) := ml_M y y
  have h2 : M (sb (ml y y) 1 : Int) ((y : Int) * y - 1) := (sb_M _ 1 (by decide +kernel)).trans (h1.sub (.refl _))
  have h3 : M (ad 1 (ml dF (ml y y)) : Int) (1 + (dF : Int) * ((y : Int) * y)) := (ad_M _ _).trans ((M.refl _).add ((ml_M _ _).trans ((M.refl _).mul h1)))
  have hn : ¬ M (ad 1 (ml dF (ml y y)) : Int) 0 := fun h => one_d_nz (y : Int) (h3.symm.trans h)
  have h4 : M (sqY y : Int) ((sb (ml y y) 1 : Int) * (fi (ad 1 (ml dF (ml y y))) : Int)) := ml_M _ _
  refine (h4.mul h3.symm).trans ?_
  rw [Int.mul_assoc]
  exact ((M.refl _).mul (fi_mul hn)).trans ((M.of_eq (Int.mul_one _)).trans h2)
theorem sqY_lt (y : Nat) : sqY y < pF := ml_lt _ _
theorem sqY_of {P : Pt} (hP : OnC P) : sqY P.y = P.x * P.x % pF := by
  refine nat_M (sqY_lt _) (Nat.mod_lt _ (by decide +kernel)) ?_
  refine M.trans ?_ ((M.mod (P.x * P.x)).trans (.of_eq (Int.natCast_mul _ _))).symm
  exact ((sqY_M P.y).trans (x_sq hP).symm).cancel (one_d_nz _)
theorem on_of {x y : Nat} (hx : x < pF) (hy : y < pF) (h : M ((x : Int) * x) (sqY y : Int)) : OnC ⟨x, y⟩ := by
  refine ⟨hx, hy, Eqn.rule ?_⟩
  have h2 := (h.mul (M.refl (1 + (dF : Int) * ((y : Int) * y)))).trans (sqY_M y)
  unfold Eqn
  show M ((y : Int) * y - (x : Int) * x - 1) ((dF : Int) * ((x : Int) * x * ((y : Int) * y)))
  have h3 := h2.symm.sub (M.refl ((x : Int) * x))
  refine (M.of_eq ?_).trans (h3.trans (.of_eq ?_))
  · omega
  · rw [Int.mul_add, Int.mul_one, show (x : Int) * x * ((dF : Int) * ((y : Int) * y)) = (dF : Int) * ((x : Int) * x * ((y : Int) * y)) by ac_rfl]
    omega
theorem root_on {y : Nat} (hy : y < pF) (h : cand (sqY y) * cand (sqY y) % pF = sqY y) : OnC ⟨evenN (cand (sqY y)), y⟩ := by
  refine on_of (even_lt _) hy ?_
  rw [← Int.natCast_mul, M_nat, even_sq _ (cand_lt _), h, Nat.mod_eq_of_lt (sqY_lt y)]
theorem sb0 {x : Nat} (h0 : x ≠ 0) (hx : x < pF) : sb 0 x = pF - x := neg_pos' x h0 hx
theorem neg_M (x : Nat) (hx : x ≤ pF) : M (sb 0 x : Int) (-(x : Int)) := (sb_M 0 x hx).trans (.of_eq (by omega))
theorem neg_eq {P : Pt} (hP : OnC P) : pneg P = ⟨sb 0 P.x, P.y⟩ := by
  unfold pneg
  rw [nat_M (rm_lt _) (sb_lt 0 P.x) ((rm_M _).trans (neg_M P.x (Nat.le_of_lt hP.xl)).symm)]
theorem neg_on {x y : Nat} (h : OnC ⟨x, y⟩) : OnC ⟨sb 0 x, y⟩ := by
  have h2 := pneg_on h
  rw [neg_eq h] at h2
  exact h2
theorem num_split {l : List UInt8} (hl : l.length = 32) : numB l / tt ≤ 1 := by
  have h := numB_lt l hl
  have h2 := tt_big
  have h3 : numB l / tt < 2 := Nat.div_lt_of_lt_mul (by omega)
  omega
theorem dec_some {l : List UInt8} {P : Pt} (h : dec l = some P) : OnC P ∧ encP P = l := by
  unfold dec at h
  by_cases hl : l.length = 32
  · rw [if_pos hl] at h
    have hs := num_split hl
    have hd := Nat.div_add_mod (numB l) tt
    have hb := leB_numB l hl (numB_lt l hl)
    obtain ⟨y, hy⟩ : ∃ y, numB l % tt = y := ⟨_, rfl⟩
    rw [hy] at h hd
    by_cases hyp : y < pF
    · rw [if_pos hyp] at h
      by_cases hc : cand (sqY y) * cand (sqY y) % pF = sqY y
      · rw [if_pos hc] at h
        have hon := root_on hyp hc
        have hpar := even_par _ (cand_lt (sqY y))
        have hxl := even_lt (sqY y)
        generalize evenN (cand (sqY y)) = x at h hon hpar hxl
        by_cases ho : numB l / tt = 0
        · rw [if_pos ho] at h
          injection h with h
          subst h
          refine ⟨hon, ?_⟩
          show leB (y + x % 2 * tt) = l
          rw [hpar, Nat.zero_mul, Nat.add_zero, ← hb]
          congr 1
          rw [ho, Nat.mul_zero] at hd
          omega
        · rw [if_neg ho] at h
          by_cases hx0 : x = 0
          · rw [if_pos hx0] at h
            cases h
          · rw [if_neg hx0] at h
            injection h with h
            subst h
            refine ⟨neg_on hon, ?_⟩
            show leB (y + sb 0 x % 2 * tt) = l
            have hodd : sb 0 x % 2 = 1 := by
              rw [sb0 hx0 hxl]
              have := p_odd
              omega
            rw [hodd, Nat.one_mul, ← hb]
            congr 1
            rw [Nat.le_antisymm hs (Nat.pos_of_ne_zero ho), Nat.mul_one] at hd
            omega
      · rw [if_neg hc] at h; cases h
    · rw [if_neg hyp] at h; cases h
  · rw [if_neg hl] at h; cases h
theorem dec_enc {P : Pt} (hP : OnC P) : dec (encP P) = some P := by
  have hyl := hP.yl
  have hxl := hP.xl
  have hpt := p_tt
  have htt := tt_big
  have hn : P.y + P.x % 2 * tt < big := by
    have : P.x % 2 = 0 ∨ P.x % 2 = 1 := by omega
    rcases this with e | e
    · rw [e]; omega
    · rw [e]; omega
  have hnum : numB (encP P) = P.y + P.x % 2 * tt := numB_leB _ hn
  have hmod : (P.y + P.x % 2 * tt) % tt = P.y := by rw [Nat.add_mul_mod_self_right, Nat.mod_eq_of_lt (by omega)]
  have hdiv : (P.y + P.x % 2 * tt) / tt = P.x % 2 := by rw [Nat.add_mul_div_right _ _ tt_pos, Nat.div_eq_of_lt (by omega), Nat.zero_add]
  have hlen : (encP P).length = 32 := leB_len _
  unfold dec
  rw [if_pos hlen, hnum, hmod, hdiv, if_pos hyl, sqY_of hP, if_pos (cand_sq P.x hxl)]
  have hpar := even_par _ (cand_lt (P.x * P.x % pF))
  have hr := even_root P.x hxl
  generalize evenN (cand (P.x * P.x % pF)) = r at hpar hr ⊢
  have hodd := p_odd
  by_cases hx0 : P.x = 0
  · have h1 : r = 0 := by
      rcases hr with e | e
      · omega
      · rw [hx0, neg_zero'] at e; exact e
    rw [if_pos (by rw [hx0])]
    subst h1
    cases P
    simp only at hx0
    rw [hx0]
  · rw [neg_pos' P.x hx0 hxl] at hr
    by_cases hev : P.x % 2 = 0
    · rw [if_pos hev]
      have h1 : r = P.x := by omega
      rw [h1]
    · rw [if_neg hev]
      have h1 : r = pF - P.x := by omega
      rw [if_neg (by omega), h1, sb0 (by omega) (by omega), show pF - (pF - P.x) = P.x by omega]
theorem enc_inj {P Q : Pt} (hP : OnC P) (hQ : OnC Q) (h : encP P = encP Q) : P = Q := by
  have h1 := dec_enc hP
  rw [h, dec_enc hQ] at h1
  injection h1 with h1
  exact h1.symm
theorem encP_len (P : Pt) : (encP P).length = 32 := leB_len _
theorem rep_enc {t : T3} {P : Pt} (hP : OnC P) (h : RepT t P) : encL (ml t.x (fi t.z)) (ml t.y (fi t.z)) = encP P := by
  have hz : M ((t.z : Int) * (fi t.z : Int)) 1 := (M.of_eq (Int.mul_comm _ _)).trans (fi_mul h.nz)
  have ex : ml t.x (fi t.z) = P.x := nat_M (ml_lt _ _) hP.xl (by
    refine (ml_M _ _).trans ((h.xz.symm.mul (.refl _)).trans ?_)
    rw [Int.mul_assoc]
    exact ((M.refl _).mul hz).trans (.of_eq (Int.mul_one _)))
  have ey : ml t.y (fi t.z) = P.y := nat_M (ml_lt _ _) hP.yl (by
    refine (ml_M _ _).trans ((h.yz.symm.mul (.refl _)).trans ?_)
    rw [Int.mul_assoc]
    exact ((M.refl _).mul hz).trans (.of_eq (Int.mul_one _)))
  rw [ex, ey]
  rfl
theorem enc_base : encP pbase = leB pbase.y := by
  rw [encP_eq, show pbase.x % 2 = 0 by decide +kernel, Nat.zero_mul, Nat.add_zero]
end Go.Proofs.YtgnblaaldpniiaaGreatDoor
end
section
set_option linter.unusedSimpArgs false
set_option linter.unusedVariables false
set_option maxRecDepth 100000
namespace Go.Proofs.YtgnblaaldpniiaaGreatDoor
open Go.RowKit
def px (l : List UInt8) : Nat := match dec l with | some P => P.x | none => 0
def py (l : List UInt8) : Nat := match dec l with | some P => P.y | none => 0
def pz (l : List UInt8) : Nat := match dec l with | some _ => 1 | none => 0
def isPt (l : List UInt8) : Bool := (dec l).isSome
def PPost (l : List UInt8) (w : World) (e : Ending) (w' : World) : Prop := RetV (.tuple #[.agg (ptC (px l) (py l) (pz l)).toArray, .bool (isPt l)]) w e w'
theorem ppost_none {l : List UInt8} (h : dec l = none) {w : World} (hc : Calls Tryz.prog 33 #[.string (S l)] w (RetV (.tuple #[.agg (ptC 0 0 0).toArray, .bool false]) w)) : Calls Tryz.prog 33 #[.string (S l)] w (PPost l w) := by
  unfold PPost px py pz isPt
  rw [h]
  exact hc
theorem ppost_some {l : List UInt8} {P : Pt} (h : dec l = some P) {w : World} (hc : Calls Tryz.prog 33 #[.string (S l)] w (RetV (.tuple #[.agg (ptC P.x P.y 1).toArray, .bool true]) w)) : Calls Tryz.prog 33 #[.string (S l)] w (PPost l w) := by
  unfold PPost px py pz isPt
  rw [h]
  exact hc
theorem rootB_true {q : Nat} (h : cand q * cand q % pF = q) : rootB q = true := decide_eq_true h
theorem rootB_false {q : Nat} (h : ¬ cand q * cand q % pF = q) : rootB q = false := decide_eq_false h
theorem rootX_true {q : Nat} (h : cand q * cand q % pF = q) : rootX q = evenN (cand q) := if_pos h
theorem is_El {l : List UInt8} (hl : l.length = 32) : isEl l = decide (numB l < pF) := by unfold isEl; rw [decide_eq_true hl, Bool.true_and]
theorem cut31 (l : List UInt8) (hl : l.length = 32) (b : UInt8) : (S l).extract 0 31 ++ S [b] = S (l.set 31 b) := by
  have e : (S l).extract 0 31 = S (l.take 31) := by
    apply ByteArray.ext
    apply Array.ext'
    rw [ByteArray.data_extract, Array.toList_extract]
    show (l.drop 0).take (31 - 0) = _
    rw [List.drop_zero]
    rfl
  rw [e, S_append]
  congr 1
  rw [List.set_eq_take_append_cons_drop, if_pos (by omega), List.drop_eq_nil_of_le (by omega)]
theorem dec_odd (l : List UInt8) (hl : l.length = 32) (ho : numB l / tt = 1) : dec l = if numB l % tt < pF then (if cand (sqY (numB l % tt)) * cand (sqY (numB l % tt)) % pF = sqY (numB l % tt) then (if evenN (cand (sqY (numB l % tt))) = 0 then none else some ⟨sb 0 (evenN (cand (sqY (numB l % tt)))), numB l % tt⟩) else none) else none := by
  unfold dec
  rw [if_pos hl, ho, if_neg (by decide : ¬ (1 : Nat) = 0)]
theorem dec_even (l : List UInt8) (hl : l.length = 32) (ho : numB l / tt = 0) (hmod : numB l % tt = numB l) : dec l = if numB l < pF then (if cand (sqY (numB l)) * cand (sqY (numB l)) % pF = sqY (numB l) then some ⟨evenN (cand (sqY (numB l))), numB l⟩ else none) else none := by
  unfold dec
  rw [if_pos hl, ho, hmod, if_pos (rfl : (0 : Nat) = 0)]
theorem Parse_any (l : List UInt8) (w : World) : Calls Tryz.prog 33 #[.string (S l)] w (PPost l w) := by
  by_cases hl : l.length = 32
  · have hsz : (S l).size = 32 := by rw [S_size, hl]
    have hs31 : 31 < (S l).size := by omega
    obtain ⟨b, hb⟩ : ∃ b, l.getD 31 0 = b := ⟨_, rfl⟩
    have g31 : (S l)[31] = b := by rw [byte_at, hb]
    have hd : b.toNat = numB l / 256 ^ 31 % 256 := by rw [← hb]; exact digit_at l 31 (by omega)
    have hnl := numB_lt l hl
    have h31 : numB l / 256 ^ 31 < 256 := Nat.div_lt_of_lt_mul (Nat.lt_of_lt_of_le hnl (by decide +kernel))
    rw [Nat.mod_eq_of_lt h31] at hd
    have hq : numB l / tt = b.toNat / 128 := by rw [tt_eq, Nat.mul_comm, ← Nat.div_div_eq_div_mul, hd]
    by_cases hge : 128 ≤ b.toNat
    · obtain ⟨b1, hb1⟩ : ∃ b1 : UInt8, b1.toNat + 128 = b.toNat := ⟨UInt8.ofNat (b.toNat - 128), by have := b.toNat_lt; simp; omega⟩
      have hbl := b.toNat_lt
      have ho : numB l / tt = 1 := by rw [hq]; omega
      have htl : (l.set 31 b1).length = 32 := by rw [List.length_set, hl]
      have hset := numB_set l 31 b1 (by omega)
      rw [hb, ← hb1, Nat.add_mul, ← tt_eq] at hset
      have hmod := Nat.div_add_mod (numB l) tt
      rw [ho, Nat.mul_one] at hmod
      have hnt : numB (l.set 31 b1) = numB l % tt := by omega
      have hb1' : (b.toNat : Int) - 128 = (b1.toNat : Int) := by omega
      have hbI : (128 : Int) ≤ (b.toNat : Int) := by omega
      have hcat := cut31 l hl b1
      have hIs := fun w => Is_any (l.set 31 b1) w
      rw [is_El htl, hnt] at hIs
      have hdec : dec l = if numB l % tt < pF then (if cand (sqY (numB l % tt)) * cand (sqY (numB l % tt)) % pF = sqY (numB l % tt) then (if evenN (cand (sqY (numB l % tt))) = 0 then none else some ⟨sb 0 (evenN (cand (sqY (numB l % tt)))), numB l % tt⟩) else none) else none := by
        exact dec_odd l hl ho
      by_cases hy : numB l % tt < pF
      · rw [decide_eq_true hy] at hIs
        rw [if_pos hy] at hdec
        have hN := fun w => numD (l.set 31 b1) (by rw [is_El htl, hnt]; exact decide_eq_true hy) w
        rw [hnt] at hN
        have hR := fun w => rootsD (sqY (numB l % tt)) (sqY_lt _) w
        by_cases hc : cand (sqY (numB l % tt)) * cand (sqY (numB l % tt)) % pF = sqY (numB l % tt)
        · rw [if_pos hc] at hdec
          rw [rootB_true hc, rootX_true hc] at hR
          by_cases hx0 : evenN (cand (sqY (numB l % tt))) = 0
          · rw [if_pos hx0] at hdec
            exact ppost_none hdec (parse_odd_zero (S l) _ _ b b1 hsz hs31 g31 hbI hb1' rfl hcat hIs _ hN hy _ (even_lt _) hR (eq_true hx0) w)
          · rw [if_neg hx0] at hdec
            exact ppost_some hdec (parse_odd_ok (S l) _ _ b b1 hsz hs31 g31 hbI hb1' rfl hcat hIs _ hN hy _ (even_lt _) hR (eq_false hx0) w)
        · rw [if_neg hc] at hdec
          rw [rootB_false hc] at hR
          exact ppost_none hdec (parse_odd_noroot (S l) _ _ b b1 hsz hs31 g31 hbI hb1' rfl hcat hIs _ hN hy _ (rootX_lt _) hR w)
      · rw [decide_eq_false hy] at hIs
        rw [if_neg hy] at hdec
        exact ppost_none hdec (parse_odd_noel (S l) _ _ b b1 hsz hs31 g31 hbI hb1' rfl hcat hIs w)
    · have ho : numB l / tt = 0 := by rw [hq]; omega
      have hmod := Nat.div_add_mod (numB l) tt
      rw [ho, Nat.mul_zero, Nat.zero_add] at hmod
      have hbI : ¬ (128 : Int) ≤ (b.toNat : Int) := by omega
      have hIs := fun w => Is_any l w
      rw [is_El hl] at hIs
      have hdec : dec l = if numB l < pF then (if cand (sqY (numB l)) * cand (sqY (numB l)) % pF = sqY (numB l) then some ⟨evenN (cand (sqY (numB l))), numB l⟩ else none) else none := by
        exact dec_even l hl ho hmod
      by_cases hy : numB l < pF
      · rw [decide_eq_true hy] at hIs
        rw [if_pos hy] at hdec
        have hN := fun w => numD l (by rw [is_El hl]; exact decide_eq_true hy) w
        have hR := fun w => rootsD (sqY (numB l)) (sqY_lt _) w
        by_cases hc : cand (sqY (numB l)) * cand (sqY (numB l)) % pF = sqY (numB l)
        · rw [if_pos hc] at hdec
          rw [rootB_true hc, rootX_true hc] at hR
          exact ppost_some hdec (parse_even_ok (S l) b hsz hs31 g31 hbI hIs _ hN hy _ (even_lt _) hR w)
        · rw [if_neg hc] at hdec
          rw [rootB_false hc] at hR
          exact ppost_none hdec (parse_even_noroot (S l) b hsz hs31 g31 hbI hIs _ hN hy _ (rootX_lt _) hR w)
      · rw [decide_eq_false hy] at hIs
        rw [if_neg hy] at hdec
        exact ppost_none hdec (parse_even_noel (S l) b hsz hs31 g31 hbI hIs w)
  · have hdec : dec l = none := by unfold dec; rw [if_neg hl]
    exact ppost_none hdec (parse_short l hl w)
end Go.Proofs.YtgnblaaldpniiaaGreatDoor
end
section
set_option linter.unusedSimpArgs false
set_option linter.unusedVariables false
set_option maxRecDepth 100000
namespace Go.Proofs.YtgnblaaldpniiaaGreatDoor
open Go.RowKit
set_option maxHeartbeats 4000000 in
theorem is_core (s : ByteArray) (X1 Y1 Z1 : Nat) (b : Bool) (c1 : ∀ w, Calls Tryz.prog 33 #[.string s] w (RetV (.tuple #[.agg (ptC X1 Y1 Z1).toArray, .bool b]) w)) (wS : World) : Calls Tryz.prog 26 #[.string s] wS (RetV (.bool b) wS) := by
  have H := RMem.start wS
  replace c1 := Kept.mk c1
  go_enter Tryz.func26, Tryz.ntmps26
  go_wp2_with (first
    | (refine p_allocP rfl rfl (by assumption) ?_; intro g w H; try simp only [Act.put, yI, yC, yZ])
    | (refine p_storeP0 rfl _ _ rfl _ _ _ _ _ _ _ rfl rfl _ (by assumption) ?_; intro w H; try simp only [Act.put, yI, yC, yZ])
    | (go_at_call 33; with_reducible refine r_call (by assumption) (c1.out _) ?_; intro w H))
  go_ret
  exact ⟨rfl, H.below⟩
set_option maxHeartbeats 4000000 in
theorem add_core (s t u : ByteArray) (X1 Y1 Z1 X2 Y2 Z2 U V W : Nat) (c1 : ∀ w, Calls Tryz.prog 33 #[.string s] w (RetV (.tuple #[.agg (ptC X1 Y1 Z1).toArray, .bool true]) w)) (c2 : ∀ w, Calls Tryz.prog 33 #[.string t] w (RetV (.tuple #[.agg (ptC X2 Y2 Z2).toArray, .bool true]) w)) (cD : ∀ w, Calls Tryz.prog 52 #[] w (RetV (.agg (nC dF).toArray) w)) (cP : ∀ w, Calls Tryz.prog 51 #[.agg (ptC X1 Y1 Z1).toArray, .agg (ptC X2 Y2 Z2).toArray, .agg (ptC dF 0 0).toArray] w (RetV (.agg (ptC U V W).toArray) w)) (cB : ∀ w, Calls Tryz.prog 34 #[.agg (ptC U V W).toArray] w (RetV (.string u) w)) (wS : World) : Calls Tryz.prog 28 #[.string s, .string t] wS (RetV (.tuple #[.string u, .int .i64 0]) wS) := by
  have H := RMem.start wS
  replace c1 := Kept.mk c1
  replace c2 := Kept.mk c2
  replace cD := Kept.mk cD
  replace cP := Kept.mk cP
  replace cB := Kept.mk cB
  go_enter Tryz.func28, Tryz.ntmps28
  go_wp2_with (first
    | (refine p_allocP rfl rfl (by assumption) ?_; intro g w H; try simp only [Act.put, yI, yC, yZ])
    | (refine p_storeP0 rfl _ _ rfl _ _ _ _ _ _ _ rfl rfl _ (by assumption) ?_; intro w H; try simp only [Act.put, yI, yC, yZ])
    | (go_at_call 33; with_reducible refine r_call (by assumption) (c1.out _) ?_; intro w H)
    | (go_at_call 33; with_reducible refine r_call (by assumption) (c2.out _) ?_; intro w H))
  refine wp_region_from (by kernel_rfl) (by kernel_rfl) ?_
  repeat (first
    | (go_big_quiet_want; (first
      | (refine q_loadP _ rfl _ _ _ _ _ (From.refl _) rfl (by assumption) (by (repeat (first | exact .head _ | refine .tail _ ?_))) ?_)
      | (refine q_build1 _ rfl _ (by rw [Array.toList_map]; rfl) ?_)); try simp only [Act.put, yI, yC, yZ]; go_big_quiet_on)
    | go_big_quiet_step (((first | (go_at_call 52; with_reducible exact held_call _ (cD.out _)) | (go_at_call 51; with_reducible exact held_call _ (cP.out _)) | (go_at_call 34; with_reducible exact held_call _ (cB.out _))))))
  refine wpQuiet_nil ?_
  intro w5 hw5
  have H := H.from hw5
  clear hw5
  go_wp2
  go_ret2
  exact ⟨rfl, H.below⟩
set_option maxHeartbeats 4000000 in
theorem mul_core (k s u : ByteArray) (X1 Y1 Z1 U V W : Nat) (hk : k.size = 32) (c1 : ∀ w, Calls Tryz.prog 33 #[.string s] w (RetV (.tuple #[.agg (ptC X1 Y1 Z1).toArray, .bool true]) w)) (cM : ∀ w, Calls Tryz.prog 35 #[.string k, .agg (ptC X1 Y1 Z1).toArray] w (RetV (.agg (ptC U V W).toArray) w)) (cB : ∀ w, Calls Tryz.prog 34 #[.agg (ptC U V W).toArray] w (RetV (.string u) w)) (wS : World) : Calls Tryz.prog 16 #[.string k, .string s] wS (RetV (.tuple #[.string u, .int .i64 0]) wS) := by
  have H := RMem.start wS
  replace c1 := Kept.mk c1
  replace cM := Kept.mk cM
  replace cB := Kept.mk cB
  go_enter Tryz.func16, Tryz.ntmps16
  go_wp2_with (first
    | (refine p_allocP rfl rfl (by assumption) ?_; intro g w H; try simp only [Act.put, yI, yC, yZ])
    | (refine p_loadP rfl _ rfl _ _ _ _ rfl (by assumption) (by (repeat (first | exact .head _ | refine .tail _ ?_))) ?_; try simp only [Act.put, yI, yC, yZ])
    | (refine p_storeP0 rfl _ _ rfl _ _ _ _ _ _ _ rfl rfl _ (by assumption) ?_; intro w H; try simp only [Act.put, yI, yC, yZ])
    | (go_at_call 33; with_reducible refine r_call (by assumption) (c1.out _) ?_; intro w H)
    | (go_at_call 35; with_reducible refine r_call (by assumption) (cM.out _) ?_; intro w H)
    | (go_at_call 34; with_reducible refine r_call (by assumption) (cB.out _) ?_; intro w H))
  go_ret2
  exact ⟨rfl, H.below⟩
end Go.Proofs.YtgnblaaldpniiaaGreatDoor
end
section
set_option linter.unusedSimpArgs false
set_option linter.unusedVariables false
set_option maxRecDepth 100000
namespace Go.Proofs.YtgnblaaldpniiaaGreatDoor
open Go.RowKit
theorem dec_on {l : List UInt8} {P : Pt} (h : dec l = some P) : OnC P := (dec_some h).1
theorem parseD_ok {l : List UInt8} {P : Pt} (h : dec l = some P) (w : World) : Calls Tryz.prog 33 #[.string (S l)] w (RetV (.tuple #[.agg (ptC P.x P.y 1).toArray, .bool true]) w) := by
  have h2 := Parse_any l w
  unfold PPost px py pz isPt at h2
  rw [h] at h2
  exact h2
theorem IsC_any (l : List UInt8) (w : World) : Calls Tryz.prog 26 #[.string (S l)] w (RetV (.bool (isPt l)) w) := is_core (S l) (px l) (py l) (pz l) (isPt l) (fun w => Parse_any l w) w
theorem bytesT {t : T3} (ht : t.Ok) {P : Pt} (hP : OnC P) (h : RepT t P) (w : World) : Calls Tryz.prog 34 #[.agg (ptC t.x t.y t.z).toArray] w (RetV (.string (S (encP P))) w) := by
  rw [← rep_enc hP h]
  exact BytesP_any _ _ _ ht.x ht.y ht.z w
theorem size_is (k : List UInt8) (h : k.length = 32) : (S k).size = 32 := by rw [S_size, h]
theorem two256 : big = 2 ^ 256 := by decide +kernel
theorem numB_two (k : List UInt8) (h : k.length = 32) : numB k < 2 ^ 256 := by rw [← two256]; exact numB_lt k h
theorem AddC_ok {s t : List UInt8} {P Q : Pt} (hs : dec s = some P) (ht : dec t = some Q) (w : World) : Calls Tryz.prog 28 #[.string (S s), .string (S t)] w (RetV (.tuple #[.string (S (encP (padd P Q))), .int .i64 0]) w) :=
  add_core (S s) (S t) (S (encP (padd P Q))) P.x P.y 1 Q.x Q.y 1 (tadd (tone P) (tone Q)).x (tadd (tone P) (tone Q)).y (tadd (tone P) (tone Q)).z
    (parseD_ok hs) (parseD_ok ht) D_any (Plus_T (tone P) (tone Q) (tone_ok (dec_on hs)) (tone_ok (dec_on ht)))
    (bytesT (tadd_ok _ _) (padd_on (dec_on hs) (dec_on ht)) (tadd_rep (dec_on hs) (dec_on ht) (tone_rep P) (tone_rep Q))) w
theorem manyT {P : Pt} (hP : OnC P) (k : List UInt8) (hk : k.length = 32) : RepT (lad 256 (numB k) (tone P)) (pmul (numB k) P) := lad_rep hP (tone_rep P) 256 (numB k) (numB_two k hk)
theorem MulC_ok {k s : List UInt8} {P : Pt} (hk : k.length = 32) (hs : dec s = some P) (w : World) : Calls Tryz.prog 16 #[.string (S k), .string (S s)] w (RetV (.tuple #[.string (S (encP (pmul (numB k) P))), .int .i64 0]) w) :=
  mul_core (S k) (S s) (S (encP (pmul (numB k) P))) P.x P.y 1 (lad 256 (numB k) (tone P)).x (lad 256 (numB k) (tone P)).y (lad 256 (numB k) (tone P)).z (size_is k hk)
    (parseD_ok hs) (Many_any k hk (tone P) (tone_ok (dec_on hs))) (bytesT (lad_ok (tone_ok (dec_on hs)) _ _) (pmul_on (dec_on hs) _) (manyT (dec_on hs) k hk)) w
end Go.Proofs.YtgnblaaldpniiaaGreatDoor
end
section
set_option linter.unusedSimpArgs false
set_option linter.unusedVariables false
set_option maxRecDepth 100000
namespace Go.Proofs.YtgnblaaldpniiaaGreatDoor
open Go.RowKit
structure CurveOk : Prop where
  base : ∀ w, Calls Tryz.prog 31 #[] w (RetV (.string (S (encP pbase))) w)
  neg : ∀ {s P}, dec s = some P → ∀ w, Calls Tryz.prog 23 #[.string (S s)] w (RetV (.tuple #[.string (S (encP (pneg P))), .int .i64 0]) w)
  neg0 : ∀ {s}, dec s = none → ∀ w, Calls Tryz.prog 23 #[.string (S s)] w (RetV (.tuple #[.string ⟨#[]⟩, .int .i64 60]) w)
  mul : ∀ {k s P}, k.length = 32 → dec s = some P → ∀ w, Calls Tryz.prog 30 #[.string (S k), .string (S s)] w (RetV (.tuple #[.string (S (encP (pmul (numB k) P))), .int .i64 0]) w)
  mul0 : ∀ k s, k.length ≠ 32 ∨ dec s = none → ∀ w, Calls Tryz.prog 30 #[.string (S k), .string (S s)] w (RetV (.tuple #[.string ⟨#[]⟩, .int .i64 60]) w)
  both : ∀ {a s b P}, a.length = 32 → dec s = some P → b.length = 32 → ∀ w, Calls Tryz.prog 25 #[.string (S a), .string (S s), .string (S b)] w (RetV (.tuple #[.string (S (encP (padd (pmul (numB a) P) (pmul (numB b) pbase)))), .int .i64 0]) w)
  both0 : ∀ a s b, a.length ≠ 32 ∨ dec s = none ∨ b.length ≠ 32 → ∀ w, Calls Tryz.prog 25 #[.string (S a), .string (S s), .string (S b)] w (RetV (.tuple #[.string ⟨#[]⟩, .int .i64 60]) w)
end Go.Proofs.YtgnblaaldpniiaaGreatDoor
end
section
set_option linter.unusedSimpArgs false
set_option linter.unusedVariables false
set_option maxRecDepth 100000
namespace Go.Proofs.YtgnblaaldpniiaaGreatDoor
open Go.RowKit
theorem fAdd (x y : Nat) (hx : x < pF) (hy : y < pF) (w : World) : Calls Tryz.prog 103 #[.string (S (leB x)), .string (S (leB y))] w (RetV (.tuple #[.string (S (leB (ad x y))), .int .i64 0]) w) := addE x y hx hy w
theorem fSub (x y : Nat) (hx : x < pF) (hy : y < pF) (w : World) : Calls Tryz.prog 100 #[.string (S (leB x)), .string (S (leB y))] w (RetV (.tuple #[.string (S (leB (sb x y))), .int .i64 0]) w) := subE x y hx hy w
theorem fMul (x y : Nat) (hx : x < pF) (hy : y < pF) (w : World) : Calls Tryz.prog 102 #[.string (S (leB x)), .string (S (leB y))] w (RetV (.tuple #[.string (S (leB (ml x y))), .int .i64 0]) w) := mulE x y hx hy w
theorem fInv (x : Nat) (hx : x < pF) (w : World) : Calls Tryz.prog 101 #[.string (S (leB x))] w (RetV (.tuple #[.string (S (leB (fi x))), .int .i64 0]) w) := by
  have h := invE x hx w
  exact h
theorem fRoot (q : Nat) (hq : q < pF) (hs : cand q * cand q % pF = q) (w : World) : Calls Tryz.prog 115 #[.string (S (leB q))] w (RetV (.tuple #[.string (S (leB (evenN (cand q)))), .bool true, .int .i64 0]) w) := rootE q hq hs w
theorem fRoot_no (q : Nat) (hq : q < pF) (hs : ¬ cand q * cand q % pF = q) (w : World) : Calls Tryz.prog 115 #[.string (S (leB q))] w (RetV (.tuple #[.string ⟨#[]⟩, .bool false, .int .i64 0]) w) := rootE_no q hq hs w
theorem fIs (l : List UInt8) (w : World) : Calls Tryz.prog 76 #[.string (S l)] w (RetV (.bool (isEl l)) w) := is_any l w
theorem top_div (l : List UInt8) (hl : l.length = 32) : numB l / tt = (l.getD 31 0).toNat / 128 := by
  have hd : (l.getD 31 0).toNat = numB l / 256 ^ 31 % 256 := digit_at l 31 (by omega)
  have hnl := numB_lt l hl
  have h31 : numB l / 256 ^ 31 < 256 := Nat.div_lt_of_lt_mul (Nat.lt_of_lt_of_le hnl (by decide +kernel))
  rw [Nat.mod_eq_of_lt h31] at hd
  rw [tt_eq, Nat.mul_comm, ← Nat.div_div_eq_div_mul, hd]
theorem low_num (l : List UInt8) (hl : l.length = 32) (c : UInt8) (hc : c.toNat = (l.getD 31 0).toNat % 128) : numB (l.set 31 c) = numB l % tt := by
  have hset := numB_set l 31 c (by omega)
  have hq := top_div l hl
  have hmod := Nat.div_add_mod (numB l) tt
  have hdm := Nat.div_add_mod (l.getD 31 0).toNat 128
  rw [← hc, ← hq] at hdm
  rw [← hdm, Nat.add_mul] at hset
  have e : 128 * (numB l / tt) * 256 ^ 31 = tt * (numB l / tt) := by rw [tt_eq]; ac_rfl
  rw [e] at hset
  omega
theorem low_len (l : List UInt8) (hl : l.length = 32) (c : UInt8) : (l.set 31 c).length = 32 := by rw [List.length_set, hl]
theorem dec_by (l : List UInt8) (hl : l.length = 32) (c : UInt8) (hc : c.toNat = (l.getD 31 0).toNat % 128) (y : Nat) (hy : numB (l.set 31 c) = y) (o : Nat) (ho : (l.getD 31 0).toNat / 128 = o) :
    dec l = if y < pF then (if cand (sqY y) * cand (sqY y) % pF = sqY y then (if o = 0 then some ⟨evenN (cand (sqY y)), y⟩ else if evenN (cand (sqY y)) = 0 then none else some ⟨sb 0 (evenN (cand (sqY y))), y⟩) else none) else none := by
  rw [low_num l hl c hc] at hy
  rw [← top_div l hl] at ho
  unfold dec
  rw [if_pos hl, hy, ho]
end Go.Proofs.YtgnblaaldpniiaaGreatDoor
end
section
set_option linter.unusedSimpArgs false
set_option linter.unusedVariables false
set_option maxRecDepth 100000
namespace Go.Proofs.YtgnblaaldpniiaaGreatDoor
open Go.RowKit
def qC (a b c d : ByteArray) : List Value := [.string a, .string b, .string c, .string d]
theorem infoQ : (Tryz.prog.info? 57).map (·.size) = some 4 := by kernel_rfl
theorem zero_qC : ∀ w, (zeroValue 57).run Tryz.prog w = .ok (.agg (qC ⟨#[]⟩ ⟨#[]⟩ ⟨#[]⟩ ⟨#[]⟩).toArray) w := (zero_of_info (n := 4) (by kernel_rfl)).1
theorem builtQ (a b c d : ByteArray) : Tryz.prog.built 57 [(0, .string a), (1, .string b), (2, .string c), (3, .string d)] = some (qC a b c d).toArray := by kernel_rfl
theorem builtQ0 : Tryz.prog.built 57 [] = some (qC ⟨#[]⟩ ⟨#[]⟩ ⟨#[]⟩ ⟨#[]⟩).toArray := by kernel_rfl
theorem qC_one (a b c d : ByteArray) : (qC a b c d).toArray.all (·.oneCell') = true := by simp [qC, Value.oneCell']
section
variable {ops : Array Oper} {rest : List Oper} {o : Oper} {a : Act} {w0 w : World} {Q : Exit → Act → World → Prop} {L : List Cells} {K : Act → Prop}
theorem u_box (hg : o.guard = none) (v : Operand) (ho : o.op = .box 57 v) (x y z t : ByteArray) (hv : a.eval v = .agg (qC x y z t).toArray) (H : RMem w0 w L)
    (h : ∀ g w', RMem w0 w' ((g, 57, qC x y z t) :: L) → wpList Tryz.prog ops Q rest (a.put o.dst (.pointer (some ⟨g, 0, none⟩))) w') : wpList Tryz.prog ops Q (o :: rest) a w := r_box hg _ v ho _ hv H h
theorem u_alloc (hg : o.guard = none) (ho : o.op = .alloc 57) (H : RMem w0 w L)
    (h : ∀ g w', RMem w0 w' ((g, 57, qC ⟨#[]⟩ ⟨#[]⟩ ⟨#[]⟩ ⟨#[]⟩) :: L) → wpList Tryz.prog ops Q rest (a.put o.dst (.pointer (some ⟨g, 0, none⟩))) w') : wpList Tryz.prog ops Q (o :: rest) a w := r_alloc hg _ ho _ zero_qC H h
theorem u_load (hg : o.guard = none) (v : Operand) (ho : o.op = .load 57 v) (g : Nat) (x y z t : ByteArray) (hv : a.eval v = .pointer (some ⟨g, 0, none⟩)) (H : RMem w0 w L) (hm : (g, 57, qC x y z t) ∈ L)
    (h : wpList Tryz.prog ops Q rest (a.put o.dst (.agg (qC x y z t).toArray)) w) : wpList Tryz.prog ops Q (o :: rest) a w := r_load hg _ v ho _ Tryz.underlying57 rfl g _ _ hv H hm infoQ h
theorem u_store0 (hg : o.guard = none) (v u : Operand) (ho : o.op = .store 57 v u) (g : Nat) (x' y' z' t' x y z t : ByteArray) (hv : a.eval v = .pointer (some ⟨g, 0, none⟩)) (hu : a.eval u = .agg (qC x y z t).toArray) (B : List Cells) (H : RMem w0 w ((g, 57, qC x' y' z' t') :: B))
    (h : ∀ w', RMem w0 w' ((g, 57, qC x y z t) :: B) → wpList Tryz.prog ops Q rest (a.put o.dst undef) w') : wpList Tryz.prog ops Q (o :: rest) a w := r_store hg _ v u ho g _ _ _ hv hu [] B H infoQ rfl (qC_one x y z t) h
theorem u_store_fin (hg : o.guard = none) (v u : Operand) (ho : o.op = .store 57 v u) (g : Nat) (x' y' z' t' x y z t : ByteArray) (hv : a.eval v = .pointer (some ⟨g, 0, none⟩)) (hu : a.eval u = .agg (qC x y z t).toArray) (H : RMem w0 w L) (hm : (g, 57, qC x' y' z' t') ∈ L)
    (h : ∀ w', RMem w0 w' [(g, 57, qC x y z t)] → wpList Tryz.prog ops Q rest (a.put o.dst undef) w') : wpList Tryz.prog ops Q (o :: rest) a w := r_store_fin hg _ v u ho g _ _ _ hv hu H hm infoQ rfl (qC_one x y z t) h
theorem u_build (hg : o.guard = none) (parts : Array (Nat × Operand)) (ho : o.op = .build 57 parts) (x y z t : ByteArray) (e : (parts.map fun (i, x) => (i, a.eval x)).toList = [(0, .string x), (1, .string y), (2, .string z), (3, .string t)])
    (h : wpList Tryz.prog ops Q rest (a.put o.dst (.agg (qC x y z t).toArray)) w) : wpList Tryz.prog ops Q (o :: rest) a w := r_build hg _ parts ho _ e _ (builtQ x y z t) h
theorem u_build0 (hg : o.guard = none) (parts : Array (Nat × Operand)) (ho : o.op = .build 57 parts) (e : (parts.map fun (i, x) => (i, a.eval x)).toList = [])
    (h : wpList Tryz.prog ops Q rest (a.put o.dst (.agg (qC ⟨#[]⟩ ⟨#[]⟩ ⟨#[]⟩ ⟨#[]⟩).toArray)) w) : wpList Tryz.prog ops Q (o :: rest) a w := r_build hg _ parts ho _ e _ builtQ0 h
theorem v_load (v : Operand) (ho : o.op = .load 57 v) (g : Nat) (x y z t : ByteArray) (u : World) (hw : From w.drew u) (hv : a.eval v = .pointer (some ⟨g, 0, none⟩)) (H : RMem w0 w L) (hm : (g, 57, qC x y z t) ∈ L)
    (h : K (a.put o.dst (.agg (qC x y z t).toArray))) : o.quiet Tryz.prog a (fun w' => ∃ k : Held (From u), w' = k.w) K := rq_load _ v ho _ Tryz.underlying57 rfl g _ _ u hw hv H hm infoQ h
theorem v_build (parts : Array (Nat × Operand)) (ho : o.op = .build 57 parts) (x y z t : ByteArray) (e : (parts.map fun (i, x) => (i, a.eval x)).toList = [(0, .string x), (1, .string y), (2, .string z), (3, .string t)]) {C : World → Prop}
    (h : K (a.put o.dst (.agg (qC x y z t).toArray))) : o.quiet Tryz.prog a C K := rq_build _ parts ho _ e _ (builtQ x y z t) h
theorem u_cell0 (hg : o.guard = none) (v : Operand) (ho : o.op = .load 55 v) (g : Nat) (x y z t : ByteArray) (hv : a.eval v = .pointer (some ⟨g, 0, none⟩)) (H : RMem w0 w L) (hm : (g, 57, qC x y z t) ∈ L)
    (h : wpList Tryz.prog ops Q rest (a.put o.dst (.string x)) w) : wpList Tryz.prog ops Q (o :: rest) a w := r_cell hg _ v ho _ Tryz.underlying55 rfl g 0 _ _ _ hv H hm rfl h
theorem v_cell0 (v : Operand) (ho : o.op = .load 55 v) (g : Nat) (x y z t : ByteArray) (u : World) (hw : From w.drew u) (hv : a.eval v = .pointer (some ⟨g, 0, none⟩)) (H : RMem w0 w L) (hm : (g, 57, qC x y z t) ∈ L)
    (h : K (a.put o.dst (.string x))) : o.quiet Tryz.prog a (fun w' => ∃ k : Held (From u), w' = k.w) K := rq_cell _ v ho _ Tryz.underlying55 rfl g 0 _ _ _ u hw hv H hm rfl h
theorem u_cell1 (hg : o.guard = none) (v : Operand) (ho : o.op = .load 55 v) (g : Nat) (x y z t : ByteArray) (hv : a.eval v = .pointer (some ⟨g, 1, none⟩)) (H : RMem w0 w L) (hm : (g, 57, qC x y z t) ∈ L)
    (h : wpList Tryz.prog ops Q rest (a.put o.dst (.string y)) w) : wpList Tryz.prog ops Q (o :: rest) a w := r_cell hg _ v ho _ Tryz.underlying55 rfl g 1 _ _ _ hv H hm rfl h
theorem v_cell1 (v : Operand) (ho : o.op = .load 55 v) (g : Nat) (x y z t : ByteArray) (u : World) (hw : From w.drew u) (hv : a.eval v = .pointer (some ⟨g, 1, none⟩)) (H : RMem w0 w L) (hm : (g, 57, qC x y z t) ∈ L)
    (h : K (a.put o.dst (.string y))) : o.quiet Tryz.prog a (fun w' => ∃ k : Held (From u), w' = k.w) K := rq_cell _ v ho _ Tryz.underlying55 rfl g 1 _ _ _ u hw hv H hm rfl h
theorem u_cell2 (hg : o.guard = none) (v : Operand) (ho : o.op = .load 55 v) (g : Nat) (x y z t : ByteArray) (hv : a.eval v = .pointer (some ⟨g, 2, none⟩)) (H : RMem w0 w L) (hm : (g, 57, qC x y z t) ∈ L)
    (h : wpList Tryz.prog ops Q rest (a.put o.dst (.string z)) w) : wpList Tryz.prog ops Q (o :: rest) a w := r_cell hg _ v ho _ Tryz.underlying55 rfl g 2 _ _ _ hv H hm rfl h
theorem v_cell2 (v : Operand) (ho : o.op = .load 55 v) (g : Nat) (x y z t : ByteArray) (u : World) (hw : From w.drew u) (hv : a.eval v = .pointer (some ⟨g, 2, none⟩)) (H : RMem w0 w L) (hm : (g, 57, qC x y z t) ∈ L)
    (h : K (a.put o.dst (.string z))) : o.quiet Tryz.prog a (fun w' => ∃ k : Held (From u), w' = k.w) K := rq_cell _ v ho _ Tryz.underlying55 rfl g 2 _ _ _ u hw hv H hm rfl h
theorem v_cell3 (v : Operand) (ho : o.op = .load 55 v) (g : Nat) (x y z t : ByteArray) (u : World) (hw : From w.drew u) (hv : a.eval v = .pointer (some ⟨g, 3, none⟩)) (H : RMem w0 w L) (hm : (g, 57, qC x y z t) ∈ L)
    (h : K (a.put o.dst (.string t))) : o.quiet Tryz.prog a (fun w' => ∃ k : Held (From u), w' = k.w) K := rq_cell _ v ho _ Tryz.underlying55 rfl g 3 _ _ _ u hw hv H hm rfl h
end
theorem u_ret {fn : Func} {p : Tmp} {x y z t : ByteArray} {g : Nat} {w0 w : World} {L : List Cells} (hr : fn.results = #[.cell p 57]) (a : Act) (hp : a.tmps.getD p undef = .pointer (some ⟨g, 0, none⟩)) (hf : a.defers = []) (H : RMem w0 w L) (hm : (g, 57, qC x y z t) ∈ L) : bodyPost Tryz.prog fn (RetV (.agg (qC x y z t).toArray) w0) .ret a w :=
  r_ret hr Tryz.underlying57 rfl a hp hf H hm infoQ ⟨rfl, H.below⟩
theorem el_plus (s t u : ByteArray) (c : ∀ w, Calls Tryz.prog 103 #[.string s, .string t] w (RetV (.tuple #[.string u, .int .i64 0]) w)) (w : World) : Calls Tryz.prog 82 #[.string s, .string t] w (RetV (.string u) w) := by
  have H := RMem.start w
  replace c := Kept.mk c
  go_enter Tryz.func82, Tryz.ntmps82
  go_wp2_with ((go_at_call 103; (with_reducible refine r_call (by assumption) (c.out _) ?_); intro w H))
  go_ret
  exact ⟨rfl, H.below⟩
theorem el_minus (s t u : ByteArray) (c : ∀ w, Calls Tryz.prog 100 #[.string s, .string t] w (RetV (.tuple #[.string u, .int .i64 0]) w)) (w : World) : Calls Tryz.prog 78 #[.string s, .string t] w (RetV (.string u) w) := by
  have H := RMem.start w
  replace c := Kept.mk c
  go_enter Tryz.func78, Tryz.ntmps78
  go_wp2_with ((go_at_call 100; (with_reducible refine r_call (by assumption) (c.out _) ?_); intro w H))
  go_ret
  exact ⟨rfl, H.below⟩
theorem el_times (s t u : ByteArray) (c : ∀ w, Calls Tryz.prog 102 #[.string s, .string t] w (RetV (.tuple #[.string u, .int .i64 0]) w)) (w : World) : Calls Tryz.prog 80 #[.string s, .string t] w (RetV (.string u) w) := by
  have H := RMem.start w
  replace c := Kept.mk c
  go_enter Tryz.func80, Tryz.ntmps80
  go_wp2_with ((go_at_call 102; (with_reducible refine r_call (by assumption) (c.out _) ?_); intro w H))
  go_ret
  exact ⟨rfl, H.below⟩
theorem el_inv (s u : ByteArray) (c : ∀ w, Calls Tryz.prog 101 #[.string s] w (RetV (.tuple #[.string u, .int .i64 0]) w)) (w : World) : Calls Tryz.prog 79 #[.string s] w (RetV (.string u) w) := by
  have H := RMem.start w
  replace c := Kept.mk c
  go_enter Tryz.func79, Tryz.ntmps79
  go_wp2_with ((go_at_call 101; (with_reducible refine r_call (by assumption) (c.out _) ?_); intro w H))
  go_ret
  exact ⟨rfl, H.below⟩
theorem el_root (s u : ByteArray) (b : Bool) (c : ∀ w, Calls Tryz.prog 115 #[.string s] w (RetV (.tuple #[.string u, .bool b, .int .i64 0]) w)) (w : World) : Calls Tryz.prog 99 #[.string s] w (RetV (.tuple #[.string u, .bool b]) w) := by
  have H := RMem.start w
  replace c := Kept.mk c
  go_enter Tryz.func99, Tryz.ntmps99
  go_wp2_with ((go_at_call 115; (with_reducible refine r_call (by assumption) (c.out _) ?_); intro w H))
  go_ret2
  exact ⟨rfl, H.below⟩
theorem ePlus (x y : Nat) (hx : x < pF) (hy : y < pF) (w : World) : Calls Tryz.prog 82 #[.string (S (leB x)), .string (S (leB y))] w (RetV (.string (S (leB (ad x y)))) w) := el_plus _ _ _ (fAdd x y hx hy) w
theorem eMinus (x y : Nat) (hx : x < pF) (hy : y < pF) (w : World) : Calls Tryz.prog 78 #[.string (S (leB x)), .string (S (leB y))] w (RetV (.string (S (leB (sb x y)))) w) := el_minus _ _ _ (fSub x y hx hy) w
theorem eTimes (x y : Nat) (hx : x < pF) (hy : y < pF) (w : World) : Calls Tryz.prog 80 #[.string (S (leB x)), .string (S (leB y))] w (RetV (.string (S (leB (ml x y)))) w) := el_times _ _ _ (fMul x y hx hy) w
theorem eInv (x : Nat) (hx : x < pF) (w : World) : Calls Tryz.prog 79 #[.string (S (leB x))] w (RetV (.string (S (leB (fi x)))) w) := el_inv _ _ (fInv x hx) w
theorem eRoot (q : Nat) (hq : q < pF) (hs : cand q * cand q % pF = q) (w : World) : Calls Tryz.prog 99 #[.string (S (leB q))] w (RetV (.tuple #[.string (S (leB (evenN (cand q)))), .bool true]) w) := el_root _ _ _ (fRoot q hq hs) w
theorem eRoot_no (q : Nat) (hq : q < pF) (hs : ¬ cand q * cand q % pF = q) (w : World) : Calls Tryz.prog 99 #[.string (S (leB q))] w (RetV (.tuple #[.string ⟨#[]⟩, .bool false]) w) := el_root _ _ _ (fRoot_no q hq hs) w
end Go.Proofs.YtgnblaaldpniiaaGreatDoor
end
