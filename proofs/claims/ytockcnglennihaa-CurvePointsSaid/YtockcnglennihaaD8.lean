/- The document's answer for package curve: its calls. -/
import Derived.Test.YtockcnglennihaaD7
set_option linter.unusedSimpArgs false
set_option linter.unusedVariables false
set_option maxRecDepth 100000
namespace Go.Proofs.Ytockcnglennihaa
open Go.RowKit
def px (l : List UInt8) : Nat := match dec l with | some P => P.x | none => 0
def py (l : List UInt8) : Nat := match dec l with | some P => P.y | none => 0
def pz (l : List UInt8) : Nat := match dec l with | some _ => 1 | none => 0
def isPt (l : List UInt8) : Bool := (dec l).isSome
def PPost (l : List UInt8) (w : World) (e : Ending) (w' : World) : Prop := RetV (.tuple #[.agg (ptC (px l) (py l) (pz l)).toArray, .bool (isPt l)]) w e w'
theorem ppost_none {l : List UInt8} (h : dec l = none) {w : World} (hc : Calls Try.prog 32 #[.string (S l)] w (RetV (.tuple #[.agg (ptC 0 0 0).toArray, .bool false]) w)) : Calls Try.prog 32 #[.string (S l)] w (PPost l w) := by
  unfold PPost px py pz isPt
  rw [h]
  exact hc
theorem ppost_some {l : List UInt8} {P : Pt} (h : dec l = some P) {w : World} (hc : Calls Try.prog 32 #[.string (S l)] w (RetV (.tuple #[.agg (ptC P.x P.y 1).toArray, .bool true]) w)) : Calls Try.prog 32 #[.string (S l)] w (PPost l w) := by
  unfold PPost px py pz isPt
  rw [h]
  exact hc
theorem rootB_true {q : Nat} (h : cand q * cand q % pF = q) : rootB q = true := decide_eq_true h
theorem rootB_false {q : Nat} (h : ¬ cand q * cand q % pF = q) : rootB q = false := decide_eq_false h
theorem rootX_true {q : Nat} (h : cand q * cand q % pF = q) : rootX q = evenN (cand q) := if_pos h
theorem is_El {l : List UInt8} (hl : l.length = 32) : isEl l = decide (numB l < pF) := by unfold isEl; rw [decide_eq_true hl, Bool.true_and]
theorem cut31 (l : List UInt8) (hl : l.length = 32) (b : UInt8) : (S l).extract 0 31 ++ S [b] = S (l.set 31 b) := by
  have e : (S l).extract 0 31 = S (l.take 31) := by
    apply ByteArray.ext
    apply Array.ext'
    rw [ByteArray.data_extract, Array.toList_extract]
    show (l.drop 0).take (31 - 0) = _
    rw [List.drop_zero]
    rfl
  rw [e, S_append]
  congr 1
  rw [List.set_eq_take_append_cons_drop, if_pos (by omega), List.drop_eq_nil_of_le (by omega)]
theorem dec_odd (l : List UInt8) (hl : l.length = 32) (ho : numB l / tt = 1) : dec l = if numB l % tt < pF then (if cand (sqY (numB l % tt)) * cand (sqY (numB l % tt)) % pF = sqY (numB l % tt) then (if evenN (cand (sqY (numB l % tt))) = 0 then none else some ⟨sb 0 (evenN (cand (sqY (numB l % tt)))), numB l % tt⟩) else none) else none := by
  unfold dec
  rw [if_pos hl, ho, if_neg (by decide : ¬ (1 : Nat) = 0)]
theorem dec_even (l : List UInt8) (hl : l.length = 32) (ho : numB l / tt = 0) (hmod : numB l % tt = numB l) : dec l = if numB l < pF then (if cand (sqY (numB l)) * cand (sqY (numB l)) % pF = sqY (numB l) then some ⟨evenN (cand (sqY (numB l))), numB l⟩ else none) else none := by
  unfold dec
  rw [if_pos hl, ho, hmod, if_pos (rfl : (0 : Nat) = 0)]
theorem Parse_any (l : List UInt8) (w : World) : Calls Try.prog 32 #[.string (S l)] w (PPost l w) := by
  by_cases hl : l.length = 32
  · have hsz : (S l).size = 32 := by rw [S_size, hl]
    have hs31 : 31 < (S l).size := by omega
    obtain ⟨b, hb⟩ : ∃ b, l.getD 31 0 = b := ⟨_, rfl⟩
    have g31 : (S l)[31] = b := by rw [byte_at, hb]
    have hd : b.toNat = numB l / 256 ^ 31 % 256 := by rw [← hb]; exact digit_at l 31 (by omega)
    have hnl := numB_lt l hl
    have h31 : numB l / 256 ^ 31 < 256 := Nat.div_lt_of_lt_mul (Nat.lt_of_lt_of_le hnl (by decide +kernel))
    rw [Nat.mod_eq_of_lt h31] at hd
    have hq : numB l / tt = b.toNat / 128 := by rw [tt_eq, Nat.mul_comm, ← Nat.div_div_eq_div_mul, hd]
    by_cases hge : 128 ≤ b.toNat
    · obtain ⟨b1, hb1⟩ : ∃ b1 : UInt8, b1.toNat + 128 = b.toNat := ⟨UInt8.ofNat (b.toNat - 128), by have := b.toNat_lt; simp; omega⟩
      have hbl := b.toNat_lt
      have ho : numB l / tt = 1 := by rw [hq]; omega
      have htl : (l.set 31 b1).length = 32 := by rw [List.length_set, hl]
      have hset := numB_set l 31 b1 (by omega)
      rw [hb, ← hb1, Nat.add_mul, ← tt_eq] at hset
      have hmod := Nat.div_add_mod (numB l) tt
      rw [ho, Nat.mul_one] at hmod
      have hnt : numB (l.set 31 b1) = numB l % tt := by omega
      have hb1' : (b.toNat : Int) - 128 = (b1.toNat : Int) := by omega
      have hbI : (128 : Int) ≤ (b.toNat : Int) := by omega
      have hcat := cut31 l hl b1
      have hIs := fun w => Is_any (l.set 31 b1) w
      rw [is_El htl, hnt] at hIs
      have hdec : dec l = if numB l % tt < pF then (if cand (sqY (numB l % tt)) * cand (sqY (numB l % tt)) % pF = sqY (numB l % tt) then (if evenN (cand (sqY (numB l % tt))) = 0 then none else some ⟨sb 0 (evenN (cand (sqY (numB l % tt)))), numB l % tt⟩) else none) else none := by
        exact dec_odd l hl ho
      by_cases hy : numB l % tt < pF
      · rw [decide_eq_true hy] at hIs
        rw [if_pos hy] at hdec
        have hN := fun w => numD (l.set 31 b1) (by rw [is_El htl, hnt]; exact decide_eq_true hy) w
        rw [hnt] at hN
        have hR := fun w => rootsD (sqY (numB l % tt)) (sqY_lt _) w
        by_cases hc : cand (sqY (numB l % tt)) * cand (sqY (numB l % tt)) % pF = sqY (numB l % tt)
        · rw [if_pos hc] at hdec
          rw [rootB_true hc, rootX_true hc] at hR
          by_cases hx0 : evenN (cand (sqY (numB l % tt))) = 0
          · rw [if_pos hx0] at hdec
            exact ppost_none hdec (parse_odd_zero (S l) _ _ b b1 hsz hs31 g31 hbI hb1' rfl hcat hIs _ hN hy _ (even_lt _) hR (eq_true hx0) w)
          · rw [if_neg hx0] at hdec
            exact ppost_some hdec (parse_odd_ok (S l) _ _ b b1 hsz hs31 g31 hbI hb1' rfl hcat hIs _ hN hy _ (even_lt _) hR (eq_false hx0) w)
        · rw [if_neg hc] at hdec
          rw [rootB_false hc] at hR
          exact ppost_none hdec (parse_odd_noroot (S l) _ _ b b1 hsz hs31 g31 hbI hb1' rfl hcat hIs _ hN hy _ (rootX_lt _) hR w)
      · rw [decide_eq_false hy] at hIs
        rw [if_neg hy] at hdec
        exact ppost_none hdec (parse_odd_noel (S l) _ _ b b1 hsz hs31 g31 hbI hb1' rfl hcat hIs w)
    · have ho : numB l / tt = 0 := by rw [hq]; omega
      have hmod := Nat.div_add_mod (numB l) tt
      rw [ho, Nat.mul_zero, Nat.zero_add] at hmod
      have hbI : ¬ (128 : Int) ≤ (b.toNat : Int) := by omega
      have hIs := fun w => Is_any l w
      rw [is_El hl] at hIs
      have hdec : dec l = if numB l < pF then (if cand (sqY (numB l)) * cand (sqY (numB l)) % pF = sqY (numB l) then some ⟨evenN (cand (sqY (numB l))), numB l⟩ else none) else none := by
        exact dec_even l hl ho hmod
      by_cases hy : numB l < pF
      · rw [decide_eq_true hy] at hIs
        rw [if_pos hy] at hdec
        have hN := fun w => numD l (by rw [is_El hl]; exact decide_eq_true hy) w
        have hR := fun w => rootsD (sqY (numB l)) (sqY_lt _) w
        by_cases hc : cand (sqY (numB l)) * cand (sqY (numB l)) % pF = sqY (numB l)
        · rw [if_pos hc] at hdec
          rw [rootB_true hc, rootX_true hc] at hR
          exact ppost_some hdec (parse_even_ok (S l) b hsz hs31 g31 hbI hIs _ hN hy _ (even_lt _) hR w)
        · rw [if_neg hc] at hdec
          rw [rootB_false hc] at hR
          exact ppost_none hdec (parse_even_noroot (S l) b hsz hs31 g31 hbI hIs _ hN hy _ (rootX_lt _) hR w)
      · rw [decide_eq_false hy] at hIs
        rw [if_neg hy] at hdec
        exact ppost_none hdec (parse_even_noel (S l) b hsz hs31 g31 hbI hIs w)
  · have hdec : dec l = none := by unfold dec; rw [if_neg hl]
    exact ppost_none hdec (parse_short l hl w)
end Go.Proofs.Ytockcnglennihaa
