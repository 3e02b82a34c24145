/- Points as three numbers x z, y z, z; sums, and multiples bit by bit. Numbers only, no program is spoken of.
The base of edwards25519 and the order: L is a prime, L times the base is nought; a point of order 8. Numbers only, no program is spoken of.
Every point of edwards25519, eight times and that L times, is nought: there are at most 2 p points, and 16 L is more. Numbers only, no program is spoken of.
Any three or four numbers that stand for a sum: what a formula has to give, whatever it is. Numbers only, no program is spoken of.
The usual formulas of sums and doubles over three or four numbers: their parts. Numbers only, no program is spoken of.
The document's answer for package curve: numbers and points in blocks; laws of the walk over them. -/
import Derived.Test.YtgnblaaldpniiaaGreatDoorZM1
import Derived.Test.YtgnblaaldpniiaaGreatDoorZK3
import Derived.Test.YtgnblaaldpniiaaGreatDoorZK2
import Derived.Test.YtgnblaaldpniiaaGreatDoorZA9
import Derived.Great.FillDense
section
set_option linter.unusedVariables false
set_option maxRecDepth 100000
set_option linter.unusedSimpArgs false
namespace Go.Proofs.YtgnblaaldpniiaaGreatDoor
structure Rep (X Y Z : Nat) (P : Pt) : Prop where
  nz : ¬ M Z 0
  xz : M ((P.x : Int) * Z) X
  yz : M ((P.y : Int) * Z) Y
structure T3 where
  x : Nat
  y : Nat
  z : Nat
def ad (a b : Nat) : Nat := (a + b) % pF
def sb (a b : Nat) : Nat := (a + (pF - b)) % pF
def ml (a b : Nat) : Nat := a * b % pF
theorem ad_M (a b : Nat) : M (ad a b : Int) (a + b) := (M.mod (a + b)).trans (.of_eq (Int.natCast_add a b))
theorem ml_M (a b : Nat) : M (ml a b : Int) (a * b) := (M.mod (a * b)).trans (.of_eq (Int.natCast_mul a b))
theorem p_M : M (pF : Int) 0 := by unfold M; decide +kernel
theorem sb_M (a b : Nat) (h : b ≤ pF) : M (sb a b : Int) (a - b) := by
  refine (M.mod _).trans ?_
  rw [Int.natCast_add, Int.ofNat_sub h]
  have h2 := ((M.refl ((a : Int) - b)).add p_M)
  refine M.trans (.of_eq ?_) (h2.trans (.of_eq (Int.add_zero _)))
  omega
theorem ml_lt (a b : Nat) : ml a b < pF := Nat.mod_lt _ (by decide +kernel)
theorem ad_lt (a b : Nat) : ad a b < pF := Nat.mod_lt _ (by decide +kernel)
theorem sb_lt (a b : Nat) : sb a b < pF := Nat.mod_lt _ (by decide +kernel)
def tadd (p q : T3) : T3 :=
  let z := ml p.z q.z
  let zz := ml z z
  let xx := ml p.x q.x
  let yy := ml p.y q.y
  let all := ml dF (ml xx yy)
  let less := sb zz all
  let more := ad zz all
  let cross := ad (ml p.x q.y) (ml q.x p.y)
  ⟨ml (ml z cross) less, ml (ml z (ad yy xx)) more, ml less more⟩
def eP1 : Ex := .sub (.mul (.mul (.mul (.v 2) (.v 5)) (eA (.mul (.v 0) (.v 2)) (.mul (.v 1) (.v 2)) (.mul (.v 3) (.v 5)) (.mul (.v 4) (.v 5)))) (.sub (.mul (.mul (.v 2) (.v 5)) (.mul (.v 2) (.v 5))) (.mul (.num dF) (.mul (.mul (.mul (.v 0) (.v 2)) (.mul (.v 3) (.v 5))) (.mul (.mul (.v 1) (.v 2)) (.mul (.v 4) (.v 5)))))))
  (.mul (.mul (eA (.v 0) (.v 1) (.v 3) (.v 4)) (eV (.v 0) (.v 1) (.v 3) (.v 4))) (.mul (.mul (.mul (.v 2) (.v 5)) (.mul (.v 2) (.v 5))) (.mul (.mul (.v 2) (.v 5)) (.mul (.v 2) (.v 5)))))
def eP2 : Ex := .sub (.mul (.mul (.mul (.v 2) (.v 5)) (eB (.mul (.v 0) (.v 2)) (.mul (.v 1) (.v 2)) (.mul (.v 3) (.v 5)) (.mul (.v 4) (.v 5)))) (.add (.mul (.mul (.v 2) (.v 5)) (.mul (.v 2) (.v 5))) (.mul (.num dF) (.mul (.mul (.mul (.v 0) (.v 2)) (.mul (.v 3) (.v 5))) (.mul (.mul (.v 1) (.v 2)) (.mul (.v 4) (.v 5)))))))
  (.mul (.mul (eB (.v 0) (.v 1) (.v 3) (.v 4)) (eU (.v 0) (.v 1) (.v 3) (.v 4))) (.mul (.mul (.mul (.v 2) (.v 5)) (.mul (.v 2) (.v 5))) (.mul (.mul (.v 2) (.v 5)) (.mul (.v 2) (.v 5)))))
def eP3 : Ex := .sub (.mul (.sub (.mul (.mul (.v 2) (.v 5)) (.mul (.v 2) (.v 5))) (.mul (.num dF) (.mul (.mul (.mul (.v 0) (.v 2)) (.mul (.v 3) (.v 5))) (.mul (.mul (.v 1) (.v 2)) (.mul (.v 4) (.v 5))))))
    (.add (.mul (.mul (.v 2) (.v 5)) (.mul (.v 2) (.v 5))) (.mul (.num dF) (.mul (.mul (.mul (.v 0) (.v 2)) (.mul (.v 3) (.v 5))) (.mul (.mul (.v 1) (.v 2)) (.mul (.v 4) (.v 5)))))))
  (.mul (.mul (eU (.v 0) (.v 1) (.v 3) (.v 4)) (eV (.v 0) (.v 1) (.v 3) (.v 4))) (.mul (.mul (.mul (.v 2) (.v 5)) (.mul (.v 2) (.v 5))) (.mul (.mul (.v 2) (.v 5)) (.mul (.v 2) (.v 5)))))
def RepT (t : T3) (P : Pt) : Prop := Rep t.x t.y t.z P
theorem tadd_rep {p q : T3} {P Q : Pt} (hP : OnC P) (hQ : OnC Q) (h : RepT p P) (k : RepT q Q) : RepT (tadd p q) (padd P Q) := by
  have hu := u_nz hP.rule hQ.rule
  have hv := v_nz hP.rule hQ.rule
  have hx := padd_x hP hQ
  have hy := padd_y hP hQ
  have r1 : M _ 0 := reckon 0 6 [(P.x : Int), P.y, p.z, Q.x, Q.y, q.z] eP1 rfl (by decide) trivial (by decide +kernel)
  have r2 : M _ 0 := reckon 0 6 [(P.x : Int), P.y, p.z, Q.x, Q.y, q.z] eP2 rfl (by decide) trivial (by decide +kernel)
  have r3 : M _ 0 := reckon 0 6 [(P.x : Int), P.y, p.z, Q.x, Q.y, q.z] eP3 rfl (by decide) trivial (by decide +kernel)
  have s1 := M.sub0 r1
  have s2 := M.sub0 r2
  have s3 := M.sub0 r3
  -- the three numbers
  have z1 : M (ml p.z q.z : Int) ((p.z : Int) * q.z) := ml_M _ _
  have zz : M (ml (ml p.z q.z) (ml p.z q.z) : Int) ((p.z : Int) * q.z * ((p.z : Int) * q.z)) := (ml_M _ _).trans (z1.mul z1)
  have xx : M (ml p.x q.x : Int) ((P.x : Int) * p.z * ((Q.x : Int) * q.z)) := (ml_M _ _).trans (h.xz.symm.mul k.xz.symm)
  have yy : M (ml p.y q.y : Int) ((P.y : Int) * p.z * ((Q.y : Int) * q.z)) := (ml_M _ _).trans (h.yz.symm.mul k.yz.symm)
  have al : M (ml dF (ml (ml p.x q.x) (ml p.y q.y)) : Int) ((dF : Int) * ((P.x : Int) * p.z * ((Q.x : Int) * q.z) * ((P.y : Int) * p.z * ((Q.y : Int) * q.z)))) := (ml_M _ _).trans ((M.refl _).mul ((ml_M _ _).trans (xx.mul yy)))
  have le := (sb_M (ml (ml p.z q.z) (ml p.z q.z)) _ (Nat.le_of_lt (ml_lt dF (ml (ml p.x q.x) (ml p.y q.y))))).trans (zz.sub al)
  have mo := (ad_M (ml (ml p.z q.z) (ml p.z q.z)) (ml dF (ml (ml p.x q.x) (ml p.y q.y)))).trans (zz.add al)
  have cr : M (ad (ml p.x q.y) (ml q.x p.y) : Int) (aI ((P.x : Int) * p.z) ((P.y : Int) * p.z) ((Q.x : Int) * q.z) ((Q.y : Int) * q.z)) := (ad_M _ _).trans ((((ml_M _ _).trans (h.xz.symm.mul k.yz.symm))).add ((ml_M _ _).trans (k.xz.symm.mul h.yz.symm)))
  have cb : M (ad (ml p.y q.y) (ml p.x q.x) : Int) (bI ((P.x : Int) * p.z) ((P.y : Int) * p.z) ((Q.x : Int) * q.z) ((Q.y : Int) * q.z)) := (ad_M _ _).trans (yy.add xx)
  have fx := ((ml_M (ml (ml p.z q.z) (ad (ml p.x q.y) (ml q.x p.y))) (sb (ml (ml p.z q.z) (ml p.z q.z)) (ml dF (ml (ml p.x q.x) (ml p.y q.y))))).trans ((((ml_M _ _).trans (z1.mul cr))).mul le)).trans s1
  have fy := ((ml_M (ml (ml p.z q.z) (ad (ml p.y q.y) (ml p.x q.x))) (ad (ml (ml p.z q.z) (ml p.z q.z)) (ml dF (ml (ml p.x q.x) (ml p.y q.y))))).trans ((((ml_M _ _).trans (z1.mul cb))).mul mo)).trans s2
  have fz := ((ml_M (sb (ml (ml p.z q.z) (ml p.z q.z)) (ml dF (ml (ml p.x q.x) (ml p.y q.y)))) (ad (ml (ml p.z q.z) (ml p.z q.z)) (ml dF (ml (ml p.x q.x) (ml p.y q.y))))).trans (le.mul mo)).trans s3
  have hz := M.nz h.nz k.nz
  have hz4 := M.nz (M.nz hz hz) (M.nz hz hz)
  refine ⟨fun h0 => M.nz (M.nz hu hv) hz4 (fz.symm.trans h0), ?_, ?_⟩
  · refine M.trans ((M.refl _).mul fz) (M.trans ?_ fx.symm)
    refine M.trans (.of_eq (show ((padd P Q).x : Int) * (uI P.x P.y Q.x Q.y * vI P.x P.y Q.x Q.y * ((p.z : Int) * q.z * ((p.z : Int) * q.z) * ((p.z : Int) * q.z * ((p.z : Int) * q.z)))) = ((padd P Q).x : Int) * uI P.x P.y Q.x Q.y * (vI P.x P.y Q.x Q.y) * ((p.z : Int) * q.z * ((p.z : Int) * q.z) * ((p.z : Int) * q.z * ((p.z : Int) * q.z))) by ac_rfl)) ?_
    exact (hx.mul (.refl _)).mul (.refl _)
  · refine M.trans ((M.refl _).mul fz) (M.trans ?_ fy.symm)
    refine M.trans (.of_eq (show ((padd P Q).y : Int) * (uI P.x P.y Q.x Q.y * vI P.x P.y Q.x Q.y * ((p.z : Int) * q.z * ((p.z : Int) * q.z) * ((p.z : Int) * q.z * ((p.z : Int) * q.z)))) = ((padd P Q).y : Int) * vI P.x P.y Q.x Q.y * (uI P.x P.y Q.x Q.y) * ((p.z : Int) * q.z * ((p.z : Int) * q.z) * ((p.z : Int) * q.z * ((p.z : Int) * q.z))) by ac_rfl)) ?_
    exact (hy.mul (.refl _)).mul (.refl _)
end Go.Proofs.YtgnblaaldpniiaaGreatDoor
end
section
set_option linter.unusedVariables false
set_option maxRecDepth 100000
set_option linter.unusedSimpArgs false
namespace Go.Proofs.YtgnblaaldpniiaaGreatDoor
def tone (P : Pt) : T3 := ⟨P.x, P.y, 1⟩
theorem tone_rep (P : Pt) : RepT (tone P) P := ⟨one_nz, .of_eq (Int.mul_one _), .of_eq (Int.mul_one _)⟩
def lad : Nat → Nat → T3 → T3
  | 0, _, _ => tone pzero
  | k + 1, s, t => bif s % 2 == 1 then tadd (tadd (lad k (s / 2) t) (lad k (s / 2) t)) t else tadd (lad k (s / 2) t) (lad k (s / 2) t)
theorem pmul_two {P : Pt} (hP : OnC P) (n : Nat) : padd (pmul n P) (pmul n P) = pmul (2 * n) P := by rw [Nat.two_mul, pmul_add hP]
theorem lad_rep {P : Pt} (hP : OnC P) {t : T3} (h : RepT t P) : ∀ (k s : Nat), s < 2 ^ k → RepT (lad k s t) (pmul s P)
  | 0, s, hs => by
    have : s = 0 := by simpa using hs
    subst this
    exact tone_rep pzero
  | k + 1, s, hs => by
    have ih := lad_rep hP h k (s / 2) (by rw [Nat.pow_succ] at hs; omega)
    have h2 := tadd_rep (pmul_on hP _) (pmul_on hP _) ih ih
    rw [pmul_two hP] at h2
    rw [lad]
    by_cases hb : s % 2 = 1
    · rw [show (s % 2 == 1) = true by simp [hb]]
      have h3 := tadd_rep (pmul_on hP _) hP h2 h
      have e : s = 2 * (s / 2) + 1 := by omega
      conv => rhs; rw [e, pmul]
      exact h3
    · rw [show (s % 2 == 1) = false by simp [hb]]
      have e : s = 2 * (s / 2) := by omega
      conv => rhs; rw [e]
      exact h2
def lads : List Bool → T3 → T3 → T3
  | [], a, _ => a
  | b :: r, a, t => lads r (bif b then tadd (tadd a a) t else tadd a a) t
def bitsN : Nat → Nat → List Bool → List Bool
  | 0, _, acc => acc
  | k + 1, s, acc => bitsN k (s / 2) ((s % 2 == 1) :: acc)
def numOf : List Bool → Nat → Nat
  | [], n => n
  | b :: r, n => numOf r (2 * n + (bif b then 1 else 0))
theorem numOf_bits : ∀ (k s : Nat) (acc : List Bool), s < 2 ^ k → numOf (bitsN k s acc) 0 = numOf acc s
  | 0, s, acc, h => by
    have : s = 0 := by simpa using h
    subst this; rfl
  | k + 1, s, acc, h => by
    rw [bitsN, numOf_bits k (s / 2) _ (by rw [Nat.pow_succ] at h; omega), numOf]
    by_cases hb : s % 2 = 1
    · rw [show (s % 2 == 1) = true by simp [hb]]
      rw [show 2 * (s / 2) + (bif true then 1 else 0) = s by show 2 * (s / 2) + 1 = s; omega]
    · rw [show (s % 2 == 1) = false by simp [hb]]
      rw [show 2 * (s / 2) + (bif false then 1 else 0) = s by show 2 * (s / 2) + 0 = s; omega]
theorem lads_rep {P : Pt} (hP : OnC P) {t : T3} (h : RepT t P) : ∀ (l : List Bool) (a : T3) (n : Nat), RepT a (pmul n P) → RepT (lads l a t) (pmul (numOf l n) P)
  | [], a, n, ha => ha
  | b :: r, a, n, ha => by
    rw [lads, numOf]
    have h2 := tadd_rep (pmul_on hP _) (pmul_on hP _) ha ha
    rw [pmul_two hP] at h2
    cases b with
    | true => exact lads_rep hP h r _ _ (tadd_rep (pmul_on hP _) hP h2 h)
    | false => exact lads_rep hP h r _ _ h2
theorem lads_of {P : Pt} (hP : OnC P) (k s : Nat) (hs : s < 2 ^ k) : RepT (lads (bitsN k s []) (tone pzero) (tone P)) (pmul s P) := by
  have h := lads_rep hP (tone_rep P) (bitsN k s []) (tone pzero) 0 (tone_rep pzero)
  rw [numOf_bits k s [] hs] at h
  exact h
def isP (t : T3) (P : Pt) : Bool := Nat.beq (P.x * t.z % pF) t.x && Nat.beq (P.y * t.z % pF) t.y && Nat.blt t.x pF && Nat.blt t.y pF
theorem isP_eq {t : T3} {P Q : Pt} (hP : OnC P) (hQ : OnC Q) (h : RepT t P) (hb : isP t Q = true) : P = Q := by
  unfold isP at hb
  simp only [Bool.and_eq_true] at hb
  have e1 := Nat.eq_of_beq_eq_true hb.1.1.1
  have e2 := Nat.eq_of_beq_eq_true hb.1.1.2
  have m1 : M ((Q.x : Int) * t.z) t.x := by rw [← Int.natCast_mul, ← e1]; exact (M.mod _).symm
  have m2 : M ((Q.y : Int) * t.z) t.y := by rw [← Int.natCast_mul, ← e2]; exact (M.mod _).symm
  exact Pt.eq hP hQ ((h.xz.trans m1.symm).cancel h.nz) ((h.yz.trans m2.symm).cancel h.nz)
theorem mul_by {P Q : Pt} (hP : OnC P) (hQ : OnC Q) (k s : Nat) (hs : s < 2 ^ k) (hb : isP (lads (bitsN k s []) (tone pzero) (tone P)) Q = true) : pmul s P = Q :=
  isP_eq (pmul_on hP s) hQ (lads_of hP k s hs) hb
def pbase : Pt := ⟨15112221349535400772501151409588531511454012693041857206046113283949847762202, 46316835694926478169428394003475163141307993866256225615783033603165251855960⟩
def oL : Nat := 7237005577332262213973186563042994240857116359379907606001950938285454250989
theorem pbase_on : OnC pbase := ⟨by decide +kernel, by decide +kernel, by unfold Rule M; decide +kernel⟩
theorem base_order : pmul oL pbase = pzero := mul_by pbase_on pzero_on 253 oL (by decide +kernel) (by decide +kernel)
theorem base_ne : pbase ≠ pzero := by
  intro h
  have : pbase.y = pzero.y := by rw [h]
  revert this
  decide +kernel
theorem pr_1224481 : Pr 1224481 := prime_small 1110 (by decide) (by decide) (by decide +kernel)
theorem pr_531581 : Pr 531581 := prime_small 730 (by decide) (by decide) (by decide +kernel)
theorem pr_l1 : Pr 1257559732178653 := pock2 (m := 1257559732178652 / 1224481) (m' := 1257559732178652 / 531581) (a := 2) pr_1224481 pr_531581 (by decide) (by decide +kernel) (by decide +kernel) (by decide +kernel) (by decide +kernel) (by decide +kernel) (by decide +kernel) (by decide +kernel) (by decide +kernel) (by decide +kernel)
theorem pr_l2 : Pr 4434155615661930479 := pock1 (m := 3526) (a := 2) pr_l1 (by decide +kernel) (by decide +kernel) (by decide +kernel) (by decide +kernel) (by decide +kernel) (by decide +kernel)
theorem pr_l3 : Pr 172054593956031949258510691 := pock1 (m := 38802110) (a := 2) pr_l2 (by decide +kernel) (by decide +kernel) (by decide +kernel) (by decide +kernel) (by decide +kernel) (by decide +kernel)
theorem pr_l4 : Pr 19757330305831588566944191468367130476339 := pock1 (m := 114831751082918) (a := 2) pr_l3 (by decide +kernel) (by decide +kernel) (by decide +kernel) (by decide +kernel) (by decide +kernel) (by decide +kernel)
theorem pr_l5 : Pr 276602624281642239937218680557139826668747 := pock1 (m := 14) (a := 2) pr_l4 (by decide +kernel) (by decide +kernel) (by decide +kernel) (by decide +kernel) (by decide +kernel) (by decide +kernel)
theorem pr_o : Pr oL := pock1 (m := 26163907866482859529727157400808004) (a := 2) pr_l5 (by decide +kernel) (by decide +kernel) (by decide +kernel) (by decide +kernel) (by decide +kernel) (by decide +kernel)
end Go.Proofs.YtgnblaaldpniiaaGreatDoor
end
section
set_option linter.unusedVariables false
set_option maxRecDepth 100000
set_option linter.unusedSimpArgs false
namespace Go.Proofs.YtgnblaaldpniiaaGreatDoor
theorem one_d_nz (y : Int) : ¬ M (1 + (dF : Int) * (y * y)) 0 := by
  intro h
  have h1 : M ((iM : Int) * iM) ((dF : Int) * (y * y)) := by
    refine i_sqM.trans ?_
    have h2 := h.sub (M.refl 1)
    refine (M.of_eq ?_).trans (h2.symm.trans (.of_eq ?_)) <;> omega
  have h3 := d_nonsq h1
  refine one_nz (M.trans ?_ h)
  have h4 : M ((dF : Int) * (y * y)) 0 := M.mul_zero _ (h3.zero_mul _)
  exact ((M.refl 1).add h4).symm
theorem x_sq {P : Pt} (hP : OnC P) : M ((P.x : Int) * P.x * (1 + (dF : Int) * ((P.y : Int) * P.y))) ((P.y : Int) * P.y - 1) := by
  have h := hP.rule.eqn
  unfold Eqn at h
  have h2 := h.add (M.refl ((P.x : Int) * P.x))
  refine (M.of_eq ?_).trans (h2.symm.trans (.of_eq ?_))
  · rw [Int.mul_add, Int.mul_one, Int.add_comm]
    congr 1
    ac_rfl
  · omega
theorem p_odd : pF % 2 = 1 := by decide +kernel
theorem base_free {i : Nat} (h : pmul i pbase = pzero) : oL ∣ i := by
  apply Classical.byContradiction
  intro hn
  have hg := pmul_gcd pbase_on oL i base_order h
  rw [pr_o.cop hn, pmul_one pbase_on] at hg
  exact base_ne hg
end Go.Proofs.YtgnblaaldpniiaaGreatDoor
end
section
set_option linter.unusedVariables false
set_option maxRecDepth 100000
set_option linter.unusedSimpArgs false
namespace Go.Proofs.YtgnblaaldpniiaaGreatDoor
structure Rep4 (X Y Z T : Int) (P : Pt) : Prop where
  nz : ¬ M Z 0
  xz : M ((P.x : Int) * Z) X
  yz : M ((P.y : Int) * Z) Y
  tz : M ((P.x : Int) * P.y * Z) T
section
variable {P Q : Pt} {X Y Z T s u v a b : Int}
theorem cross_x (x y : Int) (hx : M (x * u) a) (hX : M X (a * v * s)) (hZ : M Z (u * v * s)) : M (x * Z) X := by
  refine ((M.refl x).mul hZ).trans (M.trans (.of_eq (show x * (u * v * s) = x * u * v * s by ac_rfl)) (M.trans ?_ hX.symm))
  exact (hx.mul (.refl v)).mul (.refl s)
theorem cross_y (x y : Int) (hy : M (y * v) b) (hY : M Y (b * u * s)) (hZ : M Z (u * v * s)) : M (y * Z) Y := by
  refine ((M.refl y).mul hZ).trans (M.trans (.of_eq (show y * (u * v * s) = y * v * u * s by ac_rfl)) (M.trans ?_ hY.symm))
  exact (hy.mul (.refl u)).mul (.refl s)
theorem cross_t (x y : Int) (hx : M (x * u) a) (hy : M (y * v) b) (hT : M T (a * b * s)) (hZ : M Z (u * v * s)) : M (x * y * Z) T := by
  refine ((M.refl (x * y)).mul hZ).trans (M.trans (.of_eq (show x * y * (u * v * s) = x * u * (y * v) * s by ac_rfl)) (M.trans ?_ hT.symm))
  exact (hx.mul hy).mul (.refl s)
end
theorem sum_of4 {P Q : Pt} (hP : OnC P) (hQ : OnC Q) {X Y Z T s : Int} (hs : ¬ M s 0) (hX : M X (aI P.x P.y Q.x Q.y * vI P.x P.y Q.x Q.y * s)) (hY : M Y (bI P.x P.y Q.x Q.y * uI P.x P.y Q.x Q.y * s)) (hZ : M Z (uI P.x P.y Q.x Q.y * vI P.x P.y Q.x Q.y * s)) (hT : M T (aI P.x P.y Q.x Q.y * bI P.x P.y Q.x Q.y * s)) : Rep4 X Y Z T (padd P Q) :=
  ⟨fun h0 => M.nz (M.nz (u_nz hP.rule hQ.rule) (v_nz hP.rule hQ.rule)) hs (hZ.symm.trans h0), cross_x _ 0 (padd_x hP hQ) hX hZ, cross_y 0 _ (padd_y hP hQ) hY hZ, cross_t _ _ (padd_x hP hQ) (padd_y hP hQ) hT hZ⟩
theorem ext_of {P Q : Pt} (hP : OnC P) (hQ : OnC Q) {e f g h z : Int} (hz : ¬ M z 0) (he : M e (aI P.x P.y Q.x Q.y * z)) (hf : M f (vI P.x P.y Q.x Q.y * z)) (hg : M g (uI P.x P.y Q.x Q.y * z)) (hh : M h (bI P.x P.y Q.x Q.y * z)) : Rep4 (e * f) (g * h) (f * g) (e * h) (padd P Q) := by
  refine sum_of4 hP hQ (s := z * z) (M.nz hz hz) ((he.mul hf).trans (.of_eq (by ac_rfl))) ((hg.mul hh).trans (.of_eq (by ac_rfl))) ((hf.mul hg).trans (.of_eq (by ac_rfl))) ((he.mul hh).trans (.of_eq (by ac_rfl)))
end Go.Proofs.YtgnblaaldpniiaaGreatDoor
end
section
set_option linter.unusedVariables false
set_option maxRecDepth 100000
set_option linter.unusedSimpArgs false
namespace Go.Proofs.YtgnblaaldpniiaaGreatDoor
def xAC : Ex := .sub (.mul (.num dF) (.mul (.mul (.mul (.v 0) (.v 1)) (.v 2)) (.mul (.mul (.v 3) (.v 4)) (.v 5)))) (.mul (eT (.v 0) (.v 1) (.v 3) (.v 4)) (.mul (.v 2) (.v 5)))
section
variable {P Q : Pt} {X1 Y1 Z1 X2 Y2 Z2 T1 T2 : Int}
theorem add_c (ht1 : M ((P.x : Int) * P.y * Z1) T1) (ht2 : M ((Q.x : Int) * Q.y * Z2) T2) : M ((dF : Int) * (T1 * T2)) (tI P.x P.y Q.x Q.y * (Z1 * Z2)) := by
  have r : M _ 0 := reckon 0 6 [(P.x : Int), P.y, Z1, Q.x, Q.y, Z2] xAC rfl (by decide) trivial (by decide +kernel)
  exact ((M.refl _).mul (ht1.symm.mul ht2.symm)).trans (M.sub0 r)
end
section
variable {P : Pt} {X Y Z : Int}
end
end Go.Proofs.YtgnblaaldpniiaaGreatDoor
end
section
set_option linter.unusedSimpArgs false
set_option linter.unusedVariables false
set_option maxRecDepth 100000
namespace Go.Proofs.YtgnblaaldpniiaaGreatDoor
open Go.RowKit
def nC (x : Nat) : List Value := numC .i64 (Md x)
def ptC (x y z : Nat) : List Value := nC x ++ (nC y ++ nC z)
def NV (x : Nat) : Value := .agg (nC x).toArray
def PV (x y z : Nat) : Value := .agg (ptC x y z).toArray
theorem nC_len (x : Nat) : (nC x).length = 16 := by rw [nC, numC_length, Md_len]
theorem ptC_len (x y z : Nat) : (ptC x y z).length = 48 := by rw [ptC, List.length_append, List.length_append, nC_len, nC_len, nC_len]
theorem nC_one (x : Nat) : (nC x).toArray.all (·.oneCell') = true := numC_one _ _
theorem ptC_one (x y z : Nat) : (ptC x y z).toArray.all (·.oneCell') = true := by
  have e : ptC x y z = numC .i64 (Md x ++ (Md y ++ Md z)) := by simp [ptC, nC, numC]
  rw [e]; exact numC_one _ _
theorem infoPt : (Tryz.prog.info? 42).map (·.size) = some 48 := by kernel_rfl
theorem infoN' : (Tryz.prog.info? 40).map (·.size) = some 16 := by kernel_rfl
theorem zero_nC : ∀ w, (zeroValue 40).run Tryz.prog w = .ok (.agg (nC 0).toArray) w := zero_arr
theorem zero_ptC : ∀ w, (zeroValue 42).run Tryz.prog w = .ok (.agg (ptC 0 0 0).toArray) w := (zero_of_info (n := 48) (by kernel_rfl)).1
theorem pt_part0 (x y z : Nat) : ((ptC x y z).drop 0).take 16 = nC x := by
  rw [List.drop_zero, ptC, List.take_append_of_le_length (by rw [nC_len]; omega), List.take_of_length_le (by rw [nC_len]; omega)]
theorem pt_part1 (x y z : Nat) : ((ptC x y z).drop 16).take 16 = nC y := by
  rw [ptC, List.drop_append_of_le_length (by rw [nC_len]; omega), List.drop_eq_nil_of_le (by rw [nC_len]; omega), List.nil_append, List.take_append_of_le_length (by rw [nC_len]; omega), List.take_of_length_le (by rw [nC_len]; omega)]
theorem pt_part2 (x y z : Nat) : ((ptC x y z).drop 32).take 16 = nC z := by
  rw [ptC, ← List.append_assoc, List.drop_append, List.drop_eq_nil_of_le (by rw [List.length_append, nC_len, nC_len]; omega), List.nil_append, List.length_append, nC_len, nC_len]
  rw [show 32 - (16 + 16) = 0 from rfl, List.drop_zero, List.take_of_length_le (by rw [nC_len]; omega)]
theorem fill_place (p p' : Nat → Option (Nat × Nat)) (h : ∀ i, i < 3 → p i = p' i) : ∀ (l : List (Nat × Value)) (cells : Array Value), (∀ x ∈ l, x.1 < 3) → Instr.fill p cells l = Instr.fill p' cells l
  | [], _, _ => rfl
  | (i, v) :: r, cells, hl => by
    unfold Instr.fill
    rw [h i (hl (i, v) (List.mem_cons_self ..))]
    cases p' i with
    | none => rfl
    | some os => simp only [fill_place p p' h r _ (fun x hx => hl x (List.mem_cons_of_mem _ hx))]
theorem zero48 : numC .i64 (List.replicate 48 0) = ptC 0 0 0 := rfl
theorem built_pt : (fun ps => Tryz.prog.built 42 ps) = fun ps => Instr.fill (fun i => (#[(0, 16), (16, 16), (32, 16)] : Array (Nat × Nat))[i]?) (numC .i64 (List.replicate 48 0)).toArray ps := by kernel_rfl
theorem places3 (i : Nat) (h : i < 3) : (#[(0, 16), (16, 16), (32, 16)] : Array (Nat × Nat))[i]? = some (i * 16, 16) := by
  obtain rfl | rfl | rfl : i = 0 ∨ i = 1 ∨ i = 2 := by omega
  · rfl
  · rfl
  · rfl
theorem built_letters (X Y Z C : List Value) (hX : X.length = 16) (hY : Y.length = 16) (hZ : Z.length = 16) (hC : C.length = 48) :
    Instr.fill (fun i => (#[(0, 16), (16, 16), (32, 16)] : Array (Nat × Nat))[i]?) C.toArray [(0, .agg X.toArray), (1, .agg Y.toArray), (2, .agg Z.toArray)] = some (X ++ (Y ++ Z)).toArray := by
  rw [fill_place _ (fun i => some (i * 16, 16)) places3 _ _ (fun x hx => by
    simp only [List.mem_cons, List.not_mem_nil, or_false] at hx
    rcases hx with rfl | rfl | rfl <;> simp)]
  have h := Great.fill_whole (s := 16) (by omega) [.agg X.toArray, .agg Y.toArray, .agg Z.toArray] C.toArray (fun v hv => by
    simp only [List.mem_cons, List.not_mem_nil, or_false] at hv
    rcases hv with rfl | rfl | rfl <;> simp [Value.cells, hX, hY, hZ]) (by simp [hC])
  refine Eq.trans h ?_
  congr 1
  simp [Value.cells]
theorem built_letter (X Y Z : List Value) (hX : X.length = 16) (hY : Y.length = 32) (hZ : Z.length = 16) :
    Instr.fill (fun i => (#[(0, 16), (16, 16), (32, 16)] : Array (Nat × Nat))[i]?) (Z ++ Y).toArray [(0, .agg X.toArray)] = some (X ++ Y).toArray := by
  rw [fill_place _ (fun i => some (i * 16, 16)) places3 _ _ (fun x hx => by
    simp only [List.mem_cons, List.not_mem_nil, or_false] at hx
    subst hx; simp)]
  obtain ⟨r, hr, hsz, hk⟩ := Great.fill_dense (s := 16) (by omega) [.agg X.toArray] 0 (Z ++ Y).toArray (fun v hv => by
    simp only [List.mem_cons, List.not_mem_nil, or_false] at hv
    subst hv
    simp [Value.cells, hX]) (by simp [hY, hZ])
  refine Eq.trans hr ?_
  congr 1
  apply Array.ext_getElem?
  intro k
  rw [hk k, List.getElem?_toArray, List.getElem?_toArray]
  by_cases h : k < 16
  · rw [if_pos ⟨by omega, by show k < (0 + 1) * 16; omega⟩, show k / 16 - 0 = 0 by omega, show k % 16 = k by omega]
    show X.toArray[k]? = _
    rw [List.getElem?_toArray, List.getElem?_append_left (by omega)]
  · rw [if_neg (by show ¬ (0 * 16 ≤ k ∧ k < (0 + 1) * 16); omega)]
    have e1 : (Z ++ Y)[k]? = Y[k - 16]? := by rw [List.getElem?_append_right (by omega), hZ]
    have e2 : (X ++ Y)[k]? = Y[k - 16]? := by rw [List.getElem?_append_right (by omega), hX]
    rw [e1, e2]
theorem built3 (x y z : Nat) : Tryz.prog.built 42 [(0, .agg (nC x).toArray), (1, .agg (nC y).toArray), (2, .agg (nC z).toArray)] = some (ptC x y z).toArray :=
  (congrFun built_pt _).trans (built_letters (nC x) (nC y) (nC z) _ (nC_len x) (nC_len y) (nC_len z) (by rw [numC_length, List.length_replicate]))
theorem built1 (x : Nat) : Tryz.prog.built 42 [(0, .agg (nC x).toArray)] = some (ptC x 0 0).toArray := by
  refine (congrFun built_pt _).trans ?_
  rw [zero48]
  exact built_letter (nC x) (nC 0 ++ nC 0) (nC 0) (nC_len x) (by rw [List.length_append, nC_len]) (nC_len 0)
section
variable {ops : Array Oper} {rest : List Oper} {o : Oper} {a : Act} {w0 w : World} {Q : Exit → Act → World → Prop} {L : List Cells}
theorem p_boxP (hg : o.guard = none) (v : Operand) (ho : o.op = .box 42 v) (x y z : Nat) (hv : a.eval v = .agg (ptC x y z).toArray) (H : RMem w0 w L)
    (h : ∀ g w', RMem w0 w' ((g, 42, ptC x y z) :: L) → wpList Tryz.prog ops Q rest (a.put o.dst (.pointer (some ⟨g, 0, none⟩))) w') : wpList Tryz.prog ops Q (o :: rest) a w := r_box hg _ v ho _ hv H h
theorem p_boxN (hg : o.guard = none) (v : Operand) (ho : o.op = .box 40 v) (x : Nat) (hv : a.eval v = .agg (nC x).toArray) (H : RMem w0 w L)
    (h : ∀ g w', RMem w0 w' ((g, 40, nC x) :: L) → wpList Tryz.prog ops Q rest (a.put o.dst (.pointer (some ⟨g, 0, none⟩))) w') : wpList Tryz.prog ops Q (o :: rest) a w := r_box hg _ v ho _ hv H h
theorem p_allocN (hg : o.guard = none) (ho : o.op = .alloc 40) (H : RMem w0 w L)
    (h : ∀ g w', RMem w0 w' ((g, 40, nC 0) :: L) → wpList Tryz.prog ops Q rest (a.put o.dst (.pointer (some ⟨g, 0, none⟩))) w') : wpList Tryz.prog ops Q (o :: rest) a w := r_alloc hg _ ho _ zero_nC H h
theorem p_allocP (hg : o.guard = none) (ho : o.op = .alloc 42) (H : RMem w0 w L)
    (h : ∀ g w', RMem w0 w' ((g, 42, ptC 0 0 0) :: L) → wpList Tryz.prog ops Q rest (a.put o.dst (.pointer (some ⟨g, 0, none⟩))) w') : wpList Tryz.prog ops Q (o :: rest) a w := r_alloc hg _ ho _ zero_ptC H h
theorem p_loadN (hg : o.guard = none) (v : Operand) (ho : o.op = .load 40 v) (g x : Nat) (hv : a.eval v = .pointer (some ⟨g, 0, none⟩)) (H : RMem w0 w L) (hm : (g, 40, nC x) ∈ L)
    (h : wpList Tryz.prog ops Q rest (a.put o.dst (.agg (nC x).toArray)) w) : wpList Tryz.prog ops Q (o :: rest) a w := r_load hg _ v ho _ Tryz.underlying40 rfl g _ _ hv H hm (by rw [nC_len]; exact infoN') h
theorem p_loadP (hg : o.guard = none) (v : Operand) (ho : o.op = .load 42 v) (g x y z : Nat) (hv : a.eval v = .pointer (some ⟨g, 0, none⟩)) (H : RMem w0 w L) (hm : (g, 42, ptC x y z) ∈ L)
    (h : wpList Tryz.prog ops Q rest (a.put o.dst (.agg (ptC x y z).toArray)) w) : wpList Tryz.prog ops Q (o :: rest) a w := r_load hg _ v ho _ Tryz.underlying42 rfl g _ _ hv H hm (by rw [ptC_len]; exact infoPt) h
theorem p_part0 (hg : o.guard = none) (v : Operand) (ho : o.op = .load 40 v) (g x y z : Nat) (hv : a.eval v = .pointer (some ⟨g, 0, none⟩)) (H : RMem w0 w L) (hm : (g, 42, ptC x y z) ∈ L)
    (h : wpList Tryz.prog ops Q rest (a.put o.dst (.agg (nC x).toArray)) w) : wpList Tryz.prog ops Q (o :: rest) a w := r_part hg _ v ho _ Tryz.underlying40 rfl g 0 16 _ _ _ hv H hm infoN' (pt_part0 x y z) (nC_len _) h
theorem p_part1 (hg : o.guard = none) (v : Operand) (ho : o.op = .load 40 v) (g x y z : Nat) (hv : a.eval v = .pointer (some ⟨g, 16, none⟩)) (H : RMem w0 w L) (hm : (g, 42, ptC x y z) ∈ L)
    (h : wpList Tryz.prog ops Q rest (a.put o.dst (.agg (nC y).toArray)) w) : wpList Tryz.prog ops Q (o :: rest) a w := r_part hg _ v ho _ Tryz.underlying40 rfl g 16 16 _ _ _ hv H hm infoN' (pt_part1 x y z) (nC_len _) h
theorem p_part2 (hg : o.guard = none) (v : Operand) (ho : o.op = .load 40 v) (g x y z : Nat) (hv : a.eval v = .pointer (some ⟨g, 32, none⟩)) (H : RMem w0 w L) (hm : (g, 42, ptC x y z) ∈ L)
    (h : wpList Tryz.prog ops Q rest (a.put o.dst (.agg (nC z).toArray)) w) : wpList Tryz.prog ops Q (o :: rest) a w := r_part hg _ v ho _ Tryz.underlying40 rfl g 32 16 _ _ _ hv H hm infoN' (pt_part2 x y z) (nC_len _) h
theorem p_storeN (hg : o.guard = none) (v u : Operand) (ho : o.op = .store 40 v u) (g old x : Nat) (hv : a.eval v = .pointer (some ⟨g, 0, none⟩)) (hu : a.eval u = .agg (nC x).toArray) (A B : List Cells) (H : RMem w0 w (A ++ (g, 40, nC old) :: B))
    (h : ∀ w', RMem w0 w' (A ++ (g, 40, nC x) :: B) → wpList Tryz.prog ops Q rest (a.put o.dst undef) w') : wpList Tryz.prog ops Q (o :: rest) a w := r_store hg _ v u ho g _ _ _ hv hu A B H (by rw [nC_len]; exact infoN') (by rw [nC_len, nC_len]) (nC_one x) h
theorem p_storeN0 (hg : o.guard = none) (v u : Operand) (ho : o.op = .store 40 v u) (g old x : Nat) (hv : a.eval v = .pointer (some ⟨g, 0, none⟩)) (hu : a.eval u = .agg (nC x).toArray) (B : List Cells) (H : RMem w0 w ((g, 40, nC old) :: B))
    (h : ∀ w', RMem w0 w' ((g, 40, nC x) :: B) → wpList Tryz.prog ops Q rest (a.put o.dst undef) w') : wpList Tryz.prog ops Q (o :: rest) a w := p_storeN hg v u ho g old x hv hu [] B H h
theorem p_storeN1 (hg : o.guard = none) (v u : Operand) (ho : o.op = .store 40 v u) (g old x : Nat) (hv : a.eval v = .pointer (some ⟨g, 0, none⟩)) (hu : a.eval u = .agg (nC x).toArray) (p : Cells) (B : List Cells) (H : RMem w0 w (p :: (g, 40, nC old) :: B))
    (h : ∀ w', RMem w0 w' (p :: (g, 40, nC x) :: B) → wpList Tryz.prog ops Q rest (a.put o.dst undef) w') : wpList Tryz.prog ops Q (o :: rest) a w := p_storeN hg v u ho g old x hv hu [p] B H h
theorem p_storeP0 (hg : o.guard = none) (v u : Operand) (ho : o.op = .store 42 v u) (g x' y' z' x y z : Nat) (hv : a.eval v = .pointer (some ⟨g, 0, none⟩)) (hu : a.eval u = .agg (ptC x y z).toArray) (B : List Cells) (H : RMem w0 w ((g, 42, ptC x' y' z') :: B))
    (h : ∀ w', RMem w0 w' ((g, 42, ptC x y z) :: B) → wpList Tryz.prog ops Q rest (a.put o.dst undef) w') : wpList Tryz.prog ops Q (o :: rest) a w := r_store hg _ v u ho g _ _ _ hv hu [] B H (by rw [ptC_len]; exact infoPt) (by rw [ptC_len, ptC_len]) (ptC_one x y z) h
theorem p_storeP_fin (hg : o.guard = none) (v u : Operand) (ho : o.op = .store 42 v u) (g x' y' z' x y z : Nat) (hv : a.eval v = .pointer (some ⟨g, 0, none⟩)) (hu : a.eval u = .agg (ptC x y z).toArray) (H : RMem w0 w L) (hm : (g, 42, ptC x' y' z') ∈ L)
    (h : ∀ w', RMem w0 w' [(g, 42, ptC x y z)] → wpList Tryz.prog ops Q rest (a.put o.dst undef) w') : wpList Tryz.prog ops Q (o :: rest) a w := r_store_fin hg _ v u ho g _ _ _ hv hu H hm (by rw [ptC_len]; exact infoPt) (by rw [ptC_len, ptC_len]) (ptC_one x y z) h
theorem p_build1 (hg : o.guard = none) (parts : Array (Nat × Operand)) (ho : o.op = .build 42 parts) (x : Nat) (e : (parts.map fun (i, x) => (i, a.eval x)).toList = [(0, .agg (nC x).toArray)])
    (h : wpList Tryz.prog ops Q rest (a.put o.dst (.agg (ptC x 0 0).toArray)) w) : wpList Tryz.prog ops Q (o :: rest) a w := r_build hg _ parts ho _ e _ (built1 x) h
theorem RMem.extra2 {w' : World} {g g' : Nat} {t : TypeId} {Z : List Value} (hne : g ≠ g') (H : RMem w0 w L) (h : From w.drew w') (hF : Fresh w t Z.toArray g w') (hF' : Fresh w t Z.toArray g' w') : RMem w0 w' ((g, t, Z) :: (g', t, Z) :: L) := by
  have H2 := H.extra h hF'
  refine ⟨H2.below, fun k t' y hk => ?_, fun k t' y hk => ?_, ?_⟩
  · rcases List.mem_cons.1 hk with hk | hk
    · injection hk with h1 h2; injection h2 with h2 h3; subst h1; subst h2; subst h3; exact hF.1
    · exact H2.holds k t' y hk
  · rcases List.mem_cons.1 hk with hk | hk
    · injection hk with h1 h2; subst h1; exact Nat.le_trans H.below.size hF.2
    · exact H2.ours k t' y hk
  · rw [List.map_cons, List.nodup_cons]
    refine ⟨fun hk => ?_, H2.apart⟩
    rcases List.mem_cons.1 hk with hk | hk
    · exact hne hk
    · obtain ⟨⟨k, t', y⟩, hm, he⟩ := List.mem_map.1 hk
      have h1 := H.lt hm
      have h2 := hF.2
      simp only at he
      omega
end
section
variable {o : Oper} {a : Act} {w0 w : World} {L : List Cells} {K : Act → Prop}
theorem q_loadN (v : Operand) (ho : o.op = .load 40 v) (g x : Nat) (u : World) (hw : From w.drew u) (hv : a.eval v = .pointer (some ⟨g, 0, none⟩)) (H : RMem w0 w L) (hm : (g, 40, nC x) ∈ L)
    (h : K (a.put o.dst (.agg (nC x).toArray))) : o.quiet Tryz.prog a (fun w' => ∃ k : Held (From u), w' = k.w) K := rq_load _ v ho _ Tryz.underlying40 rfl g _ _ u hw hv H hm (by rw [nC_len]; exact infoN') h
theorem q_loadP (v : Operand) (ho : o.op = .load 42 v) (g x y z : Nat) (u : World) (hw : From w.drew u) (hv : a.eval v = .pointer (some ⟨g, 0, none⟩)) (H : RMem w0 w L) (hm : (g, 42, ptC x y z) ∈ L)
    (h : K (a.put o.dst (.agg (ptC x y z).toArray))) : o.quiet Tryz.prog a (fun w' => ∃ k : Held (From u), w' = k.w) K := rq_load _ v ho _ Tryz.underlying42 rfl g _ _ u hw hv H hm (by rw [ptC_len]; exact infoPt) h
theorem q_part0 (v : Operand) (ho : o.op = .load 40 v) (g x y z : Nat) (u : World) (hw : From w.drew u) (hv : a.eval v = .pointer (some ⟨g, 0, none⟩)) (H : RMem w0 w L) (hm : (g, 42, ptC x y z) ∈ L)
    (h : K (a.put o.dst (.agg (nC x).toArray))) : o.quiet Tryz.prog a (fun w' => ∃ k : Held (From u), w' = k.w) K := rq_part _ v ho _ Tryz.underlying40 rfl g 0 16 _ _ _ u hw hv H hm infoN' (pt_part0 x y z) (nC_len _) h
theorem q_part1 (v : Operand) (ho : o.op = .load 40 v) (g x y z : Nat) (u : World) (hw : From w.drew u) (hv : a.eval v = .pointer (some ⟨g, 16, none⟩)) (H : RMem w0 w L) (hm : (g, 42, ptC x y z) ∈ L)
    (h : K (a.put o.dst (.agg (nC y).toArray))) : o.quiet Tryz.prog a (fun w' => ∃ k : Held (From u), w' = k.w) K := rq_part _ v ho _ Tryz.underlying40 rfl g 16 16 _ _ _ u hw hv H hm infoN' (pt_part1 x y z) (nC_len _) h
theorem q_build3 (parts : Array (Nat × Operand)) (ho : o.op = .build 42 parts) (x y z : Nat) (e : (parts.map fun (i, x) => (i, a.eval x)).toList = [(0, .agg (nC x).toArray), (1, .agg (nC y).toArray), (2, .agg (nC z).toArray)]) {C : World → Prop}
    (h : K (a.put o.dst (.agg (ptC x y z).toArray))) : o.quiet Tryz.prog a C K := rq_build _ parts ho _ e _ (built3 x y z) h
theorem q_build1 (parts : Array (Nat × Operand)) (ho : o.op = .build 42 parts) (x : Nat) (e : (parts.map fun (i, x) => (i, a.eval x)).toList = [(0, .agg (nC x).toArray)]) {C : World → Prop}
    (h : K (a.put o.dst (.agg (ptC x 0 0).toArray))) : o.quiet Tryz.prog a C K := rq_build _ parts ho _ e _ (built1 x) h
end
def RetV (v : Value) (w : World) (e : Ending) (w' : World) : Prop := e = .returned v ∧ Below w.heap.size w w'
theorem p_retN {fn : Func} {p : Tmp} {x : Nat} {g : Nat} {w0 w : World} {L : List Cells} (hr : fn.results = #[.cell p 40]) (a : Act) (hp : a.tmps.getD p undef = .pointer (some ⟨g, 0, none⟩)) (hf : a.defers = []) (H : RMem w0 w L) (hm : (g, 40, nC x) ∈ L) : bodyPost Tryz.prog fn (RetV (NV x) w0) .ret a w :=
  r_ret hr Tryz.underlying40 rfl a hp hf H hm (by rw [nC_len]; exact infoN') ⟨rfl, H.below⟩
theorem p_retP {fn : Func} {p : Tmp} {x y z : Nat} {g : Nat} {w0 w : World} {L : List Cells} (hr : fn.results = #[.cell p 42]) (a : Act) (hp : a.tmps.getD p undef = .pointer (some ⟨g, 0, none⟩)) (hf : a.defers = []) (H : RMem w0 w L) (hm : (g, 42, ptC x y z) ∈ L) : bodyPost Tryz.prog fn (RetV (PV x y z) w0) .ret a w :=
  r_ret hr Tryz.underlying42 rfl a hp hf H hm (by rw [ptC_len]; exact infoPt) ⟨rfl, H.below⟩
end Go.Proofs.YtgnblaaldpniiaaGreatDoor
end
