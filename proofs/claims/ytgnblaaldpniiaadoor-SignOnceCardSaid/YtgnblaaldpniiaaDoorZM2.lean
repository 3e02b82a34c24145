/- Points as three numbers x z, y z, z; sums, and multiples bit by bit. Numbers only, no program is spoken of.
The base of edwards25519 and the order: L is a prime, L times the base is nought; a point of order 8. Numbers only, no program is spoken of.
Every point of edwards25519, eight times and that L times, is nought: there are at most 2 p points, and 16 L is more. Numbers only, no program is spoken of.
Any three or four numbers that stand for a sum: what a formula has to give, whatever it is. Numbers only, no program is spoken of.
The usual formulas of sums and doubles over three or four numbers: their parts. Numbers only, no program is spoken of.
The document's answer for package curve: numbers and points in blocks; laws of the walk over them.
The document's answer for package curve: a point so many times.
The document's answer for package curve: the bytes of points.
The document's answer for package curve: the point of bytes.
Points and their bytes: each point has its own, and what has them. No walk.
The document's answer for package curve: its calls.
The document's answer for package curve: its calls, by points.
What package curve answers, by points; the law package's fixed calls from it.
Package field's calls in the words of package curve. -/
import Derived.Test.YtgnblaaldpniiaaDoorZM1
import Derived.Test.YtgnblaaldpniiaaDoorZK2
import Derived.Test.YtgnblaaldpniiaaDoorZK1
import Derived.Test.YtgnblaaldpniiaaDoorZA6
import Derived.Great.FillDense
import Derived.Lib.ConvBytes
section
set_option linter.unusedVariables false
set_option maxRecDepth 100000
set_option linter.unusedSimpArgs false
namespace Go.Proofs.YtgnblaaldpniiaaDoor
structure Rep (X Y Z : Nat) (P : Pt) : Prop where
  nz : ¬ M Z 0
  xz : M ((P.x : Int) * Z) X
  yz : M ((P.y : Int) * Z) Y
structure T3 where
  x : Nat
  y : Nat
  z : Nat
def ad (a b : Nat) : Nat := (a + b) % pF
def sb (a b : Nat) : Nat := (a + (pF - b)) % pF
def ml (a b : Nat) : Nat := a * b % pF
theorem ad_M (a b : Nat) : M (ad a b : Int) (a + b) := (M.mod (a + b)).trans (.of_eq (Int.natCast_add a b))
theorem ml_M (a b : Nat) : M (ml a b : Int) (a * b) := (M.mod (a * b)).trans (.of_eq (Int.natCast_mul a b))
theorem p_M : M (pF : Int) 0 := by unfold M; decide +kernel
theorem sb_M (a b : Nat) (h : b ≤ pF) : M (sb a b : Int) (a - b) := by
  refine (M.mod _).trans ?_
  rw [Int.natCast_add, Int.ofNat_sub h]
  have h2 := ((M.refl ((a : Int) - b)).add p_M)
  refine M.trans (.of_eq ?_) (h2.trans (.of_eq (Int.add_zero _)))
  omega
theorem ml_lt (a b : Nat) : ml a b < pF := Nat.mod_lt _ (by decide +kernel)
theorem ad_lt (a b : Nat) : ad a b < pF := Nat.mod_lt _ (by decide +kernel)
theorem sb_lt (a b : Nat) : sb a b < pF := Nat.mod_lt _ (by decide +kernel)
def tadd (p q : T3) : T3 :=
  let z := ml p.z q.z
  let zz := ml z z
  let xx := ml p.x q.x
  let yy := ml p.y q.y
  let all := ml dF (ml xx yy)
  let less := sb zz all
  let more := ad zz all
  let cross := ad (ml p.x q.y) (ml q.x p.y)
  ⟨ml (ml z cross) less, ml (ml z (ad yy xx)) more, ml less more⟩
def eP1 : Ex := .sub (.mul (.mul (.mul (.v 2) (.v 5)) (eA (.mul (.v 0) (.v 2)) (.mul (.v 1) (.v 2)) (.mul (.v 3) (.v 5)) (.mul (.v 4) (.v 5)))) (.sub (.mul (.mul (.v 2) (.v 5)) (.mul (.v 2) (.v 5))) (.mul (.num dF) (.mul (.mul (.mul (.v 0) (.v 2)) (.mul (.v 3) (.v 5))) (.mul (.mul (.v 1) (.v 2)) (.mul (.v 4) (.v 5)))))))
  (.mul (.mul (eA (.v 0) (.v 1) (.v 3) (.v 4)) (eV (.v 0) (.v 1) (.v 3) (.v 4))) (.mul (.mul (.mul (.v 2) (.v 5)) (.mul (.v 2) (.v 5))) (.mul (.mul (.v 2) (.v 5)) (.mul (.v 2) (.v 5)))))
def eP2 : Ex := .sub (.mul (.mul (.mul (.v 2) (.v 5)) (eB (.mul (.v 0) (.v 2)) (.mul (.v 1) (.v 2)) (.mul (.v 3) (.v 5)) (.mul (.v 4) (.v 5)))) (.add (.mul (.mul (.v 2) (.v 5)) (.mul (.v 2) (.v 5))) (.mul (.num dF) (.mul (.mul (.mul (.v 0) (.v 2)) (.mul (.v 3) (.v 5))) (.mul (.mul (.v 1) (.v 2)) (.mul (.v 4) (.v 5)))))))
  (.mul (.mul (eB (.v 0) (.v 1) (.v 3) (.v 4)) (eU (.v 0) (.v 1) (.v 3) (.v 4))) (.mul (.mul (.mul (.v 2) (.v 5)) (.mul (.v 2) (.v 5))) (.mul (.mul (.v 2) (.v 5)) (.mul (.v 2) (.v 5)))))
def eP3 : Ex := .sub (.mul (.sub (.mul (.mul (.v 2) (.v 5)) (.mul (.v 2) (.v 5))) (.mul (.num dF) (.mul (.mul (.mul (.v 0) (.v 2)) (.mul (.v 3) (.v 5))) (.mul (.mul (.v 1) (.v 2)) (.mul (.v 4) (.v 5))))))
    (.add (.mul (.mul (.v 2) (.v 5)) (.mul (.v 2) (.v 5))) (.mul (.num dF) (.mul (.mul (.mul (.v 0) (.v 2)) (.mul (.v 3) (.v 5))) (.mul (.mul (.v 1) (.v 2)) (.mul (.v 4) (.v 5)))))))
  (.mul (.mul (eU (.v 0) (.v 1) (.v 3) (.v 4)) (eV (.v 0) (.v 1) (.v 3) (.v 4))) (.mul (.mul (.mul (.v 2) (.v 5)) (.mul (.v 2) (.v 5))) (.mul (.mul (.v 2) (.v 5)) (.mul (.v 2) (.v 5)))))
def RepT (t : T3) (P : Pt) : Prop := Rep t.x t.y t.z P
theorem tadd_rep {p q : T3} {P Q : Pt} (hP : OnC P) (hQ : OnC Q) (h : RepT p P) (k : RepT q Q) : RepT (tadd p q) (padd P Q) := by
  have hu := u_nz hP.rule hQ.rule
  have hv := v_nz hP.rule hQ.rule
  have hx := padd_x hP hQ
  have hy := padd_y hP hQ
  have r1 : M _ 0 := reckon 0 6 [(P.x : Int), P.y, p.z, Q.x, Q.y, q.z] eP1 rfl (by decide) trivial (by decide +kernel)
  have r2 : M _ 0 := reckon 0 6 [(P.x : Int), P.y, p.z, Q.x, Q.y, q.z] eP2 rfl (by decide) trivial (by decide +kernel)
  have r3 : M _ 0 := reckon 0 6 [(P.x : Int), P.y, p.z, Q.x, Q.y, q.z] eP3 rfl (by decide) trivial (by decide +kernel)
  have s1 := M.sub0 r1
  have s2 := M.sub0 r2
  have s3 := M.sub0 r3
  -- the three numbers
  have z1 : M (ml p.z q.z : Int) ((p.z : Int) * q.z) := ml_M _ _
  have zz : M (ml (ml p.z q.z) (ml p.z q.z) : Int) ((p.z : Int) * q.z * ((p.z : Int) * q.z)) := (ml_M _ _).trans (z1.mul z1)
  have xx : M (ml p.x q.x : Int) ((P.x : Int) * p.z * ((Q.x : Int) * q.z)) := (ml_M _ _).trans (h.xz.symm.mul k.xz.symm)
  have yy : M (ml p.y q.y : Int) ((P.y : Int) * p.z * ((Q.y : Int) * q.z)) := (ml_M _ _).trans (h.yz.symm.mul k.yz.symm)
  have al : M (ml dF (ml (ml p.x q.x) (ml p.y q.y)) : Int) ((dF : Int) * ((P.x : Int) * p.z * ((Q.x : Int) * q.z) * ((P.y : Int) * p.z * ((Q.y : Int) * q.z)))) := (ml_M _ _).trans ((M.refl _).mul ((ml_M _ _).trans (xx.mul yy)))
  have le := (sb_M (ml (ml p.z q.z) (ml p.z q.z)) _ (Nat.le_of_lt (ml_lt dF (ml (ml p.x q.x) (ml p.y q.y))))).trans (zz.sub al)
  have mo := (ad_M (ml (ml p.z q.z) (ml p.z q.z)) (ml dF (ml (ml p.x q.x) (ml p.y q.y)))).trans (zz.add al)
  have cr : M (ad (ml p.x q.y) (ml q.x p.y) : Int) (aI ((P.x : Int) * p.z) ((P.y : Int) * p.z) ((Q.x : Int) * q.z) ((Q.y : Int) * q.z)) := (ad_M _ _).trans ((((ml_M _ _).trans (h.xz.symm.mul k.yz.symm))).add ((ml_M _ _).trans (k.xz.symm.mul h.yz.symm)))
  have cb : M (ad (ml p.y q.y) (ml p.x q.x) : Int) (bI ((P.x : Int) * p.z) ((P.y : Int) * p.z) ((Q.x : Int) * q.z) ((Q.y : Int) * q.z)) := (ad_M _ _).trans (yy.add xx)
  have fx := ((ml_M (ml (ml p.z q.z) (ad (ml p.x q.y) (ml q.x p.y))) (sb (ml (ml p.z q.z) (ml p.z q.z)) (ml dF (ml (ml p.x q.x) (ml p.y q.y))))).trans ((((ml_M _ _).trans (z1.mul cr))).mul le)).trans s1
  have fy := ((ml_M (ml (ml p.z q.z) (ad (ml p.y q.y) (ml p.x q.x))) (ad (ml (ml p.z q.z) (ml p.z q.z)) (ml dF (ml (ml p.x q.x) (ml p.y q.y))))).trans ((((ml_M _ _).trans (z1.mul cb))).mul mo)).trans s2
  have fz := ((ml_M (sb (ml (ml p.z q.z) (ml p.z q.z)) (ml dF (ml (ml p.x q.x) (ml p.y q.y)))) (ad (ml (ml p.z q.z) (ml p.z q.z)) (ml dF (ml (ml p.x q.x) (ml p.y q.y))))).trans (le.mul mo)).trans s3
  have hz := M.nz h.nz k.nz
  have hz4 := M.nz (M.nz hz hz) (M.nz hz hz)
  refine ⟨fun h0 => M.nz (M.nz hu hv) hz4 (fz.symm.trans h0), ?_, ?_⟩
  · refine M.trans ((M.refl _).mul fz) (M.trans ?_ fx.symm)
    refine M.trans (.of_eq (show ((padd P Q).x : Int) * (uI P.x P.y Q.x Q.y * vI P.x P.y Q.x Q.y * ((p.z : Int) * q.z * ((p.z : Int) * q.z) * ((p.z : Int) * q.z * ((p.z : Int) * q.z)))) = ((padd P Q).x : Int) * uI P.x P.y Q.x Q.y * (vI P.x P.y Q.x Q.y) * ((p.z : Int) * q.z * ((p.z : Int) * q.z) * ((p.z : Int) * q.z * ((p.z : Int) * q.z))) by ac_rfl)) ?_
    exact (hx.mul (.refl _)).mul (.refl _)
  · refine M.trans ((M.refl _).mul fz) (M.trans ?_ fy.symm)
    refine M.trans (.of_eq (show ((padd P Q).y : Int) * (uI P.x P.y Q.x Q.y * vI P.x P.y Q.x Q.y * ((p.z : Int) * q.z * ((p.z : Int) * q.z) * ((p.z : Int) * q.z * ((p.z : Int) * q.z)))) = ((padd P Q).y : Int) * vI P.x P.y Q.x Q.y * (uI P.x P.y Q.x Q.y) * ((p.z : Int) * q.z * ((p.z : Int) * q.z) * ((p.z : Int) * q.z * ((p.z : Int) * q.z))) by ac_rfl)) ?_
    exact (hy.mul (.refl _)).mul (.refl _)
end Go.Proofs.YtgnblaaldpniiaaDoor
end
section
set_option linter.unusedVariables false
set_option maxRecDepth 100000
set_option linter.unusedSimpArgs false
namespace Go.Proofs.YtgnblaaldpniiaaDoor
def tone (P : Pt) : T3 := ⟨P.x, P.y, 1⟩
theorem tone_rep (P : Pt) : RepT (tone P) P := ⟨one_nz, .of_eq (Int.mul_one _), .of_eq (Int.mul_one _)⟩
theorem pmul_two {P : Pt} (hP : OnC P) (n : Nat) : padd (pmul n P) (pmul n P) = pmul (2 * n) P := by rw [Nat.two_mul, pmul_add hP]
def lads : List Bool → T3 → T3 → T3
  | [], a, _ => a
  | b :: r, a, t => lads r (bif b then tadd (tadd a a) t else tadd a a) t
def bitsN : Nat → Nat → List Bool → List Bool
  | 0, _, acc => acc
  | k + 1, s, acc => bitsN k (s / 2) ((s % 2 == 1) :: acc)
def numOf : List Bool → Nat → Nat
  | [], n => n
  | b :: r, n => numOf r (2 * n + (bif b then 1 else 0))
theorem numOf_bits : ∀ (k s : Nat) (acc : List Bool), s < 2 ^ k → numOf (bitsN k s acc) 0 = numOf acc s
  | 0, s, acc, h => by
    have : s = 0 := by simpa using h
    subst this; rfl
  | k + 1, s, acc, h => by
    rw [bitsN, numOf_bits k (s / 2) _ (by rw [Nat.pow_succ] at h; omega), numOf]
    by_cases hb : s % 2 = 1
    · rw [show (s % 2 == 1) = true by simp [hb]]
      rw [show 2 * (s / 2) + (bif true then 1 else 0) = s by show 2 * (s / 2) + 1 = s; omega]
    · rw [show (s % 2 == 1) = false by simp [hb]]
      rw [show 2 * (s / 2) + (bif false then 1 else 0) = s by show 2 * (s / 2) + 0 = s; omega]
theorem lads_rep {P : Pt} (hP : OnC P) {t : T3} (h : RepT t P) : ∀ (l : List Bool) (a : T3) (n : Nat), RepT a (pmul n P) → RepT (lads l a t) (pmul (numOf l n) P)
  | [], a, n, ha => ha
  | b :: r, a, n, ha => by
    rw [lads, numOf]
    have h2 := tadd_rep (pmul_on hP _) (pmul_on hP _) ha ha
    rw [pmul_two hP] at h2
    cases b with
    | true => exact lads_rep hP h r _ _ (tadd_rep (pmul_on hP _) hP h2 h)
    | false => exact lads_rep hP h r _ _ h2
theorem lads_of {P : Pt} (hP : OnC P) (k s : Nat) (hs : s < 2 ^ k) : RepT (lads (bitsN k s []) (tone pzero) (tone P)) (pmul s P) := by
  have h := lads_rep hP (tone_rep P) (bitsN k s []) (tone pzero) 0 (tone_rep pzero)
  rw [numOf_bits k s [] hs] at h
  exact h
def isP (t : T3) (P : Pt) : Bool := Nat.beq (P.x * t.z % pF) t.x && Nat.beq (P.y * t.z % pF) t.y && Nat.blt t.x pF && Nat.blt t.y pF
theorem isP_eq {t : T3} {P Q : Pt} (hP : OnC P) (hQ : OnC Q) (h : RepT t P) (hb : isP t Q = true) : P = Q := by
  unfold isP at hb
  simp only [Bool.and_eq_true] at hb
  have e1 := Nat.eq_of_beq_eq_true hb.1.1.1
  have e2 := Nat.eq_of_beq_eq_true hb.1.1.2
  have m1 : M ((Q.x : Int) * t.z) t.x := by rw [← Int.natCast_mul, ← e1]; exact (M.mod _).symm
  have m2 : M ((Q.y : Int) * t.z) t.y := by rw [← Int.natCast_mul, ← e2]; exact (M.mod _).symm
  exact Pt.eq hP hQ ((h.xz.trans m1.symm).cancel h.nz) ((h.yz.trans m2.symm).cancel h.nz)
theorem mul_by {P Q : Pt} (hP : OnC P) (hQ : OnC Q) (k s : Nat) (hs : s < 2 ^ k) (hb : isP (lads (bitsN k s []) (tone pzero) (tone P)) Q = true) : pmul s P = Q :=
  isP_eq (pmul_on hP s) hQ (lads_of hP k s hs) hb
def pbase : Pt := ⟨15112221349535400772501151409588531511454012693041857206046113283949847762202, 46316835694926478169428394003475163141307993866256225615783033603165251855960⟩
def oL : Nat := 7237005577332262213973186563042994240857116359379907606001950938285454250989
theorem pbase_on : OnC pbase := ⟨by decide +kernel, by decide +kernel, by unfold Rule M; decide +kernel⟩
theorem base_order : pmul oL pbase = pzero := mul_by pbase_on pzero_on 253 oL (by decide +kernel) (by decide +kernel)
theorem base_ne : pbase ≠ pzero := by
  intro h
  have : pbase.y = pzero.y := by rw [h]
  revert this
  decide +kernel
theorem pr_1224481 : Pr 1224481 := prime_small 1110 (by decide) (by decide) (by decide +kernel)
theorem pr_531581 : Pr 531581 := prime_small 730 (by decide) (by decide) (by decide +kernel)
theorem pr_l1 : Pr 1257559732178653 := pock2 (m := 1257559732178652 / 1224481) (m' := 1257559732178652 / 531581) (a := 2) pr_1224481 pr_531581 (by decide) (by decide +kernel) (by decide +kernel) (by decide +kernel) (by decide +kernel) (by decide +kernel) (by decide +kernel) (by decide +kernel) (by decide +kernel) (by decide +kernel)
theorem pr_l2 : Pr 4434155615661930479 := pock1 (m := 3526) (a := 2) pr_l1 (by decide +kernel) (by decide +kernel) (by decide +kernel) (by decide +kernel) (by decide +kernel) (by decide +kernel)
theorem pr_l3 : Pr 172054593956031949258510691 := pock1 (m := 38802110) (a := 2) pr_l2 (by decide +kernel) (by decide +kernel) (by decide +kernel) (by decide +kernel) (by decide +kernel) (by decide +kernel)
theorem pr_l4 : Pr 19757330305831588566944191468367130476339 := pock1 (m := 114831751082918) (a := 2) pr_l3 (by decide +kernel) (by decide +kernel) (by decide +kernel) (by decide +kernel) (by decide +kernel) (by decide +kernel)
theorem pr_l5 : Pr 276602624281642239937218680557139826668747 := pock1 (m := 14) (a := 2) pr_l4 (by decide +kernel) (by decide +kernel) (by decide +kernel) (by decide +kernel) (by decide +kernel) (by decide +kernel)
theorem pr_o : Pr oL := pock1 (m := 26163907866482859529727157400808004) (a := 2) pr_l5 (by decide +kernel) (by decide +kernel) (by decide +kernel) (by decide +kernel) (by decide +kernel) (by decide +kernel)
end Go.Proofs.YtgnblaaldpniiaaDoor
end
section
set_option linter.unusedVariables false
set_option maxRecDepth 100000
set_option linter.unusedSimpArgs false
namespace Go.Proofs.YtgnblaaldpniiaaDoor
theorem one_d_nz (y : Int) : ¬ M (1 + (dF : Int) * (y * y)) 0 := by
  intro h
  have h1 : M ((iM : Int) * iM) ((dF : Int) * (y * y)) := by
    refine i_sqM.trans ?_
    have h2 := h.sub (M.refl 1)
    refine (M.of_eq ?_).trans (h2.symm.trans (.of_eq ?_)) <;> omega
  have h3 := d_nonsq h1
  refine one_nz (M.trans ?_ h)
  have h4 : M ((dF : Int) * (y * y)) 0 := M.mul_zero _ (h3.zero_mul _)
  exact ((M.refl 1).add h4).symm
theorem x_sq {P : Pt} (hP : OnC P) : M ((P.x : Int) * P.x * (1 + (dF : Int) * ((P.y : Int) * P.y))) ((P.y : Int) * P.y - 1) := by
  have h := hP.rule.eqn
  unfold Eqn at h
  have h2 := h.add (M.refl ((P.x : Int) * P.x))
  refine (M.of_eq ?_).trans (h2.symm.trans (.of_eq ?_))
  · rw [Int.mul_add, Int.mul_one, Int.add_comm]
    congr 1
    ac_rfl
  · omega
theorem p_odd : pF % 2 = 1 := by decide +kernel
theorem base_free {i : Nat} (h : pmul i pbase = pzero) : oL ∣ i := by
  apply Classical.byContradiction
  intro hn
  have hg := pmul_gcd pbase_on oL i base_order h
  rw [pr_o.cop hn, pmul_one pbase_on] at hg
  exact base_ne hg
end Go.Proofs.YtgnblaaldpniiaaDoor
end
section
set_option linter.unusedVariables false
set_option maxRecDepth 100000
set_option linter.unusedSimpArgs false
namespace Go.Proofs.YtgnblaaldpniiaaDoor
structure Rep4 (X Y Z T : Int) (P : Pt) : Prop where
  nz : ¬ M Z 0
  xz : M ((P.x : Int) * Z) X
  yz : M ((P.y : Int) * Z) Y
  tz : M ((P.x : Int) * P.y * Z) T
section
variable {P Q : Pt} {X Y Z T s u v a b : Int}
theorem cross_x (x y : Int) (hx : M (x * u) a) (hX : M X (a * v * s)) (hZ : M Z (u * v * s)) : M (x * Z) X := by
  refine ((M.refl x).mul hZ).trans (M.trans (.of_eq (show x * (u * v * s) = x * u * v * s by ac_rfl)) (M.trans ?_ hX.symm))
  exact (hx.mul (.refl v)).mul (.refl s)
theorem cross_y (x y : Int) (hy : M (y * v) b) (hY : M Y (b * u * s)) (hZ : M Z (u * v * s)) : M (y * Z) Y := by
  refine ((M.refl y).mul hZ).trans (M.trans (.of_eq (show y * (u * v * s) = y * v * u * s by ac_rfl)) (M.trans ?_ hY.symm))
  exact (hy.mul (.refl u)).mul (.refl s)
theorem cross_t (x y : Int) (hx : M (x * u) a) (hy : M (y * v) b) (hT : M T (a * b * s)) (hZ : M Z (u * v * s)) : M (x * y * Z) T := by
  refine ((M.refl (x * y)).mul hZ).trans (M.trans (.of_eq (show x * y * (u * v * s) = x * u * (y * v) * s by ac_rfl)) (M.trans ?_ hT.symm))
  exact (hx.mul hy).mul (.refl s)
end
theorem sum_of4 {P Q : Pt} (hP : OnC P) (hQ : OnC Q) {X Y Z T s : Int} (hs : ¬ M s 0) (hX : M X (aI P.x P.y Q.x Q.y * vI P.x P.y Q.x Q.y * s)) (hY : M Y (bI P.x P.y Q.x Q.y * uI P.x P.y Q.x Q.y * s)) (hZ : M Z (uI P.x P.y Q.x Q.y * vI P.x P.y Q.x Q.y * s)) (hT : M T (aI P.x P.y Q.x Q.y * bI P.x P.y Q.x Q.y * s)) : Rep4 X Y Z T (padd P Q) :=
  ⟨fun h0 => M.nz (M.nz (u_nz hP.rule hQ.rule) (v_nz hP.rule hQ.rule)) hs (hZ.symm.trans h0), cross_x _ 0 (padd_x hP hQ) hX hZ, cross_y 0 _ (padd_y hP hQ) hY hZ, cross_t _ _ (padd_x hP hQ) (padd_y hP hQ) hT hZ⟩
theorem ext_of {P Q : Pt} (hP : OnC P) (hQ : OnC Q) {e f g h z : Int} (hz : ¬ M z 0) (he : M e (aI P.x P.y Q.x Q.y * z)) (hf : M f (vI P.x P.y Q.x Q.y * z)) (hg : M g (uI P.x P.y Q.x Q.y * z)) (hh : M h (bI P.x P.y Q.x Q.y * z)) : Rep4 (e * f) (g * h) (f * g) (e * h) (padd P Q) := by
  refine sum_of4 hP hQ (s := z * z) (M.nz hz hz) ((he.mul hf).trans (.of_eq (by ac_rfl))) ((hg.mul hh).trans (.of_eq (by ac_rfl))) ((hf.mul hg).trans (.of_eq (by ac_rfl))) ((he.mul hh).trans (.of_eq (by ac_rfl)))
end Go.Proofs.YtgnblaaldpniiaaDoor
end
section
set_option linter.unusedVariables false
set_option maxRecDepth 100000
set_option linter.unusedSimpArgs false
namespace Go.Proofs.YtgnblaaldpniiaaDoor
def xAC : Ex := .sub (.mul (.num dF) (.mul (.mul (.mul (.v 0) (.v 1)) (.v 2)) (.mul (.mul (.v 3) (.v 4)) (.v 5)))) (.mul (eT (.v 0) (.v 1) (.v 3) (.v 4)) (.mul (.v 2) (.v 5)))
section
variable {P Q : Pt} {X1 Y1 Z1 X2 Y2 Z2 T1 T2 : Int}
theorem add_c (ht1 : M ((P.x : Int) * P.y * Z1) T1) (ht2 : M ((Q.x : Int) * Q.y * Z2) T2) : M ((dF : Int) * (T1 * T2)) (tI P.x P.y Q.x Q.y * (Z1 * Z2)) := by
  have r : M _ 0 := reckon 0 6 [(P.x : Int), P.y, Z1, Q.x, Q.y, Z2] xAC rfl (by decide) trivial (by decide +kernel)
  exact ((M.refl _).mul (ht1.symm.mul ht2.symm)).trans (M.sub0 r)
end
section
variable {P : Pt} {X Y Z : Int}
end
end Go.Proofs.YtgnblaaldpniiaaDoor
end
section
set_option linter.unusedSimpArgs false
set_option linter.unusedVariables false
set_option maxRecDepth 100000
namespace Go.Proofs.YtgnblaaldpniiaaDoor
open Go.RowKit
section
variable {ops : Array Oper} {rest : List Oper} {o : Oper} {a : Act} {w0 w : World} {Q : Exit → Act → World → Prop} {L : List Cells}
end
section
variable {o : Oper} {a : Act} {w0 w : World} {L : List Cells} {K : Act → Prop}
end
def RetV (v : Value) (w : World) (e : Ending) (w' : World) : Prop := e = .returned v ∧ Below w.heap.size w w'
end Go.Proofs.YtgnblaaldpniiaaDoor
end
section
set_option linter.unusedSimpArgs false
set_option linter.unusedVariables false
set_option maxRecDepth 100000
namespace Go.Proofs.YtgnblaaldpniiaaDoor
open Go.RowKit
structure T3.Ok (t : T3) : Prop where
  x : t.x < pF
  y : t.y < pF
  z : t.z < pF
theorem digit_at : ∀ (l : List UInt8) (m : Nat), m < l.length → (l.getD m 0).toNat = numB l / 256 ^ m % 256
  | [], m, h => by simp at h
  | b :: r, 0, _ => by
    have := b.toNat_lt
    show b.toNat = (b.toNat + 256 * numB r) / 1 % 256
    omega
  | b :: r, m + 1, h => by
    have hb := b.toNat_lt
    show (r.getD m 0).toNat = _
    rw [digit_at r m (by simpa using h)]
    have e : numB (b :: r) = b.toNat + 256 * numB r := rfl
    rw [e, Nat.pow_succ, Nat.mul_comm (256 ^ m), ← Nat.div_div_eq_div_mul, show (b.toNat + 256 * numB r) / 256 = numB r by omega]
theorem bit_at (l : List UInt8) (i : Nat) (h : i / 8 < l.length) : (l.getD (i / 8) 0).toNat / 2 ^ (i % 8) % 2 = numB l / 2 ^ i % 2 := by
  rw [digit_at l (i / 8) h]
  have e : (2 : Nat) ^ i = 256 ^ (i / 8) * 2 ^ (i % 8) := by
    rw [show (256 : Nat) = 2 ^ 8 from rfl, ← Nat.pow_mul, ← Nat.pow_add]
    congr 1
    omega
  rw [e, ← Nat.div_div_eq_div_mul]
  generalize numB l / 256 ^ (i / 8) = t
  have hr : i % 8 < 8 := Nat.mod_lt _ (by decide)
  generalize i % 8 = r at hr ⊢
  obtain rfl | rfl | rfl | rfl | rfl | rfl | rfl | rfl : r = 0 ∨ r = 1 ∨ r = 2 ∨ r = 3 ∨ r = 4 ∨ r = 5 ∨ r = 6 ∨ r = 7 := by omega
  all_goals omega
theorem bits_and_u8 (a : Nat) (ha : a < 256) : bits .and .u8 (a : Int) 1 = ((a % 2 : Nat) : Int) := by
  have hx : a &&& 1 < 2 ^ 8 := Nat.and_lt_two_pow a (by omega)
  have h1 : (BitVec.ofInt 8 (a : Int)).toNat = a := by
    rw [BitVec.ofInt_natCast, BitVec.toNat_ofNat]; exact Nat.mod_eq_of_lt (by omega)
  have h2 : (BitVec.ofInt 8 1).toNat = 1 := rfl
  show IntKind.u8.wrap ((BitVec.ofInt 8 (a : Int) &&& BitVec.ofInt 8 1).toNat : Int) = _
  rw [BitVec.toNat_and, h1, h2, Nat.and_one_is_mod]
  simp [IntKind.wrap, IntKind.signed, IntKind.bits]
  omega
theorem bit_int (l : List UInt8) (i : Nat) (h : i / 8 < l.length) (b : UInt8) (hb : l.getD (i / 8) 0 = b) (t : Nat) (ht : numB l / 2 ^ i % 2 = t) : bits .and .u8 ((b.toNat : Int) / 2 ^ (i % 8)) 1 = (t : Int) := by
  have e : (2 : Int) ^ (i % 8) = ((2 ^ (i % 8) : Nat) : Int) := by rw [Int.natCast_pow]; rfl
  rw [e, ← Int.natCast_ediv, bits_and_u8 _ (Nat.lt_of_le_of_lt (Nat.div_le_self _ _) b.toNat_lt), ← hb, bit_at l i h, ht]
end Go.Proofs.YtgnblaaldpniiaaDoor
end
section
set_option linter.unusedSimpArgs false
set_option linter.unusedVariables false
set_option maxRecDepth 100000
namespace Go.Proofs.YtgnblaaldpniiaaDoor
open Go.RowKit
def Row8 (w : World) (g : Nat) (l : List UInt8) : Prop := ∃ cs : Array Value, w.heap[g]? = some (.cells cs 5 (cs.size, cs.size + 1)) ∧ cs.toList.take l.length = Lib.byteCells l
theorem row8_len {l : List UInt8} {cs : Array Value} (h : cs.toList.take l.length = Lib.byteCells l) : l.length ≤ cs.size := by
  have := congrArg List.length h
  rw [List.length_take, Lib.byteCells_length] at this
  simp at this
  omega
theorem row8_new (w : World) (l : List UInt8) : Row8 (Lib.bytesWorld w 5 (S l)) w.heap.size l := by
  refine ⟨_, Lib.bytesWorld_at_new w _ _, ?_⟩
  unfold Lib.bytesCells
  rw [Array.toList_append, List.take_append_of_le_length (by simp [S])]
  simp only [S, Lib.byteCells, List.map_toArray]
  exact List.take_of_length_le (by simp)
theorem row8_cell {w : World} {g : Nat} {l : List UInt8} (h : Row8 w g l) (j : Nat) (hj : j < l.length) : w.cell? ⟨g, j, none⟩ = some (.int .u8 (l[j].toNat : Int)) := by
  obtain ⟨cs, hg, ht⟩ := h
  have hl := row8_len ht
  rw [cell_of_row w g j cs _ _ hg]
  have e : (cs.toList.take l.length)[j]? = (Lib.byteCells l)[j]? := by rw [ht]
  rw [List.getElem?_take, if_pos hj] at e
  rw [Array.getElem?_toList] at e
  rw [e]
  simp [Lib.byteCells, hj]
theorem row8_frozen {w : World} {g : Nat} {l : List UInt8} (h : Row8 w g l) (j : Nat) (hj : j < l.length) : w.frozen? ⟨g, j, none⟩ = false := by
  obtain ⟨cs, hg, ht⟩ := h
  have hl := row8_len ht
  simp [World.frozen?, hg]
  omega
theorem row8_set {w : World} {g : Nat} {l : List UInt8} (h : Row8 w g l) (j : Nat) (x : UInt8) : Row8 (w.setCell ⟨g, j, none⟩ (.int .u8 x.toNat)) g (l.set j x) := by
  obtain ⟨cs, hg, ht⟩ := h
  refine ⟨cs.setIfInBounds j (.int .u8 x.toNat), ?_, ?_⟩
  · rw [setCell_eq_setRow w g j cs _ _ _ hg, setRow_heap w g cs _ _ _ hg]
    simp
  · rw [Array.toList_setIfInBounds, List.length_set, List.take_set, ht]
    unfold Lib.byteCells; rw [List.map_set]
theorem row8_conv {w : World} {g : Nat} {l : List UInt8} (h : Row8 w g l) (n cap : Nat) (hn : l.length = n) : (convert 33 9 (.slice (some ⟨g, 0, none⟩) n cap)).run Tryd.prog w = .ok (.string (S l)) w := by
  subst hn
  refine run_convert_bytes_back w 33 9 5 _ _ l Tryd.underlying33 Tryd.underlying5 Tryd.underlying9 (fun j hj => ?_)
  have : ((⟨g, 0, none⟩ : Addr).add j) = ⟨g, j, none⟩ := by
    unfold Addr.add; split <;> simp_all
  rw [this]
  exact row8_cell h j hj
theorem below_bytes {B : Nat} {a w : World} (h : Below B a w) (hB : B ≤ w.heap.size) (s : ByteArray) : Below B a (Lib.bytesWorld w 5 s) :=
  h.trans ⟨rfl, rfl, rfl, by rw [Lib.bytesWorld_size]; omega, fun k hk => Lib.bytesWorld_at_old w _ s k (by omega)⟩
theorem row8_from {w w' : World} {g : Nat} {l : List UInt8} (h : Row8 w g l) (hb : Below w.heap.size w w') : Row8 w' g l := by
  obtain ⟨cs, hg, ht⟩ := h
  exact ⟨cs, (hb.block g (Array.getElem?_eq_some_iff.1 hg).1).trans hg, ht⟩
theorem row8_at {w : World} {g : Nat} {l : List UInt8} (h : Row8 w g l) (j : Nat) (hj : j < l.length) (b : UInt8) (hb : l.getD j 0 = b) : w.cell? ⟨g, j, none⟩ = some (.int .u8 (b.toNat : Int)) := by
  rw [row8_cell h j hj, ← hb]
  simp [hj]
def encL (x y : Nat) : List UInt8 := leB (y + x % 2 * 57896044618658097711785492504343953926634992332820282019728792003956564819968)
theorem two255 : (57896044618658097711785492504343953926634992332820282019728792003956564819968 : Nat) = 128 * 256 ^ 31 := by decide +kernel
theorem numB_set : ∀ (l : List UInt8) (m : Nat) (c : UInt8), m < l.length → numB (l.set m c) + (l.getD m 0).toNat * 256 ^ m = numB l + c.toNat * 256 ^ m
  | [], m, c, h => by simp at h
  | b :: r, 0, c, _ => by
    show (c.toNat + 256 * numB r) + b.toNat * 256 ^ 0 = (b.toNat + 256 * numB r) + c.toNat * 256 ^ 0
    omega
  | b :: r, m + 1, c, h => by
    have ih := numB_set r m c (by simpa using h)
    show (b.toNat + 256 * numB (r.set m c)) + (r.getD m 0).toNat * 256 ^ (m + 1) = (b.toNat + 256 * numB r) + c.toNat * 256 ^ (m + 1)
    rw [Nat.pow_succ, ← Nat.mul_assoc, ← Nat.mul_assoc]
    omega
theorem pF_small : pF < 128 * 256 ^ 31 := by decide +kernel
theorem top_bit (y : Nat) (hy : y < pF) : ((leB y).getD 31 0).toNat < 128 := by
  rw [digit_at (leB y) 31 (by rw [leB_len]; omega), numB_leB y (Nat.lt_trans hy p_big)]
  have h := pF_small
  have h2 : y / 256 ^ 31 < 128 := Nat.div_lt_of_lt_mul (by omega)
  omega
theorem enc_set (x y : Nat) (hy : y < pF) (r : UInt8) (hr : r.toNat = ((leB y).getD 31 0).toNat + x % 2 * 128) : (leB y).set 31 r = encL x y := by
  have h := numB_set (leB y) 31 r (by rw [leB_len]; omega)
  rw [hr, numB_leB y (Nat.lt_trans hy p_big), Nat.add_mul] at h
  have e : numB ((leB y).set 31 r) = y + x % 2 * 57896044618658097711785492504343953926634992332820282019728792003956564819968 := by
    rw [two255, ← Nat.mul_assoc]
    omega
  have hl : ((leB y).set 31 r).length = 32 := by rw [List.length_set, leB_len]
  unfold encL
  rw [← e, leB_numB _ hl (numB_lt _ hl)]
end Go.Proofs.YtgnblaaldpniiaaDoor
end
section
set_option linter.unusedSimpArgs false
set_option linter.unusedVariables false
set_option maxRecDepth 100000
namespace Go.Proofs.YtgnblaaldpniiaaDoor
open Go.RowKit
def sqY (y : Nat) : Nat := ml (sb (ml y y) 1) (fi (ad 1 (ml dF (ml y y))))
end Go.Proofs.YtgnblaaldpniiaaDoor
end
section
set_option linter.unusedSimpArgs false
set_option linter.unusedVariables false
set_option maxRecDepth 100000
namespace Go.Proofs.YtgnblaaldpniiaaDoor
open Go.RowKit
def tt : Nat := 57896044618658097711785492504343953926634992332820282019728792003956564819968
theorem tt_eq : tt = 128 * 256 ^ 31 := by decide +kernel
theorem tt_big : tt + tt = big := by decide +kernel
theorem p_tt : pF < tt := by decide +kernel
theorem tt_pos : 0 < tt := by decide +kernel
def encP (P : Pt) : List UInt8 := encL P.x P.y
theorem encP_eq (P : Pt) : encP P = leB (P.y + P.x % 2 * tt) := rfl
def dec (l : List UInt8) : Option Pt :=
  if l.length = 32 then
    if numB l % tt < pF then
      if cand (sqY (numB l % tt)) * cand (sqY (numB l % tt)) % pF = sqY (numB l % tt) then
        if numB l / tt = 0 then some ⟨evenN (cand (sqY (numB l % tt))), numB l % tt⟩
        else if evenN (cand (sqY (numB l % tt))) = 0 then none else some ⟨sb 0 (evenN (cand (sqY (numB l % tt)))), numB l % tt⟩
      else none
    else none
  else none
theorem even_par (r : Nat) (h : r < pF) : evenN r % 2 = 0 := by
  unfold evenN
  have := p_odd
  split
  · rename_i e
    have e : r % 2 = 1 := by simpa using e
    omega
  · rename_i e
    have e : ¬ r % 2 = 1 := by simpa using e
    omega
theorem sqY_M (y : Nat) : M ((sqY y : Int) * (1 + (dF : Int) * ((y : Int) * y))) ((y : Int) * y - 1) := by
  have h1 : M (ml y y : Int) ((y : Int) * y) := ml_M y y
  have h2 : M (sb (ml y y) 1 : Int) ((y : Int) * y - 1) := (sb_M _ 1 (by decide +kernel)).trans (h1.sub (.refl _))
  have h3 : M (ad 1 (ml dF (ml y y)) : Int) (1 + (dF : Int) * ((y : Int) * y)) := (ad_M _ _).trans ((M.refl _).add ((ml_M _ _).trans ((M.refl _).mul h1)))
  have hn : ¬ M (ad 1 (ml dF (ml y y)) : Int) 0 := fun h => one_d_nz (y : Int) (h3.symm.trans h)
  have h4 : M (sqY y : Int) ((sb (ml y y) 1 : Int) * (fi (ad 1 (ml dF (ml y y))) : Int)) := ml_M _ _
  refine (h4.mul h3.symm).trans ?_
  rw [Int.mul_assoc]
  exact ((M.refl _).mul (fi_mul hn)).trans ((M.of_eq (Int.mul_one _)).trans h2)
theorem sqY_lt (y : Nat) : sqY y < pF := ml_lt _ _
theorem sqY_of {P : Pt} (hP : OnC P) : sqY P.y = P.x * P.x % pF := by
  refine nat_M (sqY_lt _) (Nat.mod_lt _ (by decide +kernel)) ?_
  refine M.trans ?_ ((M.mod (P.x * P.x)).trans (.of_eq (Int.natCast_mul _ _))).symm
  exact ((sqY_M P.y).trans (x_sq hP).symm).cancel (one_d_nz _)
theorem on_of {x y : Nat} (hx : x < pF) (hy : y < pF) (h : M ((x : Int) * x) (sqY y : Int)) : OnC ⟨x, y⟩ := by
  refine ⟨hx, hy, Eqn.rule ?_⟩
  have h2 := (h.mul (M.refl (1 + (dF : Int) * ((y : Int) * y)))).trans (sqY_M y)
  unfold Eqn
  show M ((y : Int) * y - (x : Int) * x - 1) ((dF : Int) * ((x : Int) * x * ((y : Int) * y)))
  have h3 := h2.symm.sub (M.refl ((x : Int) * x))
  refine (M.of_eq ?_).trans (h3.trans (.of_eq ?_))
  · omega
  · rw [Int.mul_add, Int.mul_one, show (x : Int) * x * ((dF : Int) * ((y : Int) * y)) = (dF : Int) * ((x : Int) * x * ((y : Int) * y)) by ac_rfl]
    omega
theorem root_on {y : Nat} (hy : y < pF) (h : cand (sqY y) * cand (sqY y) % pF = sqY y) : OnC ⟨evenN (cand (sqY y)), y⟩ := by
  refine on_of (even_lt _) hy ?_
  rw [← Int.natCast_mul, M_nat, even_sq _ (cand_lt _), h, Nat.mod_eq_of_lt (sqY_lt y)]
theorem sb0 {x : Nat} (h0 : x ≠ 0) (hx : x < pF) : sb 0 x = pF - x := neg_pos' x h0 hx
theorem neg_M (x : Nat) (hx : x ≤ pF) : M (sb 0 x : Int) (-(x : Int)) := (sb_M 0 x hx).trans (.of_eq (by omega))
theorem neg_eq {P : Pt} (hP : OnC P) : pneg P = ⟨sb 0 P.x, P.y⟩ := by
  unfold pneg
  rw [nat_M (rm_lt _) (sb_lt 0 P.x) ((rm_M _).trans (neg_M P.x (Nat.le_of_lt hP.xl)).symm)]
theorem neg_on {x y : Nat} (h : OnC ⟨x, y⟩) : OnC ⟨sb 0 x, y⟩ := by
  have h2 := pneg_on h
  rw [neg_eq h] at h2
  exact h2
theorem num_split {l : List UInt8} (hl : l.length = 32) : numB l / tt ≤ 1 := by
  have h := numB_lt l hl
  have h2 := tt_big
  have h3 : numB l / tt < 2 := Nat.div_lt_of_lt_mul (by omega)
  omega
theorem dec_some {l : List UInt8} {P : Pt} (h : dec l = some P) : OnC P ∧ encP P = l := by
  unfold dec at h
  by_cases hl : l.length = 32
  · rw [if_pos hl] at h
    have hs := num_split hl
    have hd := Nat.div_add_mod (numB l) tt
    have hb := leB_numB l hl (numB_lt l hl)
    obtain ⟨y, hy⟩ : ∃ y, numB l % tt = y := ⟨_, rfl⟩
    rw [hy] at h hd
    by_cases hyp : y < pF
    · rw [if_pos hyp] at h
      by_cases hc : cand (sqY y) * cand (sqY y) % pF = sqY y
      · rw [if_pos hc] at h
        have hon := root_on hyp hc
        have hpar := even_par _ (cand_lt (sqY y))
        have hxl := even_lt (sqY y)
        generalize evenN (cand (sqY y)) = x at h hon hpar hxl
        by_cases ho : numB l / tt = 0
        · rw [if_pos ho] at h
          injection h with h
          subst h
          refine ⟨hon, ?_⟩
          show leB (y + x % 2 * tt) = l
          rw [hpar, Nat.zero_mul, Nat.add_zero, ← hb]
          congr 1
          rw [ho, Nat.mul_zero] at hd
          omega
        · rw [if_neg ho] at h
          by_cases hx0 : x = 0
          · rw [if_pos hx0] at h
            cases h
          · rw [if_neg hx0] at h
            injection h with h
            subst h
            refine ⟨neg_on hon, ?_⟩
            show leB (y + sb 0 x % 2 * tt) = l
            have hodd : sb 0 x % 2 = 1 := by
              rw [sb0 hx0 hxl]
              have := p_odd
              omega
            rw [hodd, Nat.one_mul, ← hb]
            congr 1
            rw [Nat.le_antisymm hs (Nat.pos_of_ne_zero ho), Nat.mul_one] at hd
            omega
      · rw [if_neg hc] at h; cases h
    · rw [if_neg hyp] at h; cases h
  · rw [if_neg hl] at h; cases h
theorem dec_enc {P : Pt} (hP : OnC P) : dec (encP P) = some P := by
  have hyl := hP.yl
  have hxl := hP.xl
  have hpt := p_tt
  have htt := tt_big
  have hn : P.y + P.x % 2 * tt < big := by
    have : P.x % 2 = 0 ∨ P.x % 2 = 1 := by omega
    rcases this with e | e
    · rw [e]; omega
    · rw [e]; omega
  have hnum : numB (encP P) = P.y + P.x % 2 * tt := numB_leB _ hn
  have hmod : (P.y + P.x % 2 * tt) % tt = P.y := by rw [Nat.add_mul_mod_self_right, Nat.mod_eq_of_lt (by omega)]
  have hdiv : (P.y + P.x % 2 * tt) / tt = P.x % 2 := by rw [Nat.add_mul_div_right _ _ tt_pos, Nat.div_eq_of_lt (by omega), Nat.zero_add]
  have hlen : (encP P).length = 32 := leB_len _
  unfold dec
  rw [if_pos hlen, hnum, hmod, hdiv, if_pos hyl, sqY_of hP, if_pos (cand_sq P.x hxl)]
  have hpar := even_par _ (cand_lt (P.x * P.x % pF))
  have hr := even_root P.x hxl
  generalize evenN (cand (P.x * P.x % pF)) = r at hpar hr ⊢
  have hodd := p_odd
  by_cases hx0 : P.x = 0
  · have h1 : r = 0 := by
      rcases hr with e | e
      · omega
      · rw [hx0, neg_zero'] at e; exact e
    rw [if_pos (by rw [hx0])]
    subst h1
    cases P
    simp only at hx0
    rw [hx0]
  · rw [neg_pos' P.x hx0 hxl] at hr
    by_cases hev : P.x % 2 = 0
    · rw [if_pos hev]
      have h1 : r = P.x := by omega
      rw [h1]
    · rw [if_neg hev]
      have h1 : r = pF - P.x := by omega
      rw [if_neg (by omega), h1, sb0 (by omega) (by omega), show pF - (pF - P.x) = P.x by omega]
theorem enc_inj {P Q : Pt} (hP : OnC P) (hQ : OnC Q) (h : encP P = encP Q) : P = Q := by
  have h1 := dec_enc hP
  rw [h, dec_enc hQ] at h1
  injection h1 with h1
  exact h1.symm
theorem encP_len (P : Pt) : (encP P).length = 32 := leB_len _
theorem rep_enc {t : T3} {P : Pt} (hP : OnC P) (h : RepT t P) : encL (ml t.x (fi t.z)) (ml t.y (fi t.z)) = encP P := by
  have hz : M ((t.z : Int) * (fi t.z : Int)) 1 := (M.of_eq (Int.mul_comm _ _)).trans (fi_mul h.nz)
  have ex : ml t.x (fi t.z) = P.x := nat_M (ml_lt _ _) hP.xl (by
    refine (ml_M _ _).trans ((h.xz.symm.mul (.refl _)).trans ?_)
    rw [Int.mul_assoc]
    exact ((M.refl _).mul hz).trans (.of_eq (Int.mul_one _)))
  have ey : ml t.y (fi t.z) = P.y := nat_M (ml_lt _ _) hP.yl (by
    refine (ml_M _ _).trans ((h.yz.symm.mul (.refl _)).trans ?_)
    rw [Int.mul_assoc]
    exact ((M.refl _).mul hz).trans (.of_eq (Int.mul_one _)))
  rw [ex, ey]
  rfl
theorem enc_base : encP pbase = leB pbase.y := by
  rw [encP_eq, show pbase.x % 2 = 0 by decide +kernel, Nat.zero_mul, Nat.add_zero]
theorem enc_zero : encP pzero = leB 1 := rfl
end Go.Proofs.YtgnblaaldpniiaaDoor
end
section
set_option linter.unusedSimpArgs false
set_option linter.unusedVariables false
set_option maxRecDepth 100000
namespace Go.Proofs.YtgnblaaldpniiaaDoor
open Go.RowKit
def isPt (l : List UInt8) : Bool := (dec l).isSome
theorem is_El {l : List UInt8} (hl : l.length = 32) : isEl l = decide (numB l < pF) := by unfold isEl; rw [decide_eq_true hl, Bool.true_and]
end Go.Proofs.YtgnblaaldpniiaaDoor
end
section
set_option linter.unusedSimpArgs false
set_option linter.unusedVariables false
set_option maxRecDepth 100000
namespace Go.Proofs.YtgnblaaldpniiaaDoor
open Go.RowKit
theorem size_no (k : List UInt8) (h : k.length ≠ 32) : (((S k).size : Int) != 32) = true := by rw [S_size]; simp; omega
end Go.Proofs.YtgnblaaldpniiaaDoor
end
section
set_option linter.unusedSimpArgs false
set_option linter.unusedVariables false
set_option maxRecDepth 100000
namespace Go.Proofs.YtgnblaaldpniiaaDoor
open Go.RowKit
structure CurveOk : Prop where
  is : ∀ l w, Calls Tryd.prog 15 #[.string (S l)] w (RetV (.bool (isPt l)) w)
  base : ∀ w, Calls Tryd.prog 32 #[] w (RetV (.string (S (encP pbase))) w)
  zero : ∀ w, Calls Tryd.prog 16 #[] w (RetV (.string (S (encP pzero))) w)
  neg : ∀ {s P}, dec s = some P → ∀ w, Calls Tryd.prog 22 #[.string (S s)] w (RetV (.tuple #[.string (S (encP (pneg P))), .int .i64 0]) w)
  neg0 : ∀ {s}, dec s = none → ∀ w, Calls Tryd.prog 22 #[.string (S s)] w (RetV (.tuple #[.string ⟨#[]⟩, .int .i64 60]) w)
  mul : ∀ {k s P}, k.length = 32 → dec s = some P → ∀ w, Calls Tryd.prog 14 #[.string (S k), .string (S s)] w (RetV (.tuple #[.string (S (encP (pmul (numB k) P))), .int .i64 0]) w)
  mul0 : ∀ k s, k.length ≠ 32 ∨ dec s = none → ∀ w, Calls Tryd.prog 14 #[.string (S k), .string (S s)] w (RetV (.tuple #[.string ⟨#[]⟩, .int .i64 60]) w)
  both : ∀ {a s b P}, a.length = 32 → dec s = some P → b.length = 32 → ∀ w, Calls Tryd.prog 24 #[.string (S a), .string (S s), .string (S b)] w (RetV (.tuple #[.string (S (encP (padd (pmul (numB a) P) (pmul (numB b) pbase)))), .int .i64 0]) w)
  both0 : ∀ a s b, a.length ≠ 32 ∨ dec s = none ∨ b.length ≠ 32 → ∀ w, Calls Tryd.prog 24 #[.string (S a), .string (S s), .string (S b)] w (RetV (.tuple #[.string ⟨#[]⟩, .int .i64 60]) w)
end Go.Proofs.YtgnblaaldpniiaaDoor
end
section
set_option linter.unusedSimpArgs false
set_option linter.unusedVariables false
set_option maxRecDepth 100000
namespace Go.Proofs.YtgnblaaldpniiaaDoor
open Go.RowKit
theorem fAdd (x y : Nat) (hx : x < pF) (hy : y < pF) (w : World) : Calls Tryd.prog 57 #[.string (S (leB x)), .string (S (leB y))] w (RetV (.tuple #[.string (S (leB (ad x y))), .int .i64 0]) w) := addE x y hx hy w
theorem fSub (x y : Nat) (hx : x < pF) (hy : y < pF) (w : World) : Calls Tryd.prog 58 #[.string (S (leB x)), .string (S (leB y))] w (RetV (.tuple #[.string (S (leB (sb x y))), .int .i64 0]) w) := subE x y hx hy w
theorem fMul (x y : Nat) (hx : x < pF) (hy : y < pF) (w : World) : Calls Tryd.prog 56 #[.string (S (leB x)), .string (S (leB y))] w (RetV (.tuple #[.string (S (leB (ml x y))), .int .i64 0]) w) := mulE x y hx hy w
theorem fInv (x : Nat) (hx : x < pF) (w : World) : Calls Tryd.prog 59 #[.string (S (leB x))] w (RetV (.tuple #[.string (S (leB (fi x))), .int .i64 0]) w) := by
  have h := invE x hx w
  exact h
theorem fRoot (q : Nat) (hq : q < pF) (hs : cand q * cand q % pF = q) (w : World) : Calls Tryd.prog 69 #[.string (S (leB q))] w (RetV (.tuple #[.string (S (leB (evenN (cand q)))), .bool true, .int .i64 0]) w) := rootE q hq hs w
theorem fRoot_no (q : Nat) (hq : q < pF) (hs : ¬ cand q * cand q % pF = q) (w : World) : Calls Tryd.prog 69 #[.string (S (leB q))] w (RetV (.tuple #[.string ⟨#[]⟩, .bool false, .int .i64 0]) w) := rootE_no q hq hs w
theorem fIs (l : List UInt8) (w : World) : Calls Tryd.prog 39 #[.string (S l)] w (RetV (.bool (isEl l)) w) := is_any l w
theorem top_div (l : List UInt8) (hl : l.length = 32) : numB l / tt = (l.getD 31 0).toNat / 128 := by
  have hd : (l.getD 31 0).toNat = numB l / 256 ^ 31 % 256 := digit_at l 31 (by omega)
  have hnl := numB_lt l hl
  have h31 : numB l / 256 ^ 31 < 256 := Nat.div_lt_of_lt_mul (Nat.lt_of_lt_of_le hnl (by decide +kernel))
  rw [Nat.mod_eq_of_lt h31] at hd
  rw [tt_eq, Nat.mul_comm, ← Nat.div_div_eq_div_mul, hd]
theorem low_num (l : List UInt8) (hl : l.length = 32) (c : UInt8) (hc : c.toNat = (l.getD 31 0).toNat % 128) : numB (l.set 31 c) = numB l % tt := by
  have hset := numB_set l 31 c (by omega)
  have hq := top_div l hl
  have hmod := Nat.div_add_mod (numB l) tt
  have hdm := Nat.div_add_mod (l.getD 31 0).toNat 128
  rw [← hc, ← hq] at hdm
  rw [← hdm, Nat.add_mul] at hset
  have e : 128 * (numB l / tt) * 256 ^ 31 = tt * (numB l / tt) := by rw [tt_eq]; ac_rfl
  rw [e] at hset
  omega
theorem low_len (l : List UInt8) (hl : l.length = 32) (c : UInt8) : (l.set 31 c).length = 32 := by rw [List.length_set, hl]
theorem dec_by (l : List UInt8) (hl : l.length = 32) (c : UInt8) (hc : c.toNat = (l.getD 31 0).toNat % 128) (y : Nat) (hy : numB (l.set 31 c) = y) (o : Nat) (ho : (l.getD 31 0).toNat / 128 = o) :
    dec l = if y < pF then (if cand (sqY y) * cand (sqY y) % pF = sqY y then (if o = 0 then some ⟨evenN (cand (sqY y)), y⟩ else if evenN (cand (sqY y)) = 0 then none else some ⟨sb 0 (evenN (cand (sqY y))), y⟩) else none) else none := by
  rw [low_num l hl c hc] at hy
  rw [← top_div l hl] at ho
  unfold dec
  rw [if_pos hl, hy, ho]
end Go.Proofs.YtgnblaaldpniiaaDoor
end
