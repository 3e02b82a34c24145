/- Identities of polynomials modulo 2^255 - 19, of points' coordinates, by reckoning: an expression is brought to a normal form, by the curve's equation too; if nothing is left, it is 0. Numbers only, no program is spoken of.
The field of 2^255 - 19 elements, by whole numbers modulo p: no divisors of nought, inverses; d is no square. Numbers only, no program is spoken of.
The points of edwards25519 are a group: sums have no exceptions, are points, may be turned about and put together otherwise. Numbers only, no program is spoken of.
The group of the points of edwards25519: points as pairs of numbers below p. Numbers only, no program is spoken of.
Multiples of points of edwards25519. Numbers only, no program is spoken of. -/
import Derived.Test.YtgnblaaldpniiaaGreatDoorZA1
section
set_option linter.unusedVariables false
set_option maxRecDepth 100000
set_option linter.unusedSimpArgs false
namespace Go.Proofs.YtgnblaaldpniiaaGreatDoor
def M (a b : Int) : Prop := a % (pF : Int) = b % (pF : Int)
theorem M.refl (a : Int) : M a a := rfl
theorem M.of_eq {a b : Int} (h : a = b) : M a b := by rw [h]; rfl
theorem M.symm {a b : Int} (h : M a b) : M b a := Eq.symm h
theorem M.trans {a b c : Int} (h : M a b) (k : M b c) : M a c := Eq.trans h k
theorem M.add {a b c d : Int} (h : M a b) (k : M c d) : M (a + c) (b + d) := by
  unfold M at *
  rw [Int.add_emod, h, k, ← Int.add_emod]
theorem M.mul {a b c d : Int} (h : M a b) (k : M c d) : M (a * c) (b * d) := by
  unfold M at *
  rw [Int.mul_emod, h, k, ← Int.mul_emod]
theorem M.sub {a b c d : Int} (h : M a b) (k : M c d) : M (a - c) (b - d) := by
  unfold M at *
  rw [Int.sub_emod, h, k, ← Int.sub_emod]
theorem M.mod (c : Nat) : M ((c % pF : Nat) : Int) (c : Int) := by
  unfold M
  rw [Int.natCast_emod, Int.emod_emod_of_dvd _ (Int.dvd_refl _)]
def dF : Nat := 37095705934669439343138083508754565189542113879843219016388785533085940283555
def eD : Nat := 29203323570479832313932222820853031755424015489030106335172286495629888845891
abbrev Poly := List (List Nat × Nat)
def mono : List Int → List Nat → Int
  | x :: env, e :: es => x ^ e * mono env es
  | _, _ => 1
def ev (env : List Int) : Poly → Int
  | [] => 0
  | (es, c) :: r => (c : Int) * mono env es + ev env r
theorem mono_nil (env : List Int) : mono env [] = 1 := by cases env <;> rfl
def eqL : List Nat → List Nat → Bool
  | [], [] => true
  | a :: as1, b :: bs => bif Nat.beq a b then eqL as1 bs else false
  | _, _ => false
def ltL : List Nat → List Nat → Bool
  | a :: as1, b :: bs => bif Nat.beq a b then ltL as1 bs else Nat.blt a b
  | _, _ => false
theorem eqL_eq : ∀ (a b : List Nat), eqL a b = true → a = b
  | [], [], _ => rfl
  | [], _ :: _, h => by simp [eqL] at h
  | _ :: _, [], h => by simp [eqL] at h
  | a :: as1, b :: bs, h => by
    rw [eqL] at h
    cases hb : Nat.beq a b with
    | false => rw [hb] at h; simp at h
    | true =>
      rw [hb] at h
      rw [Nat.eq_of_beq_eq_true hb, eqL_eq as1 bs h]
def ins (es : List Nat) (c : Nat) : Poly → Poly
  | [] => [(es, c)]
  | (fs, b) :: r => bif eqL es fs then (bif Nat.beq ((c + b) % pF) 0 then r else (fs, (c + b) % pF) :: r) else bif ltL es fs then (fs, b) :: ins es c r else (es, c) :: (fs, b) :: r
theorem ins_ev (env : List Int) (es : List Nat) (c : Nat) : ∀ P : Poly, M (ev env (ins es c P)) ((c : Int) * mono env es + ev env P)
  | [] => .refl _
  | (fs, b) :: r => by
    rw [ins]
    cases he : eqL es fs with
    | true =>
      obtain rfl := eqL_eq es fs he
      have hs : M (((c + b) % pF : Nat) * mono env es + ev env r) ((c : Int) * mono env es + ((b : Int) * mono env es + ev env r)) := by
        refine M.trans (((M.mod (c + b)).mul (.refl _)).add (.refl _)) (.of_eq ?_)
        rw [Int.natCast_add, Int.add_mul, Int.add_assoc]
      cases hz : Nat.beq ((c + b) % pF) 0 with
      | true =>
        rw [Nat.eq_of_beq_eq_true hz] at hs
        rw [show (((0 : Nat) : Int)) = 0 from rfl, Int.zero_mul, Int.zero_add] at hs
        exact hs
      | false => exact hs
    | false =>
      cases hl : ltL es fs with
      | true =>
        show M ((b : Int) * mono env fs + ev env (ins es c r)) _
        refine ((M.refl _).add (ins_ev env es c r)).trans (.of_eq ?_)
        rw [ev]
        omega
      | false => exact .refl _
def addAll : Poly → Poly → Poly
  | [], acc => acc
  | (es, c) :: r, acc => addAll r (ins es c acc)
theorem addAll_ev (env : List Int) : ∀ (P acc : Poly), M (ev env (addAll P acc)) (ev env P + ev env acc)
  | [], acc => .of_eq (by rw [addAll, ev, Int.zero_add])
  | (es, c) :: r, acc => by
    rw [addAll, ev]
    refine (addAll_ev env r _).trans (((M.refl _).add (ins_ev env es c acc)).trans (.of_eq ?_))
    omega
def zipAdd : List Nat → List Nat → List Nat
  | a :: as1, b :: bs => (a + b) :: zipAdd as1 bs
  | [], bs => bs
  | as1, [] => as1
theorem zipAdd_mono : ∀ (env : List Int) (es fs : List Nat), mono env (zipAdd es fs) = mono env es * mono env fs
  | env, [], fs => by rw [zipAdd, mono_nil, Int.one_mul]
  | env, e :: es, [] => by rw [zipAdd, mono_nil, Int.mul_one]; simp
  | [], e :: es, f :: fs => rfl
  | x :: env, e :: es, f :: fs => by
    rw [zipAdd, mono, mono, mono, zipAdd_mono env es fs, Int.pow_add]
    rw [Int.mul_assoc, Int.mul_assoc, Int.mul_left_comm (x ^ f)]
def scl (q : Nat) : List (Nat × Nat × Nat) → List (Nat × Nat × Nat)
  | [] => []
  | (a, b, c) :: r => (a, b, c * q % pF) :: scl q r
def pr : Nat → Nat → Nat → List (Nat × Nat × Nat)
  | 0, a, b => [(a, b, 1)]
  | f + 1, a, b => bif Nat.ble 2 a && Nat.ble 2 b then scl eD (pr f (a - 2) b) ++ scl (pF - eD) (pr f a (b - 2)) ++ scl (pF - eD) (pr f (a - 2) (b - 2)) else [(a, b, 1)]
def evp (x y : Int) : List (Nat × Nat × Nat) → Int
  | [] => 0
  | (a, b, c) :: r => (c : Int) * (x ^ a * y ^ b) + evp x y r
theorem evp_append (x y : Int) : ∀ P Q, evp x y (P ++ Q) = evp x y P + evp x y Q
  | [], Q => by rw [List.nil_append, evp, Int.zero_add]
  | (a, b, c) :: r, Q => by rw [List.cons_append, evp, evp, evp_append x y r Q, Int.add_assoc]
theorem scl_ev (x y : Int) (q : Nat) : ∀ P, M (evp x y (scl q P)) ((q : Int) * evp x y P)
  | [] => .of_eq (by rw [scl, evp, Int.mul_zero])
  | (a, b, c) :: r => by
    rw [scl, evp, evp]
    refine (((M.mod (c * q)).mul (.refl _)).add (scl_ev x y q r)).trans (.of_eq ?_)
    rw [Int.natCast_mul, Int.mul_add, Int.mul_comm (c : Int) (q : Int), Int.mul_assoc]
def Rule (x y : Int) : Prop := M (x * x * (y * y)) ((eD : Int) * (y * y - x * x - 1))
theorem neg_eD : M ((pF - eD : Nat) : Int) (-(eD : Int)) := by unfold M; decide +kernel
theorem pow_two (x : Int) : x ^ 2 = x * x := by rw [Int.pow_succ, Int.pow_succ, Int.pow_zero, Int.one_mul]
theorem pr_ev {x y : Int} (h : Rule x y) : ∀ (f a b : Nat), M (evp x y (pr f a b)) (x ^ a * y ^ b)
  | 0, a, b => .of_eq (by rw [pr, evp, evp]; simp)
  | f + 1, a, b => by
    rw [pr]
    cases hb : (Nat.ble 2 a && Nat.ble 2 b) with
    | false => exact .of_eq (by show evp x y [(a, b, 1)] = _; rw [evp, evp]; simp)
    | true =>
      rw [Bool.and_eq_true] at hb
      obtain ⟨a, rfl⟩ : ∃ k, a = k + 2 := ⟨a - 2, by have := Nat.le_of_ble_eq_true hb.1; omega⟩
      obtain ⟨b, rfl⟩ : ∃ k, b = k + 2 := ⟨b - 2, by have := Nat.le_of_ble_eq_true hb.2; omega⟩
      show M (evp x y (scl eD (pr f a (b + 2)) ++ scl (pF - eD) (pr f (a + 2) b) ++ scl (pF - eD) (pr f a b))) _
      rw [evp_append, evp_append]
      have s1 := (scl_ev x y eD (pr f a (b + 2))).trans ((M.refl _).mul (pr_ev h f a (b + 2)))
      have s2 := (scl_ev x y (pF - eD) (pr f (a + 2) b)).trans (neg_eD.mul (pr_ev h f (a + 2) b))
      have s3 := (scl_ev x y (pF - eD) (pr f a b)).trans (neg_eD.mul (pr_ev h f a b))
      refine ((s1.add s2).add s3).trans (M.symm ?_)
      have e0 : x ^ (a + 2) * y ^ (b + 2) = x ^ a * y ^ b * (x * x * (y * y)) := by
        rw [Int.pow_add, Int.pow_add, pow_two, pow_two]
        ac_rfl
      rw [e0]
      refine ((M.refl _).mul h).trans (.of_eq ?_)
      rw [Int.pow_add, Int.pow_add, pow_two, pow_two]
      have e1 : x ^ a * (y ^ b * (y * y)) = x ^ a * y ^ b * (y * y) := (Int.mul_assoc _ _ _).symm
      have e2 : x ^ a * (x * x) * y ^ b = x ^ a * y ^ b * (x * x) := by rw [Int.mul_assoc, Int.mul_comm (x * x), ← Int.mul_assoc]
      rw [e1, e2]
      generalize x ^ a * y ^ b = m
      rw [Int.mul_left_comm m, Int.mul_sub, Int.mul_sub, Int.mul_one, Int.mul_sub, Int.mul_sub, Int.neg_mul, Int.neg_mul]
      omega
def put2 (a b q : Nat) : Poly → Poly
  | [] => []
  | (es, c) :: r => (a :: b :: es, c * q % pF) :: put2 a b q r
def spread (P : Poly) : List (Nat × Nat × Nat) → Poly
  | [] => []
  | (a, b, q) :: r => put2 a b q P ++ spread P r
def expand : Nat → List Nat → Nat → Poly
  | k + 1, a :: b :: es, c => spread (expand k es c) (pr 8 a b)
  | _, es, c => [(es, c)]
def Rules : Nat → List Int → Prop
  | k + 1, x :: y :: env => Rule x y ∧ Rules k env
  | _, _ => True
theorem ev_append (env : List Int) : ∀ P Q : Poly, ev env (P ++ Q) = ev env P + ev env Q
  | [], Q => by rw [List.nil_append, ev, Int.zero_add]
  | (es, c) :: r, Q => by rw [List.cons_append, ev, ev, ev_append env r Q, Int.add_assoc]
theorem put2_ev (x y : Int) (env : List Int) (a b q : Nat) : ∀ P : Poly, M (ev (x :: y :: env) (put2 a b q P)) ((q : Int) * (x ^ a * y ^ b) * ev env P)
  | [] => .of_eq (by rw [put2, ev, ev, Int.mul_zero])
  | (es, c) :: r => by
    rw [put2, ev, ev, mono, mono]
    refine (((M.mod (c * q)).mul (.refl _)).add (put2_ev x y env a b q r)).trans (.of_eq ?_)
    rw [Int.natCast_mul, Int.mul_add]
    congr 1
    ac_rfl
theorem spread_ev (x y : Int) (env : List Int) (P : Poly) : ∀ L, M (ev (x :: y :: env) (spread P L)) (evp x y L * ev env P)
  | [] => .of_eq (by rw [spread, ev, evp, Int.zero_mul])
  | (a, b, q) :: r => by
    rw [spread, ev_append, evp, Int.add_mul]
    exact (put2_ev x y env a b q P).add (spread_ev x y env P r)
theorem one_ev (env : List Int) (es : List Nat) (c : Nat) : ev env [(es, c)] = (c : Int) * mono env es := by rw [ev, ev, Int.add_zero]
theorem expand_ev : ∀ (k : Nat) (env : List Int) (es : List Nat) (c : Nat), 2 * k ≤ env.length → Rules k env → M (ev env (expand k es c)) ((c : Int) * mono env es)
  | 0, env, es, c, _, _ => .of_eq (by rw [expand, one_ev]; intros; simp_all)
  | k + 1, env, [], c, _, _ => .of_eq (by rw [expand, one_ev]; intros; simp_all)
  | k + 1, env, [a], c, _, _ => .of_eq (by rw [expand, one_ev]; intros; simp_all)
  | k + 1, [], _ :: _ :: _, _, hl, _ => by rw [List.length_nil] at hl; omega
  | k + 1, [_], _ :: _ :: _, _, hl, _ => by rw [List.length_cons, List.length_nil] at hl; omega
  | k + 1, x :: y :: env, a :: b :: es, c, hl, h => by
    rw [expand]
    refine (spread_ev x y env _ _).trans (((pr_ev h.1 8 a b).mul (expand_ev k env es c (by simp at hl; omega) h.2)).trans (.of_eq ?_))
    rw [mono, mono, ← Int.mul_assoc (x ^ a)]
    generalize x ^ a * y ^ b = m
    rw [Int.mul_left_comm]
def mul1 (k : Nat) (es : List Nat) (c : Nat) : Poly → Poly → Poly
  | [], acc => acc
  | (fs, b) :: r, acc => mul1 k es c r (addAll (expand k (zipAdd es fs) (c * b % pF)) acc)
def mulP (k : Nat) (Q : Poly) : Poly → Poly → Poly
  | [], acc => acc
  | (es, c) :: r, acc => mulP k Q r (mul1 k es c Q acc)
theorem mul1_ev {k : Nat} {env : List Int} (hl : 2 * k ≤ env.length) (h : Rules k env) (es : List Nat) (c : Nat) : ∀ (Q acc : Poly), M (ev env (mul1 k es c Q acc)) ((c : Int) * mono env es * ev env Q + ev env acc)
  | [], acc => .of_eq (by rw [mul1, ev, Int.mul_zero, Int.zero_add])
  | (fs, b) :: r, acc => by
    rw [mul1, ev]
    have e := (addAll_ev env (expand k (zipAdd es fs) (c * b % pF)) acc).trans ((((expand_ev k env _ _ hl h).trans ((M.mod (c * b)).mul (.refl _)))).add (.refl _))
    refine (mul1_ev hl h es c r _).trans (((M.refl _).add e).trans (.of_eq ?_))
    rw [zipAdd_mono, Int.natCast_mul, Int.mul_add]
    have e2 : (c : Int) * (b : Int) * (mono env es * mono env fs) = (c : Int) * mono env es * ((b : Int) * mono env fs) := by
      rw [Int.mul_assoc, Int.mul_assoc, Int.mul_left_comm (b : Int)]
    rw [e2]
    omega
theorem mulP_ev {k : Nat} {env : List Int} (hl : 2 * k ≤ env.length) (h : Rules k env) (Q : Poly) : ∀ (P acc : Poly), M (ev env (mulP k Q P acc)) (ev env P * ev env Q + ev env acc)
  | [], acc => .of_eq (by rw [mulP, ev, Int.zero_mul, Int.zero_add])
  | (es, c) :: r, acc => by
    rw [mulP, ev]
    refine (mulP_ev hl h Q r _).trans (((M.refl _).add (mul1_ev hl h es c Q acc)).trans (.of_eq ?_))
    rw [Int.add_mul]
    omega
def negP : Poly → Poly
  | [] => []
  | (es, c) :: r => (es, c * (pF - 1) % pF) :: negP r
theorem m1_int : M ((pF - 1 : Nat) : Int) (-1) := by unfold M; decide +kernel
theorem negP_ev (env : List Int) : ∀ P : Poly, M (ev env (negP P)) (-(ev env P))
  | [] => .of_eq (by rw [negP, ev, Int.neg_zero])
  | (es, c) :: r => by
    rw [negP, ev, ev]
    refine ((((M.mod (c * (pF - 1))).trans (.of_eq (Int.natCast_mul _ _))).trans ((M.refl _).mul m1_int)).mul (.refl (mono env es))).add (negP_ev env r) |>.trans (.of_eq ?_)
    rw [Int.mul_neg, Int.mul_one, Int.neg_mul]
    omega
inductive Ex where
  | num (z : Int)
  | v (i : Nat)
  | add (a b : Ex)
  | sub (a b : Ex)
  | mul (a b : Ex)
def look : List Int → Nat → Int
  | [], _ => 1
  | x :: _, 0 => x
  | _ :: r, i + 1 => look r i
def den (env : List Int) : Ex → Int
  | .num z => z
  | .v i => look env i
  | .add a b => den env a + den env b
  | .sub a b => den env a - den env b
  | .mul a b => den env a * den env b
def zeros : Nat → List Nat
  | 0 => []
  | n + 1 => 0 :: zeros n
def unitV : Nat → Nat → List Nat
  | 0, n + 1 => 1 :: zeros n
  | i + 1, n + 1 => 0 :: unitV i n
  | _, 0 => []
theorem zeros_mono : ∀ (env : List Int) (n : Nat), mono env (zeros n) = 1
  | env, 0 => mono_nil env
  | [], n + 1 => rfl
  | x :: env, n + 1 => by rw [zeros, mono, Int.pow_zero, Int.one_mul, zeros_mono]
theorem unitV_mono : ∀ (env : List Int) (i : Nat), mono env (unitV i env.length) = look env i
  | [], i => by cases i <;> rfl
  | x :: env, 0 => by rw [List.length_cons, unitV, mono, zeros_mono, Int.mul_one, look, Int.pow_succ, Int.pow_zero, Int.one_mul]
  | x :: env, i + 1 => by rw [List.length_cons, unitV, mono, Int.pow_zero, Int.one_mul, unitV_mono, look]
def norm (k n : Nat) : Ex → Poly
  | .num z => [(zeros n, (z % (pF : Int)).toNat)]
  | .v i => [(unitV i n, 1)]
  | .add a b => addAll (norm k n a) (norm k n b)
  | .sub a b => addAll (negP (norm k n b)) (norm k n a)
  | .mul a b => mulP k (norm k n b) (norm k n a) []
theorem norm_ev {k : Nat} {env : List Int} (hl : 2 * k ≤ env.length) (h : Rules k env) : ∀ e : Ex, M (ev env (norm k env.length e)) (den env e)
  | .num z => by
    rw [norm, one_ev, zeros_mono, Int.mul_one, den]
    unfold M
    have hp : (0 : Int) < pF := by decide +kernel
    rw [Int.toNat_of_nonneg (Int.emod_nonneg _ (by omega)), Int.emod_emod_of_dvd _ (Int.dvd_refl _)]
  | .v i => .of_eq (by rw [norm, one_ev, unitV_mono, den]; simp)
  | .add a b => (addAll_ev env _ _).trans ((norm_ev hl h a).add (norm_ev hl h b))
  | .sub a b => by
    rw [norm, den]
    refine (addAll_ev env _ _).trans ((((negP_ev env _).add (.refl _))).trans ?_)
    refine ((M.of_eq ?_).trans ((norm_ev hl h a).sub (norm_ev hl h b)))
    omega
  | .mul a b => by
    rw [norm, den]
    refine (mulP_ev hl h _ _ _).trans ((M.of_eq (by rw [ev, Int.add_zero])).trans ((norm_ev hl h a).mul (norm_ev hl h b)))
theorem reckon (k n : Nat) (env : List Int) (e : Ex) (hn : env.length = n) (hk : 2 * k ≤ n) (h : Rules k env) (hz : (norm k n e).isEmpty = true) : M (den env e) 0 := by
  subst hn
  have h2 := norm_ev hk h e
  have h3 : norm k env.length e = [] := List.isEmpty_iff.1 hz
  rw [h3] at h2
  exact h2.symm
end Go.Proofs.YtgnblaaldpniiaaGreatDoor
end
section
set_option linter.unusedVariables false
set_option maxRecDepth 100000
set_option linter.unusedSimpArgs false
namespace Go.Proofs.YtgnblaaldpniiaaGreatDoor
theorem M_zero {a : Int} : M a 0 ↔ (pF : Int) ∣ a := by
  unfold M
  rw [Int.zero_emod]
  exact ⟨Int.dvd_of_emod_eq_zero, Int.emod_eq_zero_of_dvd⟩
theorem M_sub {a b : Int} : M (a - b) 0 ↔ M a b := by
  constructor
  · intro h
    have h2 := h.add (M.refl b)
    rw [Int.sub_add_cancel, Int.zero_add] at h2
    exact h2
  · intro h
    have h2 := h.sub (M.refl b)
    rw [Int.sub_self] at h2
    exact h2
theorem dvd_abs {m : Nat} {z : Int} : (m : Int) ∣ z ↔ m ∣ z.natAbs := by
  rw [← Int.natAbs_dvd_natAbs, Int.natAbs_natCast]
theorem M.split {a b : Int} (h : M (a * b) 0) : M a 0 ∨ M b 0 := by
  rw [M_zero, dvd_abs, Int.natAbs_mul] at h
  rw [M_zero, M_zero, dvd_abs, dvd_abs]
  exact pr_p.dvd_mul h
theorem M.zero_mul {a : Int} (b : Int) (h : M a 0) : M (a * b) 0 := by
  have h2 := h.mul (M.refl b)
  rw [Int.zero_mul] at h2
  exact h2
theorem M.mul_zero (a : Int) {b : Int} (h : M b 0) : M (a * b) 0 := by
  have h2 := (M.refl a).mul h
  rw [Int.mul_zero] at h2
  exact h2
theorem M.nz {a b : Int} (ha : ¬ M a 0) (hb : ¬ M b 0) : ¬ M (a * b) 0 := fun h => h.split.elim ha hb
theorem M.cancel {a b c : Int} (h : M (a * c) (b * c)) (hc : ¬ M c 0) : M a b := by
  rw [← M_sub, ← Int.sub_mul] at h
  exact M_sub.1 (h.split.resolve_right hc)
theorem nat_M {a b : Nat} (ha : a < pF) (hb : b < pF) (h : M a b) : a = b := by
  unfold M at h
  rw [← Int.natCast_emod, ← Int.natCast_emod, Nat.mod_eq_of_lt ha, Nat.mod_eq_of_lt hb] at h
  exact Int.ofNat.inj h
theorem M_nat {a b : Nat} : M (a : Int) (b : Int) ↔ a % pF = b % pF := by
  unfold M
  rw [← Int.natCast_emod, ← Int.natCast_emod]
  exact ⟨fun h => Int.ofNat.inj h, fun h => by rw [h]⟩
theorem one_nz : ¬ M 1 0 := by unfold M; decide +kernel
theorem two_nz : ¬ M 2 0 := by unfold M; decide +kernel
def rm (z : Int) : Nat := (z % (pF : Int)).toNat
theorem pI_pos : (0 : Int) < pF := by decide +kernel
theorem rm_int (z : Int) : ((rm z : Nat) : Int) = z % (pF : Int) := Int.toNat_of_nonneg (Int.emod_nonneg _ (by have := pI_pos; omega))
theorem rm_M (z : Int) : M (rm z : Int) z := by
  rw [rm_int]
  unfold M
  rw [Int.emod_emod_of_dvd _ (Int.dvd_refl _)]
theorem rm_lt (z : Int) : rm z < pF := by
  have h := Int.emod_lt_of_pos z pI_pos
  rw [← rm_int] at h
  omega
theorem rm_dvd {z : Int} (h : pF ∣ rm z) : M z 0 := (rm_M z).symm.trans (M_zero.2 (Int.natCast_dvd_natCast.2 h))
def hP : Nat := 28948022309329048855892746252171976963317496166410141009864396001978282409974
theorem hP_two : 2 * hP = pF - 1 := by decide +kernel
theorem d_euler : dF ^ hP % pF = pF - 1 := by
  rw [← pm_eq pF 256 dF hP (by decide +kernel)]
  decide +kernel
theorem d_nonsq {z w : Int} (h : M (z * z) ((dF : Int) * (w * w))) : M w 0 := by
  apply Classical.byContradiction
  intro hw
  have hz2 : M ((rm z * rm z : Nat) : Int) ((dF * (rm w * rm w) : Nat) : Int) := by
    rw [Int.natCast_mul, Int.natCast_mul, Int.natCast_mul]
    exact ((rm_M z).mul (rm_M z)).trans (h.trans ((M.refl _).mul ((rm_M w).mul (rm_M w))).symm)
  rw [M_nat] at hz2
  have hwn : ¬ pF ∣ rm w := fun hd => hw (rm_dvd hd)
  have lw := pr_p.little hwn
  have hp : (rm z * rm z) ^ hP % pF = (dF * (rm w * rm w)) ^ hP % pF := by rw [Nat.pow_mod, hz2, ← Nat.pow_mod]
  have two : ∀ k : Nat, (k * k) ^ hP = k ^ (pF - 1) := fun k => by rw [← hP_two, Nat.pow_mul, Nat.pow_two]
  rw [two (rm z), Nat.mul_pow dF, two (rm w), Nat.mul_mod, d_euler, lw] at hp
  have big : 2 < pF := by decide +kernel
  rw [Nat.mul_one, Nat.mod_eq_of_lt (show pF - 1 < pF by omega)] at hp
  by_cases hz : pF ∣ rm z
  · obtain ⟨c, hc⟩ := hz
    have e : rm z ^ (pF - 1) % pF = 0 := by
      rw [hc, show pF - 1 = (pF - 2) + 1 by omega, Nat.pow_succ, Nat.mul_comm _ (pF * c), Nat.mul_assoc]
      exact Nat.mul_mod_right _ _
    omega
  · have lz := pr_p.little hz
    omega
def fi (a : Nat) : Nat := a ^ (pF - 2) % pF
theorem fi_lt (a : Nat) : fi a < pF := Nat.mod_lt _ (by decide +kernel)
theorem fi_mul {a : Nat} (h : ¬ M a 0) : M ((fi a : Int) * a) 1 := by
  have hd : ¬ pF ∣ a := fun hd => h (M_zero.2 (Int.natCast_dvd_natCast.2 hd))
  have hl := pr_p.little hd
  have big : 2 < pF := by decide +kernel
  have e : ((fi a : Int) * a) = ((fi a * a : Nat) : Int) := (Int.natCast_mul _ _).symm
  rw [e, show (1 : Int) = ((1 : Nat) : Int) from rfl, M_nat]
  unfold fi
  rw [Nat.mod_mul_mod, ← Nat.pow_succ, show (pF - 2).succ = pF - 1 by omega, hl, Nat.mod_eq_of_lt (by omega)]
def iM : Nat := 19681161376707505956807079304988542015446066515923890162744021073123829784752
theorem i_sqM : M ((iM : Int) * iM) (-1) := by unfold M; decide +kernel
end Go.Proofs.YtgnblaaldpniiaaGreatDoor
end
section
set_option linter.unusedVariables false
set_option maxRecDepth 100000
set_option linter.unusedSimpArgs false
namespace Go.Proofs.YtgnblaaldpniiaaGreatDoor
def Mall : List Int → List Int → Prop
  | [], [] => True
  | a :: as1, b :: bs => M a b ∧ Mall as1 bs
  | _, _ => False
theorem look_M : ∀ (env env' : List Int) (i : Nat), Mall env env' → M (look env i) (look env' i)
  | [], [], i, _ => by cases i <;> exact .refl _
  | [], _ :: _, _, h => h.elim
  | _ :: _, [], _, h => h.elim
  | a :: as1, b :: bs, 0, h => h.1
  | a :: as1, b :: bs, i + 1, h => look_M as1 bs i h.2
theorem den_M {env env' : List Int} (h : Mall env env') : ∀ e : Ex, M (den env e) (den env' e)
  | .num z => .refl _
  | .v i => look_M env env' i h
  | .add a b => (den_M h a).add (den_M h b)
  | .sub a b => (den_M h a).sub (den_M h b)
  | .mul a b => (den_M h a).mul (den_M h b)
theorem M.sub0 {a b : Int} (h : M (a - b) 0) : M a b := M_sub.1 h
def Eqn (x y : Int) : Prop := M (y * y - x * x - 1) ((dF : Int) * (x * x * (y * y)))
theorem d_eD : M ((dF : Int) * (eD : Int)) 1 := by unfold M; decide +kernel
theorem Eqn.rule {x y : Int} (h : Eqn x y) : Rule x y := by
  unfold Rule
  refine M.trans ?_ (((M.refl (eD : Int)).mul h).symm)
  refine M.trans ?_ (.of_eq (show ((dF : Int) * (eD : Int)) * (x * x * (y * y)) = (eD : Int) * ((dF : Int) * (x * x * (y * y))) by ac_rfl))
  exact (((d_eD.mul (.refl _)).trans (.of_eq (Int.one_mul _)))).symm
theorem Rule.eqn {x y : Int} (h : Rule x y) : Eqn x y := by
  unfold Eqn
  refine M.trans ?_ (((M.refl (dF : Int)).mul h).symm)
  refine M.trans ?_ (.of_eq (show ((dF : Int) * (eD : Int)) * (y * y - x * x - 1) = (dF : Int) * ((eD : Int) * (y * y - x * x - 1)) by ac_rfl))
  exact (((d_eD.mul (.refl _)).trans (.of_eq (Int.one_mul _)))).symm
def eT (a b c d : Ex) : Ex := .mul (.num dF) (.mul (.mul a c) (.mul b d))
def eU (a b c d : Ex) : Ex := .add (.num 1) (eT a b c d)
def eV (a b c d : Ex) : Ex := .sub (.num 1) (eT a b c d)
def eA (a b c d : Ex) : Ex := .add (.mul a d) (.mul c b)
def eB (a b c d : Ex) : Ex := .add (.mul b d) (.mul a c)
def tI (a b c d : Int) : Int := (dF : Int) * (a * c * (b * d))
def uI (a b c d : Int) : Int := 1 + tI a b c d
def vI (a b c d : Int) : Int := 1 - tI a b c d
def aI (a b c d : Int) : Int := a * d + c * b
def bI (a b c d : Int) : Int := b * d + a * c
def eL (s : Int) : Ex := .sub (.sub (.mul (.add (.mul (.num iM) (.v 0)) (.mul (.num s) (.v 1))) (.add (.mul (.num iM) (.v 0)) (.mul (.num s) (.v 1))))
  (.mul (.num dF) (.mul (.mul (.mul (.v 0) (.v 1)) (.add (.mul (.num iM) (.v 2)) (.v 3))) (.mul (.mul (.v 0) (.v 1)) (.add (.mul (.num iM) (.v 2)) (.v 3))))))
  (.mul (.sub (.num s) (eT (.v 0) (.v 1) (.v 2) (.v 3))) (.add (.add (.num s) (eT (.v 0) (.v 1) (.v 2) (.v 3))) (.mul (.num 2) (.mul (.num iM) (.mul (.v 0) (.v 1))))))
def eR (s : Int) : Ex := .sub (.sub (.mul (.sub (.mul (.num iM) (.v 0)) (.mul (.num s) (.v 1))) (.sub (.mul (.num iM) (.v 0)) (.mul (.num s) (.v 1))))
  (.mul (.num dF) (.mul (.mul (.mul (.v 0) (.v 1)) (.sub (.mul (.num iM) (.v 2)) (.v 3))) (.mul (.mul (.v 0) (.v 1)) (.sub (.mul (.num iM) (.v 2)) (.v 3))))))
  (.mul (.sub (.num s) (eT (.v 0) (.v 1) (.v 2) (.v 3))) (.sub (.add (.num s) (eT (.v 0) (.v 1) (.v 2) (.v 3))) (.mul (.num 2) (.mul (.num iM) (.mul (.v 0) (.v 1))))))
theorem no_unit (s : Int) (hL : (norm 2 4 (eL s)).isEmpty = true) (hR : (norm 2 4 (eR s)).isEmpty = true) (hs : ¬ M s 0) {x1 y1 x2 y2 : Int} (h1 : Rule x1 y1) (h2 : Rule x2 y2) : ¬ M (s - tI x1 y1 x2 y2) 0 := by
  intro ht
  have kL : M ((((iM : Int) * x1 + s * y1) * ((iM : Int) * x1 + s * y1) - (dF : Int) * ((x1 * y1 * ((iM : Int) * x2 + y2)) * (x1 * y1 * ((iM : Int) * x2 + y2)))) - (s - tI x1 y1 x2 y2) * (s + tI x1 y1 x2 y2 + 2 * ((iM : Int) * (x1 * y1)))) 0 :=
    reckon 2 4 [x1, y1, x2, y2] (eL s) rfl (by decide) ⟨h1, h2, trivial⟩ hL
  have kR : M ((((iM : Int) * x1 - s * y1) * ((iM : Int) * x1 - s * y1) - (dF : Int) * ((x1 * y1 * ((iM : Int) * x2 - y2)) * (x1 * y1 * ((iM : Int) * x2 - y2)))) - (s - tI x1 y1 x2 y2) * (s + tI x1 y1 x2 y2 - 2 * ((iM : Int) * (x1 * y1)))) 0 :=
    reckon 2 4 [x1, y1, x2, y2] (eR s) rfl (by decide) ⟨h1, h2, trivial⟩ hR
  have jL := d_nonsq (M.sub0 ((M.sub0 kL).trans (ht.zero_mul _)))
  have jR := d_nonsq (M.sub0 ((M.sub0 kR).trans (ht.zero_mul _)))
  have t0 : ¬ M (tI x1 y1 x2 y2) 0 := fun h => hs ((M.sub0 ht).trans h)
  rcases jL.split with h | h
  · refine t0 ?_
    rw [show tI x1 y1 x2 y2 = x1 * y1 * ((dF : Int) * (x2 * y2)) by unfold tI; ac_rfl]
    exact h.zero_mul _
  · rcases jR.split with h' | h'
    · refine t0 ?_
      rw [show tI x1 y1 x2 y2 = x1 * y1 * ((dF : Int) * (x2 * y2)) by unfold tI; ac_rfl]
      exact h'.zero_mul _
    · have h3 := h.sub h'
      rw [show (iM : Int) * x2 + y2 - ((iM : Int) * x2 - y2) = 2 * y2 by omega, Int.sub_zero] at h3
      refine t0 ?_
      rw [show tI x1 y1 x2 y2 = y2 * ((dF : Int) * (x1 * x2 * y1)) by unfold tI; ac_rfl]
      exact (h3.split.resolve_left two_nz).zero_mul _
theorem m1_nz : ¬ M (-1) 0 := by unfold M; decide +kernel
theorem v_nz {x1 y1 x2 y2 : Int} (h1 : Rule x1 y1) (h2 : Rule x2 y2) : ¬ M (vI x1 y1 x2 y2) 0 :=
  no_unit 1 (by decide +kernel) (by decide +kernel) one_nz h1 h2
theorem u_nz {x1 y1 x2 y2 : Int} (h1 : Rule x1 y1) (h2 : Rule x2 y2) : ¬ M (uI x1 y1 x2 y2) 0 := by
  intro h
  refine no_unit (-1) (by decide +kernel) (by decide +kernel) m1_nz h1 h2 ?_
  have h3 := (M.refl (0 : Int)).sub h
  rw [Int.sub_zero] at h3
  refine (M.of_eq ?_).trans h3
  unfold uI
  omega
def eC : Ex := .sub (.sub (.sub (.mul (.mul (eB (.v 0) (.v 1) (.v 2) (.v 3)) (eB (.v 0) (.v 1) (.v 2) (.v 3))) (.mul (eU (.v 0) (.v 1) (.v 2) (.v 3)) (eU (.v 0) (.v 1) (.v 2) (.v 3))))
  (.mul (.mul (eA (.v 0) (.v 1) (.v 2) (.v 3)) (eA (.v 0) (.v 1) (.v 2) (.v 3))) (.mul (eV (.v 0) (.v 1) (.v 2) (.v 3)) (eV (.v 0) (.v 1) (.v 2) (.v 3)))))
  (.mul (.mul (eU (.v 0) (.v 1) (.v 2) (.v 3)) (eV (.v 0) (.v 1) (.v 2) (.v 3))) (.mul (eU (.v 0) (.v 1) (.v 2) (.v 3)) (eV (.v 0) (.v 1) (.v 2) (.v 3)))))
  (.mul (.num dF) (.mul (.mul (eA (.v 0) (.v 1) (.v 2) (.v 3)) (eA (.v 0) (.v 1) (.v 2) (.v 3))) (.mul (eB (.v 0) (.v 1) (.v 2) (.v 3)) (eB (.v 0) (.v 1) (.v 2) (.v 3)))))
def eG : Ex := .sub (.sub (.sub (.mul (.mul (.v 1) (.v 1)) (.mul (.v 2) (.v 2))) (.mul (.mul (.v 0) (.v 0)) (.mul (.v 3) (.v 3)))) (.mul (.mul (.v 2) (.v 3)) (.mul (.v 2) (.v 3)))) (.mul (.num dF) (.mul (.mul (.v 0) (.v 0)) (.mul (.v 1) (.v 1))))
def eG2 : Ex := .sub (.mul (.sub (.sub (.sub (.mul (.v 1) (.v 1)) (.mul (.v 0) (.v 0))) (.num 1)) (.mul (.num dF) (.mul (.mul (.v 0) (.v 0)) (.mul (.v 1) (.v 1))))) (.mul (.mul (.v 2) (.v 2)) (.mul (.v 3) (.v 3))))
  (.sub (.sub (.sub (.mul (.mul (.mul (.v 1) (.v 3)) (.mul (.v 1) (.v 3))) (.mul (.v 2) (.v 2))) (.mul (.mul (.mul (.v 0) (.v 2)) (.mul (.v 0) (.v 2))) (.mul (.v 3) (.v 3)))) (.mul (.mul (.v 2) (.v 3)) (.mul (.v 2) (.v 3)))) (.mul (.num dF) (.mul (.mul (.mul (.v 0) (.v 2)) (.mul (.v 0) (.v 2))) (.mul (.mul (.v 1) (.v 3)) (.mul (.v 1) (.v 3))))))
theorem closed {x1 y1 x2 y2 x3 y3 : Int} (h1 : Rule x1 y1) (h2 : Rule x2 y2) (hx : M (x3 * uI x1 y1 x2 y2) (aI x1 y1 x2 y2)) (hy : M (y3 * vI x1 y1 x2 y2) (bI x1 y1 x2 y2)) : Rule x3 y3 := by
  have hu := u_nz h1 h2
  have hv := v_nz h1 h2
  have c1 : M (den [aI x1 y1 x2 y2, bI x1 y1 x2 y2, uI x1 y1 x2 y2, vI x1 y1 x2 y2] eG) 0 := reckon 2 4 [x1, y1, x2, y2] eC rfl (by decide) ⟨h1, h2, trivial⟩ (by decide +kernel)
  generalize uI x1 y1 x2 y2 = u at *
  generalize vI x1 y1 x2 y2 = v at *
  have c2 : M (den [x3 * u, y3 * v, u, v] eG) 0 := (den_M (show Mall [x3 * u, y3 * v, u, v] [aI x1 y1 x2 y2, bI x1 y1 x2 y2, u, v] from ⟨hx, hy, .refl _, .refl _, trivial⟩) eG).trans c1
  have c3 : M ((y3 * y3 - x3 * x3 - 1 - (dF : Int) * (x3 * x3 * (y3 * y3))) * (u * u * (v * v)) - den [x3 * u, y3 * v, u, v] eG) 0 := reckon 0 4 [x3, y3, u, v] eG2 rfl (by decide) trivial (by decide +kernel)
  have c4 := ((M.sub0 c3).trans c2).split.resolve_right (M.nz (M.nz hu hu) (M.nz hv hv))
  exact Eqn.rule (M.sub0 c4)
end Go.Proofs.YtgnblaaldpniiaaGreatDoor
end
section
set_option linter.unusedVariables false
set_option maxRecDepth 100000
set_option linter.unusedSimpArgs false
namespace Go.Proofs.YtgnblaaldpniiaaGreatDoor
structure Pt where
  x : Nat
  y : Nat
structure OnC (P : Pt) : Prop where
  xl : P.x < pF
  yl : P.y < pF
  rule : Rule P.x P.y
theorem Pt.eq {P Q : Pt} (hP : OnC P) (hQ : OnC Q) (hx : M P.x Q.x) (hy : M P.y Q.y) : P = Q := by
  have e1 := nat_M hP.xl hQ.xl hx
  have e2 := nat_M hP.yl hQ.yl hy
  cases P
  cases Q
  simp only at e1 e2
  rw [e1, e2]
def fr (a u : Int) : Nat := rm (a * (fi (rm u) : Int))
theorem fr_lt (a u : Int) : fr a u < pF := rm_lt _
theorem fr_M {a u : Int} (hu : ¬ M u 0) : M ((fr a u : Int) * u) a := by
  have hr : ¬ M (rm u : Int) 0 := fun h => hu ((rm_M u).symm.trans h)
  have h1 : M ((fr a u : Int) * u) (a * (fi (rm u) : Int) * (rm u : Int)) := (rm_M _).mul (rm_M u).symm
  refine h1.trans ?_
  rw [Int.mul_assoc]
  exact ((M.refl a).mul (fi_mul hr)).trans (.of_eq (Int.mul_one a))
def padd (P Q : Pt) : Pt := ⟨fr (aI P.x P.y Q.x Q.y) (uI P.x P.y Q.x Q.y), fr (bI P.x P.y Q.x Q.y) (vI P.x P.y Q.x Q.y)⟩
theorem padd_x {P Q : Pt} (hP : OnC P) (hQ : OnC Q) : M ((padd P Q).x * uI P.x P.y Q.x Q.y) (aI P.x P.y Q.x Q.y) := fr_M (a := aI P.x P.y Q.x Q.y) (u_nz hP.rule hQ.rule)
theorem padd_y {P Q : Pt} (hP : OnC P) (hQ : OnC Q) : M ((padd P Q).y * vI P.x P.y Q.x Q.y) (bI P.x P.y Q.x Q.y) := fr_M (a := bI P.x P.y Q.x Q.y) (v_nz hP.rule hQ.rule)
theorem padd_on {P Q : Pt} (hP : OnC P) (hQ : OnC Q) : OnC (padd P Q) := ⟨fr_lt (aI P.x P.y Q.x Q.y) (uI P.x P.y Q.x Q.y), fr_lt (bI P.x P.y Q.x Q.y) (vI P.x P.y Q.x Q.y), closed hP.rule hQ.rule (padd_x hP hQ) (padd_y hP hQ)⟩
theorem padd_is {P Q : Pt} (hP : OnC P) (hQ : OnC Q) {x y : Nat} (hxl : x < pF) (hyl : y < pF) (hx : M ((x : Int) * uI P.x P.y Q.x Q.y) (aI P.x P.y Q.x Q.y)) (hy : M ((y : Int) * vI P.x P.y Q.x Q.y) (bI P.x P.y Q.x Q.y)) : padd P Q = ⟨x, y⟩ := by
  have e1 := nat_M (fr_lt (aI P.x P.y Q.x Q.y) (uI P.x P.y Q.x Q.y)) hxl (((padd_x hP hQ).trans hx.symm).cancel (u_nz hP.rule hQ.rule))
  have e2 := nat_M (fr_lt (bI P.x P.y Q.x Q.y) (vI P.x P.y Q.x Q.y)) hyl (((padd_y hP hQ).trans hy.symm).cancel (v_nz hP.rule hQ.rule))
  unfold padd
  rw [show fr (aI P.x P.y Q.x Q.y) (uI P.x P.y Q.x Q.y) = x from e1, show fr (bI P.x P.y Q.x Q.y) (vI P.x P.y Q.x Q.y) = y from e2]
theorem padd_comm (P Q : Pt) : padd P Q = padd Q P := by
  have e1 : aI P.x P.y Q.x Q.y = aI Q.x Q.y P.x P.y := by unfold aI; omega
  have e0 : tI P.x P.y Q.x Q.y = tI Q.x Q.y P.x P.y := by unfold tI; ac_rfl
  have e2 : bI P.x P.y Q.x Q.y = bI Q.x Q.y P.x P.y := by unfold bI; ac_rfl
  unfold padd uI vI
  rw [e1, e2, e0]
def pzero : Pt := ⟨0, 1⟩
theorem pzero_on : OnC pzero := ⟨by decide +kernel, by decide +kernel, by unfold Rule M; decide +kernel⟩
theorem padd_zero {P : Pt} (hP : OnC P) : padd P pzero = P := by
  refine padd_is hP pzero_on hP.xl hP.yl (.of_eq ?_) (.of_eq ?_)
  · unfold uI aI tI pzero; simp
  · unfold vI bI tI pzero; simp
def pneg (P : Pt) : Pt := ⟨rm (-(P.x : Int)), P.y⟩
theorem pneg_on {P : Pt} (hP : OnC P) : OnC (pneg P) := by
  refine ⟨rm_lt _, hP.yl, ?_⟩
  have h := hP.rule
  unfold Rule at h ⊢
  have e := rm_M (-(P.x : Int))
  have e2 : M ((rm (-(P.x : Int)) : Int) * (rm (-(P.x : Int)) : Int)) ((P.x : Int) * P.x) := (e.mul e).trans (.of_eq (by rw [Int.neg_mul_neg]))
  exact (e2.mul (.refl _)).trans (h.trans ((M.refl _).mul (((M.refl _).sub e2.symm).sub (.refl _))))
theorem padd_neg {P : Pt} (hP : OnC P) : padd P (pneg P) = pzero := by
  have e := rm_M (-(P.x : Int))
  have hn := pneg_on hP
  refine padd_is hP hn pzero_on.xl pzero_on.yl ?_ ?_
  · show M (((0 : Nat) : Int) * _) (aI P.x P.y (rm (-(P.x : Int))) P.y)
    unfold aI
    have h : M ((P.x : Int) * P.y + (rm (-(P.x : Int)) : Int) * P.y) ((P.x : Int) * P.y + (-(P.x : Int)) * P.y) := (M.refl _).add (e.mul (.refl _))
    refine M.trans (.of_eq ?_) h.symm
    rw [Int.neg_mul]
    omega
  · show M (((1 : Nat) : Int) * vI P.x P.y (rm (-(P.x : Int))) P.y) (bI P.x P.y (rm (-(P.x : Int))) P.y)
    have hr := hP.rule.eqn
    unfold Eqn at hr
    unfold vI bI tI
    have h1 : M (1 - (dF : Int) * ((P.x : Int) * (rm (-(P.x : Int)) : Int) * ((P.y : Int) * P.y))) (1 - (dF : Int) * ((P.x : Int) * (-(P.x : Int)) * ((P.y : Int) * P.y))) := (M.refl _).sub ((M.refl _).mul (((M.refl _).mul e).mul (.refl _)))
    have h2 : M ((P.y : Int) * P.y + (P.x : Int) * (rm (-(P.x : Int)) : Int)) ((P.y : Int) * P.y + (P.x : Int) * (-(P.x : Int))) := (M.refl _).add ((M.refl _).mul e)
    rw [show (((1 : Nat) : Int)) = 1 from rfl, Int.one_mul]
    refine h1.trans (M.trans ?_ h2.symm)
    rw [Int.mul_neg, Int.neg_mul, Int.mul_neg]
    have h3 := (hr.add (M.refl 1)).symm
    refine M.trans (.of_eq ?_) (h3.trans (.of_eq ?_)) <;> omega
def eTri1 : Ex := .sub (.mul (.add (.num 1) (.mul (.num dF) (.mul (.mul (.v 0) (.v 2)) (.mul (.v 1) (.v 3))))) (.mul (.v 4) (.v 5)))
  (.add (.mul (.v 4) (.v 5)) (.mul (.num dF) (.mul (.mul (.mul (.v 0) (.v 4)) (.mul (.v 1) (.v 5))) (.mul (.v 2) (.v 3)))))
def eTri2 : Ex := .sub (.mul (.add (.mul (.v 0) (.v 3)) (.mul (.v 2) (.v 1))) (.mul (.v 4) (.v 5)))
  (.add (.mul (.mul (.mul (.v 0) (.v 4)) (.v 3)) (.v 5)) (.mul (.mul (.v 2) (.mul (.v 1) (.v 5))) (.v 4)))
def eTri3 : Ex := .sub (.mul (.sub (.num 1) (.mul (.num dF) (.mul (.mul (.v 0) (.v 2)) (.mul (.v 1) (.v 3))))) (.mul (.v 4) (.v 5)))
  (.sub (.mul (.v 4) (.v 5)) (.mul (.num dF) (.mul (.mul (.mul (.v 0) (.v 4)) (.mul (.v 1) (.v 5))) (.mul (.v 2) (.v 3)))))
def eTri4 : Ex := .sub (.mul (.add (.mul (.v 1) (.v 3)) (.mul (.v 0) (.v 2))) (.mul (.v 4) (.v 5)))
  (.add (.mul (.mul (.mul (.v 1) (.v 5)) (.v 3)) (.v 4)) (.mul (.mul (.v 2) (.mul (.v 0) (.v 4))) (.v 5)))
def d1I (a b u v x y : Int) : Int := u * v + (dF : Int) * (a * b * (x * y))
def d2I (a b u v x y : Int) : Int := u * v - (dF : Int) * (a * b * (x * y))
def n1I (a b u v x y : Int) : Int := a * y * v + x * b * u
def n2I (a b u v x y : Int) : Int := b * y * u + x * a * v
theorem tri {x' y' x y u v a b X Y : Int} (ha : M (x' * u) a) (hb : M (y' * v) b) (hX : M (X * uI x' y' x y) (aI x' y' x y)) (hY : M (Y * vI x' y' x y) (bI x' y' x y)) :
    M (X * d1I a b u v x y) (n1I a b u v x y) ∧ M (Y * d2I a b u v x y) (n2I a b u v x y) ∧ M (uI x' y' x y * (u * v)) (d1I a b u v x y) ∧ M (vI x' y' x y * (u * v)) (d2I a b u v x y) := by
  have r1 : M (uI x' y' x y * (u * v) - d1I (x' * u) (y' * v) u v x y) 0 := reckon 0 6 [x', y', x, y, u, v] eTri1 rfl (by decide) trivial (by decide +kernel)
  have r2 : M (aI x' y' x y * (u * v) - n1I (x' * u) (y' * v) u v x y) 0 := reckon 0 6 [x', y', x, y, u, v] eTri2 rfl (by decide) trivial (by decide +kernel)
  have r3 : M (vI x' y' x y * (u * v) - d2I (x' * u) (y' * v) u v x y) 0 := reckon 0 6 [x', y', x, y, u, v] eTri3 rfl (by decide) trivial (by decide +kernel)
  have r4 : M (bI x' y' x y * (u * v) - n2I (x' * u) (y' * v) u v x y) 0 := reckon 0 6 [x', y', x, y, u, v] eTri4 rfl (by decide) trivial (by decide +kernel)
  have s1 : M (d1I (x' * u) (y' * v) u v x y) (d1I a b u v x y) := (M.refl _).add ((M.refl _).mul ((ha.mul hb).mul (.refl _)))
  have s2 : M (n1I (x' * u) (y' * v) u v x y) (n1I a b u v x y) := ((ha.mul (.refl _)).mul (.refl _)).add (((M.refl _).mul hb).mul (.refl _))
  have s3 : M (d2I (x' * u) (y' * v) u v x y) (d2I a b u v x y) := (M.refl _).sub ((M.refl _).mul ((ha.mul hb).mul (.refl _)))
  have s4 : M (n2I (x' * u) (y' * v) u v x y) (n2I a b u v x y) := ((hb.mul (.refl _)).mul (.refl _)).add (((M.refl _).mul ha).mul (.refl _))
  have q1 := (M.sub0 r1).trans s1
  have q3 := (M.sub0 r3).trans s3
  refine ⟨?_, ?_, q1, q3⟩
  · refine (((M.refl X).mul q1).symm.trans (.of_eq (Int.mul_assoc _ _ _).symm)).trans ?_
    exact (hX.mul (.refl _)).trans ((M.sub0 r2).trans s2)
  · refine (((M.refl Y).mul q3).symm.trans (.of_eq (Int.mul_assoc _ _ _).symm)).trans ?_
    exact (hY.mul (.refl _)).trans ((M.sub0 r4).trans s4)
def xD1 (a b u v x y : Ex) : Ex := .add (.mul u v) (.mul (.num dF) (.mul (.mul a b) (.mul x y)))
def xD2 (a b u v x y : Ex) : Ex := .sub (.mul u v) (.mul (.num dF) (.mul (.mul a b) (.mul x y)))
def xN1 (a b u v x y : Ex) : Ex := .add (.mul (.mul a y) v) (.mul (.mul x b) u)
def xN2 (a b u v x y : Ex) : Ex := .add (.mul (.mul b y) u) (.mul (.mul x a) v)
def w12 (f : Ex → Ex → Ex → Ex → Ex → Ex → Ex) : Ex := f (eA (.v 0) (.v 1) (.v 2) (.v 3)) (eB (.v 0) (.v 1) (.v 2) (.v 3)) (eU (.v 0) (.v 1) (.v 2) (.v 3)) (eV (.v 0) (.v 1) (.v 2) (.v 3)) (.v 4) (.v 5)
def w23 (f : Ex → Ex → Ex → Ex → Ex → Ex → Ex) : Ex := f (eA (.v 2) (.v 3) (.v 4) (.v 5)) (eB (.v 2) (.v 3) (.v 4) (.v 5)) (eU (.v 2) (.v 3) (.v 4) (.v 5)) (eV (.v 2) (.v 3) (.v 4) (.v 5)) (.v 0) (.v 1)
theorem as1 : (norm 3 6 (.sub (.mul (w12 xN1) (w23 xD1)) (.mul (w23 xN1) (w12 xD1)))).isEmpty = true := by decide +kernel
theorem as2 : (norm 3 6 (.sub (.mul (w12 xN2) (w23 xD2)) (.mul (w23 xN2) (w12 xD2)))).isEmpty = true := by decide +kernel
theorem cross {X X' N N' D D' : Int} (h : M (X * D) N) (h' : M (X' * D') N') (e : M (N * D') (N' * D)) (hD : ¬ M D 0) (hD' : ¬ M D' 0) : M X X' := by
  refine M.cancel (c := D * D') ?_ (M.nz hD hD')
  have a1 : M (X * (D * D')) (N * D') := (M.of_eq (Int.mul_assoc _ _ _).symm).trans (h.mul (.refl _))
  have a2 : M (X' * (D * D')) (N' * D) := (M.of_eq (show X' * (D * D') = X' * D' * D by ac_rfl)).trans (h'.mul (.refl _))
  exact a1.trans (e.trans a2.symm)
theorem padd_assoc {P Q R : Pt} (hP : OnC P) (hQ : OnC Q) (hR : OnC R) : padd (padd P Q) R = padd P (padd Q R) := by
  rw [padd_comm P (padd Q R)]
  have hPQ := padd_on hP hQ
  have hQR := padd_on hQ hR
  have t1 := tri (padd_x hP hQ) (padd_y hP hQ) (padd_x hPQ hR) (padd_y hPQ hR)
  have t2 := tri (padd_x hQ hR) (padd_y hQ hR) (padd_x hQR hP) (padd_y hQR hP)
  have n1 := M.nz (u_nz hPQ.rule hR.rule) (M.nz (u_nz hP.rule hQ.rule) (v_nz hP.rule hQ.rule))
  have n2 := M.nz (v_nz hPQ.rule hR.rule) (M.nz (u_nz hP.rule hQ.rule) (v_nz hP.rule hQ.rule))
  have n3 := M.nz (u_nz hQR.rule hP.rule) (M.nz (u_nz hQ.rule hR.rule) (v_nz hQ.rule hR.rule))
  have n4 := M.nz (v_nz hQR.rule hP.rule) (M.nz (u_nz hQ.rule hR.rule) (v_nz hQ.rule hR.rule))
  have rl : Rules 3 [(P.x : Int), P.y, Q.x, Q.y, R.x, R.y] := ⟨hP.rule, hQ.rule, hR.rule, trivial⟩
  have k1 : M _ 0 := reckon 3 6 [(P.x : Int), P.y, Q.x, Q.y, R.x, R.y] _ rfl (by decide) rl as1
  have k2 : M _ 0 := reckon 3 6 [(P.x : Int), P.y, Q.x, Q.y, R.x, R.y] _ rfl (by decide) rl as2
  refine Pt.eq (padd_on hPQ hR) (padd_on hQR hP) ?_ ?_
  · exact cross t1.1 t2.1 (M.sub0 k1) (fun h => n1 (t1.2.2.1.trans h)) (fun h => n3 (t2.2.2.1.trans h))
  · exact cross t1.2.1 t2.2.1 (M.sub0 k2) (fun h => n2 (t1.2.2.2.trans h)) (fun h => n4 (t2.2.2.2.trans h))
end Go.Proofs.YtgnblaaldpniiaaGreatDoor
end
section
set_option linter.unusedVariables false
set_option maxRecDepth 100000
set_option linter.unusedSimpArgs false
namespace Go.Proofs.YtgnblaaldpniiaaGreatDoor
theorem zero_padd {P : Pt} (hP : OnC P) : padd pzero P = P := by rw [padd_comm, padd_zero hP]
theorem padd_cancel {P Q R : Pt} (hP : OnC P) (hQ : OnC Q) (hR : OnC R) (h : padd P R = padd Q R) : P = Q := by
  have e : ∀ X, OnC X → padd (padd X R) (pneg R) = X := fun X hX => by rw [padd_assoc hX hR (pneg_on hR), padd_neg hR, padd_zero hX]
  rw [← e P hP, h, e Q hQ]
theorem padd_swap {P Q R S : Pt} (hP : OnC P) (hQ : OnC Q) (hR : OnC R) (hS : OnC S) : padd (padd P Q) (padd R S) = padd (padd P R) (padd Q S) := by
  rw [padd_assoc hP hQ (padd_on hR hS), ← padd_assoc hQ hR hS, padd_comm Q R, padd_assoc hR hQ hS, ← padd_assoc hP hR (padd_on hQ hS)]
def pmul : Nat → Pt → Pt
  | 0, _ => pzero
  | n + 1, P => padd (pmul n P) P
theorem pmul_on {P : Pt} (hP : OnC P) : ∀ n, OnC (pmul n P)
  | 0 => pzero_on
  | n + 1 => padd_on (pmul_on hP n) hP
theorem pmul_one {P : Pt} (hP : OnC P) : pmul 1 P = P := zero_padd hP
theorem pmul_add {P : Pt} (hP : OnC P) (m : Nat) : ∀ n, pmul (m + n) P = padd (pmul m P) (pmul n P)
  | 0 => (padd_zero (pmul_on hP m)).symm
  | n + 1 => by rw [← Nat.add_assoc, pmul, pmul, pmul_add hP m n, padd_assoc (pmul_on hP m) (pmul_on hP n) hP]
theorem pmul_pzero : ∀ n, pmul n pzero = pzero
  | 0 => rfl
  | n + 1 => by rw [pmul, pmul_pzero n, padd_zero pzero_on]
theorem pmul_padd {P Q : Pt} (hP : OnC P) (hQ : OnC Q) : ∀ n, pmul n (padd P Q) = padd (pmul n P) (pmul n Q)
  | 0 => (padd_zero pzero_on).symm
  | n + 1 => by rw [pmul, pmul, pmul, pmul_padd hP hQ n, padd_swap (pmul_on hP n) (pmul_on hQ n) hP hQ]
theorem pmul_mul {P : Pt} (hP : OnC P) (m : Nat) : ∀ n, pmul (m * n) P = pmul m (pmul n P)
  | 0 => (pmul_pzero m).symm
  | n + 1 => by rw [Nat.mul_succ, pmul_add hP, pmul_mul hP m n, pmul, pmul_padd (pmul_on hP n) hP]
theorem pmul_gcd {P : Pt} (hP : OnC P) : ∀ m n : Nat, pmul m P = pzero → pmul n P = pzero → pmul (Nat.gcd m n) P = pzero := by
  intro m n
  induction m, n using Nat.gcd.induction with
  | H0 n => intro _ h; rw [Nat.gcd_zero_left]; exact h
  | H1 m n hm ih =>
    intro h1 h2
    rw [Nat.gcd_rec]
    refine ih ?_ h1
    have e : n = m * (n / m) + n % m := (Nat.div_add_mod n m).symm
    rw [e, pmul_add hP, Nat.mul_comm, pmul_mul hP, h1, pmul_pzero, zero_padd (pmul_on hP _)] at h2
    exact h2
theorem pmul_mod {P : Pt} (hP : OnC P) {l : Nat} (hl : pmul l P = pzero) (n : Nat) : pmul (n % l) P = pmul n P := by
  conv => rhs; rw [← Nat.div_add_mod n l, pmul_add hP, Nat.mul_comm, pmul_mul hP, hl, pmul_pzero, zero_padd (pmul_on hP _)]
theorem pmul_lt_cancel {P : Pt} (hP : OnC P) {i j : Nat} (h : i ≤ j) (e : pmul i P = pmul j P) : pmul (j - i) P = pzero := by
  refine padd_cancel (pmul_on hP _) pzero_on (pmul_on hP i) ?_
  rw [← pmul_add hP, Nat.sub_add_cancel h, zero_padd (pmul_on hP i), e]
end Go.Proofs.YtgnblaaldpniiaaGreatDoor
end
