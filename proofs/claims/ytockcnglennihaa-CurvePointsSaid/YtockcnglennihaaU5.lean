/- Package curve: the four numbers of a point: sums, multiples, bytes. No walk but the last three. -/
import Derived.Test.YtockcnglennihaaU4
import Derived.Test.YtockcnglennihaaZM
set_option linter.unusedSimpArgs false
set_option linter.unusedVariables false
set_option maxRecDepth 100000
namespace Go.Proofs.Ytockcnglennihaa
open Go.RowKit
structure T4.Ok (t : T4) : Prop where
  x : t.x < pF
  y : t.y < pF
  z : t.z < pF
  t : t.t < pF
def Rep4T (t : T4) (P : Pt) : Prop := Rep4 t.x t.y t.z t.t P
theorem dadd_ok (p q : T4) : (dadd p q).Ok := ⟨ml_lt _ _, ml_lt _ _, ml_lt _ _, ml_lt _ _⟩
theorem Rep4.congr {X Y Z T X' Y' Z' T' : Int} {P : Pt} (h : Rep4 X Y Z T P) (hx : M X' X) (hy : M Y' Y) (hz : M Z' Z) (ht : M T' T) : Rep4 X' Y' Z' T' P :=
  ⟨fun h0 => h.nz (hz.symm.trans h0), (((M.refl _).mul hz).trans h.xz).trans hx.symm, (((M.refl _).mul hz).trans h.yz).trans hy.symm, (((M.refl _).mul hz).trans h.tz).trans ht.symm⟩
theorem dadd_rep {p q : T4} {P Q : Pt} (hP : OnC P) (hQ : OnC Q) (h : Rep4T p P) (k : Rep4T q Q) : Rep4T (dadd p q) (padd P Q) := by
  have hz : ¬ M ((p.z : Int) * q.z) 0 := M.nz h.nz k.nz
  have he : M ((ad (ml p.x q.y) (ml q.x p.y) : Nat) : Int) (aI P.x P.y Q.x Q.y * ((p.z : Int) * q.z)) := by
    refine (ad_M _ _).trans ((((ml_M _ _).trans (h.xz.symm.mul k.yz.symm)).add ((ml_M _ _).trans (k.xz.symm.mul h.yz.symm))).trans (.of_eq ?_))
    unfold aI
    rw [Int.add_mul]
    congr 1 <;> ac_rfl
  have hh : M ((ad (ml p.y q.y) (ml p.x q.x) : Nat) : Int) (bI P.x P.y Q.x Q.y * ((p.z : Int) * q.z)) := by
    refine (ad_M _ _).trans ((((ml_M _ _).trans (h.yz.symm.mul k.yz.symm)).add ((ml_M _ _).trans (h.xz.symm.mul k.xz.symm))).trans (.of_eq ?_))
    unfold bI
    rw [Int.add_mul]
    congr 1 <;> ac_rfl
  have hs : M ((ml p.z q.z : Nat) : Int) ((p.z : Int) * q.z) := ml_M _ _
  have hm : M ((ml dF (ml p.t q.t) : Nat) : Int) (tI P.x P.y Q.x Q.y * ((p.z : Int) * q.z)) :=
    (ml_M _ _).trans (((M.refl _).mul (ml_M _ _)).trans (add_c h.tz k.tz))
  have hf : M ((sb (ml p.z q.z) (ml dF (ml p.t q.t)) : Nat) : Int) (vI P.x P.y Q.x Q.y * ((p.z : Int) * q.z)) := by
    refine (sb_M _ _ (Nat.le_of_lt (ml_lt _ _))).trans ((hs.sub hm).trans (.of_eq ?_))
    unfold vI
    rw [Int.sub_mul, Int.one_mul]
  have hg : M ((ad (ml p.z q.z) (ml dF (ml p.t q.t)) : Nat) : Int) (uI P.x P.y Q.x Q.y * ((p.z : Int) * q.z)) := by
    refine (ad_M _ _).trans ((hs.add hm).trans (.of_eq ?_))
    unfold uI
    rw [Int.add_mul, Int.one_mul]
  exact (ext_of hP hQ hz he hf hg hh).congr (ml_M _ _) ((ml_M _ _).trans (.of_eq (Int.mul_comm _ _))) ((ml_M _ _).trans (.of_eq (Int.mul_comm _ _))) (ml_M _ _)
/-- A point's own four numbers. -/
def tof (P : Pt) : T4 := ⟨P.x, P.y, 1, ml P.x P.y⟩
theorem tof_ok {P : Pt} (hP : OnC P) : (tof P).Ok := ⟨hP.xl, hP.yl, show 1 < pF by decide +kernel, ml_lt _ _⟩
theorem tof_rep (P : Pt) : Rep4T (tof P) P := ⟨one_nz, .of_eq (Int.mul_one _), .of_eq (Int.mul_one _), (M.of_eq (Int.mul_one _)).trans (ml_M _ _).symm⟩
def tC4 (t : T4) : List Value := rC t.x t.y t.z t.t
theorem upt_some' {l : List UInt8} {P : Pt} (h : dec l = some P) : upt (dec l) = .tuple #[.agg (tC4 (tof P)).toArray, .bool true] := by rw [h]; rfl
theorem plus_T4 (p q : T4) (hp : p.Ok) (hq : q.Ok) (w : World) : Calls Try.prog 30 #[.agg (tC4 p).toArray, .agg (tC4 q).toArray] w (RetV (.agg (tC4 (dadd p q)).toArray) w) :=
  plus_pt _ _ _ _ _ _ _ _ hp.x hp.y hp.z hp.t hq.x hq.y hq.z hq.t w
theorem bytes_T4 {t : T4} {P : Pt} (ht : t.Ok) (hP : OnC P) (h : Rep4T t P) (w : World) : Calls Try.prog 31 #[.agg (tC4 t).toArray] w (RetV (.string (S (encP P))) w) := by
  have hb := pbytes_any t.x t.y t.z t.t ht.x ht.y ht.z w
  have he : encL (ml t.x (fi t.z)) (ml t.y (fi t.z)) = encP P := rep_enc (t := ⟨t.x, t.y, t.z⟩) hP ⟨h.nz, h.xz, h.yz⟩
  rw [he] at hb
  exact hb
theorem neg_T4 {P : Pt} (hP : OnC P) (w : World) : Calls Try.prog 36 #[.agg (tC4 (tof P)).toArray] w (RetV (.agg (tC4 (tof (pneg P))).toArray) w) := by
  have h := negate_pt P.x P.y 1 (ml P.x P.y) hP.xl (ml_lt _ _) w
  rw [neg_times _ _ hP.xl] at h
  rw [neg_eq hP]
  exact h
/-- Multiples by bits. -/
theorem mul_bit {P : Pt} (hP : OnC P) (m : Nat) : padd P (pmul m P) = pmul (m + 1) P := by rw [padd_comm]; rfl
theorem half_bit (n j : Nat) : n / 2 ^ j = 2 * (n / 2 ^ (j + 1)) + n / 2 ^ j % 2 := by
  rw [Nat.pow_succ, ← Nat.div_div_eq_div_mul]
  omega
end Go.Proofs.Ytockcnglennihaa
