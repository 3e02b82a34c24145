/- The document's answer for package curve: the constant d, points of elements, sums.
The document's answer for package curve: a point so many times.
The document's answer for package curve: the bytes of points. -/
import Derived.Test.YtgnblaaldpniiaaGreatDoorZM2
import Derived.Lib.ConvBytes
section
set_option linter.unusedSimpArgs false
set_option linter.unusedVariables false
set_option maxRecDepth 100000
namespace Go.Proofs.YtgnblaaldpniiaaGreatDoor
open Go.RowKit
theorem smallD (n : Nat) (h : n < 4294967296) (w : World) : Calls Tryz.prog 38 #[.int .i64 (n : Int)] w (RetV (NV n) w) := Small_any n h w
theorem timesD (x y : Nat) (hx : x < pF) (hy : y < pF) (w : World) : Calls Tryz.prog 37 #[.agg (nC x).toArray, .agg (nC y).toArray] w (RetV (.agg (nC (ml x y)).toArray) w) := Times_any x y (Nat.lt_trans hx p_big) (Nat.lt_trans hy p_big) w
theorem plusD (x y : Nat) (hx : x < pF) (hy : y < pF) (w : World) : Calls Tryz.prog 62 #[.agg (nC x).toArray, .agg (nC y).toArray] w (RetV (.agg (nC (ad x y)).toArray) w) := Plus_any x y (Nat.lt_trans hx p_big) (Nat.lt_trans hy p_big) w
theorem minusD (x y : Nat) (hx : x < pF) (hy : y < pF) (w : World) : Calls Tryz.prog 61 #[.agg (nC x).toArray, .agg (nC y).toArray] w (RetV (.agg (nC (sb x y)).toArray) w) := Minus_any x y (Nat.lt_trans hx p_big) (Nat.le_of_lt hy) w
theorem inverseD (x : Nat) (hx : x < pF) (w : World) : Calls Tryz.prog 39 #[.agg (nC x).toArray] w (RetV (.agg (nC (fi x)).toArray) w) := Inverse_any x (Nat.lt_trans hx p_big) w
theorem bytesD (x : Nat) (hx : x < pF) (w : World) : Calls Tryz.prog 36 #[.agg (nC x).toArray] w (RetV (.string (S (leB x))) w) := Bytes_any x (Nat.lt_trans hx p_big) w
theorem small_at (n : Nat) (h : n < 4294967296) (z : Int) (hz : (n : Int) = z) (w : World) : Calls Tryz.prog 38 #[.int .i64 z] w (RetV (.agg (nC n).toArray) w) := by subst hz; exact smallD n h w
theorem fi_pm (x : Nat) : fi x = pm pF 256 x (pF - 2) := (pm_eq pF 256 x (pF - 2) (by decide +kernel)).symm
theorem d_at : ml (sb 0 121665) (fi 121666) = dF := by
  rw [fi_pm]
  decide +kernel
theorem D_any (w : World) : Calls Tryz.prog 52 #[] w (RetV (.agg (nC dF).toArray) w) := by
  have H := RMem.start w
  have hd := d_at
  have s0 := Kept.mk fun w => small_at 0 (by omega) 0 rfl w
  have s1 := Kept.mk fun w => small_at 121665 (by omega) 121665 rfl w
  have s2 := Kept.mk fun w => small_at 121666 (by omega) 121666 rfl w
  have m1 := Kept.mk fun w => minusD 0 121665 (by decide +kernel) (by decide +kernel) w
  have i1 := Kept.mk fun w => inverseD 121666 (by decide +kernel) w
  have t1 := Kept.mk fun w => timesD (sb 0 121665) (fi 121666) (sb_lt _ _) (fi_lt _) w
  rw [hd] at t1
  clear hd
  generalize sb 0 121665 = a at m1 t1
  generalize fi 121666 = b at i1 t1
  generalize nC 121665 = c1 at s1 m1
  generalize nC 121666 = c2 at s2 i1
  go_enter Tryz.func52, Tryz.ntmps52
  go_wp2_with (first
    | (refine p_allocN rfl rfl (by assumption) ?_; intro g w H; try simp only [Act.put, yI, yC, yZ])
    | (refine p_storeN0 rfl _ _ rfl _ _ _ rfl rfl _ (by assumption) ?_; intro w H; try simp only [Act.put, yI, yC, yZ])
    | (go_at_call 38; with_reducible refine r_call (by assumption) (s0.out _) ?_; intro w H)
    | (go_at_call 38; with_reducible refine r_call (by assumption) (s1.out _) ?_; intro w H)
    | (go_at_call 38; with_reducible refine r_call (by assumption) (s2.out _) ?_; intro w H)
    | (go_at_call 61; with_reducible refine r_call (by assumption) (m1.out _) ?_; intro w H)
    | (go_at_call 39; with_reducible refine r_call (by assumption) (i1.out _) ?_; intro w H)
    | (go_at_call 37; with_reducible refine r_call (by assumption) (t1.out _) ?_; intro w H))
  exact p_retN Tryz.results52 _ rfl rfl H (.head _)
set_option maxHeartbeats 1000000 in
theorem At_any (x y : Nat) (w : World) : Calls Tryz.prog 64 #[.agg (nC x).toArray, .agg (nC y).toArray] w (RetV (.agg (ptC x y 1).toArray) w) := by
  have H := RMem.start w
  have s1 := Kept.mk fun w => small_at 1 (by omega) 1 rfl w
  go_enter Tryz.func64, Tryz.ntmps64
  go_wp2_with (first
    | (refine p_boxN rfl _ rfl _ rfl (by assumption) ?_; intro g w H; try simp only [Act.put, yI, yC, yZ])
    | (refine p_allocP rfl rfl (by assumption) ?_; intro g w H; try simp only [Act.put, yI, yC, yZ]))
  refine wp_region_from_tail 4 (by kernel_rfl) (by kernel_rfl) ?_
  simp only [List.take_succ_cons, List.take_zero, List.drop_succ_cons, List.drop_zero]
  repeat (first
    | (go_big_quiet_want; (first
      | (refine q_loadN _ rfl _ _ _ (From.refl _) rfl (by assumption) (by (repeat (first | exact .head _ | refine .tail _ ?_))) ?_)
      | (refine q_build3 _ rfl _ _ _ (by rw [Array.toList_map]; rfl) ?_)); try simp only [Act.put, yI, yC, yZ]; go_big_quiet_on)
    | go_big_quiet_step (((first | (go_at_call 38; exact held_call _ (s1.out _))))))
  refine wpQuiet_nil ?_
  intro w5 hw5
  have H := H.from hw5
  clear hw5
  go_wp2_with (first
    | (refine p_storeP0 rfl _ _ rfl _ _ _ _ _ _ _ rfl rfl _ (by assumption) ?_; intro w H; try simp only [Act.put, yI, yC, yZ]))
  exact p_retP Tryz.results64 _ rfl rfl H (.head _)
set_option maxHeartbeats 4000000 in
theorem Plus_pt (x1 y1 z1 x2 y2 z2 : Nat) (h1 : x1 < pF) (h2 : y1 < pF) (h3 : z1 < pF) (h4 : x2 < pF) (h5 : y2 < pF) (h6 : z2 < pF) (hd : dF < pF) (w : World) :
    Calls Tryz.prog 51 #[.agg (ptC x1 y1 z1).toArray, .agg (ptC x2 y2 z2).toArray, .agg (ptC dF 0 0).toArray] w (RetV (.agg (ptC (tadd ⟨x1, y1, z1⟩ ⟨x2, y2, z2⟩).x (tadd ⟨x1, y1, z1⟩ ⟨x2, y2, z2⟩).y (tadd ⟨x1, y1, z1⟩ ⟨x2, y2, z2⟩).z).toArray) w) := by
  have H := RMem.start w
  unfold tadd
  simp only
  generalize dF = d at hd ⊢
  go_enter Tryz.func51, Tryz.ntmps51
  go_wp2_with (first
    | (refine p_boxP rfl _ rfl _ _ _ rfl (by assumption) ?_; intro g w H; try simp only [Act.put, yI, yC, yZ])
    | (refine p_allocN rfl rfl (by assumption) ?_; intro g w H; try simp only [Act.put, yI, yC, yZ])
    | (refine p_allocP rfl rfl (by assumption) ?_; intro g w H; try simp only [Act.put, yI, yC, yZ])
    | (refine p_loadN rfl _ rfl _ _ rfl (by assumption) (by (repeat (first | exact .head _ | refine .tail _ ?_))) ?_; try simp only [Act.put, yI, yC, yZ])
    | (refine p_part2 rfl _ rfl _ _ _ _ rfl (by assumption) (by (repeat (first | exact .head _ | refine .tail _ ?_))) ?_; try simp only [Act.put, yI, yC, yZ])
    | (refine p_storeN0 rfl _ _ rfl _ _ _ rfl rfl _ (by assumption) ?_; intro w H; try simp only [Act.put, yI, yC, yZ])
    | (go_at_call 37; refine r_call (by assumption) (timesD _ _ (by first | assumption | exact ml_lt _ _ | exact ad_lt _ _ | exact sb_lt _ _ | exact fi_lt _ | decide +kernel) (by first | assumption | exact ml_lt _ _ | exact ad_lt _ _ | exact sb_lt _ _ | exact fi_lt _ | decide +kernel) _) ?_; intro w H))
  refine wp_region_from_alloc2 12 11 10 _ _ 40 (nC 0).toArray rfl rfl rfl rfl rfl rfl (by decide) zero_nC (by kernel_rfl) (by kernel_rfl) ?_
  apply Exists.intro
  refine And.intro ?_ (And.intro ?_ ?_)
  · intro u hu x y
    simp only [List.take_succ_cons, List.take_zero, List.eraseIdx_cons_succ, List.eraseIdx_cons_zero, Act.put, yI, yC, yZ]
    repeat (first
      | (go_big_quiet_want; (first
        | (refine q_part0 _ rfl _ _ _ _ _ hu rfl (by assumption) (by (repeat (first | exact .head _ | refine .tail _ ?_))) ?_)
        | (refine q_part1 _ rfl _ _ _ _ _ hu rfl (by assumption) (by (repeat (first | exact .head _ | refine .tail _ ?_))) ?_)); try simp only [Act.put, yI, yC, yZ]; go_big_quiet_on)
      | go_big_quiet_step (((first | (go_at_call 37; exact held_call _ (timesD _ _ (by first | assumption | exact ml_lt _ _ | exact ad_lt _ _ | exact sb_lt _ _ | exact fi_lt _ | decide +kernel) (by first | assumption | exact ml_lt _ _ | exact ad_lt _ _ | exact sb_lt _ _ | exact fi_lt _ | decide +kernel) _))))))
    exact wpQuiet_nil rfl
  · exact fun _ _ => rfl
  intro x y w5 hxy hw5 hF hF2
  have H := H.extra2 hxy hw5 hF hF2
  simp only [List.drop_succ_cons, List.drop_zero]
  go_wp2_with (first
    | (refine p_storeN0 rfl _ _ rfl _ _ _ rfl rfl _ (by assumption) ?_; intro w H; try simp only [Act.put, yI, yC, yZ])
    | (refine p_storeN1 rfl _ _ rfl _ _ _ rfl rfl _ _ (by assumption) ?_; intro w H; try simp only [Act.put, yI, yC, yZ]))
  refine wp_region_from_alloc 7 6 _ 40 (nC 0).toArray rfl rfl rfl zero_nC (by kernel_rfl) (by kernel_rfl) ?_
  apply Exists.intro
  refine And.intro ?_ (And.intro ?_ ?_)
  · intro u hu x
    simp only [List.take_succ_cons, List.take_zero, List.eraseIdx_cons_succ, List.eraseIdx_cons_zero, Act.put, yI, yC, yZ]
    repeat (first
      | (go_big_quiet_want; (first
        | (refine q_loadN _ rfl _ _ _ hu rfl (by assumption) (by (repeat (first | exact .head _ | refine .tail _ ?_))) ?_)
        | (refine q_part0 _ rfl _ _ _ _ _ hu rfl (by assumption) (by (repeat (first | exact .head _ | refine .tail _ ?_))) ?_)); try simp only [Act.put, yI, yC, yZ]; go_big_quiet_on)
      | go_big_quiet_step (((first | (go_at_call 37; exact held_call _ (timesD _ _ (by first | assumption | exact ml_lt _ _ | exact ad_lt _ _ | exact sb_lt _ _ | exact fi_lt _ | decide +kernel) (by first | assumption | exact ml_lt _ _ | exact ad_lt _ _ | exact sb_lt _ _ | exact fi_lt _ | decide +kernel) _))))))
    exact wpQuiet_nil rfl
  · exact fun _ => rfl
  intro x w5 hw5 hF
  have H := H.extra hw5 hF
  simp only [List.drop_succ_cons, List.drop_zero]
  go_wp2_with (first
    | (refine p_storeN0 rfl _ _ rfl _ _ _ rfl rfl _ (by assumption) ?_; intro w H; try simp only [Act.put, yI, yC, yZ]))
  refine wp_region_from_alloc2 8 7 6 _ _ 40 (nC 0).toArray rfl rfl rfl rfl rfl rfl (by decide) zero_nC (by kernel_rfl) (by kernel_rfl) ?_
  apply Exists.intro
  refine And.intro ?_ (And.intro ?_ ?_)
  · intro u hu x y
    simp only [List.take_succ_cons, List.take_zero, List.eraseIdx_cons_succ, List.eraseIdx_cons_zero, Act.put, yI, yC, yZ]
    repeat (first
      | (go_big_quiet_want; (first
        | (refine q_loadN _ rfl _ _ _ hu rfl (by assumption) (by (repeat (first | exact .head _ | refine .tail _ ?_))) ?_)); try simp only [Act.put, yI, yC, yZ]; go_big_quiet_on)
      | go_big_quiet_step (((first | (go_at_call 61; exact held_call _ (minusD _ _ (by first | assumption | exact ml_lt _ _ | exact ad_lt _ _ | exact sb_lt _ _ | exact fi_lt _ | decide +kernel) (by first | assumption | exact ml_lt _ _ | exact ad_lt _ _ | exact sb_lt _ _ | exact fi_lt _ | decide +kernel) _)) | (go_at_call 62; exact held_call _ (plusD _ _ (by first | assumption | exact ml_lt _ _ | exact ad_lt _ _ | exact sb_lt _ _ | exact fi_lt _ | decide +kernel) (by first | assumption | exact ml_lt _ _ | exact ad_lt _ _ | exact sb_lt _ _ | exact fi_lt _ | decide +kernel) _))))))
    exact wpQuiet_nil rfl
  · exact fun _ _ => rfl
  intro x y w5 hxy hw5 hF hF2
  have H := H.extra2 hxy hw5 hF hF2
  simp only [List.drop_succ_cons, List.drop_zero]
  go_wp2_with (first
    | (refine p_storeN0 rfl _ _ rfl _ _ _ rfl rfl _ (by assumption) ?_; intro w H; try simp only [Act.put, yI, yC, yZ])
    | (refine p_storeN1 rfl _ _ rfl _ _ _ rfl rfl _ _ (by assumption) ?_; intro w H; try simp only [Act.put, yI, yC, yZ]))
  refine wp_region_from_alloc 12 11 _ 40 (nC 0).toArray rfl rfl rfl zero_nC (by kernel_rfl) (by kernel_rfl) ?_
  apply Exists.intro
  refine And.intro ?_ (And.intro ?_ ?_)
  · intro u hu x
    simp only [List.take_succ_cons, List.take_zero, List.eraseIdx_cons_succ, List.eraseIdx_cons_zero, Act.put, yI, yC, yZ]
    repeat (first
      | (go_big_quiet_want; (first
        | (refine q_part0 _ rfl _ _ _ _ _ hu rfl (by assumption) (by (repeat (first | exact .head _ | refine .tail _ ?_))) ?_)
        | (refine q_part1 _ rfl _ _ _ _ _ hu rfl (by assumption) (by (repeat (first | exact .head _ | refine .tail _ ?_))) ?_)); try simp only [Act.put, yI, yC, yZ]; go_big_quiet_on)
      | go_big_quiet_step (((first | (go_at_call 37; exact held_call _ (timesD _ _ (by first | assumption | exact ml_lt _ _ | exact ad_lt _ _ | exact sb_lt _ _ | exact fi_lt _ | decide +kernel) (by first | assumption | exact ml_lt _ _ | exact ad_lt _ _ | exact sb_lt _ _ | exact fi_lt _ | decide +kernel) _)) | (go_at_call 62; exact held_call _ (plusD _ _ (by first | assumption | exact ml_lt _ _ | exact ad_lt _ _ | exact sb_lt _ _ | exact fi_lt _ | decide +kernel) (by first | assumption | exact ml_lt _ _ | exact ad_lt _ _ | exact sb_lt _ _ | exact fi_lt _ | decide +kernel) _))))))
    exact wpQuiet_nil rfl
  · exact fun _ => rfl
  intro x w5 hw5 hF
  have H := H.extra hw5 hF
  simp only [List.drop_succ_cons, List.drop_zero]
  go_wp2_with (first
    | (refine p_storeN0 rfl _ _ rfl _ _ _ rfl rfl _ (by assumption) ?_; intro w H; try simp only [Act.put, yI, yC, yZ]))
  refine wp_region_from_alloc 6 5 _ 40 (nC 0).toArray rfl rfl rfl zero_nC (by kernel_rfl) (by kernel_rfl) ?_
  apply Exists.intro
  refine And.intro ?_ (And.intro ?_ ?_)
  · intro u hu x
    simp only [List.take_succ_cons, List.take_zero, List.eraseIdx_cons_succ, List.eraseIdx_cons_zero, Act.put, yI, yC, yZ]
    repeat (first
      | (go_big_quiet_want; (first
        | (refine q_loadN _ rfl _ _ _ hu rfl (by assumption) (by (repeat (first | exact .head _ | refine .tail _ ?_))) ?_)); try simp only [Act.put, yI, yC, yZ]; go_big_quiet_on)
      | go_big_quiet_step (((first | (go_at_call 37; exact held_call _ (timesD _ _ (by first | assumption | exact ml_lt _ _ | exact ad_lt _ _ | exact sb_lt _ _ | exact fi_lt _ | decide +kernel) (by first | assumption | exact ml_lt _ _ | exact ad_lt _ _ | exact sb_lt _ _ | exact fi_lt _ | decide +kernel) _))))))
    exact wpQuiet_nil rfl
  · exact fun _ => rfl
  intro x w5 hw5 hF
  have H := H.extra hw5 hF
  simp only [List.drop_succ_cons, List.drop_zero]
  go_wp2_with (first
    | (refine p_storeN0 rfl _ _ rfl _ _ _ rfl rfl _ (by assumption) ?_; intro w H; try simp only [Act.put, yI, yC, yZ]))
  refine wp_region_from_alloc 8 7 _ 40 (nC 0).toArray rfl rfl rfl zero_nC (by kernel_rfl) (by kernel_rfl) ?_
  apply Exists.intro
  refine And.intro ?_ (And.intro ?_ ?_)
  · intro u hu x
    simp only [List.take_succ_cons, List.take_zero, List.eraseIdx_cons_succ, List.eraseIdx_cons_zero, Act.put, yI, yC, yZ]
    repeat (first
      | (go_big_quiet_want; (first
        | (refine q_loadN _ rfl _ _ _ hu rfl (by assumption) (by (repeat (first | exact .head _ | refine .tail _ ?_))) ?_)); try simp only [Act.put, yI, yC, yZ]; go_big_quiet_on)
      | go_big_quiet_step (((first | (go_at_call 37; exact held_call _ (timesD _ _ (by first | assumption | exact ml_lt _ _ | exact ad_lt _ _ | exact sb_lt _ _ | exact fi_lt _ | decide +kernel) (by first | assumption | exact ml_lt _ _ | exact ad_lt _ _ | exact sb_lt _ _ | exact fi_lt _ | decide +kernel) _)) | (go_at_call 62; exact held_call _ (plusD _ _ (by first | assumption | exact ml_lt _ _ | exact ad_lt _ _ | exact sb_lt _ _ | exact fi_lt _ | decide +kernel) (by first | assumption | exact ml_lt _ _ | exact ad_lt _ _ | exact sb_lt _ _ | exact fi_lt _ | decide +kernel) _))))))
    exact wpQuiet_nil rfl
  · exact fun _ => rfl
  intro x w5 hw5 hF
  have H := H.extra hw5 hF
  simp only [List.drop_succ_cons, List.drop_zero]
  go_wp2_with (first
    | (refine p_storeN0 rfl _ _ rfl _ _ _ rfl rfl _ (by assumption) ?_; intro w H; try simp only [Act.put, yI, yC, yZ]))
  refine wp_region_from_tail 6 (by kernel_rfl) (by kernel_rfl) ?_
  simp only [List.take_succ_cons, List.take_zero, List.drop_succ_cons, List.drop_zero]
  repeat (first
    | (go_big_quiet_want; (first
      | (refine q_loadN _ rfl _ _ _ (From.refl _) rfl (by assumption) (by (repeat (first | exact .head _ | refine .tail _ ?_))) ?_)
      | (refine q_build3 _ rfl _ _ _ (by rw [Array.toList_map]; rfl) ?_)); try simp only [Act.put, yI, yC, yZ]; go_big_quiet_on)
    | go_big_quiet_step (((first | (go_at_call 37; exact held_call _ (timesD _ _ (by first | assumption | exact ml_lt _ _ | exact ad_lt _ _ | exact sb_lt _ _ | exact fi_lt _ | decide +kernel) (by first | assumption | exact ml_lt _ _ | exact ad_lt _ _ | exact sb_lt _ _ | exact fi_lt _ | decide +kernel) _))))))
  refine wpQuiet_nil ?_
  intro w5 hw5
  have H := H.from hw5
  clear hw5
  go_wp2_with (first
    | (refine p_storeP_fin rfl _ _ rfl _ _ _ _ _ _ _ rfl rfl (by assumption) (by (repeat (first | exact .head _ | refine .tail _ ?_))) ?_; intro w H; try simp only [Act.put, yI, yC, yZ]))
  exact p_retP Tryz.results51 _ rfl rfl H (.head _)
end Go.Proofs.YtgnblaaldpniiaaGreatDoor
end
section
set_option linter.unusedSimpArgs false
set_option linter.unusedVariables false
set_option maxRecDepth 100000
namespace Go.Proofs.YtgnblaaldpniiaaGreatDoor
open Go.RowKit
structure T3.Ok (t : T3) : Prop where
  x : t.x < pF
  y : t.y < pF
  z : t.z < pF
theorem tadd_ok (p q : T3) : (tadd p q).Ok := ⟨ml_lt _ _, ml_lt _ _, ml_lt _ _⟩
theorem tone_ok {P : Pt} (hP : OnC P) : (tone P).Ok := ⟨hP.xl, hP.yl, show 1 < pF by decide +kernel⟩
theorem lad_ok {t : T3} (ht : t.Ok) : ∀ k s, (lad k s t).Ok
  | 0, _ => tone_ok pzero_on
  | k + 1, s => by
    rw [lad]
    cases s % 2 == 1
    · exact tadd_ok _ _
    · exact tadd_ok _ _
theorem Plus_T (p q : T3) (hp : p.Ok) (hq : q.Ok) (w : World) : Calls Tryz.prog 51 #[.agg (ptC p.x p.y p.z).toArray, .agg (ptC q.x q.y q.z).toArray, .agg (ptC dF 0 0).toArray] w (RetV (.agg (ptC (tadd p q).x (tadd p q).y (tadd p q).z).toArray) w) :=
  Plus_pt _ _ _ _ _ _ hp.x hp.y hp.z hq.x hq.y hq.z (by decide +kernel) w
theorem digit_at : ∀ (l : List UInt8) (m : Nat), m < l.length → (l.getD m 0).toNat = numB l / 256 ^ m % 256
  | [], m, h => by simp at h
  | b :: r, 0, _ => by
    have := b.toNat_lt
    show b.toNat = (b.toNat + 256 * numB r) / 1 % 256
    omega
  | b :: r, m + 1, h => by
    have hb := b.toNat_lt
    show (r.getD m 0).toNat = _
    rw [digit_at r m (by simpa using h)]
    have e : numB (b :: r) = b.toNat + 256 * numB r := rfl
    rw [e, Nat.pow_succ, Nat.mul_comm (256 ^ m), ← Nat.div_div_eq_div_mul, show (b.toNat + 256 * numB r) / 256 = numB r by omega]
theorem bit_at (l : List UInt8) (i : Nat) (h : i / 8 < l.length) : (l.getD (i / 8) 0).toNat / 2 ^ (i % 8) % 2 = numB l / 2 ^ i % 2 := by
  rw [digit_at l (i / 8) h]
  have e : (2 : Nat) ^ i = 256 ^ (i / 8) * 2 ^ (i % 8) := by
    rw [show (256 : Nat) = 2 ^ 8 from rfl, ← Nat.pow_mul, ← Nat.pow_add]
    congr 1
    omega
  rw [e, ← Nat.div_div_eq_div_mul]
  generalize numB l / 256 ^ (i / 8) = t
  have hr : i % 8 < 8 := Nat.mod_lt _ (by decide)
  generalize i % 8 = r at hr ⊢
  obtain rfl | rfl | rfl | rfl | rfl | rfl | rfl | rfl : r = 0 ∨ r = 1 ∨ r = 2 ∨ r = 3 ∨ r = 4 ∨ r = 5 ∨ r = 6 ∨ r = 7 := by omega
  all_goals omega
theorem bits_and_u8 (a : Nat) (ha : a < 256) : bits .and .u8 (a : Int) 1 = ((a % 2 : Nat) : Int) := by
  have hx : a &&& 1 < 2 ^ 8 := Nat.and_lt_two_pow a (by omega)
  have h1 : (BitVec.ofInt 8 (a : Int)).toNat = a := by
    rw [BitVec.ofInt_natCast, BitVec.toNat_ofNat]; exact Nat.mod_eq_of_lt (by omega)
  have h2 : (BitVec.ofInt 8 1).toNat = 1 := rfl
  show IntKind.u8.wrap ((BitVec.ofInt 8 (a : Int) &&& BitVec.ofInt 8 1).toNat : Int) = _
  rw [BitVec.toNat_and, h1, h2, Nat.and_one_is_mod]
  simp [IntKind.wrap, IntKind.signed, IntKind.bits]
  omega
theorem bit_int (l : List UInt8) (i : Nat) (h : i / 8 < l.length) (b : UInt8) (hb : l.getD (i / 8) 0 = b) (t : Nat) (ht : numB l / 2 ^ i % 2 = t) : bits .and .u8 ((b.toNat : Int) / 2 ^ (i % 8)) 1 = (t : Int) := by
  have e : (2 : Int) ^ (i % 8) = ((2 ^ (i % 8) : Nat) : Int) := by rw [Int.natCast_pow]; rfl
  rw [e, ← Int.natCast_ediv, bits_and_u8 _ (Nat.lt_of_le_of_lt (Nat.div_le_self _ _) b.toNat_lt), ← hb, bit_at l i h, ht]
set_option maxHeartbeats 4000000 in
theorem Many_any (l : List UInt8) (hl : l.length = 32) (p : T3) (hp : p.Ok) (wS : World) : Calls Tryz.prog 35 #[.string (S l), .agg (ptC p.x p.y p.z).toArray] wS (RetV (.agg (ptC (lad 256 (numB l) p).x (lad 256 (numB l) p).y (lad 256 (numB l) p).z).toArray) wS) := by
  have H := RMem.start wS
  have hsz : (S l).size = 32 := by rw [S_size, hl]
  have s0 := Kept.mk fun w => small_at 0 (by omega) 0 rfl w
  have s1 := Kept.mk fun w => small_at 1 (by omega) 1 rfl w
  have cD := Kept.mk fun w => D_any w
  have cA := Kept.mk fun w => At_any 0 1 w
  have hstart : ptC (lad 0 (numB l / 2 ^ 256) p).x (lad 0 (numB l / 2 ^ 256) p).y (lad 0 (numB l / 2 ^ 256) p).z = ptC 0 1 1 := rfl
  replace hsz := Kept.mk hsz
  replace hstart := Kept.mk hstart
  go_enter Tryz.func35, Tryz.ntmps35
  go_wp2_with (first
    | (refine p_boxP rfl _ rfl _ _ _ rfl (by assumption) ?_; intro g w H; try simp only [Act.put, yI, yC, yZ])
    | (refine p_allocP rfl rfl (by assumption) ?_; intro g w H; try simp only [Act.put, yI, yC, yZ])
    | (refine p_storeP0 rfl _ _ rfl _ _ _ _ _ _ _ rfl rfl _ (by assumption) ?_; intro w H; try simp only [Act.put, yI, yC, yZ])
    | (refine p_build1 rfl _ rfl _ (by rw [Array.toList_map]; rfl) ?_; try simp only [Act.put, yI, yC, yZ])
    | (go_at_call 38; with_reducible refine r_call (by assumption) (s0.out _) ?_; intro w H)
    | (go_at_call 38; with_reducible refine r_call (by assumption) (s1.out _) ?_; intro w H)
    | (go_at_call 52; with_reducible refine r_call (by assumption) (cD.out _) ?_; intro w H)
    | (go_at_call 64; with_reducible refine r_call (by assumption) (cA.out _) ?_; intro w H))
  rename_i gp _ _ gr _ _ _ _ gd _ _ _ _ _ _ _ _ _ _ _ _ _ _
  go_loopw [7] (fun v7 wr => ∃ (j : Nat), j ≤ 256 ∧ v7 = .int .i64 ((j : Int) - 1) ∧ RMem wS wr [(g, 42, ptC (lad (256 - j) (numB l / 2 ^ j) p).x (lad (256 - j) (numB l / 2 ^ j) p).y (lad (256 - j) (numB l / 2 ^ j) p).z), (gd, 42, ptC dF 0 0), (gr, 42, ptC 0 0 0), (gp, 42, ptC p.x p.y p.z)]) (fun v7 _ => (RowKit.intOf v7 + 1).toNat)
  case atStart => exact ⟨256, by omega, rfl, by rw [show 256 - 256 = 0 from rfl, hstart.out]; exact H⟩
  case round =>
    clear H
    obtain ⟨j, hj, rfl, H⟩ := hrel
    by_cases hlt : j = 0
    · subst hlt
      rw [Nat.pow_zero, Nat.div_one, Nat.sub_zero] at H
      obtain ⟨t, ht⟩ : ∃ t, lad 256 (numB l) p = t := ⟨_, rfl⟩
      rw [ht] at H
      replace ht := Kept.mk ht
      go_wp2_with (first
        | (refine p_loadP rfl _ rfl _ _ _ _ rfl (by assumption) (by (repeat (first | exact .head _ | refine .tail _ ?_))) ?_; try simp only [Act.put, yI, yC, yZ])
        | (refine p_storeP_fin rfl _ _ rfl _ _ _ _ _ _ _ rfl rfl (by assumption) (by (repeat (first | exact .head _ | refine .tail _ ?_))) ?_; intro w H; try simp only [Act.put, yI, yC, yZ]))
      have ht := ht.out
      subst ht
      exact p_retP Tryz.results35 _ rfl rfl H (.head _)
    · obtain ⟨i, rfl⟩ : ∃ i, j = i + 1 := ⟨j - 1, by omega⟩
      have ek : 256 - i = (256 - (i + 1)) + 1 := by omega
      have en : numB l / 2 ^ i / 2 = numB l / 2 ^ (i + 1) := by rw [Nat.div_div_eq_div_mul, Nat.pow_succ]
      have hlad : lad (256 - i) (numB l / 2 ^ i) p = bif numB l / 2 ^ i % 2 == 1 then tadd (tadd (lad (256 - (i + 1)) (numB l / 2 ^ (i + 1)) p) (lad (256 - (i + 1)) (numB l / 2 ^ (i + 1)) p)) p else tadd (lad (256 - (i + 1)) (numB l / 2 ^ (i + 1)) p) (lad (256 - (i + 1)) (numB l / 2 ^ (i + 1)) p) := by
        rw [ek, lad, en]
      have hok := lad_ok hp (256 - (i + 1)) (numB l / 2 ^ (i + 1))
      rw [show ((i + 1 : Nat) : Int) - 1 = (i : Int) by omega]
      generalize lad (256 - (i + 1)) (numB l / 2 ^ (i + 1)) p = h at H hlad hok
      have c1 := Kept.mk fun w => Plus_T h h hok hok w
      have c2 := Kept.mk fun w => Plus_T (tadd h h) p (tadd_ok _ _) hp w
      generalize tadd h h = h2 at c1 c2 hlad
      have hi8 : i / 8 < 32 := by omega
      have hs0 : i / 8 < (S l).size := by rw [hsz.out]; exact hi8
      obtain ⟨b, hb⟩ : ∃ b, l.getD (i / 8) 0 = b := ⟨_, rfl⟩
      have g0 : (S l)[i / 8] = b := by rw [byte_at, hb]
      obtain ⟨t, ht⟩ : ∃ t, numB l / 2 ^ i % 2 = t := ⟨_, rfl⟩
      have kd := bit_int l i (by omega) b hb t ht
      have h0 : (0 : Int) ≤ (i : Int) := by omega
      have h1 : (i : Int) < 256 := by omega
      have k1 : IntKind.i64.wrap ((i : Int) - 1) = (i : Int) - 1 := by simp [IntKind.wrap, IntKind.signed, IntKind.bits]; omega
      rw [ht] at hlad
      by_cases hbit : t = 1
      · subst hbit
        have hlad : lad (256 - i) (numB l / 2 ^ i) p = tadd h2 p := hlad
        generalize tadd h2 p = h3 at c2 hlad
        rw [show ((1 : Nat) : Int) = 1 from rfl] at kd
        replace hlad := Kept.mk hlad
        replace hb := Kept.mk hb
        replace ht := Kept.mk ht
        clear hok ek en
        go_wp2_with (first
          | (refine p_loadP rfl _ rfl _ _ _ _ rfl (by assumption) (by (repeat (first | exact .head _ | refine .tail _ ?_))) ?_; try simp only [Act.put, yI, yC, yZ])
          | (refine p_storeP0 rfl _ _ rfl _ _ _ _ _ _ _ rfl rfl _ (by assumption) ?_; intro w H; try simp only [Act.put, yI, yC, yZ])
          | (go_at_call 51; with_reducible refine r_call (by assumption) (c1.out _) ?_; intro w H)
          | (go_at_call 51; with_reducible refine r_call (by assumption) (c2.out _) ?_; intro w H))
        go_roundw
        case rel => exact ⟨i, by omega, val_eq (by omega), by rw [hlad.out]; exact H⟩
        case measure => first | (simp [RowKit.intOf]; done) | (simp [RowKit.intOf]; omega)
      · have hlad : lad (256 - i) (numB l / 2 ^ i) p = h2 := by
          rw [hlad, show (t == 1) = false by simp [hbit]]
          rfl
        have ht0 : t = 0 := by omega
        subst ht0
        rw [show ((0 : Nat) : Int) = 0 from rfl] at kd
        replace hlad := Kept.mk hlad
        replace hb := Kept.mk hb
        replace ht := Kept.mk ht
        clear hok ek en c2
        go_wp2_with (first
          | (refine p_loadP rfl _ rfl _ _ _ _ rfl (by assumption) (by (repeat (first | exact .head _ | refine .tail _ ?_))) ?_; try simp only [Act.put, yI, yC, yZ])
          | (refine p_storeP0 rfl _ _ rfl _ _ _ _ _ _ _ rfl rfl _ (by assumption) ?_; intro w H; try simp only [Act.put, yI, yC, yZ])
          | (go_at_call 51; with_reducible refine r_call (by assumption) (c1.out _) ?_; intro w H))
        go_roundw
        case rel => exact ⟨i, by omega, val_eq (by omega), by rw [hlad.out]; exact H⟩
        case measure => first | (simp [RowKit.intOf]; done) | (simp [RowKit.intOf]; omega)
end Go.Proofs.YtgnblaaldpniiaaGreatDoor
end
section
set_option linter.unusedSimpArgs false
set_option linter.unusedVariables false
set_option maxRecDepth 100000
namespace Go.Proofs.YtgnblaaldpniiaaGreatDoor
open Go.RowKit
def Row8 (w : World) (g : Nat) (l : List UInt8) : Prop := ∃ cs : Array Value, w.heap[g]? = some (.cells cs 5 (cs.size, cs.size + 1)) ∧ cs.toList.take l.length = Lib.byteCells l
theorem row8_len {l : List UInt8} {cs : Array Value} (h : cs.toList.take l.length = Lib.byteCells l) : l.length ≤ cs.size := by
  have := congrArg List.length h
  rw [List.length_take, Lib.byteCells_length] at this
  simp at this
  omega
theorem row8_new (w : World) (l : List UInt8) : Row8 (Lib.bytesWorld w 5 (S l)) w.heap.size l := by
  refine ⟨_, Lib.bytesWorld_at_new w _ _, ?_⟩
  unfold Lib.bytesCells
  rw [Array.toList_append, List.take_append_of_le_length (by simp [S])]
  simp only [S, Lib.byteCells, List.map_toArray]
  exact List.take_of_length_le (by simp)
theorem row8_cell {w : World} {g : Nat} {l : List UInt8} (h : Row8 w g l) (j : Nat) (hj : j < l.length) : w.cell? ⟨g, j, none⟩ = some (.int .u8 (l[j].toNat : Int)) := by
  obtain ⟨cs, hg, ht⟩ := h
  have hl := row8_len ht
  rw [cell_of_row w g j cs _ _ hg]
  have e : (cs.toList.take l.length)[j]? = (Lib.byteCells l)[j]? := by rw [ht]
  rw [List.getElem?_take, if_pos hj] at e
  rw [Array.getElem?_toList] at e
  rw [e]
  simp [Lib.byteCells, hj]
theorem row8_frozen {w : World} {g : Nat} {l : List UInt8} (h : Row8 w g l) (j : Nat) (hj : j < l.length) : w.frozen? ⟨g, j, none⟩ = false := by
  obtain ⟨cs, hg, ht⟩ := h
  have hl := row8_len ht
  simp [World.frozen?, hg]
  omega
theorem row8_set {w : World} {g : Nat} {l : List UInt8} (h : Row8 w g l) (j : Nat) (x : UInt8) : Row8 (w.setCell ⟨g, j, none⟩ (.int .u8 x.toNat)) g (l.set j x) := by
  obtain ⟨cs, hg, ht⟩ := h
  refine ⟨cs.setIfInBounds j (.int .u8 x.toNat), ?_, ?_⟩
  · rw [setCell_eq_setRow w g j cs _ _ _ hg, setRow_heap w g cs _ _ _ hg]
    simp
  · rw [Array.toList_setIfInBounds, List.length_set, List.take_set, ht]
    unfold Lib.byteCells; rw [List.map_set]
theorem row8_conv {w : World} {g : Nat} {l : List UInt8} (h : Row8 w g l) (n cap : Nat) (hn : l.length = n) : (convert 37 9 (.slice (some ⟨g, 0, none⟩) n cap)).run Tryz.prog w = .ok (.string (S l)) w := by
  subst hn
  refine run_convert_bytes_back w 37 9 5 _ _ l Tryz.underlying37 Tryz.underlying5 Tryz.underlying9 (fun j hj => ?_)
  have : ((⟨g, 0, none⟩ : Addr).add j) = ⟨g, j, none⟩ := by
    unfold Addr.add; split <;> simp_all
  rw [this]
  exact row8_cell h j hj
theorem below_bytes {B : Nat} {a w : World} (h : Below B a w) (hB : B ≤ w.heap.size) (s : ByteArray) : Below B a (Lib.bytesWorld w 5 s) :=
  h.trans ⟨rfl, rfl, rfl, by rw [Lib.bytesWorld_size]; omega, fun k hk => Lib.bytesWorld_at_old w _ s k (by omega)⟩
theorem row8_from {w w' : World} {g : Nat} {l : List UInt8} (h : Row8 w g l) (hb : Below w.heap.size w w') : Row8 w' g l := by
  obtain ⟨cs, hg, ht⟩ := h
  exact ⟨cs, (hb.block g (Array.getElem?_eq_some_iff.1 hg).1).trans hg, ht⟩
theorem row8_at {w : World} {g : Nat} {l : List UInt8} (h : Row8 w g l) (j : Nat) (hj : j < l.length) (b : UInt8) (hb : l.getD j 0 = b) : w.cell? ⟨g, j, none⟩ = some (.int .u8 (b.toNat : Int)) := by
  rw [row8_cell h j hj, ← hb]
  simp [hj]
theorem to_bytes {w0 w : World} {L : List Cells} (H : RMem w0 w L) (l : List UInt8) (n : Nat) (hn : l.length = n) : ∃ w1 gb cap, (convert 9 37 (.string (S l))).run Tryz.prog w = .ok (.slice (some ⟨gb, 0, none⟩) n cap) w1 ∧ Row8 w1 gb l ∧ RMem w0 w1 L ∧ w0.heap.size ≤ gb := by
  have hcv := Lib.run_convert_string_bytes w 9 37 5 (S l) Tryz.underlying9 Tryz.underlying37 Tryz.underlying5
  rw [S_size, hn] at hcv
  exact ⟨_, _, _, hcv, row8_new w l, H.grow (below_bytes (Below.refl w.heap.size w) (Nat.le_refl _) (S l)), H.below.size⟩
theorem Zero_at (x : Nat) (hx : x < pF) (w : World) : Calls Tryz.prog 63 #[.agg (nC x).toArray] w (RetV (.bool (decide (x = 0))) w) := by
  have H := RMem.start w
  have s0 := Kept.mk fun w => small_at 0 (by omega) 0 rfl w
  have cB := Kept.mk fun w => (show Calls Tryz.prog 93 #[.agg (nC 0).toArray, .agg (nC x).toArray] w (RetV (.bool (decide (0 < x))) w) from Below_any 0 x (Nat.lt_trans (by decide +kernel) p_big) (Nat.lt_trans hx p_big) w)
  have hb : decide (x = 0) = !decide (0 < x) := by
    by_cases h : x = 0
    · subst h; rfl
    · rw [decide_eq_false h, decide_eq_true (by omega : 0 < x)]; rfl
  rw [hb]
  generalize decide (0 < x) = b at cB ⊢
  clear hb hx
  go_enter Tryz.func63, Tryz.ntmps63
  go_wp2_with (first
    | (refine p_boxN rfl _ rfl _ rfl (by assumption) ?_; intro g w H; try simp only [Act.put, yI, yC, yZ]))
  refine wp_region_from (by kernel_rfl) (by kernel_rfl) ?_
  repeat (first
    | (go_big_quiet_want; (first
      | (refine q_loadN _ rfl _ _ _ (From.refl _) rfl (by assumption) (by (repeat (first | exact .head _ | refine .tail _ ?_))) ?_)); try simp only [Act.put, yI, yC, yZ]; go_big_quiet_on)
    | go_big_quiet_step (((first | (go_at_call 38; exact held_call _ (s0.out _)) | (go_at_call 93; exact held_call _ (cB.out _))))))
  refine wpQuiet_nil ?_
  intro w5 hw5
  have H := H.from hw5
  clear hw5
  go_wp2
  go_ret
  exact ⟨rfl, H.below⟩
theorem base_y : ml 4 (fi 5) = pbase.y := by
  rw [fi_pm]
  decide +kernel
theorem BaseS_any (w : World) : Calls Tryz.prog 17 #[] w (RetV (.string (S (leB pbase.y))) w) := by
  have H := RMem.start w
  have s4 := Kept.mk fun w => small_at 4 (by omega) 4 rfl w
  have s5 := Kept.mk fun w => small_at 5 (by omega) 5 rfl w
  have i5 := Kept.mk fun w => inverseD 5 (by decide +kernel) w
  have t1 := Kept.mk fun w => timesD 4 (fi 5) (by decide +kernel) (fi_lt _) w
  have b1 := Kept.mk fun w => bytesD pbase.y pbase_on.yl w
  rw [base_y] at t1
  generalize pbase.y = y at t1 b1 ⊢
  generalize fi 5 = f at i5 t1
  go_enter Tryz.func17, Tryz.ntmps17
  go_wp2_with (first
    | (go_at_call 38; with_reducible refine r_call (by assumption) (s4.out _) ?_; intro w H)
    | (go_at_call 38; with_reducible refine r_call (by assumption) (s5.out _) ?_; intro w H)
    | (go_at_call 39; with_reducible refine r_call (by assumption) (i5.out _) ?_; intro w H)
    | (go_at_call 37; with_reducible refine r_call (by assumption) (t1.out _) ?_; intro w H)
    | (go_at_call 36; with_reducible refine r_call (by assumption) (b1.out _) ?_; intro w H))
  go_ret
  exact ⟨rfl, H.below⟩
def encL (x y : Nat) : List UInt8 := leB (y + x % 2 * 57896044618658097711785492504343953926634992332820282019728792003956564819968)
theorem two255 : (57896044618658097711785492504343953926634992332820282019728792003956564819968 : Nat) = 128 * 256 ^ 31 := by decide +kernel
theorem numB_set : ∀ (l : List UInt8) (m : Nat) (c : UInt8), m < l.length → numB (l.set m c) + (l.getD m 0).toNat * 256 ^ m = numB l + c.toNat * 256 ^ m
  | [], m, c, h => by simp at h
  | b :: r, 0, c, _ => by
    show (c.toNat + 256 * numB r) + b.toNat * 256 ^ 0 = (b.toNat + 256 * numB r) + c.toNat * 256 ^ 0
    omega
  | b :: r, m + 1, c, h => by
    have ih := numB_set r m c (by simpa using h)
    show (b.toNat + 256 * numB (r.set m c)) + (r.getD m 0).toNat * 256 ^ (m + 1) = (b.toNat + 256 * numB r) + c.toNat * 256 ^ (m + 1)
    rw [Nat.pow_succ, ← Nat.mul_assoc, ← Nat.mul_assoc]
    omega
theorem pF_small : pF < 128 * 256 ^ 31 := by decide +kernel
theorem top_bit (y : Nat) (hy : y < pF) : ((leB y).getD 31 0).toNat < 128 := by
  rw [digit_at (leB y) 31 (by rw [leB_len]; omega), numB_leB y (Nat.lt_trans hy p_big)]
  have h := pF_small
  have h2 : y / 256 ^ 31 < 128 := Nat.div_lt_of_lt_mul (by omega)
  omega
theorem enc_set (x y : Nat) (hy : y < pF) (r : UInt8) (hr : r.toNat = ((leB y).getD 31 0).toNat + x % 2 * 128) : (leB y).set 31 r = encL x y := by
  have h := numB_set (leB y) 31 r (by rw [leB_len]; omega)
  rw [hr, numB_leB y (Nat.lt_trans hy p_big), Nat.add_mul] at h
  have e : numB ((leB y).set 31 r) = y + x % 2 * 57896044618658097711785492504343953926634992332820282019728792003956564819968 := by
    rw [two255, ← Nat.mul_assoc]
    omega
  have hl : ((leB y).set 31 r).length = 32 := by rw [List.length_set, leB_len]
  unfold encL
  rw [← e, leB_numB _ hl (numB_lt _ hl)]
theorem low_digit (x : Nat) : ∃ v : Nat, (nC x)[0]? = some (.int .i64 (v : Int)) ∧ v % 2 = x % 2 ∧ v < 65536 := by
  refine ⟨x % 65536, rfl, by omega, by omega⟩
set_option maxHeartbeats 4000000 in
theorem BytesP_any (X Y Z : Nat) (hX : X < pF) (hY : Y < pF) (hZ : Z < pF) (wS : World) : Calls Tryz.prog 34 #[.agg (ptC X Y Z).toArray] wS (RetV (.string (S (encL (ml X (fi Z)) (ml Y (fi Z))))) wS) := by
  have H := RMem.start wS
  have iZ := Kept.mk fun w => inverseD Z hZ w
  have tX := Kept.mk fun w => timesD X (fi Z) hX (fi_lt _) w
  have tY := Kept.mk fun w => timesD Y (fi Z) hY (fi_lt _) w
  have hx := ml_lt X (fi Z)
  have hy := ml_lt Y (fi Z)
  generalize ml X (fi Z) = x at tX hx ⊢
  generalize ml Y (fi Z) = y at tY hy ⊢
  generalize fi Z = z at iZ tX tY
  have bY := Kept.mk fun w => bytesD y hy w
  have hlen : (leB y).length = 32 := leB_len y
  obtain ⟨v, hv0, hv2, hv3⟩ := low_digit x
  obtain ⟨b, hb⟩ : ∃ b, (leB y).getD 31 0 = b := ⟨_, rfl⟩
  have hb128 : b.toNat < 128 := hb ▸ top_bit y hy
  obtain ⟨r, hr⟩ : ∃ r : UInt8, r.toNat = b.toNat + x % 2 * 128 := ⟨UInt8.ofNat (b.toNat + x % 2 * 128), by simp; omega⟩
  have hset : (leB y).set 31 r = encL x y := enc_set x y hy r (by rw [hb]; exact hr)
  rw [← hset]
  generalize leB y = l at bY hlen hb ⊢
  clear hset hX hY hZ hx hy
  replace hlen := Kept.mk hlen
  replace hb := Kept.mk hb
  replace hv0 := Kept.mk hv0
  go_enter Tryz.func34, Tryz.ntmps34
  go_wp2_with (first
    | (refine p_boxP rfl _ rfl _ _ _ rfl (by assumption) ?_; intro g w H; try simp only [Act.put, yI, yC, yZ])
    | (refine p_allocN rfl rfl (by assumption) ?_; intro g w H; try simp only [Act.put, yI, yC, yZ])
    | (refine p_loadN rfl _ rfl _ _ rfl (by assumption) (by (repeat (first | exact .head _ | refine .tail _ ?_))) ?_; try simp only [Act.put, yI, yC, yZ])
    | (refine p_part0 rfl _ rfl _ _ _ _ rfl (by assumption) (by (repeat (first | exact .head _ | refine .tail _ ?_))) ?_; try simp only [Act.put, yI, yC, yZ])
    | (refine p_part1 rfl _ rfl _ _ _ _ rfl (by assumption) (by (repeat (first | exact .head _ | refine .tail _ ?_))) ?_; try simp only [Act.put, yI, yC, yZ])
    | (refine p_part2 rfl _ rfl _ _ _ _ rfl (by assumption) (by (repeat (first | exact .head _ | refine .tail _ ?_))) ?_; try simp only [Act.put, yI, yC, yZ])
    | (refine p_storeN0 rfl _ _ rfl _ _ _ rfl rfl _ (by assumption) ?_; intro w H; try simp only [Act.put, yI, yC, yZ])
    | (go_at_call 39; with_reducible refine r_call (by assumption) (iZ.out _) ?_; intro w H)
    | (go_at_call 37; with_reducible refine r_call (by assumption) (tX.out _) ?_; intro w H)
    | (go_at_call 37; with_reducible refine r_call (by assumption) (tY.out _) ?_; intro w H)
    | (go_at_call 36; with_reducible refine r_call (by assumption) (bY.out _) ?_; intro w H; obtain ⟨w1, gb, cap, hcv, R1, H, hgb⟩ := to_bytes H l 32 hlen.out))
  have c1 : ∀ u : Held (From w1.drew), u.w.cell? ⟨gb, 31, none⟩ = some (.int .u8 (b.toNat : Int)) := fun u => row8_at (row8_from R1 u.h.of_drew) 31 (by rw [hlen.out]; omega) b hb.out
  have c2 : ∀ u : Held (From w1.drew), u.w.cell? ⟨g, 0, none⟩ = some (.int .i64 (v : Int)) := fun u => (H.from u.h).cell (.head _) 0 _ hv0.out
  replace R1 := Kept.mk R1
  clear hcv
  refine wp_region_from_tail 10 (by kernel_rfl) (by kernel_rfl) ?_
  simp only [List.take_succ_cons, List.take_zero, List.drop_succ_cons, List.drop_zero]
  repeat (go_big_quiet_step (fail))
  rw [show (b.toNat : Int) + (v : Int) % 2 * 128 = (r.toNat : Int) by omega]
  refine wpQuiet_nil ?_
  intro w5 hw5
  have R5 := row8_from R1.out hw5.of_drew
  have H := H.from hw5
  have c5 := row8_at R5 31 (by rw [hlen.out]; omega) b hb.out
  have f5 := row8_frozen R5 31 (by rw [hlen.out]; omega)
  have S5 := row8_set R5 31 r
  have hcv2 := row8_conv S5 32 cap (by rw [List.length_set]; exact hlen.out)
  have hbe := H.below.setCell (p := ⟨gb, 31, none⟩) hgb (.int .u8 (r.toNat : Int))
  replace R5 := Kept.mk R5
  replace S5 := Kept.mk S5
  replace hr := Kept.mk hr
  clear c1 c2 hw5 hv2 hv3 hb128
  go_wp2
  go_ret
  exact ⟨rfl, hbe⟩
end Go.Proofs.YtgnblaaldpniiaaGreatDoor
end
