/- The document's answer for package curve: the constant d, points of elements, sums. -/
import Derived.Test.YtockcnglennihaaD1
set_option linter.unusedSimpArgs false
set_option linter.unusedVariables false
set_option maxRecDepth 100000
namespace Go.Proofs.Ytockcnglennihaa
open Go.RowKit
theorem smallD (n : Nat) (h : n < 4294967296) (w : World) : Calls Try.prog 39 #[.int .i64 (n : Int)] w (RetV (NV n) w) := Small_any n h w
theorem timesD (x y : Nat) (hx : x < pF) (hy : y < pF) (w : World) : Calls Try.prog 41 #[.agg (nC x).toArray, .agg (nC y).toArray] w (RetV (.agg (nC (ml x y)).toArray) w) := Times_any x y (Nat.lt_trans hx p_big) (Nat.lt_trans hy p_big) w
theorem plusD (x y : Nat) (hx : x < pF) (hy : y < pF) (w : World) : Calls Try.prog 57 #[.agg (nC x).toArray, .agg (nC y).toArray] w (RetV (.agg (nC (ad x y)).toArray) w) := Plus_any x y (Nat.lt_trans hx p_big) (Nat.lt_trans hy p_big) w
theorem minusD (x y : Nat) (hx : x < pF) (hy : y < pF) (w : World) : Calls Try.prog 38 #[.agg (nC x).toArray, .agg (nC y).toArray] w (RetV (.agg (nC (sb x y)).toArray) w) := Minus_any x y (Nat.lt_trans hx p_big) (Nat.le_of_lt hy) w
theorem inverseD (x : Nat) (hx : x < pF) (w : World) : Calls Try.prog 42 #[.agg (nC x).toArray] w (RetV (.agg (nC (fi x)).toArray) w) := Inverse_any x (Nat.lt_trans hx p_big) w
theorem bytesD (x : Nat) (hx : x < pF) (w : World) : Calls Try.prog 40 #[.agg (nC x).toArray] w (RetV (.string (S (leB x))) w) := Bytes_any x (Nat.lt_trans hx p_big) w
theorem small_at (n : Nat) (h : n < 4294967296) (z : Int) (hz : (n : Int) = z) (w : World) : Calls Try.prog 39 #[.int .i64 z] w (RetV (.agg (nC n).toArray) w) := by subst hz; exact smallD n h w
theorem fi_pm (x : Nat) : fi x = pm pF 256 x (pF - 2) := (pm_eq pF 256 x (pF - 2) (by decide +kernel)).symm
theorem d_at : ml (sb 0 121665) (fi 121666) = dF := by
  rw [fi_pm]
  decide +kernel
theorem D_any (w : World) : Calls Try.prog 35 #[] w (RetV (.agg (nC dF).toArray) w) := by
  have H := RMem.start w
  have hd := d_at
  have s0 := Kept.mk fun w => small_at 0 (by omega) 0 rfl w
  have s1 := Kept.mk fun w => small_at 121665 (by omega) 121665 rfl w
  have s2 := Kept.mk fun w => small_at 121666 (by omega) 121666 rfl w
  have m1 := Kept.mk fun w => minusD 0 121665 (by decide +kernel) (by decide +kernel) w
  have i1 := Kept.mk fun w => inverseD 121666 (by decide +kernel) w
  have t1 := Kept.mk fun w => timesD (sb 0 121665) (fi 121666) (sb_lt _ _) (fi_lt _) w
  rw [hd] at t1
  clear hd
  generalize sb 0 121665 = a at m1 t1
  generalize fi 121666 = b at i1 t1
  generalize nC 121665 = c1 at s1 m1
  generalize nC 121666 = c2 at s2 i1
  go_enter Try.func35, Try.ntmps35
  go_wp2_with (first
    | (refine p_boxP rfl _ rfl _ _ _ rfl (by assumption) ?_; intro g w H; try simp only [Act.put, List.setIfInBounds_toArray, List.set_cons_succ, List.set_cons_zero])
    | (refine p_boxN rfl _ rfl _ rfl (by assumption) ?_; intro g w H; try simp only [Act.put, List.setIfInBounds_toArray, List.set_cons_succ, List.set_cons_zero])
    | (refine p_allocN rfl rfl (by assumption) ?_; intro g w H; try simp only [Act.put, List.setIfInBounds_toArray, List.set_cons_succ, List.set_cons_zero])
    | (refine p_allocP rfl rfl (by assumption) ?_; intro g w H; try simp only [Act.put, List.setIfInBounds_toArray, List.set_cons_succ, List.set_cons_zero])
    | (refine p_loadN rfl _ rfl _ _ rfl (by assumption) (by (repeat (first | exact .head _ | refine .tail _ ?_))) ?_; try simp only [Act.put, List.setIfInBounds_toArray, List.set_cons_succ, List.set_cons_zero])
    | (refine p_loadP rfl _ rfl _ _ _ _ rfl (by assumption) (by (repeat (first | exact .head _ | refine .tail _ ?_))) ?_; try simp only [Act.put, List.setIfInBounds_toArray, List.set_cons_succ, List.set_cons_zero])
    | (refine p_part0 rfl _ rfl _ _ _ _ rfl (by assumption) (by (repeat (first | exact .head _ | refine .tail _ ?_))) ?_; try simp only [Act.put, List.setIfInBounds_toArray, List.set_cons_succ, List.set_cons_zero])
    | (refine p_part1 rfl _ rfl _ _ _ _ rfl (by assumption) (by (repeat (first | exact .head _ | refine .tail _ ?_))) ?_; try simp only [Act.put, List.setIfInBounds_toArray, List.set_cons_succ, List.set_cons_zero])
    | (refine p_part2 rfl _ rfl _ _ _ _ rfl (by assumption) (by (repeat (first | exact .head _ | refine .tail _ ?_))) ?_; try simp only [Act.put, List.setIfInBounds_toArray, List.set_cons_succ, List.set_cons_zero])
    | (refine p_storeN0 rfl _ _ rfl _ _ _ rfl rfl _ (by assumption) ?_; intro w H; try simp only [Act.put, List.setIfInBounds_toArray, List.set_cons_succ, List.set_cons_zero])
    | (refine p_storeN1 rfl _ _ rfl _ _ _ rfl rfl _ _ (by assumption) ?_; intro w H; try simp only [Act.put, List.setIfInBounds_toArray, List.set_cons_succ, List.set_cons_zero])
    | (refine p_storeP0 rfl _ _ rfl _ _ _ _ _ _ _ rfl rfl _ (by assumption) ?_; intro w H; try simp only [Act.put, List.setIfInBounds_toArray, List.set_cons_succ, List.set_cons_zero])
    | (refine p_storeN_fin rfl _ _ rfl _ _ _ rfl rfl (by assumption) (by (repeat (first | exact .head _ | refine .tail _ ?_))) ?_; intro w H; try simp only [Act.put, List.setIfInBounds_toArray, List.set_cons_succ, List.set_cons_zero])
    | (go_at_call 39; with_reducible refine r_call (by assumption) (s0.out _) ?_; intro w H)
    | (go_at_call 39; with_reducible refine r_call (by assumption) (s1.out _) ?_; intro w H)
    | (go_at_call 39; with_reducible refine r_call (by assumption) (s2.out _) ?_; intro w H)
    | (go_at_call 38; with_reducible refine r_call (by assumption) (m1.out _) ?_; intro w H)
    | (go_at_call 42; with_reducible refine r_call (by assumption) (i1.out _) ?_; intro w H)
    | (go_at_call 41; with_reducible refine r_call (by assumption) (t1.out _) ?_; intro w H))
  exact p_retN Try.results35 _ rfl rfl H (.head _)
set_option maxHeartbeats 1000000 in
theorem At_any (x y : Nat) (w : World) : Calls Try.prog 37 #[.agg (nC x).toArray, .agg (nC y).toArray] w (RetV (.agg (ptC x y 1).toArray) w) := by
  have H := RMem.start w
  have s1 := Kept.mk fun w => small_at 1 (by omega) 1 rfl w
  go_enter Try.func37, Try.ntmps37
  go_wp2_with (first
    | (refine p_boxP rfl _ rfl _ _ _ rfl (by assumption) ?_; intro g w H; try simp only [Act.put, List.setIfInBounds_toArray, List.set_cons_succ, List.set_cons_zero])
    | (refine p_boxN rfl _ rfl _ rfl (by assumption) ?_; intro g w H; try simp only [Act.put, List.setIfInBounds_toArray, List.set_cons_succ, List.set_cons_zero])
    | (refine p_allocN rfl rfl (by assumption) ?_; intro g w H; try simp only [Act.put, List.setIfInBounds_toArray, List.set_cons_succ, List.set_cons_zero])
    | (refine p_allocP rfl rfl (by assumption) ?_; intro g w H; try simp only [Act.put, List.setIfInBounds_toArray, List.set_cons_succ, List.set_cons_zero])
    | (refine p_loadN rfl _ rfl _ _ rfl (by assumption) (by (repeat (first | exact .head _ | refine .tail _ ?_))) ?_; try simp only [Act.put, List.setIfInBounds_toArray, List.set_cons_succ, List.set_cons_zero])
    | (refine p_loadP rfl _ rfl _ _ _ _ rfl (by assumption) (by (repeat (first | exact .head _ | refine .tail _ ?_))) ?_; try simp only [Act.put, List.setIfInBounds_toArray, List.set_cons_succ, List.set_cons_zero])
    | (refine p_part0 rfl _ rfl _ _ _ _ rfl (by assumption) (by (repeat (first | exact .head _ | refine .tail _ ?_))) ?_; try simp only [Act.put, List.setIfInBounds_toArray, List.set_cons_succ, List.set_cons_zero])
    | (refine p_part1 rfl _ rfl _ _ _ _ rfl (by assumption) (by (repeat (first | exact .head _ | refine .tail _ ?_))) ?_; try simp only [Act.put, List.setIfInBounds_toArray, List.set_cons_succ, List.set_cons_zero])
    | (refine p_part2 rfl _ rfl _ _ _ _ rfl (by assumption) (by (repeat (first | exact .head _ | refine .tail _ ?_))) ?_; try simp only [Act.put, List.setIfInBounds_toArray, List.set_cons_succ, List.set_cons_zero])
    | (refine p_storeN0 rfl _ _ rfl _ _ _ rfl rfl _ (by assumption) ?_; intro w H; try simp only [Act.put, List.setIfInBounds_toArray, List.set_cons_succ, List.set_cons_zero])
    | (refine p_storeN1 rfl _ _ rfl _ _ _ rfl rfl _ _ (by assumption) ?_; intro w H; try simp only [Act.put, List.setIfInBounds_toArray, List.set_cons_succ, List.set_cons_zero])
    | (refine p_storeP0 rfl _ _ rfl _ _ _ _ _ _ _ rfl rfl _ (by assumption) ?_; intro w H; try simp only [Act.put, List.setIfInBounds_toArray, List.set_cons_succ, List.set_cons_zero]))
  refine wp_region_from_tail 4 (by kernel_rfl) (by kernel_rfl) ?_
  simp only [List.take_succ_cons, List.take_zero, List.drop_succ_cons, List.drop_zero]
  repeat (first
    | (go_big_quiet_want; (first
      | (refine q_loadN _ rfl _ _ _ (From.refl _) rfl (by assumption) (by (repeat (first | exact .head _ | refine .tail _ ?_))) ?_)
      | (refine q_loadP _ rfl _ _ _ _ _ (From.refl _) rfl (by assumption) (by (repeat (first | exact .head _ | refine .tail _ ?_))) ?_)
      | (refine q_part0 _ rfl _ _ _ _ _ (From.refl _) rfl (by assumption) (by (repeat (first | exact .head _ | refine .tail _ ?_))) ?_)
      | (refine q_part1 _ rfl _ _ _ _ _ (From.refl _) rfl (by assumption) (by (repeat (first | exact .head _ | refine .tail _ ?_))) ?_)
      | (refine q_part2 _ rfl _ _ _ _ _ (From.refl _) rfl (by assumption) (by (repeat (first | exact .head _ | refine .tail _ ?_))) ?_)
      | (refine q_build3 _ rfl _ _ _ (by rw [Array.toList_map]; rfl) ?_)
      | (refine q_build1 _ rfl _ (by rw [Array.toList_map]; rfl) ?_)); try simp only [Act.put, List.setIfInBounds_toArray, List.set_cons_succ, List.set_cons_zero]; go_big_quiet_on)
    | go_big_quiet_step (((first | (go_at_call 39; exact held_call _ (s1.out _))))))
  refine wpQuiet_nil ?_
  intro w5 hw5
  have H := H.from hw5
  clear hw5
  go_wp2_with (first
    | (refine p_boxP rfl _ rfl _ _ _ rfl (by assumption) ?_; intro g w H; try simp only [Act.put, List.setIfInBounds_toArray, List.set_cons_succ, List.set_cons_zero])
    | (refine p_boxN rfl _ rfl _ rfl (by assumption) ?_; intro g w H; try simp only [Act.put, List.setIfInBounds_toArray, List.set_cons_succ, List.set_cons_zero])
    | (refine p_allocN rfl rfl (by assumption) ?_; intro g w H; try simp only [Act.put, List.setIfInBounds_toArray, List.set_cons_succ, List.set_cons_zero])
    | (refine p_allocP rfl rfl (by assumption) ?_; intro g w H; try simp only [Act.put, List.setIfInBounds_toArray, List.set_cons_succ, List.set_cons_zero])
    | (refine p_loadN rfl _ rfl _ _ rfl (by assumption) (by (repeat (first | exact .head _ | refine .tail _ ?_))) ?_; try simp only [Act.put, List.setIfInBounds_toArray, List.set_cons_succ, List.set_cons_zero])
    | (refine p_loadP rfl _ rfl _ _ _ _ rfl (by assumption) (by (repeat (first | exact .head _ | refine .tail _ ?_))) ?_; try simp only [Act.put, List.setIfInBounds_toArray, List.set_cons_succ, List.set_cons_zero])
    | (refine p_part0 rfl _ rfl _ _ _ _ rfl (by assumption) (by (repeat (first | exact .head _ | refine .tail _ ?_))) ?_; try simp only [Act.put, List.setIfInBounds_toArray, List.set_cons_succ, List.set_cons_zero])
    | (refine p_part1 rfl _ rfl _ _ _ _ rfl (by assumption) (by (repeat (first | exact .head _ | refine .tail _ ?_))) ?_; try simp only [Act.put, List.setIfInBounds_toArray, List.set_cons_succ, List.set_cons_zero])
    | (refine p_part2 rfl _ rfl _ _ _ _ rfl (by assumption) (by (repeat (first | exact .head _ | refine .tail _ ?_))) ?_; try simp only [Act.put, List.setIfInBounds_toArray, List.set_cons_succ, List.set_cons_zero])
    | (refine p_storeN0 rfl _ _ rfl _ _ _ rfl rfl _ (by assumption) ?_; intro w H; try simp only [Act.put, List.setIfInBounds_toArray, List.set_cons_succ, List.set_cons_zero])
    | (refine p_storeN1 rfl _ _ rfl _ _ _ rfl rfl _ _ (by assumption) ?_; intro w H; try simp only [Act.put, List.setIfInBounds_toArray, List.set_cons_succ, List.set_cons_zero])
    | (refine p_storeP0 rfl _ _ rfl _ _ _ _ _ _ _ rfl rfl _ (by assumption) ?_; intro w H; try simp only [Act.put, List.setIfInBounds_toArray, List.set_cons_succ, List.set_cons_zero])
    | (refine p_storeP_fin rfl _ _ rfl _ _ _ _ _ _ _ rfl rfl (by assumption) (by (repeat (first | exact .head _ | refine .tail _ ?_))) ?_; intro w H; try simp only [Act.put, List.setIfInBounds_toArray, List.set_cons_succ, List.set_cons_zero]))
  exact p_retP Try.results37 _ rfl rfl H (.head _)
set_option maxHeartbeats 4000000 in
theorem Plus_pt (x1 y1 z1 x2 y2 z2 : Nat) (h1 : x1 < pF) (h2 : y1 < pF) (h3 : z1 < pF) (h4 : x2 < pF) (h5 : y2 < pF) (h6 : z2 < pF) (hd : dF < pF) (w : World) :
    Calls Try.prog 34 #[.agg (ptC x1 y1 z1).toArray, .agg (ptC x2 y2 z2).toArray, .agg (ptC dF 0 0).toArray] w (RetV (.agg (ptC (tadd ⟨x1, y1, z1⟩ ⟨x2, y2, z2⟩).x (tadd ⟨x1, y1, z1⟩ ⟨x2, y2, z2⟩).y (tadd ⟨x1, y1, z1⟩ ⟨x2, y2, z2⟩).z).toArray) w) := by
  have H := RMem.start w
  unfold tadd
  simp only
  generalize dF = d at hd ⊢
  go_enter Try.func34, Try.ntmps34
  go_wp2_with (first
    | (refine p_boxP rfl _ rfl _ _ _ rfl (by assumption) ?_; intro g w H; try simp only [Act.put, List.setIfInBounds_toArray, List.set_cons_succ, List.set_cons_zero])
    | (refine p_boxN rfl _ rfl _ rfl (by assumption) ?_; intro g w H; try simp only [Act.put, List.setIfInBounds_toArray, List.set_cons_succ, List.set_cons_zero])
    | (refine p_allocN rfl rfl (by assumption) ?_; intro g w H; try simp only [Act.put, List.setIfInBounds_toArray, List.set_cons_succ, List.set_cons_zero])
    | (refine p_allocP rfl rfl (by assumption) ?_; intro g w H; try simp only [Act.put, List.setIfInBounds_toArray, List.set_cons_succ, List.set_cons_zero])
    | (refine p_loadN rfl _ rfl _ _ rfl (by assumption) (by (repeat (first | exact .head _ | refine .tail _ ?_))) ?_; try simp only [Act.put, List.setIfInBounds_toArray, List.set_cons_succ, List.set_cons_zero])
    | (refine p_loadP rfl _ rfl _ _ _ _ rfl (by assumption) (by (repeat (first | exact .head _ | refine .tail _ ?_))) ?_; try simp only [Act.put, List.setIfInBounds_toArray, List.set_cons_succ, List.set_cons_zero])
    | (refine p_part0 rfl _ rfl _ _ _ _ rfl (by assumption) (by (repeat (first | exact .head _ | refine .tail _ ?_))) ?_; try simp only [Act.put, List.setIfInBounds_toArray, List.set_cons_succ, List.set_cons_zero])
    | (refine p_part1 rfl _ rfl _ _ _ _ rfl (by assumption) (by (repeat (first | exact .head _ | refine .tail _ ?_))) ?_; try simp only [Act.put, List.setIfInBounds_toArray, List.set_cons_succ, List.set_cons_zero])
    | (refine p_part2 rfl _ rfl _ _ _ _ rfl (by assumption) (by (repeat (first | exact .head _ | refine .tail _ ?_))) ?_; try simp only [Act.put, List.setIfInBounds_toArray, List.set_cons_succ, List.set_cons_zero])
    | (refine p_storeN0 rfl _ _ rfl _ _ _ rfl rfl _ (by assumption) ?_; intro w H; try simp only [Act.put, List.setIfInBounds_toArray, List.set_cons_succ, List.set_cons_zero])
    | (refine p_storeN1 rfl _ _ rfl _ _ _ rfl rfl _ _ (by assumption) ?_; intro w H; try simp only [Act.put, List.setIfInBounds_toArray, List.set_cons_succ, List.set_cons_zero])
    | (refine p_storeP0 rfl _ _ rfl _ _ _ _ _ _ _ rfl rfl _ (by assumption) ?_; intro w H; try simp only [Act.put, List.setIfInBounds_toArray, List.set_cons_succ, List.set_cons_zero])
    | (go_at_call 41; refine r_call (by assumption) (timesD _ _ (by first | assumption | exact ml_lt _ _ | exact ad_lt _ _ | exact sb_lt _ _ | exact fi_lt _ | decide +kernel) (by first | assumption | exact ml_lt _ _ | exact ad_lt _ _ | exact sb_lt _ _ | exact fi_lt _ | decide +kernel) _) ?_; intro w H))
  refine wp_region_from_alloc2 12 11 10 _ _ 46 (nC 0).toArray rfl rfl rfl rfl rfl rfl (by decide) zero_nC (by kernel_rfl) (by kernel_rfl) ?_
  apply Exists.intro
  refine And.intro ?_ (And.intro ?_ ?_)
  · intro u hu x y
    simp only [List.take_succ_cons, List.take_zero, List.eraseIdx_cons_succ, List.eraseIdx_cons_zero, Act.put, List.setIfInBounds_toArray, List.set_cons_succ, List.set_cons_zero]
    repeat (first
      | (go_big_quiet_want; (first
        | (refine q_loadN _ rfl _ _ _ hu rfl (by assumption) (by (repeat (first | exact .head _ | refine .tail _ ?_))) ?_)
        | (refine q_loadP _ rfl _ _ _ _ _ hu rfl (by assumption) (by (repeat (first | exact .head _ | refine .tail _ ?_))) ?_)
        | (refine q_part0 _ rfl _ _ _ _ _ hu rfl (by assumption) (by (repeat (first | exact .head _ | refine .tail _ ?_))) ?_)
        | (refine q_part1 _ rfl _ _ _ _ _ hu rfl (by assumption) (by (repeat (first | exact .head _ | refine .tail _ ?_))) ?_)
        | (refine q_part2 _ rfl _ _ _ _ _ hu rfl (by assumption) (by (repeat (first | exact .head _ | refine .tail _ ?_))) ?_)
        | (refine q_build3 _ rfl _ _ _ (by rw [Array.toList_map]; rfl) ?_)
        | (refine q_build1 _ rfl _ (by rw [Array.toList_map]; rfl) ?_)); try simp only [Act.put, List.setIfInBounds_toArray, List.set_cons_succ, List.set_cons_zero]; go_big_quiet_on)
      | go_big_quiet_step (((first | (go_at_call 41; exact held_call _ (timesD _ _ (by first | assumption | exact ml_lt _ _ | exact ad_lt _ _ | exact sb_lt _ _ | exact fi_lt _ | decide +kernel) (by first | assumption | exact ml_lt _ _ | exact ad_lt _ _ | exact sb_lt _ _ | exact fi_lt _ | decide +kernel) _))))))
    exact wpQuiet_nil rfl
  · exact fun _ _ => rfl
  intro x y w5 hxy hw5 hF hF2
  have H := H.extra2 hxy hw5 hF hF2
  simp only [List.drop_succ_cons, List.drop_zero]
  go_wp2_with (first
    | (refine p_boxP rfl _ rfl _ _ _ rfl (by assumption) ?_; intro g w H; try simp only [Act.put, List.setIfInBounds_toArray, List.set_cons_succ, List.set_cons_zero])
    | (refine p_boxN rfl _ rfl _ rfl (by assumption) ?_; intro g w H; try simp only [Act.put, List.setIfInBounds_toArray, List.set_cons_succ, List.set_cons_zero])
    | (refine p_allocN rfl rfl (by assumption) ?_; intro g w H; try simp only [Act.put, List.setIfInBounds_toArray, List.set_cons_succ, List.set_cons_zero])
    | (refine p_allocP rfl rfl (by assumption) ?_; intro g w H; try simp only [Act.put, List.setIfInBounds_toArray, List.set_cons_succ, List.set_cons_zero])
    | (refine p_loadN rfl _ rfl _ _ rfl (by assumption) (by (repeat (first | exact .head _ | refine .tail _ ?_))) ?_; try simp only [Act.put, List.setIfInBounds_toArray, List.set_cons_succ, List.set_cons_zero])
    | (refine p_loadP rfl _ rfl _ _ _ _ rfl (by assumption) (by (repeat (first | exact .head _ | refine .tail _ ?_))) ?_; try simp only [Act.put, List.setIfInBounds_toArray, List.set_cons_succ, List.set_cons_zero])
    | (refine p_part0 rfl _ rfl _ _ _ _ rfl (by assumption) (by (repeat (first | exact .head _ | refine .tail _ ?_))) ?_; try simp only [Act.put, List.setIfInBounds_toArray, List.set_cons_succ, List.set_cons_zero])
    | (refine p_part1 rfl _ rfl _ _ _ _ rfl (by assumption) (by (repeat (first | exact .head _ | refine .tail _ ?_))) ?_; try simp only [Act.put, List.setIfInBounds_toArray, List.set_cons_succ, List.set_cons_zero])
    | (refine p_part2 rfl _ rfl _ _ _ _ rfl (by assumption) (by (repeat (first | exact .head _ | refine .tail _ ?_))) ?_; try simp only [Act.put, List.setIfInBounds_toArray, List.set_cons_succ, List.set_cons_zero])
    | (refine p_storeN0 rfl _ _ rfl _ _ _ rfl rfl _ (by assumption) ?_; intro w H; try simp only [Act.put, List.setIfInBounds_toArray, List.set_cons_succ, List.set_cons_zero])
    | (refine p_storeN1 rfl _ _ rfl _ _ _ rfl rfl _ _ (by assumption) ?_; intro w H; try simp only [Act.put, List.setIfInBounds_toArray, List.set_cons_succ, List.set_cons_zero])
    | (refine p_storeP0 rfl _ _ rfl _ _ _ _ _ _ _ rfl rfl _ (by assumption) ?_; intro w H; try simp only [Act.put, List.setIfInBounds_toArray, List.set_cons_succ, List.set_cons_zero]))
  refine wp_region_from_alloc 7 6 _ 46 (nC 0).toArray rfl rfl rfl zero_nC (by kernel_rfl) (by kernel_rfl) ?_
  apply Exists.intro
  refine And.intro ?_ (And.intro ?_ ?_)
  · intro u hu x
    simp only [List.take_succ_cons, List.take_zero, List.eraseIdx_cons_succ, List.eraseIdx_cons_zero, Act.put, List.setIfInBounds_toArray, List.set_cons_succ, List.set_cons_zero]
    repeat (first
      | (go_big_quiet_want; (first
        | (refine q_loadN _ rfl _ _ _ hu rfl (by assumption) (by (repeat (first | exact .head _ | refine .tail _ ?_))) ?_)
        | (refine q_loadP _ rfl _ _ _ _ _ hu rfl (by assumption) (by (repeat (first | exact .head _ | refine .tail _ ?_))) ?_)
        | (refine q_part0 _ rfl _ _ _ _ _ hu rfl (by assumption) (by (repeat (first | exact .head _ | refine .tail _ ?_))) ?_)
        | (refine q_part1 _ rfl _ _ _ _ _ hu rfl (by assumption) (by (repeat (first | exact .head _ | refine .tail _ ?_))) ?_)
        | (refine q_part2 _ rfl _ _ _ _ _ hu rfl (by assumption) (by (repeat (first | exact .head _ | refine .tail _ ?_))) ?_)
        | (refine q_build3 _ rfl _ _ _ (by rw [Array.toList_map]; rfl) ?_)
        | (refine q_build1 _ rfl _ (by rw [Array.toList_map]; rfl) ?_)); try simp only [Act.put, List.setIfInBounds_toArray, List.set_cons_succ, List.set_cons_zero]; go_big_quiet_on)
      | go_big_quiet_step (((first | (go_at_call 41; exact held_call _ (timesD _ _ (by first | assumption | exact ml_lt _ _ | exact ad_lt _ _ | exact sb_lt _ _ | exact fi_lt _ | decide +kernel) (by first | assumption | exact ml_lt _ _ | exact ad_lt _ _ | exact sb_lt _ _ | exact fi_lt _ | decide +kernel) _))))))
    exact wpQuiet_nil rfl
  · exact fun _ => rfl
  intro x w5 hw5 hF
  have H := H.extra hw5 hF
  simp only [List.drop_succ_cons, List.drop_zero]
  go_wp2_with (first
    | (refine p_boxP rfl _ rfl _ _ _ rfl (by assumption) ?_; intro g w H; try simp only [Act.put, List.setIfInBounds_toArray, List.set_cons_succ, List.set_cons_zero])
    | (refine p_boxN rfl _ rfl _ rfl (by assumption) ?_; intro g w H; try simp only [Act.put, List.setIfInBounds_toArray, List.set_cons_succ, List.set_cons_zero])
    | (refine p_allocN rfl rfl (by assumption) ?_; intro g w H; try simp only [Act.put, List.setIfInBounds_toArray, List.set_cons_succ, List.set_cons_zero])
    | (refine p_allocP rfl rfl (by assumption) ?_; intro g w H; try simp only [Act.put, List.setIfInBounds_toArray, List.set_cons_succ, List.set_cons_zero])
    | (refine p_loadN rfl _ rfl _ _ rfl (by assumption) (by (repeat (first | exact .head _ | refine .tail _ ?_))) ?_; try simp only [Act.put, List.setIfInBounds_toArray, List.set_cons_succ, List.set_cons_zero])
    | (refine p_loadP rfl _ rfl _ _ _ _ rfl (by assumption) (by (repeat (first | exact .head _ | refine .tail _ ?_))) ?_; try simp only [Act.put, List.setIfInBounds_toArray, List.set_cons_succ, List.set_cons_zero])
    | (refine p_part0 rfl _ rfl _ _ _ _ rfl (by assumption) (by (repeat (first | exact .head _ | refine .tail _ ?_))) ?_; try simp only [Act.put, List.setIfInBounds_toArray, List.set_cons_succ, List.set_cons_zero])
    | (refine p_part1 rfl _ rfl _ _ _ _ rfl (by assumption) (by (repeat (first | exact .head _ | refine .tail _ ?_))) ?_; try simp only [Act.put, List.setIfInBounds_toArray, List.set_cons_succ, List.set_cons_zero])
    | (refine p_part2 rfl _ rfl _ _ _ _ rfl (by assumption) (by (repeat (first | exact .head _ | refine .tail _ ?_))) ?_; try simp only [Act.put, List.setIfInBounds_toArray, List.set_cons_succ, List.set_cons_zero])
    | (refine p_storeN0 rfl _ _ rfl _ _ _ rfl rfl _ (by assumption) ?_; intro w H; try simp only [Act.put, List.setIfInBounds_toArray, List.set_cons_succ, List.set_cons_zero])
    | (refine p_storeN1 rfl _ _ rfl _ _ _ rfl rfl _ _ (by assumption) ?_; intro w H; try simp only [Act.put, List.setIfInBounds_toArray, List.set_cons_succ, List.set_cons_zero])
    | (refine p_storeP0 rfl _ _ rfl _ _ _ _ _ _ _ rfl rfl _ (by assumption) ?_; intro w H; try simp only [Act.put, List.setIfInBounds_toArray, List.set_cons_succ, List.set_cons_zero]))
  refine wp_region_from_alloc2 8 7 6 _ _ 46 (nC 0).toArray rfl rfl rfl rfl rfl rfl (by decide) zero_nC (by kernel_rfl) (by kernel_rfl) ?_
  apply Exists.intro
  refine And.intro ?_ (And.intro ?_ ?_)
  · intro u hu x y
    simp only [List.take_succ_cons, List.take_zero, List.eraseIdx_cons_succ, List.eraseIdx_cons_zero, Act.put, List.setIfInBounds_toArray, List.set_cons_succ, List.set_cons_zero]
    repeat (first
      | (go_big_quiet_want; (first
        | (refine q_loadN _ rfl _ _ _ hu rfl (by assumption) (by (repeat (first | exact .head _ | refine .tail _ ?_))) ?_)
        | (refine q_loadP _ rfl _ _ _ _ _ hu rfl (by assumption) (by (repeat (first | exact .head _ | refine .tail _ ?_))) ?_)
        | (refine q_part0 _ rfl _ _ _ _ _ hu rfl (by assumption) (by (repeat (first | exact .head _ | refine .tail _ ?_))) ?_)
        | (refine q_part1 _ rfl _ _ _ _ _ hu rfl (by assumption) (by (repeat (first | exact .head _ | refine .tail _ ?_))) ?_)
        | (refine q_part2 _ rfl _ _ _ _ _ hu rfl (by assumption) (by (repeat (first | exact .head _ | refine .tail _ ?_))) ?_)
        | (refine q_build3 _ rfl _ _ _ (by rw [Array.toList_map]; rfl) ?_)
        | (refine q_build1 _ rfl _ (by rw [Array.toList_map]; rfl) ?_)); try simp only [Act.put, List.setIfInBounds_toArray, List.set_cons_succ, List.set_cons_zero]; go_big_quiet_on)
      | go_big_quiet_step (((first | (go_at_call 38; exact held_call _ (minusD _ _ (by first | assumption | exact ml_lt _ _ | exact ad_lt _ _ | exact sb_lt _ _ | exact fi_lt _ | decide +kernel) (by first | assumption | exact ml_lt _ _ | exact ad_lt _ _ | exact sb_lt _ _ | exact fi_lt _ | decide +kernel) _)) | (go_at_call 57; exact held_call _ (plusD _ _ (by first | assumption | exact ml_lt _ _ | exact ad_lt _ _ | exact sb_lt _ _ | exact fi_lt _ | decide +kernel) (by first | assumption | exact ml_lt _ _ | exact ad_lt _ _ | exact sb_lt _ _ | exact fi_lt _ | decide +kernel) _))))))
    exact wpQuiet_nil rfl
  · exact fun _ _ => rfl
  intro x y w5 hxy hw5 hF hF2
  have H := H.extra2 hxy hw5 hF hF2
  simp only [List.drop_succ_cons, List.drop_zero]
  go_wp2_with (first
    | (refine p_boxP rfl _ rfl _ _ _ rfl (by assumption) ?_; intro g w H; try simp only [Act.put, List.setIfInBounds_toArray, List.set_cons_succ, List.set_cons_zero])
    | (refine p_boxN rfl _ rfl _ rfl (by assumption) ?_; intro g w H; try simp only [Act.put, List.setIfInBounds_toArray, List.set_cons_succ, List.set_cons_zero])
    | (refine p_allocN rfl rfl (by assumption) ?_; intro g w H; try simp only [Act.put, List.setIfInBounds_toArray, List.set_cons_succ, List.set_cons_zero])
    | (refine p_allocP rfl rfl (by assumption) ?_; intro g w H; try simp only [Act.put, List.setIfInBounds_toArray, List.set_cons_succ, List.set_cons_zero])
    | (refine p_loadN rfl _ rfl _ _ rfl (by assumption) (by (repeat (first | exact .head _ | refine .tail _ ?_))) ?_; try simp only [Act.put, List.setIfInBounds_toArray, List.set_cons_succ, List.set_cons_zero])
    | (refine p_loadP rfl _ rfl _ _ _ _ rfl (by assumption) (by (repeat (first | exact .head _ | refine .tail _ ?_))) ?_; try simp only [Act.put, List.setIfInBounds_toArray, List.set_cons_succ, List.set_cons_zero])
    | (refine p_part0 rfl _ rfl _ _ _ _ rfl (by assumption) (by (repeat (first | exact .head _ | refine .tail _ ?_))) ?_; try simp only [Act.put, List.setIfInBounds_toArray, List.set_cons_succ, List.set_cons_zero])
    | (refine p_part1 rfl _ rfl _ _ _ _ rfl (by assumption) (by (repeat (first | exact .head _ | refine .tail _ ?_))) ?_; try simp only [Act.put, List.setIfInBounds_toArray, List.set_cons_succ, List.set_cons_zero])
    | (refine p_part2 rfl _ rfl _ _ _ _ rfl (by assumption) (by (repeat (first | exact .head _ | refine .tail _ ?_))) ?_; try simp only [Act.put, List.setIfInBounds_toArray, List.set_cons_succ, List.set_cons_zero])
    | (refine p_storeN0 rfl _ _ rfl _ _ _ rfl rfl _ (by assumption) ?_; intro w H; try simp only [Act.put, List.setIfInBounds_toArray, List.set_cons_succ, List.set_cons_zero])
    | (refine p_storeN1 rfl _ _ rfl _ _ _ rfl rfl _ _ (by assumption) ?_; intro w H; try simp only [Act.put, List.setIfInBounds_toArray, List.set_cons_succ, List.set_cons_zero])
    | (refine p_storeP0 rfl _ _ rfl _ _ _ _ _ _ _ rfl rfl _ (by assumption) ?_; intro w H; try simp only [Act.put, List.setIfInBounds_toArray, List.set_cons_succ, List.set_cons_zero]))
  refine wp_region_from_alloc 12 11 _ 46 (nC 0).toArray rfl rfl rfl zero_nC (by kernel_rfl) (by kernel_rfl) ?_
  apply Exists.intro
  refine And.intro ?_ (And.intro ?_ ?_)
  · intro u hu x
    simp only [List.take_succ_cons, List.take_zero, List.eraseIdx_cons_succ, List.eraseIdx_cons_zero, Act.put, List.setIfInBounds_toArray, List.set_cons_succ, List.set_cons_zero]
    repeat (first
      | (go_big_quiet_want; (first
        | (refine q_loadN _ rfl _ _ _ hu rfl (by assumption) (by (repeat (first | exact .head _ | refine .tail _ ?_))) ?_)
        | (refine q_loadP _ rfl _ _ _ _ _ hu rfl (by assumption) (by (repeat (first | exact .head _ | refine .tail _ ?_))) ?_)
        | (refine q_part0 _ rfl _ _ _ _ _ hu rfl (by assumption) (by (repeat (first | exact .head _ | refine .tail _ ?_))) ?_)
        | (refine q_part1 _ rfl _ _ _ _ _ hu rfl (by assumption) (by (repeat (first | exact .head _ | refine .tail _ ?_))) ?_)
        | (refine q_part2 _ rfl _ _ _ _ _ hu rfl (by assumption) (by (repeat (first | exact .head _ | refine .tail _ ?_))) ?_)
        | (refine q_build3 _ rfl _ _ _ (by rw [Array.toList_map]; rfl) ?_)
        | (refine q_build1 _ rfl _ (by rw [Array.toList_map]; rfl) ?_)); try simp only [Act.put, List.setIfInBounds_toArray, List.set_cons_succ, List.set_cons_zero]; go_big_quiet_on)
      | go_big_quiet_step (((first | (go_at_call 41; exact held_call _ (timesD _ _ (by first | assumption | exact ml_lt _ _ | exact ad_lt _ _ | exact sb_lt _ _ | exact fi_lt _ | decide +kernel) (by first | assumption | exact ml_lt _ _ | exact ad_lt _ _ | exact sb_lt _ _ | exact fi_lt _ | decide +kernel) _)) | (go_at_call 57; exact held_call _ (plusD _ _ (by first | assumption | exact ml_lt _ _ | exact ad_lt _ _ | exact sb_lt _ _ | exact fi_lt _ | decide +kernel) (by first | assumption | exact ml_lt _ _ | exact ad_lt _ _ | exact sb_lt _ _ | exact fi_lt _ | decide +kernel) _))))))
    exact wpQuiet_nil rfl
  · exact fun _ => rfl
  intro x w5 hw5 hF
  have H := H.extra hw5 hF
  simp only [List.drop_succ_cons, List.drop_zero]
  go_wp2_with (first
    | (refine p_boxP rfl _ rfl _ _ _ rfl (by assumption) ?_; intro g w H; try simp only [Act.put, List.setIfInBounds_toArray, List.set_cons_succ, List.set_cons_zero])
    | (refine p_boxN rfl _ rfl _ rfl (by assumption) ?_; intro g w H; try simp only [Act.put, List.setIfInBounds_toArray, List.set_cons_succ, List.set_cons_zero])
    | (refine p_allocN rfl rfl (by assumption) ?_; intro g w H; try simp only [Act.put, List.setIfInBounds_toArray, List.set_cons_succ, List.set_cons_zero])
    | (refine p_allocP rfl rfl (by assumption) ?_; intro g w H; try simp only [Act.put, List.setIfInBounds_toArray, List.set_cons_succ, List.set_cons_zero])
    | (refine p_loadN rfl _ rfl _ _ rfl (by assumption) (by (repeat (first | exact .head _ | refine .tail _ ?_))) ?_; try simp only [Act.put, List.setIfInBounds_toArray, List.set_cons_succ, List.set_cons_zero])
    | (refine p_loadP rfl _ rfl _ _ _ _ rfl (by assumption) (by (repeat (first | exact .head _ | refine .tail _ ?_))) ?_; try simp only [Act.put, List.setIfInBounds_toArray, List.set_cons_succ, List.set_cons_zero])
    | (refine p_part0 rfl _ rfl _ _ _ _ rfl (by assumption) (by (repeat (first | exact .head _ | refine .tail _ ?_))) ?_; try simp only [Act.put, List.setIfInBounds_toArray, List.set_cons_succ, List.set_cons_zero])
    | (refine p_part1 rfl _ rfl _ _ _ _ rfl (by assumption) (by (repeat (first | exact .head _ | refine .tail _ ?_))) ?_; try simp only [Act.put, List.setIfInBounds_toArray, List.set_cons_succ, List.set_cons_zero])
    | (refine p_part2 rfl _ rfl _ _ _ _ rfl (by assumption) (by (repeat (first | exact .head _ | refine .tail _ ?_))) ?_; try simp only [Act.put, List.setIfInBounds_toArray, List.set_cons_succ, List.set_cons_zero])
    | (refine p_storeN0 rfl _ _ rfl _ _ _ rfl rfl _ (by assumption) ?_; intro w H; try simp only [Act.put, List.setIfInBounds_toArray, List.set_cons_succ, List.set_cons_zero])
    | (refine p_storeN1 rfl _ _ rfl _ _ _ rfl rfl _ _ (by assumption) ?_; intro w H; try simp only [Act.put, List.setIfInBounds_toArray, List.set_cons_succ, List.set_cons_zero])
    | (refine p_storeP0 rfl _ _ rfl _ _ _ _ _ _ _ rfl rfl _ (by assumption) ?_; intro w H; try simp only [Act.put, List.setIfInBounds_toArray, List.set_cons_succ, List.set_cons_zero]))
  refine wp_region_from_alloc 6 5 _ 46 (nC 0).toArray rfl rfl rfl zero_nC (by kernel_rfl) (by kernel_rfl) ?_
  apply Exists.intro
  refine And.intro ?_ (And.intro ?_ ?_)
  · intro u hu x
    simp only [List.take_succ_cons, List.take_zero, List.eraseIdx_cons_succ, List.eraseIdx_cons_zero, Act.put, List.setIfInBounds_toArray, List.set_cons_succ, List.set_cons_zero]
    repeat (first
      | (go_big_quiet_want; (first
        | (refine q_loadN _ rfl _ _ _ hu rfl (by assumption) (by (repeat (first | exact .head _ | refine .tail _ ?_))) ?_)
        | (refine q_loadP _ rfl _ _ _ _ _ hu rfl (by assumption) (by (repeat (first | exact .head _ | refine .tail _ ?_))) ?_)
        | (refine q_part0 _ rfl _ _ _ _ _ hu rfl (by assumption) (by (repeat (first | exact .head _ | refine .tail _ ?_))) ?_)
        | (refine q_part1 _ rfl _ _ _ _ _ hu rfl (by assumption) (by (repeat (first | exact .head _ | refine .tail _ ?_))) ?_)
        | (refine q_part2 _ rfl _ _ _ _ _ hu rfl (by assumption) (by (repeat (first | exact .head _ | refine .tail _ ?_))) ?_)
        | (refine q_build3 _ rfl _ _ _ (by rw [Array.toList_map]; rfl) ?_)
        | (refine q_build1 _ rfl _ (by rw [Array.toList_map]; rfl) ?_)); try simp only [Act.put, List.setIfInBounds_toArray, List.set_cons_succ, List.set_cons_zero]; go_big_quiet_on)
      | go_big_quiet_step (((first | (go_at_call 41; exact held_call _ (timesD _ _ (by first | assumption | exact ml_lt _ _ | exact ad_lt _ _ | exact sb_lt _ _ | exact fi_lt _ | decide +kernel) (by first | assumption | exact ml_lt _ _ | exact ad_lt _ _ | exact sb_lt _ _ | exact fi_lt _ | decide +kernel) _))))))
    exact wpQuiet_nil rfl
  · exact fun _ => rfl
  intro x w5 hw5 hF
  have H := H.extra hw5 hF
  simp only [List.drop_succ_cons, List.drop_zero]
  go_wp2_with (first
    | (refine p_boxP rfl _ rfl _ _ _ rfl (by assumption) ?_; intro g w H; try simp only [Act.put, List.setIfInBounds_toArray, List.set_cons_succ, List.set_cons_zero])
    | (refine p_boxN rfl _ rfl _ rfl (by assumption) ?_; intro g w H; try simp only [Act.put, List.setIfInBounds_toArray, List.set_cons_succ, List.set_cons_zero])
    | (refine p_allocN rfl rfl (by assumption) ?_; intro g w H; try simp only [Act.put, List.setIfInBounds_toArray, List.set_cons_succ, List.set_cons_zero])
    | (refine p_allocP rfl rfl (by assumption) ?_; intro g w H; try simp only [Act.put, List.setIfInBounds_toArray, List.set_cons_succ, List.set_cons_zero])
    | (refine p_loadN rfl _ rfl _ _ rfl (by assumption) (by (repeat (first | exact .head _ | refine .tail _ ?_))) ?_; try simp only [Act.put, List.setIfInBounds_toArray, List.set_cons_succ, List.set_cons_zero])
    | (refine p_loadP rfl _ rfl _ _ _ _ rfl (by assumption) (by (repeat (first | exact .head _ | refine .tail _ ?_))) ?_; try simp only [Act.put, List.setIfInBounds_toArray, List.set_cons_succ, List.set_cons_zero])
    | (refine p_part0 rfl _ rfl _ _ _ _ rfl (by assumption) (by (repeat (first | exact .head _ | refine .tail _ ?_))) ?_; try simp only [Act.put, List.setIfInBounds_toArray, List.set_cons_succ, List.set_cons_zero])
    | (refine p_part1 rfl _ rfl _ _ _ _ rfl (by assumption) (by (repeat (first | exact .head _ | refine .tail _ ?_))) ?_; try simp only [Act.put, List.setIfInBounds_toArray, List.set_cons_succ, List.set_cons_zero])
    | (refine p_part2 rfl _ rfl _ _ _ _ rfl (by assumption) (by (repeat (first | exact .head _ | refine .tail _ ?_))) ?_; try simp only [Act.put, List.setIfInBounds_toArray, List.set_cons_succ, List.set_cons_zero])
    | (refine p_storeN0 rfl _ _ rfl _ _ _ rfl rfl _ (by assumption) ?_; intro w H; try simp only [Act.put, List.setIfInBounds_toArray, List.set_cons_succ, List.set_cons_zero])
    | (refine p_storeN1 rfl _ _ rfl _ _ _ rfl rfl _ _ (by assumption) ?_; intro w H; try simp only [Act.put, List.setIfInBounds_toArray, List.set_cons_succ, List.set_cons_zero])
    | (refine p_storeP0 rfl _ _ rfl _ _ _ _ _ _ _ rfl rfl _ (by assumption) ?_; intro w H; try simp only [Act.put, List.setIfInBounds_toArray, List.set_cons_succ, List.set_cons_zero]))
  refine wp_region_from_alloc 8 7 _ 46 (nC 0).toArray rfl rfl rfl zero_nC (by kernel_rfl) (by kernel_rfl) ?_
  apply Exists.intro
  refine And.intro ?_ (And.intro ?_ ?_)
  · intro u hu x
    simp only [List.take_succ_cons, List.take_zero, List.eraseIdx_cons_succ, List.eraseIdx_cons_zero, Act.put, List.setIfInBounds_toArray, List.set_cons_succ, List.set_cons_zero]
    repeat (first
      | (go_big_quiet_want; (first
        | (refine q_loadN _ rfl _ _ _ hu rfl (by assumption) (by (repeat (first | exact .head _ | refine .tail _ ?_))) ?_)
        | (refine q_loadP _ rfl _ _ _ _ _ hu rfl (by assumption) (by (repeat (first | exact .head _ | refine .tail _ ?_))) ?_)
        | (refine q_part0 _ rfl _ _ _ _ _ hu rfl (by assumption) (by (repeat (first | exact .head _ | refine .tail _ ?_))) ?_)
        | (refine q_part1 _ rfl _ _ _ _ _ hu rfl (by assumption) (by (repeat (first | exact .head _ | refine .tail _ ?_))) ?_)
        | (refine q_part2 _ rfl _ _ _ _ _ hu rfl (by assumption) (by (repeat (first | exact .head _ | refine .tail _ ?_))) ?_)
        | (refine q_build3 _ rfl _ _ _ (by rw [Array.toList_map]; rfl) ?_)
        | (refine q_build1 _ rfl _ (by rw [Array.toList_map]; rfl) ?_)); try simp only [Act.put, List.setIfInBounds_toArray, List.set_cons_succ, List.set_cons_zero]; go_big_quiet_on)
      | go_big_quiet_step (((first | (go_at_call 41; exact held_call _ (timesD _ _ (by first | assumption | exact ml_lt _ _ | exact ad_lt _ _ | exact sb_lt _ _ | exact fi_lt _ | decide +kernel) (by first | assumption | exact ml_lt _ _ | exact ad_lt _ _ | exact sb_lt _ _ | exact fi_lt _ | decide +kernel) _)) | (go_at_call 57; exact held_call _ (plusD _ _ (by first | assumption | exact ml_lt _ _ | exact ad_lt _ _ | exact sb_lt _ _ | exact fi_lt _ | decide +kernel) (by first | assumption | exact ml_lt _ _ | exact ad_lt _ _ | exact sb_lt _ _ | exact fi_lt _ | decide +kernel) _))))))
    exact wpQuiet_nil rfl
  · exact fun _ => rfl
  intro x w5 hw5 hF
  have H := H.extra hw5 hF
  simp only [List.drop_succ_cons, List.drop_zero]
  go_wp2_with (first
    | (refine p_boxP rfl _ rfl _ _ _ rfl (by assumption) ?_; intro g w H; try simp only [Act.put, List.setIfInBounds_toArray, List.set_cons_succ, List.set_cons_zero])
    | (refine p_boxN rfl _ rfl _ rfl (by assumption) ?_; intro g w H; try simp only [Act.put, List.setIfInBounds_toArray, List.set_cons_succ, List.set_cons_zero])
    | (refine p_allocN rfl rfl (by assumption) ?_; intro g w H; try simp only [Act.put, List.setIfInBounds_toArray, List.set_cons_succ, List.set_cons_zero])
    | (refine p_allocP rfl rfl (by assumption) ?_; intro g w H; try simp only [Act.put, List.setIfInBounds_toArray, List.set_cons_succ, List.set_cons_zero])
    | (refine p_loadN rfl _ rfl _ _ rfl (by assumption) (by (repeat (first | exact .head _ | refine .tail _ ?_))) ?_; try simp only [Act.put, List.setIfInBounds_toArray, List.set_cons_succ, List.set_cons_zero])
    | (refine p_loadP rfl _ rfl _ _ _ _ rfl (by assumption) (by (repeat (first | exact .head _ | refine .tail _ ?_))) ?_; try simp only [Act.put, List.setIfInBounds_toArray, List.set_cons_succ, List.set_cons_zero])
    | (refine p_part0 rfl _ rfl _ _ _ _ rfl (by assumption) (by (repeat (first | exact .head _ | refine .tail _ ?_))) ?_; try simp only [Act.put, List.setIfInBounds_toArray, List.set_cons_succ, List.set_cons_zero])
    | (refine p_part1 rfl _ rfl _ _ _ _ rfl (by assumption) (by (repeat (first | exact .head _ | refine .tail _ ?_))) ?_; try simp only [Act.put, List.setIfInBounds_toArray, List.set_cons_succ, List.set_cons_zero])
    | (refine p_part2 rfl _ rfl _ _ _ _ rfl (by assumption) (by (repeat (first | exact .head _ | refine .tail _ ?_))) ?_; try simp only [Act.put, List.setIfInBounds_toArray, List.set_cons_succ, List.set_cons_zero])
    | (refine p_storeN0 rfl _ _ rfl _ _ _ rfl rfl _ (by assumption) ?_; intro w H; try simp only [Act.put, List.setIfInBounds_toArray, List.set_cons_succ, List.set_cons_zero])
    | (refine p_storeN1 rfl _ _ rfl _ _ _ rfl rfl _ _ (by assumption) ?_; intro w H; try simp only [Act.put, List.setIfInBounds_toArray, List.set_cons_succ, List.set_cons_zero])
    | (refine p_storeP0 rfl _ _ rfl _ _ _ _ _ _ _ rfl rfl _ (by assumption) ?_; intro w H; try simp only [Act.put, List.setIfInBounds_toArray, List.set_cons_succ, List.set_cons_zero]))
  refine wp_region_from_tail 6 (by kernel_rfl) (by kernel_rfl) ?_
  simp only [List.take_succ_cons, List.take_zero, List.drop_succ_cons, List.drop_zero]
  repeat (first
    | (go_big_quiet_want; (first
      | (refine q_loadN _ rfl _ _ _ (From.refl _) rfl (by assumption) (by (repeat (first | exact .head _ | refine .tail _ ?_))) ?_)
      | (refine q_loadP _ rfl _ _ _ _ _ (From.refl _) rfl (by assumption) (by (repeat (first | exact .head _ | refine .tail _ ?_))) ?_)
      | (refine q_part0 _ rfl _ _ _ _ _ (From.refl _) rfl (by assumption) (by (repeat (first | exact .head _ | refine .tail _ ?_))) ?_)
      | (refine q_part1 _ rfl _ _ _ _ _ (From.refl _) rfl (by assumption) (by (repeat (first | exact .head _ | refine .tail _ ?_))) ?_)
      | (refine q_part2 _ rfl _ _ _ _ _ (From.refl _) rfl (by assumption) (by (repeat (first | exact .head _ | refine .tail _ ?_))) ?_)
      | (refine q_build3 _ rfl _ _ _ (by rw [Array.toList_map]; rfl) ?_)
      | (refine q_build1 _ rfl _ (by rw [Array.toList_map]; rfl) ?_)); try simp only [Act.put, List.setIfInBounds_toArray, List.set_cons_succ, List.set_cons_zero]; go_big_quiet_on)
    | go_big_quiet_step (((first | (go_at_call 41; exact held_call _ (timesD _ _ (by first | assumption | exact ml_lt _ _ | exact ad_lt _ _ | exact sb_lt _ _ | exact fi_lt _ | decide +kernel) (by first | assumption | exact ml_lt _ _ | exact ad_lt _ _ | exact sb_lt _ _ | exact fi_lt _ | decide +kernel) _))))))
  refine wpQuiet_nil ?_
  intro w5 hw5
  have H := H.from hw5
  clear hw5
  go_wp2_with (first
    | (refine p_boxP rfl _ rfl _ _ _ rfl (by assumption) ?_; intro g w H; try simp only [Act.put, List.setIfInBounds_toArray, List.set_cons_succ, List.set_cons_zero])
    | (refine p_boxN rfl _ rfl _ rfl (by assumption) ?_; intro g w H; try simp only [Act.put, List.setIfInBounds_toArray, List.set_cons_succ, List.set_cons_zero])
    | (refine p_allocN rfl rfl (by assumption) ?_; intro g w H; try simp only [Act.put, List.setIfInBounds_toArray, List.set_cons_succ, List.set_cons_zero])
    | (refine p_allocP rfl rfl (by assumption) ?_; intro g w H; try simp only [Act.put, List.setIfInBounds_toArray, List.set_cons_succ, List.set_cons_zero])
    | (refine p_loadN rfl _ rfl _ _ rfl (by assumption) (by (repeat (first | exact .head _ | refine .tail _ ?_))) ?_; try simp only [Act.put, List.setIfInBounds_toArray, List.set_cons_succ, List.set_cons_zero])
    | (refine p_loadP rfl _ rfl _ _ _ _ rfl (by assumption) (by (repeat (first | exact .head _ | refine .tail _ ?_))) ?_; try simp only [Act.put, List.setIfInBounds_toArray, List.set_cons_succ, List.set_cons_zero])
    | (refine p_part0 rfl _ rfl _ _ _ _ rfl (by assumption) (by (repeat (first | exact .head _ | refine .tail _ ?_))) ?_; try simp only [Act.put, List.setIfInBounds_toArray, List.set_cons_succ, List.set_cons_zero])
    | (refine p_part1 rfl _ rfl _ _ _ _ rfl (by assumption) (by (repeat (first | exact .head _ | refine .tail _ ?_))) ?_; try simp only [Act.put, List.setIfInBounds_toArray, List.set_cons_succ, List.set_cons_zero])
    | (refine p_part2 rfl _ rfl _ _ _ _ rfl (by assumption) (by (repeat (first | exact .head _ | refine .tail _ ?_))) ?_; try simp only [Act.put, List.setIfInBounds_toArray, List.set_cons_succ, List.set_cons_zero])
    | (refine p_storeN0 rfl _ _ rfl _ _ _ rfl rfl _ (by assumption) ?_; intro w H; try simp only [Act.put, List.setIfInBounds_toArray, List.set_cons_succ, List.set_cons_zero])
    | (refine p_storeN1 rfl _ _ rfl _ _ _ rfl rfl _ _ (by assumption) ?_; intro w H; try simp only [Act.put, List.setIfInBounds_toArray, List.set_cons_succ, List.set_cons_zero])
    | (refine p_storeP0 rfl _ _ rfl _ _ _ _ _ _ _ rfl rfl _ (by assumption) ?_; intro w H; try simp only [Act.put, List.setIfInBounds_toArray, List.set_cons_succ, List.set_cons_zero])
    | (refine p_storeP_fin rfl _ _ rfl _ _ _ _ _ _ _ rfl rfl (by assumption) (by (repeat (first | exact .head _ | refine .tail _ ?_))) ?_; intro w H; try simp only [Act.put, List.setIfInBounds_toArray, List.set_cons_succ, List.set_cons_zero]))
  exact p_retP Try.results34 _ rfl rfl H (.head _)
end Go.Proofs.Ytockcnglennihaa
