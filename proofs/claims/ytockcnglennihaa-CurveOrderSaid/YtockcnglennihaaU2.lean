/- Package curve: its points' methods. -/
import Derived.Test.YtockcnglennihaaU1
set_option linter.unusedSimpArgs false
set_option linter.unusedVariables false
set_option maxRecDepth 100000
namespace Go.Proofs.Ytockcnglennihaa
open Go.RowKit
theorem lit0 : (⟨#[0, 0, 0, 0, 0, 0, 0, 0, 0, 0, 0, 0, 0, 0, 0, 0, 0, 0, 0, 0, 0, 0, 0, 0, 0, 0, 0, 0, 0, 0, 0, 0]⟩ : ByteArray) = S (leB 0) := by decide +kernel
theorem lit1 : (⟨#[1, 0, 0, 0, 0, 0, 0, 0, 0, 0, 0, 0, 0, 0, 0, 0, 0, 0, 0, 0, 0, 0, 0, 0, 0, 0, 0, 0, 0, 0, 0, 0]⟩ : ByteArray) = S (leB 1) := by decide +kernel
theorem litD : (⟨#[163, 120, 89, 19, 202, 77, 235, 117, 171, 216, 65, 65, 77, 10, 112, 0, 152, 232, 121, 119, 121, 64, 199, 140, 115, 254, 111, 43, 238, 108, 3, 82]⟩ : ByteArray) = S (leB dF) := by decide +kernel
theorem eTimes_d (y : Nat) (hy : y < pF) (w : World) : Calls Try.prog 49 #[.string ⟨#[163, 120, 89, 19, 202, 77, 235, 117, 171, 216, 65, 65, 77, 10, 112, 0, 152, 232, 121, 119, 121, 64, 199, 140, 115, 254, 111, 43, 238, 108, 3, 82]⟩, .string (S (leB y))] w (RetV (.string (S (leB (ml dF y)))) w) := by rw [litD]; exact eTimes dF y (by decide +kernel) hy w
theorem ePlus_1 (y : Nat) (hy : y < pF) (w : World) : Calls Try.prog 50 #[.string ⟨#[1, 0, 0, 0, 0, 0, 0, 0, 0, 0, 0, 0, 0, 0, 0, 0, 0, 0, 0, 0, 0, 0, 0, 0, 0, 0, 0, 0, 0, 0, 0, 0]⟩, .string (S (leB y))] w (RetV (.string (S (leB (ad 1 y)))) w) := by rw [lit1]; exact ePlus 1 y (by decide +kernel) hy w
theorem eMinus_1 (x : Nat) (hx : x < pF) (w : World) : Calls Try.prog 51 #[.string (S (leB x)), .string ⟨#[1, 0, 0, 0, 0, 0, 0, 0, 0, 0, 0, 0, 0, 0, 0, 0, 0, 0, 0, 0, 0, 0, 0, 0, 0, 0, 0, 0, 0, 0, 0, 0]⟩] w (RetV (.string (S (leB (sb x 1)))) w) := by rw [lit1]; exact eMinus x 1 hx (by decide +kernel) w
theorem eMinus_0 (y : Nat) (hy : y < pF) (w : World) : Calls Try.prog 51 #[.string ⟨#[0, 0, 0, 0, 0, 0, 0, 0, 0, 0, 0, 0, 0, 0, 0, 0, 0, 0, 0, 0, 0, 0, 0, 0, 0, 0, 0, 0, 0, 0, 0, 0]⟩, .string (S (leB y))] w (RetV (.string (S (leB (sb 0 y)))) w) := by rw [lit0]; exact eMinus 0 y (by decide +kernel) hy w
def rC (x y z t : Nat) : List Value := qC (S (leB x)) (S (leB y)) (S (leB z)) (S (leB t))
theorem at_core (x y z : ByteArray) (c : ∀ w, Calls Try.prog 49 #[.string x, .string y] w (RetV (.string z) w)) (w : World) : Calls Try.prog 45 #[.string x, .string y] w (RetV (.agg (qC x y ⟨#[1, 0, 0, 0, 0, 0, 0, 0, 0, 0, 0, 0, 0, 0, 0, 0, 0, 0, 0, 0, 0, 0, 0, 0, 0, 0, 0, 0, 0, 0, 0, 0]⟩ z).toArray) w) := by
  have H := RMem.start w
  replace c := Kept.mk c
  go_enter Try.func45, Try.ntmps45
  go_wp2_with (first
    | (refine u_store_fin rfl _ _ rfl _ _ _ _ _ _ _ _ _ rfl rfl (by assumption) (by (repeat (first | exact .head _ | refine .tail _ ?_))) ?_; intro w H; try simp only [Act.put, List.setIfInBounds_toArray, List.set_cons_succ, List.set_cons_zero])
    | (refine u_box rfl _ rfl _ _ _ _ rfl (by assumption) ?_; intro g w H; try simp only [Act.put, List.setIfInBounds_toArray, List.set_cons_succ, List.set_cons_zero])
    | (refine u_alloc rfl rfl (by assumption) ?_; intro g w H; try simp only [Act.put, List.setIfInBounds_toArray, List.set_cons_succ, List.set_cons_zero])
    | (refine u_load rfl _ rfl _ _ _ _ _ rfl (by assumption) (by (repeat (first | exact .head _ | refine .tail _ ?_))) ?_; try simp only [Act.put, List.setIfInBounds_toArray, List.set_cons_succ, List.set_cons_zero])
    | (refine u_store0 rfl _ _ rfl _ _ _ _ _ _ _ _ _ rfl rfl _ (by assumption) ?_; intro w H; try simp only [Act.put, List.setIfInBounds_toArray, List.set_cons_succ, List.set_cons_zero])
    | (refine u_build rfl _ rfl _ _ _ _ (by rw [Array.toList_map]; rfl) ?_; try simp only [Act.put, List.setIfInBounds_toArray, List.set_cons_succ, List.set_cons_zero])
    | (refine u_build0 rfl _ rfl (by rw [Array.toList_map]; rfl) ?_; try simp only [Act.put, List.setIfInBounds_toArray, List.set_cons_succ, List.set_cons_zero])
    | (refine u_cell0 rfl _ rfl _ _ _ _ _ rfl (by assumption) (by (repeat (first | exact .head _ | refine .tail _ ?_))) ?_; try simp only [Act.put, List.setIfInBounds_toArray, List.set_cons_succ, List.set_cons_zero])
    | (refine u_cell1 rfl _ rfl _ _ _ _ _ rfl (by assumption) (by (repeat (first | exact .head _ | refine .tail _ ?_))) ?_; try simp only [Act.put, List.setIfInBounds_toArray, List.set_cons_succ, List.set_cons_zero])
    | (refine u_cell2 rfl _ rfl _ _ _ _ _ rfl (by assumption) (by (repeat (first | exact .head _ | refine .tail _ ?_))) ?_; try simp only [Act.put, List.setIfInBounds_toArray, List.set_cons_succ, List.set_cons_zero])
    | (refine u_cell3 rfl _ rfl _ _ _ _ _ rfl (by assumption) (by (repeat (first | exact .head _ | refine .tail _ ?_))) ?_; try simp only [Act.put, List.setIfInBounds_toArray, List.set_cons_succ, List.set_cons_zero])
    | (go_at_call 49; (with_reducible refine r_call (by assumption) (c.out _) ?_); intro w H))
  exact u_ret Try.results45 _ rfl rfl H (.head _)
theorem at_any (x y : Nat) (hx : x < pF) (hy : y < pF) (w : World) : Calls Try.prog 45 #[.string (S (leB x)), .string (S (leB y))] w (RetV (.agg (rC x y 1 (ml x y)).toArray) w) := by
  have h := at_core _ _ _ (fun w => eTimes x y hx hy w) w
  rw [lit1] at h
  exact h
theorem at_01 (w : World) : Calls Try.prog 45 #[.string ⟨#[0, 0, 0, 0, 0, 0, 0, 0, 0, 0, 0, 0, 0, 0, 0, 0, 0, 0, 0, 0, 0, 0, 0, 0, 0, 0, 0, 0, 0, 0, 0, 0]⟩, .string ⟨#[1, 0, 0, 0, 0, 0, 0, 0, 0, 0, 0, 0, 0, 0, 0, 0, 0, 0, 0, 0, 0, 0, 0, 0, 0, 0, 0, 0, 0, 0, 0, 0]⟩] w (RetV (.agg (rC 0 1 1 0).toArray) w) := by
  rw [lit0, lit1]
  have h := at_any 0 1 (by decide +kernel) (by decide +kernel) w
  rw [show ml 0 1 = 0 by decide +kernel] at h
  exact h
set_option maxHeartbeats 1000000 in
theorem negate_pt (x y z t : Nat) (hx : x < pF) (ht : t < pF) (w : World) : Calls Try.prog 36 #[.agg (rC x y z t).toArray] w (RetV (.agg (rC (sb 0 x) y z (sb 0 t)).toArray) w) := by
  have H := RMem.start w
  unfold rC
  go_enter Try.func36, Try.ntmps36
  go_wp2_with (first
    | (refine u_box rfl _ rfl _ _ _ _ rfl (by assumption) ?_; intro g w H; try simp only [Act.put, List.setIfInBounds_toArray, List.set_cons_succ, List.set_cons_zero])
    | (refine u_alloc rfl rfl (by assumption) ?_; intro g w H; try simp only [Act.put, List.setIfInBounds_toArray, List.set_cons_succ, List.set_cons_zero])
    | (refine u_load rfl _ rfl _ _ _ _ _ rfl (by assumption) (by (repeat (first | exact .head _ | refine .tail _ ?_))) ?_; try simp only [Act.put, List.setIfInBounds_toArray, List.set_cons_succ, List.set_cons_zero])
    | (refine u_store0 rfl _ _ rfl _ _ _ _ _ _ _ _ _ rfl rfl _ (by assumption) ?_; intro w H; try simp only [Act.put, List.setIfInBounds_toArray, List.set_cons_succ, List.set_cons_zero])
    | (refine u_build rfl _ rfl _ _ _ _ (by rw [Array.toList_map]; rfl) ?_; try simp only [Act.put, List.setIfInBounds_toArray, List.set_cons_succ, List.set_cons_zero])
    | (refine u_build0 rfl _ rfl (by rw [Array.toList_map]; rfl) ?_; try simp only [Act.put, List.setIfInBounds_toArray, List.set_cons_succ, List.set_cons_zero])
    | (refine u_cell0 rfl _ rfl _ _ _ _ _ rfl (by assumption) (by (repeat (first | exact .head _ | refine .tail _ ?_))) ?_; try simp only [Act.put, List.setIfInBounds_toArray, List.set_cons_succ, List.set_cons_zero])
    | (refine u_cell1 rfl _ rfl _ _ _ _ _ rfl (by assumption) (by (repeat (first | exact .head _ | refine .tail _ ?_))) ?_; try simp only [Act.put, List.setIfInBounds_toArray, List.set_cons_succ, List.set_cons_zero])
    | (refine u_cell2 rfl _ rfl _ _ _ _ _ rfl (by assumption) (by (repeat (first | exact .head _ | refine .tail _ ?_))) ?_; try simp only [Act.put, List.setIfInBounds_toArray, List.set_cons_succ, List.set_cons_zero])
    | (refine u_cell3 rfl _ rfl _ _ _ _ _ rfl (by assumption) (by (repeat (first | exact .head _ | refine .tail _ ?_))) ?_; try simp only [Act.put, List.setIfInBounds_toArray, List.set_cons_succ, List.set_cons_zero]))
  refine wp_region_from_tail 11 (by kernel_rfl) (by kernel_rfl) ?_
  simp only [List.take_succ_cons, List.take_zero, List.drop_succ_cons, List.drop_zero]
  repeat (first
    | (go_big_quiet_want; (first
      | (refine v_load _ rfl _ _ _ _ _ _ (From.refl _) rfl (by assumption) (by (repeat (first | exact .head _ | refine .tail _ ?_))) ?_)
      | (refine v_cell0 _ rfl _ _ _ _ _ _ (From.refl _) rfl (by assumption) (by (repeat (first | exact .head _ | refine .tail _ ?_))) ?_)
      | (refine v_cell1 _ rfl _ _ _ _ _ _ (From.refl _) rfl (by assumption) (by (repeat (first | exact .head _ | refine .tail _ ?_))) ?_)
      | (refine v_cell2 _ rfl _ _ _ _ _ _ (From.refl _) rfl (by assumption) (by (repeat (first | exact .head _ | refine .tail _ ?_))) ?_)
      | (refine v_cell3 _ rfl _ _ _ _ _ _ (From.refl _) rfl (by assumption) (by (repeat (first | exact .head _ | refine .tail _ ?_))) ?_)
      | (refine v_build _ rfl _ _ _ _ (by rw [Array.toList_map]; rfl) ?_)); try simp only [Act.put, List.setIfInBounds_toArray, List.set_cons_succ, List.set_cons_zero]; go_big_quiet_on)
    | go_big_quiet_step (((first | (go_at_call 51; (with_reducible exact held_call _ (eMinus_0 _ (by first | assumption | exact ml_lt _ _ | exact ad_lt _ _ | exact sb_lt _ _ | exact fi_lt _ | decide +kernel) _)))))))
  refine wpQuiet_nil ?_
  intro w5 hw5
  have H := H.from hw5
  clear hw5
  go_wp2_with (first
    | (refine u_store_fin rfl _ _ rfl _ _ _ _ _ _ _ _ _ rfl rfl (by assumption) (by (repeat (first | exact .head _ | refine .tail _ ?_))) ?_; intro w H; try simp only [Act.put, List.setIfInBounds_toArray, List.set_cons_succ, List.set_cons_zero])
    | (refine u_box rfl _ rfl _ _ _ _ rfl (by assumption) ?_; intro g w H; try simp only [Act.put, List.setIfInBounds_toArray, List.set_cons_succ, List.set_cons_zero])
    | (refine u_alloc rfl rfl (by assumption) ?_; intro g w H; try simp only [Act.put, List.setIfInBounds_toArray, List.set_cons_succ, List.set_cons_zero])
    | (refine u_load rfl _ rfl _ _ _ _ _ rfl (by assumption) (by (repeat (first | exact .head _ | refine .tail _ ?_))) ?_; try simp only [Act.put, List.setIfInBounds_toArray, List.set_cons_succ, List.set_cons_zero])
    | (refine u_store0 rfl _ _ rfl _ _ _ _ _ _ _ _ _ rfl rfl _ (by assumption) ?_; intro w H; try simp only [Act.put, List.setIfInBounds_toArray, List.set_cons_succ, List.set_cons_zero])
    | (refine u_build rfl _ rfl _ _ _ _ (by rw [Array.toList_map]; rfl) ?_; try simp only [Act.put, List.setIfInBounds_toArray, List.set_cons_succ, List.set_cons_zero])
    | (refine u_build0 rfl _ rfl (by rw [Array.toList_map]; rfl) ?_; try simp only [Act.put, List.setIfInBounds_toArray, List.set_cons_succ, List.set_cons_zero])
    | (refine u_cell0 rfl _ rfl _ _ _ _ _ rfl (by assumption) (by (repeat (first | exact .head _ | refine .tail _ ?_))) ?_; try simp only [Act.put, List.setIfInBounds_toArray, List.set_cons_succ, List.set_cons_zero])
    | (refine u_cell1 rfl _ rfl _ _ _ _ _ rfl (by assumption) (by (repeat (first | exact .head _ | refine .tail _ ?_))) ?_; try simp only [Act.put, List.setIfInBounds_toArray, List.set_cons_succ, List.set_cons_zero])
    | (refine u_cell2 rfl _ rfl _ _ _ _ _ rfl (by assumption) (by (repeat (first | exact .head _ | refine .tail _ ?_))) ?_; try simp only [Act.put, List.setIfInBounds_toArray, List.set_cons_succ, List.set_cons_zero])
    | (refine u_cell3 rfl _ rfl _ _ _ _ _ rfl (by assumption) (by (repeat (first | exact .head _ | refine .tail _ ?_))) ?_; try simp only [Act.put, List.setIfInBounds_toArray, List.set_cons_succ, List.set_cons_zero]))
  exact u_ret Try.results36 _ rfl rfl H (.head _)
/-- The developers' sum of four numbers. -/
structure T4 where
  x : Nat
  y : Nat
  z : Nat
  t : Nat
def dadd (p q : T4) : T4 :=
  let a := ad (ml p.x q.y) (ml q.x p.y)
  let b := ad (ml p.y q.y) (ml p.x q.x)
  let s := ml p.z q.z
  let m := ml dF (ml p.t q.t)
  ⟨ml a (sb s m), ml b (ad s m), ml (ad s m) (sb s m), ml a b⟩
set_option maxHeartbeats 4000000 in
theorem plus_pt (x1 y1 z1 t1 x2 y2 z2 t2 : Nat) (h1 : x1 < pF) (h2 : y1 < pF) (h3 : z1 < pF) (h4 : t1 < pF) (h5 : x2 < pF) (h6 : y2 < pF) (h7 : z2 < pF) (h8 : t2 < pF) (w : World) :
    Calls Try.prog 30 #[.agg (rC x1 y1 z1 t1).toArray, .agg (rC x2 y2 z2 t2).toArray] w (RetV (.agg (rC (dadd ⟨x1, y1, z1, t1⟩ ⟨x2, y2, z2, t2⟩).x (dadd ⟨x1, y1, z1, t1⟩ ⟨x2, y2, z2, t2⟩).y (dadd ⟨x1, y1, z1, t1⟩ ⟨x2, y2, z2, t2⟩).z (dadd ⟨x1, y1, z1, t1⟩ ⟨x2, y2, z2, t2⟩).t).toArray) w) := by
  have H := RMem.start w
  unfold dadd rC
  simp only
  have cd := Kept.mk eTimes_d
  go_enter Try.func30, Try.ntmps30
  go_wp2_with (first
    | (refine u_box rfl _ rfl _ _ _ _ rfl (by assumption) ?_; intro g w H; try simp only [Act.put, List.setIfInBounds_toArray, List.set_cons_succ, List.set_cons_zero])
    | (refine u_alloc rfl rfl (by assumption) ?_; intro g w H; try simp only [Act.put, List.setIfInBounds_toArray, List.set_cons_succ, List.set_cons_zero])
    | (refine u_load rfl _ rfl _ _ _ _ _ rfl (by assumption) (by (repeat (first | exact .head _ | refine .tail _ ?_))) ?_; try simp only [Act.put, List.setIfInBounds_toArray, List.set_cons_succ, List.set_cons_zero])
    | (refine u_store0 rfl _ _ rfl _ _ _ _ _ _ _ _ _ rfl rfl _ (by assumption) ?_; intro w H; try simp only [Act.put, List.setIfInBounds_toArray, List.set_cons_succ, List.set_cons_zero])
    | (refine u_build rfl _ rfl _ _ _ _ (by rw [Array.toList_map]; rfl) ?_; try simp only [Act.put, List.setIfInBounds_toArray, List.set_cons_succ, List.set_cons_zero])
    | (refine u_build0 rfl _ rfl (by rw [Array.toList_map]; rfl) ?_; try simp only [Act.put, List.setIfInBounds_toArray, List.set_cons_succ, List.set_cons_zero])
    | (refine u_cell0 rfl _ rfl _ _ _ _ _ rfl (by assumption) (by (repeat (first | exact .head _ | refine .tail _ ?_))) ?_; try simp only [Act.put, List.setIfInBounds_toArray, List.set_cons_succ, List.set_cons_zero])
    | (refine u_cell1 rfl _ rfl _ _ _ _ _ rfl (by assumption) (by (repeat (first | exact .head _ | refine .tail _ ?_))) ?_; try simp only [Act.put, List.setIfInBounds_toArray, List.set_cons_succ, List.set_cons_zero])
    | (refine u_cell2 rfl _ rfl _ _ _ _ _ rfl (by assumption) (by (repeat (first | exact .head _ | refine .tail _ ?_))) ?_; try simp only [Act.put, List.setIfInBounds_toArray, List.set_cons_succ, List.set_cons_zero])
    | (refine u_cell3 rfl _ rfl _ _ _ _ _ rfl (by assumption) (by (repeat (first | exact .head _ | refine .tail _ ?_))) ?_; try simp only [Act.put, List.setIfInBounds_toArray, List.set_cons_succ, List.set_cons_zero]))
  refine wp_region_from (by kernel_rfl) (by kernel_rfl) ?_
  repeat (first
    | (go_big_quiet_want; (first
      | (refine v_load _ rfl _ _ _ _ _ _ (From.refl _) rfl (by assumption) (by (repeat (first | exact .head _ | refine .tail _ ?_))) ?_)
      | (refine v_cell0 _ rfl _ _ _ _ _ _ (From.refl _) rfl (by assumption) (by (repeat (first | exact .head _ | refine .tail _ ?_))) ?_)
      | (refine v_cell1 _ rfl _ _ _ _ _ _ (From.refl _) rfl (by assumption) (by (repeat (first | exact .head _ | refine .tail _ ?_))) ?_)
      | (refine v_cell2 _ rfl _ _ _ _ _ _ (From.refl _) rfl (by assumption) (by (repeat (first | exact .head _ | refine .tail _ ?_))) ?_)
      | (refine v_cell3 _ rfl _ _ _ _ _ _ (From.refl _) rfl (by assumption) (by (repeat (first | exact .head _ | refine .tail _ ?_))) ?_)
      | (refine v_build _ rfl _ _ _ _ (by rw [Array.toList_map]; rfl) ?_)); try simp only [Act.put, List.setIfInBounds_toArray, List.set_cons_succ, List.set_cons_zero]; go_big_quiet_on)
    | go_big_quiet_step (((first | (go_at_call 49; (with_reducible exact held_call _ (eTimes _ _ (by first | assumption | exact ml_lt _ _ | exact ad_lt _ _ | exact sb_lt _ _ | exact fi_lt _ | decide +kernel) (by first | assumption | exact ml_lt _ _ | exact ad_lt _ _ | exact sb_lt _ _ | exact fi_lt _ | decide +kernel) _))) | (go_at_call 50; (with_reducible exact held_call _ (ePlus _ _ (by first | assumption | exact ml_lt _ _ | exact ad_lt _ _ | exact sb_lt _ _ | exact fi_lt _ | decide +kernel) (by first | assumption | exact ml_lt _ _ | exact ad_lt _ _ | exact sb_lt _ _ | exact fi_lt _ | decide +kernel) _)))))))
  refine wpQuiet_nil ?_
  intro w5 hw5
  have H := H.from hw5
  clear hw5
  go_wp2_with (first
    | (refine u_box rfl _ rfl _ _ _ _ rfl (by assumption) ?_; intro g w H; try simp only [Act.put, List.setIfInBounds_toArray, List.set_cons_succ, List.set_cons_zero])
    | (refine u_alloc rfl rfl (by assumption) ?_; intro g w H; try simp only [Act.put, List.setIfInBounds_toArray, List.set_cons_succ, List.set_cons_zero])
    | (refine u_load rfl _ rfl _ _ _ _ _ rfl (by assumption) (by (repeat (first | exact .head _ | refine .tail _ ?_))) ?_; try simp only [Act.put, List.setIfInBounds_toArray, List.set_cons_succ, List.set_cons_zero])
    | (refine u_store0 rfl _ _ rfl _ _ _ _ _ _ _ _ _ rfl rfl _ (by assumption) ?_; intro w H; try simp only [Act.put, List.setIfInBounds_toArray, List.set_cons_succ, List.set_cons_zero])
    | (refine u_build rfl _ rfl _ _ _ _ (by rw [Array.toList_map]; rfl) ?_; try simp only [Act.put, List.setIfInBounds_toArray, List.set_cons_succ, List.set_cons_zero])
    | (refine u_build0 rfl _ rfl (by rw [Array.toList_map]; rfl) ?_; try simp only [Act.put, List.setIfInBounds_toArray, List.set_cons_succ, List.set_cons_zero])
    | (refine u_cell0 rfl _ rfl _ _ _ _ _ rfl (by assumption) (by (repeat (first | exact .head _ | refine .tail _ ?_))) ?_; try simp only [Act.put, List.setIfInBounds_toArray, List.set_cons_succ, List.set_cons_zero])
    | (refine u_cell1 rfl _ rfl _ _ _ _ _ rfl (by assumption) (by (repeat (first | exact .head _ | refine .tail _ ?_))) ?_; try simp only [Act.put, List.setIfInBounds_toArray, List.set_cons_succ, List.set_cons_zero])
    | (refine u_cell2 rfl _ rfl _ _ _ _ _ rfl (by assumption) (by (repeat (first | exact .head _ | refine .tail _ ?_))) ?_; try simp only [Act.put, List.setIfInBounds_toArray, List.set_cons_succ, List.set_cons_zero])
    | (refine u_cell3 rfl _ rfl _ _ _ _ _ rfl (by assumption) (by (repeat (first | exact .head _ | refine .tail _ ?_))) ?_; try simp only [Act.put, List.setIfInBounds_toArray, List.set_cons_succ, List.set_cons_zero]))
  refine wp_region_from (by kernel_rfl) (by kernel_rfl) ?_
  repeat (first
    | (go_big_quiet_want; (first
      | (refine v_load _ rfl _ _ _ _ _ _ (From.refl _) rfl (by assumption) (by (repeat (first | exact .head _ | refine .tail _ ?_))) ?_)
      | (refine v_cell0 _ rfl _ _ _ _ _ _ (From.refl _) rfl (by assumption) (by (repeat (first | exact .head _ | refine .tail _ ?_))) ?_)
      | (refine v_cell1 _ rfl _ _ _ _ _ _ (From.refl _) rfl (by assumption) (by (repeat (first | exact .head _ | refine .tail _ ?_))) ?_)
      | (refine v_cell2 _ rfl _ _ _ _ _ _ (From.refl _) rfl (by assumption) (by (repeat (first | exact .head _ | refine .tail _ ?_))) ?_)
      | (refine v_cell3 _ rfl _ _ _ _ _ _ (From.refl _) rfl (by assumption) (by (repeat (first | exact .head _ | refine .tail _ ?_))) ?_)
      | (refine v_build _ rfl _ _ _ _ (by rw [Array.toList_map]; rfl) ?_)); try simp only [Act.put, List.setIfInBounds_toArray, List.set_cons_succ, List.set_cons_zero]; go_big_quiet_on)
    | go_big_quiet_step (((first | (go_at_call 49; (with_reducible exact held_call _ (eTimes _ _ (by first | assumption | exact ml_lt _ _ | exact ad_lt _ _ | exact sb_lt _ _ | exact fi_lt _ | decide +kernel) (by first | assumption | exact ml_lt _ _ | exact ad_lt _ _ | exact sb_lt _ _ | exact fi_lt _ | decide +kernel) _))) | (go_at_call 50; (with_reducible exact held_call _ (ePlus _ _ (by first | assumption | exact ml_lt _ _ | exact ad_lt _ _ | exact sb_lt _ _ | exact fi_lt _ | decide +kernel) (by first | assumption | exact ml_lt _ _ | exact ad_lt _ _ | exact sb_lt _ _ | exact fi_lt _ | decide +kernel) _)))))))
  refine wpQuiet_nil ?_
  intro w5 hw5
  have H := H.from hw5
  clear hw5
  go_wp2_with (first
    | (refine u_box rfl _ rfl _ _ _ _ rfl (by assumption) ?_; intro g w H; try simp only [Act.put, List.setIfInBounds_toArray, List.set_cons_succ, List.set_cons_zero])
    | (refine u_alloc rfl rfl (by assumption) ?_; intro g w H; try simp only [Act.put, List.setIfInBounds_toArray, List.set_cons_succ, List.set_cons_zero])
    | (refine u_load rfl _ rfl _ _ _ _ _ rfl (by assumption) (by (repeat (first | exact .head _ | refine .tail _ ?_))) ?_; try simp only [Act.put, List.setIfInBounds_toArray, List.set_cons_succ, List.set_cons_zero])
    | (refine u_store0 rfl _ _ rfl _ _ _ _ _ _ _ _ _ rfl rfl _ (by assumption) ?_; intro w H; try simp only [Act.put, List.setIfInBounds_toArray, List.set_cons_succ, List.set_cons_zero])
    | (refine u_build rfl _ rfl _ _ _ _ (by rw [Array.toList_map]; rfl) ?_; try simp only [Act.put, List.setIfInBounds_toArray, List.set_cons_succ, List.set_cons_zero])
    | (refine u_build0 rfl _ rfl (by rw [Array.toList_map]; rfl) ?_; try simp only [Act.put, List.setIfInBounds_toArray, List.set_cons_succ, List.set_cons_zero])
    | (refine u_cell0 rfl _ rfl _ _ _ _ _ rfl (by assumption) (by (repeat (first | exact .head _ | refine .tail _ ?_))) ?_; try simp only [Act.put, List.setIfInBounds_toArray, List.set_cons_succ, List.set_cons_zero])
    | (refine u_cell1 rfl _ rfl _ _ _ _ _ rfl (by assumption) (by (repeat (first | exact .head _ | refine .tail _ ?_))) ?_; try simp only [Act.put, List.setIfInBounds_toArray, List.set_cons_succ, List.set_cons_zero])
    | (refine u_cell2 rfl _ rfl _ _ _ _ _ rfl (by assumption) (by (repeat (first | exact .head _ | refine .tail _ ?_))) ?_; try simp only [Act.put, List.setIfInBounds_toArray, List.set_cons_succ, List.set_cons_zero])
    | (refine u_cell3 rfl _ rfl _ _ _ _ _ rfl (by assumption) (by (repeat (first | exact .head _ | refine .tail _ ?_))) ?_; try simp only [Act.put, List.setIfInBounds_toArray, List.set_cons_succ, List.set_cons_zero]))
  refine wp_region_from (by kernel_rfl) (by kernel_rfl) ?_
  repeat (first
    | (go_big_quiet_want; (first
      | (refine v_load _ rfl _ _ _ _ _ _ (From.refl _) rfl (by assumption) (by (repeat (first | exact .head _ | refine .tail _ ?_))) ?_)
      | (refine v_cell0 _ rfl _ _ _ _ _ _ (From.refl _) rfl (by assumption) (by (repeat (first | exact .head _ | refine .tail _ ?_))) ?_)
      | (refine v_cell1 _ rfl _ _ _ _ _ _ (From.refl _) rfl (by assumption) (by (repeat (first | exact .head _ | refine .tail _ ?_))) ?_)
      | (refine v_cell2 _ rfl _ _ _ _ _ _ (From.refl _) rfl (by assumption) (by (repeat (first | exact .head _ | refine .tail _ ?_))) ?_)
      | (refine v_cell3 _ rfl _ _ _ _ _ _ (From.refl _) rfl (by assumption) (by (repeat (first | exact .head _ | refine .tail _ ?_))) ?_)
      | (refine v_build _ rfl _ _ _ _ (by rw [Array.toList_map]; rfl) ?_)); try simp only [Act.put, List.setIfInBounds_toArray, List.set_cons_succ, List.set_cons_zero]; go_big_quiet_on)
    | go_big_quiet_step (((first | (go_at_call 49; (with_reducible exact held_call _ (cd.out _ (by first | assumption | exact ml_lt _ _ | exact ad_lt _ _ | exact sb_lt _ _ | exact fi_lt _ | decide +kernel) _))) | (go_at_call 49; (with_reducible exact held_call _ (eTimes _ _ (by first | assumption | exact ml_lt _ _ | exact ad_lt _ _ | exact sb_lt _ _ | exact fi_lt _ | decide +kernel) (by first | assumption | exact ml_lt _ _ | exact ad_lt _ _ | exact sb_lt _ _ | exact fi_lt _ | decide +kernel) _)))))))
  refine wpQuiet_nil ?_
  intro w5 hw5
  have H := H.from hw5
  clear hw5
  go_wp2_with (first
    | (refine u_store_fin rfl _ _ rfl _ _ _ _ _ _ _ _ _ rfl rfl (by assumption) (by (repeat (first | exact .head _ | refine .tail _ ?_))) ?_; intro w H; try simp only [Act.put, List.setIfInBounds_toArray, List.set_cons_succ, List.set_cons_zero])
    | (refine u_box rfl _ rfl _ _ _ _ rfl (by assumption) ?_; intro g w H; try simp only [Act.put, List.setIfInBounds_toArray, List.set_cons_succ, List.set_cons_zero])
    | (refine u_alloc rfl rfl (by assumption) ?_; intro g w H; try simp only [Act.put, List.setIfInBounds_toArray, List.set_cons_succ, List.set_cons_zero])
    | (refine u_load rfl _ rfl _ _ _ _ _ rfl (by assumption) (by (repeat (first | exact .head _ | refine .tail _ ?_))) ?_; try simp only [Act.put, List.setIfInBounds_toArray, List.set_cons_succ, List.set_cons_zero])
    | (refine u_store0 rfl _ _ rfl _ _ _ _ _ _ _ _ _ rfl rfl _ (by assumption) ?_; intro w H; try simp only [Act.put, List.setIfInBounds_toArray, List.set_cons_succ, List.set_cons_zero])
    | (refine u_build rfl _ rfl _ _ _ _ (by rw [Array.toList_map]; rfl) ?_; try simp only [Act.put, List.setIfInBounds_toArray, List.set_cons_succ, List.set_cons_zero])
    | (refine u_build0 rfl _ rfl (by rw [Array.toList_map]; rfl) ?_; try simp only [Act.put, List.setIfInBounds_toArray, List.set_cons_succ, List.set_cons_zero])
    | (refine u_cell0 rfl _ rfl _ _ _ _ _ rfl (by assumption) (by (repeat (first | exact .head _ | refine .tail _ ?_))) ?_; try simp only [Act.put, List.setIfInBounds_toArray, List.set_cons_succ, List.set_cons_zero])
    | (refine u_cell1 rfl _ rfl _ _ _ _ _ rfl (by assumption) (by (repeat (first | exact .head _ | refine .tail _ ?_))) ?_; try simp only [Act.put, List.setIfInBounds_toArray, List.set_cons_succ, List.set_cons_zero])
    | (refine u_cell2 rfl _ rfl _ _ _ _ _ rfl (by assumption) (by (repeat (first | exact .head _ | refine .tail _ ?_))) ?_; try simp only [Act.put, List.setIfInBounds_toArray, List.set_cons_succ, List.set_cons_zero])
    | (refine u_cell3 rfl _ rfl _ _ _ _ _ rfl (by assumption) (by (repeat (first | exact .head _ | refine .tail _ ?_))) ?_; try simp only [Act.put, List.setIfInBounds_toArray, List.set_cons_succ, List.set_cons_zero])
    | (go_at_call 50; (with_reducible refine r_call (by assumption) (ePlus _ _ (by first | assumption | exact ml_lt _ _ | exact ad_lt _ _ | exact sb_lt _ _ | exact fi_lt _ | decide +kernel) (by first | assumption | exact ml_lt _ _ | exact ad_lt _ _ | exact sb_lt _ _ | exact fi_lt _ | decide +kernel) _) ?_); intro w H)
    | (go_at_call 51; (with_reducible refine r_call (by assumption) (eMinus _ _ (by first | assumption | exact ml_lt _ _ | exact ad_lt _ _ | exact sb_lt _ _ | exact fi_lt _ | decide +kernel) (by first | assumption | exact ml_lt _ _ | exact ad_lt _ _ | exact sb_lt _ _ | exact fi_lt _ | decide +kernel) _) ?_); intro w H)
    | (go_at_call 49; (with_reducible refine r_call (by assumption) (eTimes _ _ (by first | assumption | exact ml_lt _ _ | exact ad_lt _ _ | exact sb_lt _ _ | exact fi_lt _ | decide +kernel) (by first | assumption | exact ml_lt _ _ | exact ad_lt _ _ | exact sb_lt _ _ | exact fi_lt _ | decide +kernel) _) ?_); intro w H))
  exact u_ret Try.results30 _ rfl rfl H (.head _)
end Go.Proofs.Ytockcnglennihaa
