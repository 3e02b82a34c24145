/- Package curve: its points' methods.
Package curve: a point's bytes. -/
import Derived.Test.YtgnblaaldpniiaaGreatDoorZM5
section
set_option linter.unusedSimpArgs false
set_option linter.unusedVariables false
set_option maxRecDepth 100000
namespace Go.Proofs.YtgnblaaldpniiaaGreatDoor
open Go.RowKit
theorem lit0 : (⟨#[0, 0, 0, 0, 0, 0, 0, 0, 0, 0, 0, 0, 0, 0, 0, 0, 0, 0, 0, 0, 0, 0, 0, 0, 0, 0, 0, 0, 0, 0, 0, 0]⟩ : ByteArray) = S (leB 0) := by decide +kernel
theorem lit1 : (⟨#[1, 0, 0, 0, 0, 0, 0, 0, 0, 0, 0, 0, 0, 0, 0, 0, 0, 0, 0, 0, 0, 0, 0, 0, 0, 0, 0, 0, 0, 0, 0, 0]⟩ : ByteArray) = S (leB 1) := by decide +kernel
theorem litD : (⟨#[163, 120, 89, 19, 202, 77, 235, 117, 171, 216, 65, 65, 77, 10, 112, 0, 152, 232, 121, 119, 121, 64, 199, 140, 115, 254, 111, 43, 238, 108, 3, 82]⟩ : ByteArray) = S (leB dF) := by decide +kernel
theorem eTimes_d (y : Nat) (hy : y < pF) (w : World) : Calls Tryz.prog 80 #[.string ⟨#[163, 120, 89, 19, 202, 77, 235, 117, 171, 216, 65, 65, 77, 10, 112, 0, 152, 232, 121, 119, 121, 64, 199, 140, 115, 254, 111, 43, 238, 108, 3, 82]⟩, .string (S (leB y))] w (RetV (.string (S (leB (ml dF y)))) w) := by rw [litD]; exact eTimes dF y (by decide +kernel) hy w
theorem ePlus_1 (y : Nat) (hy : y < pF) (w : World) : Calls Tryz.prog 82 #[.string ⟨#[1, 0, 0, 0, 0, 0, 0, 0, 0, 0, 0, 0, 0, 0, 0, 0, 0, 0, 0, 0, 0, 0, 0, 0, 0, 0, 0, 0, 0, 0, 0, 0]⟩, .string (S (leB y))] w (RetV (.string (S (leB (ad 1 y)))) w) := by rw [lit1]; exact ePlus 1 y (by decide +kernel) hy w
theorem eMinus_1 (x : Nat) (hx : x < pF) (w : World) : Calls Tryz.prog 78 #[.string (S (leB x)), .string ⟨#[1, 0, 0, 0, 0, 0, 0, 0, 0, 0, 0, 0, 0, 0, 0, 0, 0, 0, 0, 0, 0, 0, 0, 0, 0, 0, 0, 0, 0, 0, 0, 0]⟩] w (RetV (.string (S (leB (sb x 1)))) w) := by rw [lit1]; exact eMinus x 1 hx (by decide +kernel) w
theorem eMinus_0 (y : Nat) (hy : y < pF) (w : World) : Calls Tryz.prog 78 #[.string ⟨#[0, 0, 0, 0, 0, 0, 0, 0, 0, 0, 0, 0, 0, 0, 0, 0, 0, 0, 0, 0, 0, 0, 0, 0, 0, 0, 0, 0, 0, 0, 0, 0]⟩, .string (S (leB y))] w (RetV (.string (S (leB (sb 0 y)))) w) := by rw [lit0]; exact eMinus 0 y (by decide +kernel) hy w
def rC (x y z t : Nat) : List Value := qC (S (leB x)) (S (leB y)) (S (leB z)) (S (leB t))
theorem at_core (x y z : ByteArray) (c : ∀ w, Calls Tryz.prog 80 #[.string x, .string y] w (RetV (.string z) w)) (w : World) : Calls Tryz.prog 48 #[.string x, .string y] w (RetV (.agg (qC x y ⟨#[1, 0, 0, 0, 0, 0, 0, 0, 0, 0, 0, 0, 0, 0, 0, 0, 0, 0, 0, 0, 0, 0, 0, 0, 0, 0, 0, 0, 0, 0, 0, 0]⟩ z).toArray) w) := by
  have H := RMem.start w
  replace c := Kept.mk c
  go_enter Tryz.func48, Tryz.ntmps48
  go_wp2_with (first
    | (refine u_store_fin rfl _ _ rfl _ _ _ _ _ _ _ _ _ rfl rfl (by assumption) (by (repeat (first | exact .head _ | refine .tail _ ?_))) ?_; intro w H; try simp only [Act.put, yI, yC, yZ])
    | (refine u_alloc rfl rfl (by assumption) ?_; intro g w H; try simp only [Act.put, yI, yC, yZ])
    | (refine u_build rfl _ rfl _ _ _ _ (by rw [Array.toList_map]; rfl) ?_; try simp only [Act.put, yI, yC, yZ])
    | (go_at_call 80; (with_reducible refine r_call (by assumption) (c.out _) ?_); intro w H))
  exact u_ret Tryz.results48 _ rfl rfl H (.head _)
theorem at_any (x y : Nat) (hx : x < pF) (hy : y < pF) (w : World) : Calls Tryz.prog 48 #[.string (S (leB x)), .string (S (leB y))] w (RetV (.agg (rC x y 1 (ml x y)).toArray) w) := by
  have h := at_core _ _ _ (fun w => eTimes x y hx hy w) w
  rw [lit1] at h
  exact h
theorem at_01 (w : World) : Calls Tryz.prog 48 #[.string ⟨#[0, 0, 0, 0, 0, 0, 0, 0, 0, 0, 0, 0, 0, 0, 0, 0, 0, 0, 0, 0, 0, 0, 0, 0, 0, 0, 0, 0, 0, 0, 0, 0]⟩, .string ⟨#[1, 0, 0, 0, 0, 0, 0, 0, 0, 0, 0, 0, 0, 0, 0, 0, 0, 0, 0, 0, 0, 0, 0, 0, 0, 0, 0, 0, 0, 0, 0, 0]⟩] w (RetV (.agg (rC 0 1 1 0).toArray) w) := by
  rw [lit0, lit1]
  have h := at_any 0 1 (by decide +kernel) (by decide +kernel) w
  rw [show ml 0 1 = 0 by decide +kernel] at h
  exact h
set_option maxHeartbeats 1000000 in
theorem negate_pt (x y z t : Nat) (hx : x < pF) (ht : t < pF) (w : World) : Calls Tryz.prog 46 #[.agg (rC x y z t).toArray] w (RetV (.agg (rC (sb 0 x) y z (sb 0 t)).toArray) w) := by
  have H := RMem.start w
  unfold rC
  go_enter Tryz.func46, Tryz.ntmps46
  go_wp2_with (first
    | (refine u_box rfl _ rfl _ _ _ _ rfl (by assumption) ?_; intro g w H; try simp only [Act.put, yI, yC, yZ])
    | (refine u_alloc rfl rfl (by assumption) ?_; intro g w H; try simp only [Act.put, yI, yC, yZ]))
  refine wp_region_from_tail 11 (by kernel_rfl) (by kernel_rfl) ?_
  simp only [List.take_succ_cons, List.take_zero, List.drop_succ_cons, List.drop_zero]
  repeat (first
    | (go_big_quiet_want; (first
      | (refine v_cell0 _ rfl _ _ _ _ _ _ (From.refl _) rfl (by assumption) (by (repeat (first | exact .head _ | refine .tail _ ?_))) ?_)
      | (refine v_cell1 _ rfl _ _ _ _ _ _ (From.refl _) rfl (by assumption) (by (repeat (first | exact .head _ | refine .tail _ ?_))) ?_)
      | (refine v_cell2 _ rfl _ _ _ _ _ _ (From.refl _) rfl (by assumption) (by (repeat (first | exact .head _ | refine .tail _ ?_))) ?_)
      | (refine v_cell3 _ rfl _ _ _ _ _ _ (From.refl _) rfl (by assumption) (by (repeat (first | exact .head _ | refine .tail _ ?_))) ?_)
      | (refine v_build _ rfl _ _ _ _ (by rw [Array.toList_map]; rfl) ?_)); try simp only [Act.put, yI, yC, yZ]; go_big_quiet_on)
    | go_big_quiet_step (((first | (go_at_call 78; (with_reducible exact held_call _ (eMinus_0 _ (by first | assumption | exact ml_lt _ _ | exact ad_lt _ _ | exact sb_lt _ _ | exact fi_lt _ | decide +kernel) _)))))))
  refine wpQuiet_nil ?_
  intro w5 hw5
  have H := H.from hw5
  clear hw5
  go_wp2_with (first
    | (refine u_store_fin rfl _ _ rfl _ _ _ _ _ _ _ _ _ rfl rfl (by assumption) (by (repeat (first | exact .head _ | refine .tail _ ?_))) ?_; intro w H; try simp only [Act.put, yI, yC, yZ]))
  exact u_ret Tryz.results46 _ rfl rfl H (.head _)
structure T4 where
  x : Nat
  y : Nat
  z : Nat
  t : Nat
def dadd (p q : T4) : T4 :=
  let a := ad (ml p.x q.y) (ml q.x p.y)
  let b := ad (ml p.y q.y) (ml p.x q.x)
  let s := ml p.z q.z
  let m := ml dF (ml p.t q.t)
  ⟨ml a (sb s m), ml b (ad s m), ml (ad s m) (sb s m), ml a b⟩
set_option maxHeartbeats 4000000 in
theorem plus_pt (x1 y1 z1 t1 x2 y2 z2 t2 : Nat) (h1 : x1 < pF) (h2 : y1 < pF) (h3 : z1 < pF) (h4 : t1 < pF) (h5 : x2 < pF) (h6 : y2 < pF) (h7 : z2 < pF) (h8 : t2 < pF) (w : World) :
    Calls Tryz.prog 50 #[.agg (rC x1 y1 z1 t1).toArray, .agg (rC x2 y2 z2 t2).toArray] w (RetV (.agg (rC (dadd ⟨x1, y1, z1, t1⟩ ⟨x2, y2, z2, t2⟩).x (dadd ⟨x1, y1, z1, t1⟩ ⟨x2, y2, z2, t2⟩).y (dadd ⟨x1, y1, z1, t1⟩ ⟨x2, y2, z2, t2⟩).z (dadd ⟨x1, y1, z1, t1⟩ ⟨x2, y2, z2, t2⟩).t).toArray) w) := by
  have H := RMem.start w
  unfold dadd rC
  simp only
  have cd := Kept.mk eTimes_d
  go_enter Tryz.func50, Tryz.ntmps50
  go_wp2_with (first
    | (refine u_box rfl _ rfl _ _ _ _ rfl (by assumption) ?_; intro g w H; try simp only [Act.put, yI, yC, yZ])
    | (refine u_alloc rfl rfl (by assumption) ?_; intro g w H; try simp only [Act.put, yI, yC, yZ]))
  refine wp_region_from (by kernel_rfl) (by kernel_rfl) ?_
  repeat (first
    | (go_big_quiet_want; (first
      | (refine v_cell0 _ rfl _ _ _ _ _ _ (From.refl _) rfl (by assumption) (by (repeat (first | exact .head _ | refine .tail _ ?_))) ?_)
      | (refine v_cell1 _ rfl _ _ _ _ _ _ (From.refl _) rfl (by assumption) (by (repeat (first | exact .head _ | refine .tail _ ?_))) ?_)); try simp only [Act.put, yI, yC, yZ]; go_big_quiet_on)
    | go_big_quiet_step (((first | (go_at_call 80; (with_reducible exact held_call _ (eTimes _ _ (by first | assumption | exact ml_lt _ _ | exact ad_lt _ _ | exact sb_lt _ _ | exact fi_lt _ | decide +kernel) (by first | assumption | exact ml_lt _ _ | exact ad_lt _ _ | exact sb_lt _ _ | exact fi_lt _ | decide +kernel) _))) | (go_at_call 82; (with_reducible exact held_call _ (ePlus _ _ (by first | assumption | exact ml_lt _ _ | exact ad_lt _ _ | exact sb_lt _ _ | exact fi_lt _ | decide +kernel) (by first | assumption | exact ml_lt _ _ | exact ad_lt _ _ | exact sb_lt _ _ | exact fi_lt _ | decide +kernel) _)))))))
  refine wpQuiet_nil ?_
  intro w5 hw5
  have H := H.from hw5
  clear hw5
  go_wp2_with (first
    | (refine u_box rfl _ rfl _ _ _ _ rfl (by assumption) ?_; intro g w H; try simp only [Act.put, yI, yC, yZ]))
  refine wp_region_from (by kernel_rfl) (by kernel_rfl) ?_
  repeat (first
    | (go_big_quiet_want; (first
      | (refine v_cell0 _ rfl _ _ _ _ _ _ (From.refl _) rfl (by assumption) (by (repeat (first | exact .head _ | refine .tail _ ?_))) ?_)
      | (refine v_cell1 _ rfl _ _ _ _ _ _ (From.refl _) rfl (by assumption) (by (repeat (first | exact .head _ | refine .tail _ ?_))) ?_)); try simp only [Act.put, yI, yC, yZ]; go_big_quiet_on)
    | go_big_quiet_step (((first | (go_at_call 80; (with_reducible exact held_call _ (eTimes _ _ (by first | assumption | exact ml_lt _ _ | exact ad_lt _ _ | exact sb_lt _ _ | exact fi_lt _ | decide +kernel) (by first | assumption | exact ml_lt _ _ | exact ad_lt _ _ | exact sb_lt _ _ | exact fi_lt _ | decide +kernel) _))) | (go_at_call 82; (with_reducible exact held_call _ (ePlus _ _ (by first | assumption | exact ml_lt _ _ | exact ad_lt _ _ | exact sb_lt _ _ | exact fi_lt _ | decide +kernel) (by first | assumption | exact ml_lt _ _ | exact ad_lt _ _ | exact sb_lt _ _ | exact fi_lt _ | decide +kernel) _)))))))
  refine wpQuiet_nil ?_
  intro w5 hw5
  have H := H.from hw5
  clear hw5
  go_wp2_with (first
    | (refine u_box rfl _ rfl _ _ _ _ rfl (by assumption) ?_; intro g w H; try simp only [Act.put, yI, yC, yZ]))
  refine wp_region_from (by kernel_rfl) (by kernel_rfl) ?_
  repeat (first
    | (go_big_quiet_want; (first
      | (refine v_cell2 _ rfl _ _ _ _ _ _ (From.refl _) rfl (by assumption) (by (repeat (first | exact .head _ | refine .tail _ ?_))) ?_)
      | (refine v_cell3 _ rfl _ _ _ _ _ _ (From.refl _) rfl (by assumption) (by (repeat (first | exact .head _ | refine .tail _ ?_))) ?_)); try simp only [Act.put, yI, yC, yZ]; go_big_quiet_on)
    | go_big_quiet_step (((first | (go_at_call 80; (with_reducible exact held_call _ (cd.out _ (by first | assumption | exact ml_lt _ _ | exact ad_lt _ _ | exact sb_lt _ _ | exact fi_lt _ | decide +kernel) _))) | (go_at_call 80; (with_reducible exact held_call _ (eTimes _ _ (by first | assumption | exact ml_lt _ _ | exact ad_lt _ _ | exact sb_lt _ _ | exact fi_lt _ | decide +kernel) (by first | assumption | exact ml_lt _ _ | exact ad_lt _ _ | exact sb_lt _ _ | exact fi_lt _ | decide +kernel) _)))))))
  refine wpQuiet_nil ?_
  intro w5 hw5
  have H := H.from hw5
  clear hw5
  go_wp2_with (first
    | (refine u_store_fin rfl _ _ rfl _ _ _ _ _ _ _ _ _ rfl rfl (by assumption) (by (repeat (first | exact .head _ | refine .tail _ ?_))) ?_; intro w H; try simp only [Act.put, yI, yC, yZ])
    | (refine u_build rfl _ rfl _ _ _ _ (by rw [Array.toList_map]; rfl) ?_; try simp only [Act.put, yI, yC, yZ])
    | (go_at_call 82; (with_reducible refine r_call (by assumption) (ePlus _ _ (by first | assumption | exact ml_lt _ _ | exact ad_lt _ _ | exact sb_lt _ _ | exact fi_lt _ | decide +kernel) (by first | assumption | exact ml_lt _ _ | exact ad_lt _ _ | exact sb_lt _ _ | exact fi_lt _ | decide +kernel) _) ?_); intro w H)
    | (go_at_call 78; (with_reducible refine r_call (by assumption) (eMinus _ _ (by first | assumption | exact ml_lt _ _ | exact ad_lt _ _ | exact sb_lt _ _ | exact fi_lt _ | decide +kernel) (by first | assumption | exact ml_lt _ _ | exact ad_lt _ _ | exact sb_lt _ _ | exact fi_lt _ | decide +kernel) _) ?_); intro w H)
    | (go_at_call 80; (with_reducible refine r_call (by assumption) (eTimes _ _ (by first | assumption | exact ml_lt _ _ | exact ad_lt _ _ | exact sb_lt _ _ | exact fi_lt _ | decide +kernel) (by first | assumption | exact ml_lt _ _ | exact ad_lt _ _ | exact sb_lt _ _ | exact fi_lt _ | decide +kernel) _) ?_); intro w H))
  exact u_ret Tryz.results50 _ rfl rfl H (.head _)
end Go.Proofs.YtgnblaaldpniiaaGreatDoor
end
section
set_option linter.unusedSimpArgs false
set_option linter.unusedVariables false
set_option maxRecDepth 100000
namespace Go.Proofs.YtgnblaaldpniiaaGreatDoor
open Go.RowKit
theorem to_bytesE {w0 w : World} {L : List Cells} (H : RMem w0 w L) (l : List UInt8) (n : Nat) (hn : l.length = n) : ∃ w1 gb cap, (convert 55 37 (.string (S l))).run Tryz.prog w = .ok (.slice (some ⟨gb, 0, none⟩) n cap) w1 ∧ Row8 w1 gb l ∧ RMem w0 w1 L ∧ w0.heap.size ≤ gb := by
  have hcv := Lib.run_convert_string_bytes w 55 37 5 (S l) Tryz.underlying55 Tryz.underlying37 Tryz.underlying5
  rw [S_size, hn] at hcv
  exact ⟨_, _, _, hcv, row8_new w l, H.grow (below_bytes (Below.refl w.heap.size w) (Nat.le_refl _) (S l)), H.below.size⟩
theorem odd_core (s : ByteArray) (h0 : 0 < s.size) (b : UInt8) (hb : s[0] = b) (t : Nat) (o : Bool) (ht : bits .and .u8 (b.toNat : Int) 1 = (t : Int)) (ho : ((t : Int) == 1) = o) (w : World) : Calls Tryz.prog 81 #[.string s] w (RetV (.bool o) w) := by
  have H := RMem.start w
  go_enter Tryz.func81, Tryz.ntmps81
  go_wp2
  go_ret
  exact ⟨by simp [ho], H.below⟩
theorem isOdd_any (x : Nat) (hx : x < pF) (w : World) : Calls Tryz.prog 81 #[.string (S (leB x))] w (RetV (.bool (x % 2 == 1)) w) := by
  have hsz : 0 < (S (leB x)).size := by rw [S_size, leB_len]; omega
  obtain ⟨b, hb⟩ : ∃ b, (leB x).getD 0 0 = b := ⟨_, rfl⟩
  have g0 : (S (leB x))[0] = b := by rw [byte_at, hb]
  have hd : b.toNat = x / 256 ^ 0 % 256 := by rw [← hb, digit_at (leB x) 0 (by rw [leB_len]; omega), numB_leB x (Nat.lt_trans hx p_big)]
  rw [Nat.pow_zero, Nat.div_one] at hd
  refine odd_core _ hsz b g0 (b.toNat % 2) _ (bits_and_u8 _ b.toNat_lt) ?_ w
  rw [hd, Nat.mod_mod_of_dvd _ (by decide : 2 ∣ 256)]
  have : x % 2 = 0 ∨ x % 2 = 1 := by omega
  rcases this with e | e <;> rw [e] <;> rfl
set_option maxHeartbeats 4000000 in
theorem bytes_even (x y z t s u : ByteArray) (l : List UInt8) (hl : l.length = 32) (b r : UInt8) (hb : l.getD 31 0 = b) (hor : bits .or .u8 (b.toNat : Int) 128 = (r.toNat : Int))
    (c1 : ∀ w, Calls Tryz.prog 79 #[.string z] w (RetV (.string s) w)) (c2 : ∀ w, Calls Tryz.prog 80 #[.string y, .string s] w (RetV (.string (S l)) w)) (c3 : ∀ w, Calls Tryz.prog 80 #[.string x, .string s] w (RetV (.string u) w)) (c4 : ∀ w, Calls Tryz.prog 81 #[.string u] w (RetV (.bool false) w))
    (wS : World) : Calls Tryz.prog 47 #[.agg (qC x y z t).toArray] wS (RetV (.string (S l)) wS) := by
  have H := RMem.start wS
  replace c1 := Kept.mk c1
  replace c2 := Kept.mk c2
  replace c3 := Kept.mk c3
  replace c4 := Kept.mk c4
  replace hl := Kept.mk hl
  replace hb := Kept.mk hb
  go_enter Tryz.func47, Tryz.ntmps47
  go_wp2_with (first
    | (refine u_box rfl _ rfl _ _ _ _ rfl (by assumption) ?_; intro g w H; try simp only [Act.put, yI, yC, yZ])
    | (refine u_cell0 rfl _ rfl _ _ _ _ _ rfl (by assumption) (by (repeat (first | exact .head _ | refine .tail _ ?_))) ?_; try simp only [Act.put, yI, yC, yZ])
    | (refine u_cell1 rfl _ rfl _ _ _ _ _ rfl (by assumption) (by (repeat (first | exact .head _ | refine .tail _ ?_))) ?_; try simp only [Act.put, yI, yC, yZ])
    | (refine u_cell2 rfl _ rfl _ _ _ _ _ rfl (by assumption) (by (repeat (first | exact .head _ | refine .tail _ ?_))) ?_; try simp only [Act.put, yI, yC, yZ])
    | (go_at_call 79; (with_reducible refine r_call (by assumption) (c1.out _) ?_); intro w H)
    | (go_at_call 80; (with_reducible refine r_call (by assumption) (c2.out _) ?_); intro w H; obtain ⟨w1, gb, cap, hcv, R1, H, hgb⟩ := to_bytesE H l 32 hl.out; replace R1 := Kept.mk R1)
    | (go_at_call 80; (with_reducible refine (c3.out _).mono ?_); rintro _ w2 ⟨rfl, hb2⟩; have H := H.grow hb2; have R1 := Kept.mk (row8_from R1.out hb2); clear hb2)
    | (go_at_call 81; (with_reducible refine (c4.out _).mono ?_); rintro _ w2 ⟨rfl, hb2⟩; have H := H.grow hb2; have R1 := Kept.mk (row8_from R1.out hb2); clear hb2; have hcv2 := row8_conv R1.out 32 cap hl.out; have HB := Kept.mk H.below))
  go_ret
  exact ⟨rfl, HB.out⟩
set_option maxHeartbeats 4000000 in
theorem bytes_odd (x y z t s u : ByteArray) (l : List UInt8) (hl : l.length = 32) (b r : UInt8) (hb : l.getD 31 0 = b) (hor : bits .or .u8 (b.toNat : Int) 128 = (r.toNat : Int))
    (c1 : ∀ w, Calls Tryz.prog 79 #[.string z] w (RetV (.string s) w)) (c2 : ∀ w, Calls Tryz.prog 80 #[.string y, .string s] w (RetV (.string (S l)) w)) (c3 : ∀ w, Calls Tryz.prog 80 #[.string x, .string s] w (RetV (.string u) w)) (c4 : ∀ w, Calls Tryz.prog 81 #[.string u] w (RetV (.bool true) w))
    (wS : World) : Calls Tryz.prog 47 #[.agg (qC x y z t).toArray] wS (RetV (.string (S (l.set 31 r))) wS) := by
  have H := RMem.start wS
  replace c1 := Kept.mk c1
  replace c2 := Kept.mk c2
  replace c3 := Kept.mk c3
  replace c4 := Kept.mk c4
  replace hl := Kept.mk hl
  replace hb := Kept.mk hb
  go_enter Tryz.func47, Tryz.ntmps47
  go_wp2_with (first
    | (refine u_box rfl _ rfl _ _ _ _ rfl (by assumption) ?_; intro g w H; try simp only [Act.put, yI, yC, yZ])
    | (refine u_cell0 rfl _ rfl _ _ _ _ _ rfl (by assumption) (by (repeat (first | exact .head _ | refine .tail _ ?_))) ?_; try simp only [Act.put, yI, yC, yZ])
    | (refine u_cell1 rfl _ rfl _ _ _ _ _ rfl (by assumption) (by (repeat (first | exact .head _ | refine .tail _ ?_))) ?_; try simp only [Act.put, yI, yC, yZ])
    | (refine u_cell2 rfl _ rfl _ _ _ _ _ rfl (by assumption) (by (repeat (first | exact .head _ | refine .tail _ ?_))) ?_; try simp only [Act.put, yI, yC, yZ])
    | (go_at_call 79; (with_reducible refine r_call (by assumption) (c1.out _) ?_); intro w H)
    | (go_at_call 80; (with_reducible refine r_call (by assumption) (c2.out _) ?_); intro w H; obtain ⟨w1, gb, cap, hcv, R1, H, hgb⟩ := to_bytesE H l 32 hl.out; replace R1 := Kept.mk R1)
    | (go_at_call 80; (with_reducible refine (c3.out _).mono ?_); rintro _ w2 ⟨rfl, hb2⟩; have H := H.grow hb2; have R1 := Kept.mk (row8_from R1.out hb2); clear hb2)
    | (go_at_call 81; (with_reducible refine (c4.out _).mono ?_); rintro _ w2 ⟨rfl, hb2⟩; have H := H.grow hb2; have R1 := Kept.mk (row8_from R1.out hb2); clear hb2; have k5 := row8_at R1.out 31 (by rw [hl.out]; omega) b hb.out; have f5 := row8_frozen R1.out 31 (by rw [hl.out]; omega); have R8 := row8_set R1.out 31 r; have hcv2 := row8_conv R8 32 cap (by rw [List.length_set]; exact hl.out); have HB := Kept.mk (H.below.setCell (p := ⟨gb, 31, none⟩) hgb (.int .u8 (r.toNat : Int))); clear R8))
  go_ret
  exact ⟨rfl, HB.out⟩
theorem or_top (b : UInt8) (h : b.toNat < 128) : ∃ r : UInt8, r.toNat = b.toNat + 128 ∧ bits .or .u8 (b.toNat : Int) 128 = (r.toNat : Int) := by
  have key : ∀ n : Fin 128, bits .or .u8 ((n.val : Nat) : Int) 128 = ((n.val + 128 : Nat) : Int) := by decide +kernel
  refine ⟨UInt8.ofNat (b.toNat + 128), by simp; omega, ?_⟩
  have k := key ⟨b.toNat, h⟩
  simp only at k
  rw [k]
  simp
  omega
theorem pbytes_any (X Y Z T : Nat) (hX : X < pF) (hY : Y < pF) (hZ : Z < pF) (w : World) : Calls Tryz.prog 47 #[.agg (rC X Y Z T).toArray] w (RetV (.string (S (encL (ml X (fi Z)) (ml Y (fi Z))))) w) := by
  have c1 := fun w => eInv Z hZ w
  have c2 := fun w => eTimes Y (fi Z) hY (fi_lt _) w
  have c3 := fun w => eTimes X (fi Z) hX (fi_lt _) w
  have hx := ml_lt X (fi Z)
  have hy := ml_lt Y (fi Z)
  generalize ml X (fi Z) = x at c3 hx ⊢
  generalize ml Y (fi Z) = y at c2 hy ⊢
  have c4 := fun w => isOdd_any x hx w
  obtain ⟨b, hb⟩ : ∃ b, (leB y).getD 31 0 = b := ⟨_, rfl⟩
  have hb128 : b.toNat < 128 := hb ▸ top_bit y hy
  obtain ⟨r, hr, hor⟩ := or_top b hb128
  have : x % 2 = 0 ∨ x % 2 = 1 := by omega
  rcases this with e | e
  · rw [e] at c4
    have h := bytes_even _ _ _ (S (leB T)) _ _ (leB y) (leB_len _) b r hb hor c1 c2 c3 c4 w
    have e2 : encL x y = leB y := by unfold encL; rw [e, Nat.zero_mul, Nat.add_zero]
    rw [e2]
    exact h
  · rw [e] at c4
    have h := bytes_odd _ _ _ (S (leB T)) _ _ (leB y) (leB_len _) b r hb hor c1 c2 c3 c4 w
    rw [enc_set x y hy r (by rw [hb, hr, e, Nat.one_mul])] at h
    exact h
end Go.Proofs.YtgnblaaldpniiaaGreatDoor
end
