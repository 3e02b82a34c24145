/- Package curve: a point's bytes. -/
import Derived.Test.YtockcnglennihaaU2
set_option linter.unusedSimpArgs false
set_option linter.unusedVariables false
set_option maxRecDepth 100000
namespace Go.Proofs.Ytockcnglennihaa
open Go.RowKit
theorem to_bytesE {w0 w : World} {L : List Cells} (H : RMem w0 w L) (l : List UInt8) (n : Nat) (hn : l.length = n) : ∃ w1 gb cap, (convert 39 36 (.string (S l))).run Try.prog w = .ok (.slice (some ⟨gb, 0, none⟩) n cap) w1 ∧ Row8 w1 gb l ∧ RMem w0 w1 L ∧ w0.heap.size ≤ gb := by
  have hcv := Lib.run_convert_string_bytes w 39 36 5 (S l) Try.underlying39 Try.underlying36 Try.underlying5
  rw [S_size, hn] at hcv
  exact ⟨_, _, _, hcv, row8_new w l, H.grow (below_bytes (Below.refl w.heap.size w) (Nat.le_refl _) (S l)), H.below.size⟩
theorem odd_core (s : ByteArray) (h0 : 0 < s.size) (b : UInt8) (hb : s[0] = b) (t : Nat) (o : Bool) (ht : bits .and .u8 (b.toNat : Int) 1 = (t : Int)) (ho : ((t : Int) == 1) = o) (w : World) : Calls Try.prog 53 #[.string s] w (RetV (.bool o) w) := by
  have H := RMem.start w
  go_enter Try.func53, Try.ntmps53
  go_wp2
  go_ret
  exact ⟨by simp [ho], H.below⟩
theorem isOdd_any (x : Nat) (hx : x < pF) (w : World) : Calls Try.prog 53 #[.string (S (leB x))] w (RetV (.bool (x % 2 == 1)) w) := by
  have hsz : 0 < (S (leB x)).size := by rw [S_size, leB_len]; omega
  obtain ⟨b, hb⟩ : ∃ b, (leB x).getD 0 0 = b := ⟨_, rfl⟩
  have g0 : (S (leB x))[0] = b := by rw [byte_at, hb]
  have hd : b.toNat = x / 256 ^ 0 % 256 := by rw [← hb, digit_at (leB x) 0 (by rw [leB_len]; omega), numB_leB x (Nat.lt_trans hx p_big)]
  rw [Nat.pow_zero, Nat.div_one] at hd
  refine odd_core _ hsz b g0 (b.toNat % 2) _ (bits_and_u8 _ b.toNat_lt) ?_ w
  rw [hd, Nat.mod_mod_of_dvd _ (by decide : 2 ∣ 256)]
  have : x % 2 = 0 ∨ x % 2 = 1 := by omega
  rcases this with e | e <;> rw [e] <;> rfl
set_option maxHeartbeats 4000000 in
theorem bytes_even (x y z t s u : ByteArray) (l : List UInt8) (hl : l.length = 32) (b r : UInt8) (hb : l.getD 31 0 = b) (hor : bits .or .u8 (b.toNat : Int) 128 = (r.toNat : Int))
    (c1 : ∀ w, Calls Try.prog 52 #[.string z] w (RetV (.string s) w)) (c2 : ∀ w, Calls Try.prog 49 #[.string y, .string s] w (RetV (.string (S l)) w)) (c3 : ∀ w, Calls Try.prog 49 #[.string x, .string s] w (RetV (.string u) w)) (c4 : ∀ w, Calls Try.prog 53 #[.string u] w (RetV (.bool false) w))
    (wS : World) : Calls Try.prog 31 #[.agg (qC x y z t).toArray] wS (RetV (.string (S l)) wS) := by
  have H := RMem.start wS
  replace c1 := Kept.mk c1
  replace c2 := Kept.mk c2
  replace c3 := Kept.mk c3
  replace c4 := Kept.mk c4
  replace hl := Kept.mk hl
  replace hb := Kept.mk hb
  go_enter Try.func31, Try.ntmps31
  go_wp2_with (first
    | (refine u_box rfl _ rfl _ _ _ _ rfl (by assumption) ?_; intro g w H; try simp only [Act.put, List.setIfInBounds_toArray, List.set_cons_succ, List.set_cons_zero])
    | (refine u_alloc rfl rfl (by assumption) ?_; intro g w H; try simp only [Act.put, List.setIfInBounds_toArray, List.set_cons_succ, List.set_cons_zero])
    | (refine u_load rfl _ rfl _ _ _ _ _ rfl (by assumption) (by (repeat (first | exact .head _ | refine .tail _ ?_))) ?_; try simp only [Act.put, List.setIfInBounds_toArray, List.set_cons_succ, List.set_cons_zero])
    | (refine u_store0 rfl _ _ rfl _ _ _ _ _ _ _ _ _ rfl rfl _ (by assumption) ?_; intro w H; try simp only [Act.put, List.setIfInBounds_toArray, List.set_cons_succ, List.set_cons_zero])
    | (refine u_build rfl _ rfl _ _ _ _ (by rw [Array.toList_map]; rfl) ?_; try simp only [Act.put, List.setIfInBounds_toArray, List.set_cons_succ, List.set_cons_zero])
    | (refine u_build0 rfl _ rfl (by rw [Array.toList_map]; rfl) ?_; try simp only [Act.put, List.setIfInBounds_toArray, List.set_cons_succ, List.set_cons_zero])
    | (refine u_cell0 rfl _ rfl _ _ _ _ _ rfl (by assumption) (by (repeat (first | exact .head _ | refine .tail _ ?_))) ?_; try simp only [Act.put, List.setIfInBounds_toArray, List.set_cons_succ, List.set_cons_zero])
    | (refine u_cell1 rfl _ rfl _ _ _ _ _ rfl (by assumption) (by (repeat (first | exact .head _ | refine .tail _ ?_))) ?_; try simp only [Act.put, List.setIfInBounds_toArray, List.set_cons_succ, List.set_cons_zero])
    | (refine u_cell2 rfl _ rfl _ _ _ _ _ rfl (by assumption) (by (repeat (first | exact .head _ | refine .tail _ ?_))) ?_; try simp only [Act.put, List.setIfInBounds_toArray, List.set_cons_succ, List.set_cons_zero])
    | (refine u_cell3 rfl _ rfl _ _ _ _ _ rfl (by assumption) (by (repeat (first | exact .head _ | refine .tail _ ?_))) ?_; try simp only [Act.put, List.setIfInBounds_toArray, List.set_cons_succ, List.set_cons_zero])
    | (go_at_call 52; (with_reducible refine r_call (by assumption) (c1.out _) ?_); intro w H)
    | (go_at_call 49; (with_reducible refine r_call (by assumption) (c2.out _) ?_); intro w H; obtain ⟨w1, gb, cap, hcv, R1, H, hgb⟩ := to_bytesE H l 32 hl.out; replace R1 := Kept.mk R1)
    | (go_at_call 49; (with_reducible refine (c3.out _).mono ?_); rintro _ w2 ⟨rfl, hb2⟩; have H := H.grow hb2; have R1 := Kept.mk (row8_from R1.out hb2); clear hb2)
    | (go_at_call 53; (with_reducible refine (c4.out _).mono ?_); rintro _ w2 ⟨rfl, hb2⟩; have H := H.grow hb2; have R1 := Kept.mk (row8_from R1.out hb2); clear hb2; have hcv2 := row8_conv R1.out 32 cap hl.out; have HB := Kept.mk H.below))
  go_ret
  exact ⟨rfl, HB.out⟩
set_option maxHeartbeats 4000000 in
theorem bytes_odd (x y z t s u : ByteArray) (l : List UInt8) (hl : l.length = 32) (b r : UInt8) (hb : l.getD 31 0 = b) (hor : bits .or .u8 (b.toNat : Int) 128 = (r.toNat : Int))
    (c1 : ∀ w, Calls Try.prog 52 #[.string z] w (RetV (.string s) w)) (c2 : ∀ w, Calls Try.prog 49 #[.string y, .string s] w (RetV (.string (S l)) w)) (c3 : ∀ w, Calls Try.prog 49 #[.string x, .string s] w (RetV (.string u) w)) (c4 : ∀ w, Calls Try.prog 53 #[.string u] w (RetV (.bool true) w))
    (wS : World) : Calls Try.prog 31 #[.agg (qC x y z t).toArray] wS (RetV (.string (S (l.set 31 r))) wS) := by
  have H := RMem.start wS
  replace c1 := Kept.mk c1
  replace c2 := Kept.mk c2
  replace c3 := Kept.mk c3
  replace c4 := Kept.mk c4
  replace hl := Kept.mk hl
  replace hb := Kept.mk hb
  go_enter Try.func31, Try.ntmps31
  go_wp2_with (first
    | (refine u_box rfl _ rfl _ _ _ _ rfl (by assumption) ?_; intro g w H; try simp only [Act.put, List.setIfInBounds_toArray, List.set_cons_succ, List.set_cons_zero])
    | (refine u_alloc rfl rfl (by assumption) ?_; intro g w H; try simp only [Act.put, List.setIfInBounds_toArray, List.set_cons_succ, List.set_cons_zero])
    | (refine u_load rfl _ rfl _ _ _ _ _ rfl (by assumption) (by (repeat (first | exact .head _ | refine .tail _ ?_))) ?_; try simp only [Act.put, List.setIfInBounds_toArray, List.set_cons_succ, List.set_cons_zero])
    | (refine u_store0 rfl _ _ rfl _ _ _ _ _ _ _ _ _ rfl rfl _ (by assumption) ?_; intro w H; try simp only [Act.put, List.setIfInBounds_toArray, List.set_cons_succ, List.set_cons_zero])
    | (refine u_build rfl _ rfl _ _ _ _ (by rw [Array.toList_map]; rfl) ?_; try simp only [Act.put, List.setIfInBounds_toArray, List.set_cons_succ, List.set_cons_zero])
    | (refine u_build0 rfl _ rfl (by rw [Array.toList_map]; rfl) ?_; try simp only [Act.put, List.setIfInBounds_toArray, List.set_cons_succ, List.set_cons_zero])
    | (refine u_cell0 rfl _ rfl _ _ _ _ _ rfl (by assumption) (by (repeat (first | exact .head _ | refine .tail _ ?_))) ?_; try simp only [Act.put, List.setIfInBounds_toArray, List.set_cons_succ, List.set_cons_zero])
    | (refine u_cell1 rfl _ rfl _ _ _ _ _ rfl (by assumption) (by (repeat (first | exact .head _ | refine .tail _ ?_))) ?_; try simp only [Act.put, List.setIfInBounds_toArray, List.set_cons_succ, List.set_cons_zero])
    | (refine u_cell2 rfl _ rfl _ _ _ _ _ rfl (by assumption) (by (repeat (first | exact .head _ | refine .tail _ ?_))) ?_; try simp only [Act.put, List.setIfInBounds_toArray, List.set_cons_succ, List.set_cons_zero])
    | (refine u_cell3 rfl _ rfl _ _ _ _ _ rfl (by assumption) (by (repeat (first | exact .head _ | refine .tail _ ?_))) ?_; try simp only [Act.put, List.setIfInBounds_toArray, List.set_cons_succ, List.set_cons_zero])
    | (go_at_call 52; (with_reducible refine r_call (by assumption) (c1.out _) ?_); intro w H)
    | (go_at_call 49; (with_reducible refine r_call (by assumption) (c2.out _) ?_); intro w H; obtain ⟨w1, gb, cap, hcv, R1, H, hgb⟩ := to_bytesE H l 32 hl.out; replace R1 := Kept.mk R1)
    | (go_at_call 49; (with_reducible refine (c3.out _).mono ?_); rintro _ w2 ⟨rfl, hb2⟩; have H := H.grow hb2; have R1 := Kept.mk (row8_from R1.out hb2); clear hb2)
    | (go_at_call 53; (with_reducible refine (c4.out _).mono ?_); rintro _ w2 ⟨rfl, hb2⟩; have H := H.grow hb2; have R1 := Kept.mk (row8_from R1.out hb2); clear hb2; have k5 := row8_at R1.out 31 (by rw [hl.out]; omega) b hb.out; have f5 := row8_frozen R1.out 31 (by rw [hl.out]; omega); have R8 := row8_set R1.out 31 r; have hcv2 := row8_conv R8 32 cap (by rw [List.length_set]; exact hl.out); have HB := Kept.mk (H.below.setCell (p := ⟨gb, 31, none⟩) hgb (.int .u8 (r.toNat : Int))); clear R8))
  go_ret
  exact ⟨rfl, HB.out⟩
theorem or_top (b : UInt8) (h : b.toNat < 128) : ∃ r : UInt8, r.toNat = b.toNat + 128 ∧ bits .or .u8 (b.toNat : Int) 128 = (r.toNat : Int) := by
  have key : ∀ n : Fin 128, bits .or .u8 ((n.val : Nat) : Int) 128 = ((n.val + 128 : Nat) : Int) := by decide +kernel
  refine ⟨UInt8.ofNat (b.toNat + 128), by simp; omega, ?_⟩
  have k := key ⟨b.toNat, h⟩
  simp only at k
  rw [k]
  simp
  omega
theorem pbytes_any (X Y Z T : Nat) (hX : X < pF) (hY : Y < pF) (hZ : Z < pF) (w : World) : Calls Try.prog 31 #[.agg (rC X Y Z T).toArray] w (RetV (.string (S (encL (ml X (fi Z)) (ml Y (fi Z))))) w) := by
  have c1 := fun w => eInv Z hZ w
  have c2 := fun w => eTimes Y (fi Z) hY (fi_lt _) w
  have c3 := fun w => eTimes X (fi Z) hX (fi_lt _) w
  have hx := ml_lt X (fi Z)
  have hy := ml_lt Y (fi Z)
  generalize ml X (fi Z) = x at c3 hx ⊢
  generalize ml Y (fi Z) = y at c2 hy ⊢
  have c4 := fun w => isOdd_any x hx w
  obtain ⟨b, hb⟩ : ∃ b, (leB y).getD 31 0 = b := ⟨_, rfl⟩
  have hb128 : b.toNat < 128 := hb ▸ top_bit y hy
  obtain ⟨r, hr, hor⟩ := or_top b hb128
  have : x % 2 = 0 ∨ x % 2 = 1 := by omega
  rcases this with e | e
  · rw [e] at c4
    have h := bytes_even _ _ _ (S (leB T)) _ _ (leB y) (leB_len _) b r hb hor c1 c2 c3 c4 w
    have e2 : encL x y = leB y := by unfold encL; rw [e, Nat.zero_mul, Nat.add_zero]
    rw [e2]
    exact h
  · rw [e] at c4
    have h := bytes_odd _ _ _ (S (leB T)) _ _ (leB y) (leB_len _) b r hb hor c1 c2 c3 c4 w
    rw [enc_set x y hy r (by rw [hb, hr, e, Nat.one_mul])] at h
    exact h
end Go.Proofs.Ytockcnglennihaa
