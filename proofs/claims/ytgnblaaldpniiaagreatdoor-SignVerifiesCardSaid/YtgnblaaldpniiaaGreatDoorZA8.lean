/- Walks of the document's answer for package field: the number of bytes; which are elements.
Walks of the document's answer for package field: products.
Walks of the document's answer for package field: powers.
Walks of the document's answer for package field: inverses; halves. -/
import Derived.Test.YtgnblaaldpniiaaGreatDoorZA7
import Derived.Test.YtgnblaaldpniiaaGreatDoorZA6
section
set_option linter.unusedSimpArgs false
set_option linter.unusedVariables false
set_option maxRecDepth 100000
namespace Go.Proofs.YtgnblaaldpniiaaGreatDoor
open Go.RowKit
def w2 (l : List UInt8) (i : Nat) : Nat := (l.getD (2 * i) 0).toNat + 256 * (l.getD (2 * i + 1) 0).toNat
theorem w2_lt (l : List UInt8) (i : Nat) : w2 l i < 65536 := by
  unfold w2
  have h0 := (l.getD (2 * i) 0).toNat_lt
  have h1 := (l.getD (2 * i + 1) 0).toNat_lt
  omega
theorem two_words : ∀ (n : Nat) (l : List UInt8), l.length = 2 * n → valB 65536 ((List.range n).map (w2 l)) = numB l
  | 0, l, h => by
    have : l = [] := List.eq_nil_of_length_eq_zero (by omega)
    subst this; rfl
  | n + 1, l, h => by
    match l, h with
    | a :: b :: r, h =>
      have ih := two_words n r (by simp at h; omega)
      rw [List.range_succ_eq_map, List.map_cons, List.map_map, valB]
      have e : (List.range n).map (w2 (a :: b :: r) ∘ Nat.succ) = (List.range n).map (w2 r) := by
        refine List.map_congr_left fun i _ => ?_
        simp only [Function.comp, w2]
        rw [show 2 * i.succ = 2 * i + 2 by omega]
        simp
      rw [e, ih]
      simp [numB, valB, w2]
      omega
def dig (l : List UInt8) (i : Nat) : List Nat := (List.range i).map (w2 l) ++ List.replicate (16 - i) 0
theorem dig_set (l : List UInt8) (i : Nat) (h : i < 16) : (dig l i).set i (w2 l i) = dig l (i + 1) := by
  unfold dig
  have hl : ((List.range i).map (w2 l)).length = i := by simp
  rw [show 16 - i = (16 - (i + 1)) + 1 by omega, List.replicate_succ]
  have e := set_mid ((List.range i).map (w2 l)) (List.replicate (16 - (i + 1)) 0) 0 (w2 l i)
  rw [hl] at e
  rw [e, List.range_succ, List.map_append]
  rfl
set_option maxHeartbeats 1000000 in
theorem digits_any (l : List UInt8) (hl : l.length = 32) (wS : World) : Calls Tryz.prog 94 #[.string (S l)] wS (AP (Md (numB l)) wS) := by
  have H := AMem.start wS
  have hsz : (S l).size = 32 := by rw [S_size, hl]
  have hres : dig l 16 = Md (numB l) := Md_of _ _ (by simp [dig]) (fun x hx => by
    unfold dig at hx
    rw [Nat.sub_self, List.replicate_zero, List.append_nil] at hx
    obtain ⟨i, _, rfl⟩ := List.mem_map.1 hx
    exact w2_lt l i) (by unfold dig; rw [Nat.sub_self, List.replicate_zero, List.append_nil]; exact two_words 16 l (by omega))
  replace hres := Kept.mk hres
  replace hl := Kept.mk hl
  have hML := Md_len (numB l)
  go_enter Tryz.func94, Tryz.ntmps94
  go_wp2_with (first
    | (refine a_alloc rfl rfl (by assumption) ?_; intro g w H; try simp only [Act.put, yI, yC, yZ])
    | (refine a_build rfl rfl ?_; try simp only [Act.put, yI, yC, yZ])
    | (refine a_store0 rfl _ _ rfl _ _ _ rfl rfl _ (by assumption) (by first | assumption | exact limbs_len _ _ _ | exact z16_len) ?_; intro w H; try simp only [Act.put, yI, yC, yZ]))
  rename_i gr _ _ _ _ K _
  go_loopw [4] (fun v4 wr => ∃ (i : Nat), i ≤ 16 ∧ v4 = .int .i64 (i : Int) ∧ AMem wS wr [(g, dig l i), (gr, z16)]) (fun v4 _ => 16 - (RowKit.intOf v4).toNat)
  case atStart => exact ⟨0, by omega, rfl, H⟩
  case round =>
    clear H
    obtain ⟨i, hi, rfl, H⟩ := hrel
    by_cases hlt : i < 16
    · obtain ⟨b0, hb0⟩ : ∃ b, l.getD (2 * i) 0 = b := ⟨_, rfl⟩
      obtain ⟨b1, hb1⟩ : ∃ b, l.getD (2 * i + 1) 0 = b := ⟨_, rfl⟩
      have hw : w2 l i = b0.toNat + 256 * b1.toNat := by unfold w2; rw [hb0, hb1]
      have hs0 : 2 * i < (S l).size := by rw [hsz]; omega
      have hs1 : 2 * i + 1 < (S l).size := by rw [hsz]; omega
      have g0 : (S l)[2 * i] = b0 := by rw [byte_at, hb0]
      have g1 : (S l)[2 * i + 1] = b1 := by rw [byte_at, hb1]
      have l0 := b0.toNat_lt
      have l1 := b1.toNat_lt
      have hlti : (i : Int) < 16 := by omega
      have k1 : IntKind.i64.wrap (2 * (i : Int)) = 2 * (i : Int) := by simp [IntKind.wrap, IntKind.signed, IntKind.bits]; omega
      have k2 : IntKind.i64.wrap (2 * (i : Int) + 1) = 2 * (i : Int) + 1 := by simp [IntKind.wrap, IntKind.signed, IntKind.bits]; omega
      have k3 : (2 * (i : Int)).toNat = 2 * i := by omega
      have k4 : (2 * (i : Int) + 1).toNat = 2 * i + 1 := by omega
      have k5 : IntKind.i64.wrap (256 * (b1.toNat : Int)) = 256 * (b1.toNat : Int) := by simp [IntKind.wrap, IntKind.signed, IntKind.bits]; omega
      replace hw := Kept.mk hw
      replace hb0 := Kept.mk hb0
      replace hb1 := Kept.mk hb1
      go_wp2
      refine wp_region_from_tail 15 (by kernel_rfl) (by kernel_rfl) ?_
      simp only [List.take_succ_cons, List.take_zero, List.drop_succ_cons, List.drop_zero]
      repeat (first
        | (go_big_quiet_want; (refine a_quiet_load _ rfl _ _ rfl (by assumption) (by (repeat (first | exact .head _ | refine .tail _ ?_))) ?_); try simp only [Act.put, yI, yC, yZ]; go_big_quiet_on)
        | go_big_quiet_step ((fail)))
      refine wpQuiet_nil ?_
      intro w5 hw5
      have H := H.from hw5
      clear hw5
      clear k1 k2 k3 k4 k5
      have c3 := H.cell (.head _) i hlt
      have f3 := H.frozen (.head _) i
      have Hn := H.cell0 i (w2 l i) ((b0.toNat : Int) + 256 * (b1.toNat : Int)) (by rw [hw.out]; omega)
      rw [dig_set l i hlt] at Hn
      clear hs0 hs1 g0 g1
      go_wp2
      go_roundw
      case rel => exact ⟨i + 1, hlt, val_eq (by omega), Hn⟩
      case measure => simp [RowKit.intOf]; omega
    · obtain rfl : i = 16 := by omega
      rw [hres.out] at H
      clear hi
      go_wp2_with (first
        | (refine a_load rfl _ rfl _ _ rfl (by assumption) (by (repeat (first | exact .head _ | refine .tail _ ?_))) ?_; try simp only [Act.put, yI, yC, yZ])
        | (refine a_store1 rfl _ _ rfl _ _ _ rfl rfl _ _ (by assumption) (by first | assumption | exact limbs_len _ _ _ | exact z16_len) ?_; intro w H; try simp only [Act.put, yI, yC, yZ]))
      exact a_ret Tryz.results94 _ rfl rfl (by assumption) (by (repeat (first | exact .head _ | refine .tail _ ?_))) (rfl)
theorem Num_any (l : List UInt8) (hl : l.length = 32) (wS : World) : Calls Tryz.prog 59 #[.string (S l)] wS (AP (Md (numB l % pF)) wS) := by
  have H := AMem.start wS
  have cD := Kept.mk fun w => digits_any l hl w
  have cM := fun w => mod_any (Md (numB l)) (Md_len _) (fun x hx => Nat.lt_trans (Md_lt _ x hx) (by decide)) w
  rw [Md_val _ (numB_lt l hl)] at cM
  replace cM := Kept.mk cM
  have h1 := Md_len (numB l)
  have h2 := Md_len (numB l % pF)
  clear hl
  go_enter Tryz.func59, Tryz.ntmps59
  go_wp2_with (first
    | (refine a_alloc rfl rfl (by assumption) ?_; intro g w H; try simp only [Act.put, yI, yC, yZ])
    | (refine a_store0 rfl _ _ rfl _ _ _ rfl rfl _ (by assumption) (by first | assumption | exact limbs_len _ _ _ | exact z16_len) ?_; intro w H; try simp only [Act.put, yI, yC, yZ])
    | (go_at_call 94; refine a_call (by assumption) (cD.out _) ?_; intro w H)
    | (go_at_call 65; refine a_call (by assumption) (cM.out _) ?_; intro w H))
  exact a_ret Tryz.results59 _ rfl rfl (by assumption) (by (repeat (first | exact .head _ | refine .tail _ ?_))) (rfl)
theorem Is_any (l : List UInt8) (wS : World) : Calls Tryz.prog 58 #[.string (S l)] wS fun e w' => e = .returned (.bool (isEl l)) ∧ Below wS.heap.size wS w' := by
  have H := AMem.start wS
  by_cases hl : l.length = 32
  · have hsz : (S l).size = 32 := by rw [S_size, hl]
    have cD := Kept.mk fun w => digits_any l hl w
    have cB := fun w => Below_any (numB l) pF (numB_lt l hl) p_bigR w
    have e : isEl l = decide (numB l < pF) := by unfold isEl; simp [hl]
    rw [e]
    generalize decide (numB l < pF) = b at cB ⊢
    have cB2 := Kept.mk cB
    clear e hl cB
    go_enter Tryz.func58, Tryz.ntmps58
    go_wp2_with (first
      | (go_at_call 68; refine a_call (by assumption) (P_any _) ?_; intro w H)
      | (go_at_call 94; refine a_call (by assumption) (cD.out _) ?_; intro w H)
      | (go_at_call 93; refine a_call (by assumption) (cB2.out _) ?_; intro w H))
    go_ret
    exact ⟨rfl, H.below⟩
  · have e : isEl l = false := by unfold isEl; simp [hl]
    have hsz : (((S l).size : Int) == 32) = false := by rw [S_size]; simp; omega
    rw [e]
    clear e hl
    go_enter Tryz.func58, Tryz.ntmps58
    go_wp2_with (first
      | (refine a_store1 rfl _ _ rfl _ _ _ rfl rfl _ _ (by assumption) (by first | assumption | exact limbs_len _ _ _ | exact z16_len) ?_; intro w H; try simp only [Act.put, yI, yC, yZ]))
    go_ret
    exact ⟨rfl, H.below⟩
end Go.Proofs.YtgnblaaldpniiaaGreatDoor
end
section
set_option linter.unusedSimpArgs false
set_option linter.unusedVariables false
set_option maxRecDepth 100000
namespace Go.Proofs.YtgnblaaldpniiaaGreatDoor
open Go.RowKit
theorem valB_set (B : Nat) : ∀ (l : List Nat) (j v : Nat), j < l.length → valB B (l.set j (l.getD j 0 + v)) = valB B l + v * B ^ j
  | [], j, v, h => by simp at h
  | x :: r, 0, v, _ => by simp [valB]; omega
  | x :: r, j + 1, v, h => by
    have ih := valB_set B r j v (by simpa using h)
    simp only [List.set_cons_succ, List.getD_cons_succ, valB]
    rw [ih, Nat.mul_add, Nat.pow_succ, ← Nat.add_assoc]
    congr 1
    rw [Nat.mul_left_comm, Nat.mul_comm B (B ^ j)]
theorem take_val (B : Nat) (l : List Nat) : ∀ k, k < l.length → valB B (l.take (k + 1)) = valB B (l.take k) + l.getD k 0 * B ^ k := by
  intro k
  induction k generalizing l with
  | zero =>
    intro h
    cases l with
    | nil => simp at h
    | cons x r => simp [valB]
  | succ k ih =>
    intro h
    cases l with
    | nil => simp at h
    | cons x r =>
      rw [List.take_succ_cons, List.take_succ_cons, valB, valB, ih r (by simpa using h), List.getD_cons_succ, Nat.mul_add, Nat.pow_succ, ← Nat.add_assoc]
      congr 1
      rw [Nat.mul_left_comm, Nat.mul_comm B (B ^ k)]
theorem set_bound (l : List Nat) (j v M : Nat) (h : ∀ x ∈ l, x ≤ M) (hv : v ≤ M) : ∀ x ∈ l.set j v, x ≤ M := by
  intro x hx
  rcases List.mem_or_eq_of_mem_set hx with h2 | rfl
  · exact h x h2
  · exact hv
theorem part_mod (j : Nat) (d y : Nat) (h : 16 ≤ j) : (y + 38 * d * 65536 ^ (j - 16)) % pF = (y + d * 65536 ^ j) % pF := by
  have e : d * 65536 ^ j = big * (d * 65536 ^ (j - 16)) := by
    rw [← big16, show j = 16 + (j - 16) by omega, Nat.pow_add, Nat.add_sub_cancel_left]
    rw [Nat.mul_left_comm]
  rw [e, big_mod, Nat.mul_assoc]
theorem getD_le {l : List Nat} {M : Nat} (h : ∀ x ∈ l, x ≤ M) (i : Nat) (hi : i < l.length) : l.getD i 0 ≤ M := by
  refine h _ ?_
  rw [List.getD_eq_getElem?_getD, List.getElem?_eq_getElem hi]
  simp
def soFar (a b : List Nat) (i k : Nat) : Nat := valB 65536 (a.take i) * valB 65536 b + a.getD i 0 * 65536 ^ i * valB 65536 (b.take k)
theorem soFar_step (a b : List Nat) (i k : Nat) (hk : k < b.length) : soFar a b i (k + 1) = soFar a b i k + a.getD i 0 * b.getD k 0 * 65536 ^ (i + k) := by
  unfold soFar
  rw [take_val _ _ _ hk, Nat.mul_add, ← Nat.add_assoc]
  congr 1
  rw [Nat.pow_add]
  generalize 65536 ^ i = p
  generalize 65536 ^ k = q
  generalize a.getD i 0 = x
  generalize b.getD k 0 = y
  rw [Nat.mul_assoc, Nat.mul_assoc, Nat.mul_left_comm p y q]
theorem soFar_next (a b : List Nat) (i : Nat) (hi : i < a.length) : soFar a b i b.length = valB 65536 (a.take (i + 1)) * valB 65536 b := by
  unfold soFar
  rw [take_val _ _ _ hi, List.take_length, Nat.add_mul]
theorem soFar_zero (a b : List Nat) (i : Nat) : soFar a b i 0 = valB 65536 (a.take i) * valB 65536 b := by
  unfold soFar; rw [List.take_zero]; rfl
set_option maxHeartbeats 4000000 in
theorem Times_any (x y : Nat) (hx : x < big) (hy : y < big) (wS : World) : Calls Tryz.prog 37 #[arrV (Md x), arrV (Md y)] wS (AP (Md (x * y % pF)) wS) := by
  have H := AMem.start wS
  obtain ⟨a, ha⟩ : ∃ a, Md x = a := ⟨_, rfl⟩
  obtain ⟨b, hb⟩ : ∃ b, Md y = b := ⟨_, rfl⟩
  have hal : a.length = 16 := by rw [← ha, Md_len]
  have hbl : b.length = 16 := by rw [← hb, Md_len]
  have haW : ∀ x ∈ a, x < 65536 := ha ▸ Md_lt x
  have hbW : ∀ x ∈ b, x < 65536 := hb ▸ Md_lt y
  have hav : valB 65536 a = x := by rw [← ha]; exact Md_val x hx
  have hbv : valB 65536 b = y := by rw [← hb]; exact Md_val y hy
  rw [ha, hb]
  have hml := Md_len (x * y % pF)
  replace haW := Kept.mk haW
  replace hbW := Kept.mk hbW
  replace ha := Kept.mk ha
  replace hb := Kept.mk hb
  replace hav := Kept.mk hav
  replace hbv := Kept.mk hbv
  have hll := Kept.mk (And.intro hal hbl)
  clear hx hy
  unfold arrV
  go_enter Tryz.func37, Tryz.ntmps37
  go_wp2_with (first
    | (refine a_box rfl _ rfl _ rfl (by assumption) (by first | assumption | exact limbs_len _ _ _ | exact z16_len) ?_; intro g w H; try simp only [Act.put, yI, yC, yZ])
    | (refine a_alloc rfl rfl (by assumption) ?_; intro g w H; try simp only [Act.put, yI, yC, yZ])
    | (refine a_build rfl rfl ?_; try simp only [Act.put, yI, yC, yZ])
    | (refine a_store0 rfl _ _ rfl _ _ _ rfl rfl _ (by assumption) (by first | assumption | exact limbs_len _ _ _ | exact z16_len) ?_; intro w H; try simp only [Act.put, yI, yC, yZ]))
  clear hal hbl
  rename_i ga _ _ gb _ _ gr _ _ _ _ K _
  rename Nat => gy
  go_loopw [6] (fun v6 wr => ∃ (i : Nat) (y : List Nat), i ≤ 16 ∧ v6 = .int .i64 (i : Int) ∧ AMem wS wr [(gy, y), (gr, z16), (gb, b), (ga, a)] ∧ Kept (∀ x ∈ y, x ≤ 163203776550 * (16 * i)) ∧ Kept (valB 65536 y % pF = soFar a b i 0 % pF)) (fun v6 _ => 16 - (RowKit.intOf v6).toNat)
  case atStart => exact ⟨0, z16, by omega, rfl, H, ⟨fun x hx => by unfold z16 at hx; rw [List.eq_of_mem_replicate hx]; omega⟩, ⟨by rw [soFar_zero, List.take_zero]; show valB 65536 z16 % pF = (0 * _) % pF; rw [Nat.zero_mul]; rfl⟩⟩
  case round =>
    clear H
    obtain ⟨i, y0, hi, rfl, H, HB, HV⟩ := hrel
    by_cases hlt : i < 16
    · obtain ⟨p, hp⟩ : ∃ p, a.getD i 0 = p := ⟨_, rfl⟩
      have hpl : p < 65536 := hp ▸ getD_ltN haW.out i (by rw [hll.out.1]; omega)
      have hlti : (i : Int) < 16 := by omega
      replace hp := Kept.mk hp
      go_wp2
      obtain ⟨wo, rfl⟩ : ∃ wo : World, wo = wr := ⟨_, rfl⟩
      go_loopw [7] (fun v7 wr => ∃ (k : Nat) (y : List Nat), k ≤ 16 ∧ v7 = .int .i64 (k : Int) ∧ AMem wS wr [(gy, y), (gr, z16), (gb, b), (ga, a)] ∧ Kept (∀ x ∈ y, x ≤ 163203776550 * (16 * i + k)) ∧ Kept (valB 65536 y % pF = soFar a b i k % pF)) (fun v7 _ => 16 - (RowKit.intOf v7).toNat)
      case atStart => exact ⟨0, y0, by omega, rfl, H, HB, HV⟩
      case round =>
        clear H HB HV
        obtain ⟨k, y, hk, rfl, H, HB, HV⟩ := hrel
        have hyl := Kept.mk (H.len gy y (.head _))
        by_cases hkt : k < 16
        · obtain ⟨q, hq⟩ : ∃ q, b.getD k 0 = q := ⟨_, rfl⟩
          have hql : q < 65536 := hq ▸ getD_ltN hbW.out k (by rw [hll.out.2]; omega)
          have hltk : (k : Int) < 16 := by omega
          obtain ⟨pq, hpq⟩ : ∃ z, p * q = z := ⟨_, rfl⟩
          have hpql : pq ≤ 4294836225 := by
            rw [← hpq]
            exact Nat.mul_le_mul (show p ≤ 65535 by omega) (show q ≤ 65535 by omega)
          have hstep := soFar_step a b i k (by rw [hll.out.2]; omega)
          rw [hp.out, hq, hpq] at hstep
          have c1 := H.hcell (.tail _ (.tail _ (.tail _ (.head _)))) i p hlt hp.out
          have c2 := H.hcell (.tail _ (.tail _ (.head _))) k q hkt hq
          have kij : IntKind.i64.wrap ((i : Int) + (k : Int)) = (i : Int) + (k : Int) := by simp [IntKind.wrap, IntKind.signed, IntKind.bits]; omega
          have kij2 : ((i : Int) + (k : Int)).toNat = i + k := by omega
          replace hq := Kept.mk hq
          replace hstep := Kept.mk hstep
          by_cases hj : i + k < 16
          · obtain ⟨v, hv⟩ : ∃ v, y.getD (i + k) 0 = v := ⟨_, rfl⟩
            have hvl : v ≤ 163203776550 * (16 * i + k) := hv ▸ getD_le HB.out (i + k) (by rw [hyl.out]; omega)
            have c3 := H.hcell (.head _) (i + k) v hj hv
            have hjI : (i : Int) + (k : Int) < 16 := by omega
            have kp : IntKind.i64.wrap ((p : Int) * (q : Int)) = (pq : Int) := by
              rw [← Int.natCast_mul, hpq]
              simp [IntKind.wrap, IntKind.signed, IntKind.bits]; omega
            have hbnd := set_bound y (i + k) (v + pq) (163203776550 * (16 * i + (k + 1))) (fun x hx => Nat.le_trans (HB.out x hx) (by omega)) (by omega)
            have hval := valB_set 65536 y (i + k) pq (by rw [hyl.out]; omega)
            rw [hv] at hval
            have hmod : valB 65536 (y.set (i + k) (v + pq)) % pF = soFar a b i (k + 1) % pF := by
              rw [hval, hstep.out, Nat.add_mod, HV.out, ← Nat.add_mod]
            replace hv := Kept.mk hv
            replace hpq := Kept.mk hpq
            replace hval := Kept.mk hval
            replace hmod := Kept.mk hmod
            replace hbnd := Kept.mk hbnd
            go_wp2
            refine wp_region_from_tail 14 (by kernel_rfl) (by kernel_rfl) ?_
            simp only [List.take_succ_cons, List.take_zero, List.drop_succ_cons, List.drop_zero]
            repeat (first
              | (go_big_quiet_want; (refine a_quiet_load _ rfl _ _ rfl (by assumption) (by (repeat (first | exact .head _ | refine .tail _ ?_))) ?_); try simp only [Act.put, yI, yC, yZ]; go_big_quiet_on)
              | go_big_quiet_step ((fail)))
            refine wpQuiet_nil ?_
            intro w5 hw5
            have H := H.from hw5
            clear hw5
            clear c1 c2 c3
            have e3 := H.cell (.head _) (i + k) hj
            rw [hv.out] at e3
            have f3 := H.frozen (.head _) (i + k)
            have Hn := H.cell0 (i + k) (v + pq) ((v : Int) + (pq : Int)) (by omega)
            go_wp2
            go_roundw
            case rel => exact ⟨k + 1, y.set (i + k) (v + pq), by omega, val_eq (by omega), Hn, hbnd, hmod⟩
            case measure => simp [RowKit.intOf]; omega
          · obtain ⟨j, hjj⟩ : ∃ j, i + k = 16 + j := ⟨i + k - 16, by omega⟩
            have hj16 : j < 16 := by omega
            obtain ⟨v, hv⟩ : ∃ v, y.getD j 0 = v := ⟨_, rfl⟩
            have hvl : v ≤ 163203776550 * (16 * i + k) := hv ▸ getD_le HB.out j (by rw [hyl.out]; omega)
            have c3 := H.hcell (.head _) j v hj16 hv
            have hjI : ¬ ((i : Int) + (k : Int) < 16) := by omega
            have kjj : IntKind.i64.wrap ((i : Int) + (k : Int) - 16) = (j : Int) := by
              rw [show (i : Int) + (k : Int) - 16 = (j : Int) by omega]
              simp [IntKind.wrap, IntKind.signed, IntKind.bits]; omega
            have kp0 : IntKind.i64.wrap (38 * (p : Int)) = 38 * (p : Int) := by simp [IntKind.wrap, IntKind.signed, IntKind.bits]; omega
            have kp : IntKind.i64.wrap (38 * (p : Int) * (q : Int)) = ((38 * pq : Nat) : Int) := by
              have e : 38 * (p : Int) * (q : Int) = ((38 * pq : Nat) : Int) := by rw [← hpq, Int.natCast_mul, Int.natCast_mul, Int.mul_assoc]; rfl
              rw [e]
              simp [IntKind.wrap, IntKind.signed, IntKind.bits]; omega
            obtain ⟨pq38, h38⟩ : ∃ z, 38 * pq = z := ⟨_, rfl⟩
            rw [h38] at kp
            have h38l : pq38 ≤ 163203776550 := by omega
            have hbnd := set_bound y j (v + pq38) (163203776550 * (16 * i + (k + 1))) (fun x hx => Nat.le_trans (HB.out x hx) (by omega)) (by omega)
            have hval := valB_set 65536 y j pq38 (by rw [hyl.out]; omega)
            rw [hv] at hval
            have hmod : valB 65536 (y.set j (v + pq38)) % pF = soFar a b i (k + 1) % pF := by
              have hpm := part_mod (i + k) pq (valB 65536 y) (by omega)
              rw [show i + k - 16 = j by omega, h38] at hpm
              rw [hval, hpm, hstep.out, Nat.add_mod, HV.out, ← Nat.add_mod]
            replace hv := Kept.mk hv
            replace hpq := Kept.mk hpq
            replace h38 := Kept.mk h38
            replace hval := Kept.mk hval
            replace hmod := Kept.mk hmod
            replace hbnd := Kept.mk hbnd
            replace hjj := Kept.mk hjj
            go_wp2
            refine wp_region_from_tail 16 (by kernel_rfl) (by kernel_rfl) ?_
            simp only [List.take_succ_cons, List.take_zero, List.drop_succ_cons, List.drop_zero]
            repeat (first
              | (go_big_quiet_want; (refine a_quiet_load _ rfl _ _ rfl (by assumption) (by (repeat (first | exact .head _ | refine .tail _ ?_))) ?_); try simp only [Act.put, yI, yC, yZ]; go_big_quiet_on)
              | go_big_quiet_step ((fail)))
            refine wpQuiet_nil ?_
            intro w5 hw5
            have H := H.from hw5
            clear hw5
            clear c1 c2 c3
            have e3 := H.cell (.head _) j hj16
            rw [hv.out] at e3
            have f3 := H.frozen (.head _) j
            have Hn := H.cell0 j (v + pq38) ((v : Int) + (pq38 : Int)) (by omega)
            go_wp2
            go_roundw
            case rel => exact ⟨k + 1, y.set j (v + pq38), by omega, val_eq (by omega), Hn, hbnd, hmod⟩
            case measure => simp [RowKit.intOf]; omega
        · obtain rfl : k = 16 := by omega
          have hnx := soFar_next a b i (by rw [hll.out.1]; omega)
          rw [hll.out.2] at hnx
          have hV2 : valB 65536 y % pF = soFar a b (i + 1) 0 % pF := by rw [HV.out, hnx, soFar_zero]
          have hB2 : ∀ x ∈ y, x ≤ 163203776550 * (16 * (i + 1)) := fun x hx => Nat.le_trans (HB.out x hx) (by omega)
          replace hnx := Kept.mk hnx
          replace hV2 := Kept.mk hV2
          replace hB2 := Kept.mk hB2
          go_wp2
          go_roundw
          case rel => exact ⟨i + 1, y, by omega, val_eq (by omega), H, hB2, hV2⟩
          case measure => simp [RowKit.intOf]; omega
    · obtain rfl : i = 16 := by omega
      have hyl := H.len gy y0 (.head _)
      have cM := fun w => mod_any y0 hyl (fun x hx => Nat.lt_of_le_of_lt (HB.out x hx) (by omega)) w
      have e : valB 65536 y0 % pF = x * y % pF := by
        rw [HV.out, soFar_zero, List.take_of_length_le (by rw [hll.out.1]; omega), hav.out, hbv.out]
      rw [e] at cM
      replace cM := Kept.mk cM
      clear e HB HV
      go_wp2_with (first
        | (refine a_load rfl _ rfl _ _ rfl (by assumption) (by (repeat (first | exact .head _ | refine .tail _ ?_))) ?_; try simp only [Act.put, yI, yC, yZ])
        | (refine a_store1 rfl _ _ rfl _ _ _ rfl rfl _ _ (by assumption) (by first | assumption | exact limbs_len _ _ _ | exact z16_len) ?_; intro w H; try simp only [Act.put, yI, yC, yZ])
        | (go_at_call 65; refine a_call (by assumption) (cM.out _) ?_; intro w H))
      exact a_ret Tryz.results37 _ rfl rfl (by assumption) (by (repeat (first | exact .head _ | refine .tail _ ?_))) (rfl)
end Go.Proofs.YtgnblaaldpniiaaGreatDoor
end
section
set_option linter.unusedSimpArgs false
set_option linter.unusedVariables false
set_option maxRecDepth 100000
namespace Go.Proofs.YtgnblaaldpniiaaGreatDoor
open Go.RowKit
theorem limbs_getD (B : Nat) : ∀ (k x j : Nat), j < k → (limbs B k x).getD j 0 = x / B ^ j % B
  | 0, _, _, h => by omega
  | k + 1, x, 0, _ => by rw [limbs, List.getD_cons_zero, Nat.pow_zero, Nat.div_one]
  | k + 1, x, j + 1, h => by
    rw [limbs, List.getD_cons_succ, limbs_getD B k (x / B) j (by omega), Nat.div_div_eq_div_mul, Nat.pow_succ, Nat.mul_comm]
theorem bit_of (e k j r : Nat) (hk : k = 16 * j + r) (hr : r < 16) : e / 65536 ^ j % 65536 / 2 ^ r % 2 = e / 2 ^ k % 2 := by
  have h1 : e / 2 ^ k = e / 65536 ^ j / 2 ^ r := by
    rw [Nat.div_div_eq_div_mul, hk, Nat.pow_add, Nat.pow_mul]
  rw [h1]
  generalize e / 65536 ^ j = y
  have h3 : y % 65536 / 2 ^ r = y / 2 ^ r % 2 ^ (16 - r) := by
    have e2 : (65536 : Nat) = 2 ^ r * 2 ^ (16 - r) := by rw [← Nat.pow_add, show r + (16 - r) = 16 by omega]
    rw [e2, Nat.mod_mul_right_div_self]
  rw [h3, show 2 ^ (16 - r) = 2 * 2 ^ (15 - r) by rw [Nat.mul_comm, ← Nat.pow_succ]; congr 1; omega, Nat.mod_mul_right_mod]
theorem half_step (e k : Nat) : e / 2 ^ k = 2 * (e / 2 ^ (k + 1)) + e / 2 ^ k % 2 := by
  rw [Nat.pow_succ, ← Nat.div_div_eq_div_mul]
  omega
theorem powF_sq (x m : Nat) : powF x m * powF x m % pF = powF x (2 * m) := by
  unfold powF
  rw [← Nat.mul_mod, ← Nat.pow_add, Nat.two_mul]
theorem powF_one (x m : Nat) : powF x m * x % pF = powF x (m + 1) := by
  unfold powF
  rw [Nat.mod_mul_mod, Nat.pow_succ]
theorem and_one (s : Nat) (h : s < 4294967296) : bits .and .i64 (s : Int) 1 = ((s % 2 : Nat) : Int) := by
  have h1 : (BitVec.ofInt 64 (s : Int)).toNat = s := by
    rw [BitVec.ofInt_natCast, BitVec.toNat_ofNat]; exact Nat.mod_eq_of_lt (by omega)
  show IntKind.i64.wrap ((BitVec.ofInt 64 (s : Int) &&& BitVec.ofInt 64 1).toNat : Int) = _
  rw [BitVec.toNat_and, h1]
  have h2 : (BitVec.ofInt 64 1).toNat = 1 := rfl
  rw [h2, Nat.and_one_is_mod]
  simp [IntKind.wrap, IntKind.signed, IntKind.bits]
  omega
set_option maxHeartbeats 4000000 in
theorem Power_any (x e : Nat) (hx : x < big) (he : e < big) (wS : World) : Calls Tryz.prog 66 #[arrV (Md x), arrV (Md e)] wS (AP (Md (powF x e)) wS) := by
  have H := AMem.start wS
  have hel := Md_len e
  have hxl := Md_len x
  have h1l := Md_len 1
  have cS := fun w => Small_any 1 (by omega) w
  rw [show ((1 : Nat) : Int) = 1 from rfl] at cS
  replace cS := Kept.mk cS
  have h256 : powF x (e / 2 ^ 256) = 1 := by
    rw [Nat.div_eq_of_lt (show e < 2 ^ 256 from he)]
    show x ^ 0 % pF = 1
    rw [Nat.pow_zero]
    exact Nat.mod_eq_of_lt (small_lt 1 (by omega))
  replace h256 := Kept.mk h256
  unfold arrV
  go_enter Tryz.func66, Tryz.ntmps66
  go_wp2_with (first
    | (refine a_box rfl _ rfl _ rfl (by assumption) (by first | assumption | exact limbs_len _ _ _ | exact z16_len) ?_; intro g w H; try simp only [Act.put, yI, yC, yZ])
    | (refine a_alloc rfl rfl (by assumption) ?_; intro g w H; try simp only [Act.put, yI, yC, yZ])
    | (refine a_store0 rfl _ _ rfl _ _ _ rfl rfl _ (by assumption) (by first | assumption | exact limbs_len _ _ _ | exact z16_len) ?_; intro w H; try simp only [Act.put, yI, yC, yZ])
    | (go_at_call 38; refine a_call (by assumption) (cS.out _) ?_; intro w H))
  rename_i ga _ _ gn _ _ gr _ _ _ _ _ _ K _
  rename Nat => go
  go_loopw [6] (fun v6 wr => ∃ (k y : Nat), k ≤ 256 ∧ y < big ∧ v6 = .int .i64 ((k : Int) - 1) ∧ AMem wS wr [(go, Md y), (gr, z16), (gn, Md e), (ga, Md x)] ∧ Kept (y = powF x (e / 2 ^ k))) (fun v6 _ => (RowKit.intOf v6 + 1).toNat)
  case atStart => exact ⟨256, 1, by omega, by decide +kernel, rfl, H, ⟨h256.out.symm⟩⟩
  case round =>
    clear H
    obtain ⟨k, y, hk, hyb, rfl, H, HY⟩ := hrel
    cases k with
    | zero =>
      rw [show ((0 : Nat) : Int) - 1 = -1 from rfl]
      have hfin : y = powF x e := by have h := HY.out; rw [Nat.pow_zero, Nat.div_one] at h; exact h
      rw [hfin] at H
      clear HY hfin hyb
      have hfl := Md_len (powF x e)
      go_wp2_with (first
        | (refine a_load rfl _ rfl _ _ rfl (by assumption) (by (repeat (first | exact .head _ | refine .tail _ ?_))) ?_; try simp only [Act.put, yI, yC, yZ])
        | (refine a_store1 rfl _ _ rfl _ _ _ rfl rfl _ _ (by assumption) (by first | assumption | exact limbs_len _ _ _ | exact z16_len) ?_; intro w H; try simp only [Act.put, yI, yC, yZ]))
      exact a_ret Tryz.results66 _ rfl rfl (by assumption) (by (repeat (first | exact .head _ | refine .tail _ ?_))) (rfl)
    | succ k =>
      rw [show ((k + 1 : Nat) : Int) - 1 = (k : Int) by omega]
      obtain ⟨j, hj⟩ : ∃ j, k / 16 = j := ⟨_, rfl⟩
      obtain ⟨r, hr⟩ : ∃ r, k % 16 = r := ⟨_, rfl⟩
      have hj16 : j < 16 := by omega
      have hr16 : r < 16 := by omega
      have hkjr : k = 16 * j + r := by omega
      obtain ⟨v, hv⟩ : ∃ v, (Md e).getD j 0 = v := ⟨_, rfl⟩
      have hv2 : v = e / 65536 ^ j % 65536 := by rw [← hv]; exact limbs_getD 65536 16 e j hj16
      obtain ⟨s, hs⟩ : ∃ s, v / 2 ^ r = s := ⟨_, rfl⟩
      obtain ⟨bt, hbt⟩ : ∃ b, s % 2 = b := ⟨_, rfl⟩
      have hbit : bt = e / 2 ^ k % 2 := by rw [← hbt, ← hs, hv2]; exact bit_of e k j r hkjr hr16
      have hq : (k : Int) / 16 = (j : Int) := by omega
      have hm : (k : Int) % 16 = (r : Int) := by omega
      have hvl : v < 65536 := by rw [hv2]; exact Nat.mod_lt _ (by decide)
      have hsl : s ≤ v := by rw [← hs]; exact Nat.div_le_self _ _
      have cT := fun w => Times_any y y hyb hyb w
      obtain ⟨z, hz⟩ : ∃ z, y * y % pF = z := ⟨_, rfl⟩
      rw [hz] at cT
      have hzb : z < big := hz ▸ Nat.lt_trans (Nat.mod_lt _ p_pos) p_bigR
      have hzl := Md_len z
      have hY2 : z = powF x (2 * (e / 2 ^ (k + 1))) := by rw [← hz, HY.out, powF_sq]
      have q4 : (v : Int) / 2 ^ r = (s : Int) := by rw [← hs]; simp
      have q4b : (v : Int) / 2 ^ min r 64 = (s : Int) := by rw [Nat.min_eq_left (by omega)]; exact q4
      have hrb : (r : Int) < 64 := by omega
      have hr0 : (0 : Int) ≤ (r : Int) := by omega
      have hand : bits .and .i64 (s : Int) 1 = (bt : Int) := by rw [← hbt]; exact and_one s (by omega)
      have hbs : (s : Int) % 2 = (bt : Int) := by omega
      have hst := half_step e k
      replace hj := Kept.mk hj
      replace hr := Kept.mk hr
      replace hkjr := Kept.mk hkjr
      replace hv := Kept.mk hv
      replace hv2 := Kept.mk hv2
      replace hs := Kept.mk hs
      replace hbt := Kept.mk hbt
      replace hz := Kept.mk hz
      replace hY2 := Kept.mk hY2
      replace hst := Kept.mk hst
      unfold arrV at cT
      replace cT := Kept.mk cT
      have hjJ : (j : Int) < 16 := by omega
      have hkK : (0 : Int) ≤ (k : Int) := by omega
      by_cases hb1 : bt = 1
      · have hfin : z * x % pF = powF x (e / 2 ^ k) := by rw [hY2.out, powF_one, hst.out, ← hbit, hb1]
        have cX := fun w => Times_any z x hzb hx w
        rw [hfin] at cX
        unfold arrV at cX
        replace cX := Kept.mk cX
        have hfl := Md_len (powF x (e / 2 ^ k))
        have hfb : powF x (e / 2 ^ k) < big := Nat.lt_trans (powF_lt _ _) p_bigR
        subst hb1
        replace hbit := Kept.mk hbit
        replace hfin := Kept.mk hfin
        go_wp2_with (first
          | (refine a_load rfl _ rfl _ _ rfl (by assumption) (by (repeat (first | exact .head _ | refine .tail _ ?_))) ?_; try simp only [Act.put, yI, yC, yZ])
          | (refine a_store0 rfl _ _ rfl _ _ _ rfl rfl _ (by assumption) (by first | assumption | exact limbs_len _ _ _ | exact z16_len) ?_; intro w H; have c3 := H.cell (.tail _ (.tail _ (.head _))) j hj16; rw [hv.out] at c3; try simp only [Act.put, yI, yC, yZ])
          | (go_at_call 37; with_reducible refine a_call (by assumption) (cT.out _) ?_; intro w H)
          | (go_at_call 37; with_reducible refine a_call (by assumption) (cX.out _) ?_; intro w H))
        go_roundw
        case rel => exact ⟨k, _, by omega, hfb, rfl, H, ⟨rfl⟩⟩
        case measure => first | (simp [RowKit.intOf]; done) | (simp [RowKit.intOf]; omega)
      · have hb0 : bt = 0 := by omega
        have hfin : z = powF x (e / 2 ^ k) := by rw [hY2.out, hst.out, ← hbit, hb0]; rfl
        have cX := cT
        subst hb0
        replace hbit := Kept.mk hbit
        replace hfin := Kept.mk hfin
        go_wp2_with (first
          | (refine a_load rfl _ rfl _ _ rfl (by assumption) (by (repeat (first | exact .head _ | refine .tail _ ?_))) ?_; try simp only [Act.put, yI, yC, yZ])
          | (refine a_store0 rfl _ _ rfl _ _ _ rfl rfl _ (by assumption) (by first | assumption | exact limbs_len _ _ _ | exact z16_len) ?_; intro w H; have c3 := H.cell (.tail _ (.tail _ (.head _))) j hj16; rw [hv.out] at c3; try simp only [Act.put, yI, yC, yZ])
          | (go_at_call 37; with_reducible refine a_call (by assumption) (cT.out _) ?_; intro w H))
        go_roundw
        case rel => exact ⟨k, z, by omega, hzb, rfl, H, hfin⟩
        case measure => first | (simp [RowKit.intOf]; done) | (simp [RowKit.intOf]; omega)
end Go.Proofs.YtgnblaaldpniiaaGreatDoor
end
section
set_option linter.unusedSimpArgs false
set_option linter.unusedVariables false
set_option maxRecDepth 100000
namespace Go.Proofs.YtgnblaaldpniiaaGreatDoor
open Go.RowKit
theorem Inverse_any (x : Nat) (hx : x < big) (wS : World) : Calls Tryz.prog 39 #[arrV (Md x)] wS (AP (Md (invF x)) wS) := by
  have H := AMem.start wS
  have cS := fun w => Small_any 2 (by omega) w
  rw [show ((2 : Nat) : Int) = 2 from rfl] at cS
  have cL := fun w => less_any pF 2 p_bigR (Nat.le_of_lt (small_lt 2 (by omega))) w
  obtain ⟨e, he⟩ : ∃ e, pF - 2 = e := ⟨_, rfl⟩
  have heb : e < big := he ▸ Nat.lt_of_le_of_lt (Nat.sub_le _ _) p_bigR
  have hinv : powF x e = invF x := by rw [invF, he]
  have cP := fun w => Power_any x e hx heb w
  rw [hinv] at cP
  rw [he] at cL
  clear he heb hinv
  generalize invF x = r at cP ⊢
  have cQ := fun w => P_any w
  unfold AP at cS cL cP cQ
  have h1 := Md_len x
  have h2 := Md_len r
  generalize Md x = dx at h1 cP ⊢
  generalize Md r = dr at h2 cP ⊢
  generalize Md 2 = d2 at cS cL
  generalize Md pF = dp at cL cQ
  generalize Md e = de at cL cP
  replace cS := Kept.mk cS
  replace cL := Kept.mk cL
  replace cP := Kept.mk cP
  replace cQ := Kept.mk cQ
  clear hx
  unfold arrV
  go_enter Tryz.func39, Tryz.ntmps39
  go_wp2_with (first
    | (refine a_box rfl _ rfl _ rfl (by assumption) (by first | assumption | exact limbs_len _ _ _ | exact z16_len) ?_; intro g w H; try simp only [Act.put, yI, yC, yZ])
    | (refine a_alloc rfl rfl (by assumption) ?_; intro g w H; try simp only [Act.put, yI, yC, yZ]))
  refine wp_region_from_tail 5 (by kernel_rfl) (by kernel_rfl) ?_
  simp only [List.take_succ_cons, List.take_zero, List.drop_succ_cons, List.drop_zero]
  repeat (first
    | (go_big_quiet_want; (refine a_quiet_load _ rfl _ _ rfl (by assumption) (by (repeat (first | exact .head _ | refine .tail _ ?_))) ?_); try simp only [Act.put, yI, yC, yZ]; go_big_quiet_on)
    | go_big_quiet_step (((first | (go_at_call 68; exact held_call _ (cQ.out _)) | (go_at_call 38; exact held_call _ (cS.out _)) | (go_at_call 67; exact held_call _ (cL.out _)) | (go_at_call 66; exact held_call _ (cP.out _))))))
  refine wpQuiet_nil ?_
  intro w5 hw5
  have H := H.from hw5
  clear hw5
  go_wp2_with (first
    | (refine a_store0 rfl _ _ rfl _ _ _ rfl rfl _ (by assumption) (by first | assumption | exact limbs_len _ _ _ | exact z16_len) ?_; intro w H; try simp only [Act.put, yI, yC, yZ]))
  exact a_ret Tryz.results39 _ rfl rfl (by assumption) (by (repeat (first | exact .head _ | refine .tail _ ?_))) (rfl)
def halfL : List Nat → List Nat
  | x :: y :: r => (x / 2 + y % 2 * 32768) :: halfL (y :: r)
  | [x] => [x / 2]
  | [] => []
theorem halfL_len : ∀ l, (halfL l).length = l.length
  | x :: y :: r => by simp [halfL, halfL_len (y :: r)]
  | [_] => rfl
  | [] => rfl
theorem halfL_lt : ∀ l, (∀ x ∈ l, x < 65536) → ∀ z ∈ halfL l, z < 65536
  | x :: y :: r, h, z, hz => by
    rw [halfL, List.mem_cons] at hz
    have := h x (by simp)
    rcases hz with rfl | hz
    · omega
    · exact halfL_lt (y :: r) (fun q hq => h q (by simp at hq ⊢; right; exact hq)) z hz
  | [x], h, z, hz => by
    have := h x (by simp)
    simp [halfL] at hz
    omega
  | [], _, z, hz => by simp [halfL] at hz
theorem halfL_val : ∀ l, valB 65536 (halfL l) = valB 65536 l / 2
  | x :: y :: r => by
    have ih := halfL_val (y :: r)
    have hp : valB 65536 (y :: r) % 2 = y % 2 := by rw [valB]; omega
    show x / 2 + y % 2 * 32768 + 65536 * valB 65536 (halfL (y :: r)) = (x + 65536 * valB 65536 (y :: r)) / 2
    rw [ih]
    generalize valB 65536 (y :: r) = V at hp ⊢
    omega
  | [x] => by simp [halfL, valB]
  | [] => rfl
theorem half_Md (e : Nat) (h : e < big) : halfL (Md e) = Md (e / 2) := Md_of _ _ (by rw [halfL_len, Md_len]) (halfL_lt _ (Md_lt e)) (by rw [halfL_val, Md_val e h])
set_option maxHeartbeats 4000000 in
theorem half_any (e m : Nat) (he : e < big) (hm : m < 100) (wS : World) : Calls Tryz.prog 95 #[arrV (Md e), .int .i64 (m : Int)] wS (AP (Md (e / 2 ^ m)) wS) := by
  have H := AMem.start wS
  have hel := Md_len e
  unfold arrV
  go_enter Tryz.func95, Tryz.ntmps95
  go_wp2_with (first
    | (refine a_box rfl _ rfl _ rfl (by assumption) (by first | assumption | exact limbs_len _ _ _ | exact z16_len) ?_; intro g w H; try simp only [Act.put, yI, yC, yZ])
    | (refine a_alloc rfl rfl (by assumption) ?_; intro g w H; try simp only [Act.put, yI, yC, yZ])
    | (refine a_load rfl _ rfl _ _ rfl (by assumption) (by (repeat (first | exact .head _ | refine .tail _ ?_))) ?_; try simp only [Act.put, yI, yC, yZ])
    | (refine a_store0 rfl _ _ rfl _ _ _ rfl rfl _ (by assumption) (by first | assumption | exact limbs_len _ _ _ | exact z16_len) ?_; intro w H; try simp only [Act.put, yI, yC, yZ]))
  rename_i ga _ _ gr _ _ _ _ K _
  rename Nat => gx
  go_loopw [6] (fun v6 wr => ∃ (i : Nat), i ≤ m ∧ v6 = .int .i64 (i : Int) ∧ AMem wS wr [(gx, Md (e / 2 ^ i)), (gr, z16), (ga, Md (e / 2 ^ i))]) (fun v6 _ => m - (RowKit.intOf v6).toNat)
  case atStart => exact ⟨0, by omega, rfl, by rw [Nat.pow_zero, Nat.div_one]; exact H⟩
  case round =>
    clear H
    obtain ⟨i, hi, rfl, H⟩ := hrel
    by_cases hlt : i < m
    · have hlti : (i : Int) < (m : Int) := by omega
      obtain ⟨a, ha⟩ : ∃ a, Md (e / 2 ^ i) = a := ⟨_, rfl⟩
      have hnx : halfL a = Md (e / 2 ^ (i + 1)) := by
        rw [← ha, half_Md _ (Nat.lt_of_le_of_lt (Nat.div_le_self _ _) he), Nat.div_div_eq_div_mul, ← Nat.pow_succ]
      have hal : a.length = 16 := by rw [← ha, Md_len]
      have haW : ∀ x ∈ a, x < 65536 := ha ▸ Md_lt _
      rw [ha] at H
      have hll := Kept.mk hal
      replace ha := Kept.mk ha
      replace hnx := Kept.mk hnx
      replace haW := Kept.mk haW
      clear hal
      go_wp2
      obtain ⟨wo, rfl⟩ : ∃ wo : World, wo = wr := ⟨_, rfl⟩
      go_loopw [7] (fun v7 wr => ∃ (k : Nat) (d : List Nat), k ≤ 16 ∧ v7 = .int .i64 (k : Int) ∧ Kept (d.length = k) ∧ AMem wS wr [(gx, d ++ a.drop k), (gr, z16), (ga, a)] ∧ Kept (d ++ halfL (a.drop k) = halfL a)) (fun v7 _ => 16 - (RowKit.intOf v7).toNat)
      case atStart => exact ⟨0, [], by omega, rfl, ⟨rfl⟩, H, ⟨rfl⟩⟩
      case round =>
        clear H
        obtain ⟨k, d, hk, rfl, HD, H, HE⟩ := hrel
        by_cases hkt : k < 16
        · obtain ⟨p, hp⟩ : ∃ p, a.getD k 0 = p := ⟨_, rfl⟩
          have hda := drop_getD a k (by rw [hll.out]; omega)
          rw [hp] at hda
          have hpl : p < 65536 := hp ▸ getD_ltN haW.out k (by rw [hll.out]; omega)
          have c1 := H.cell (.head _) k hkt
          rw [step_get HD.out hda] at c1
          have f1 := H.frozen (.head _) k
          have hltk : (k : Int) < 16 := by omega
          have H1 := H.cell0 k (p / 2) ((p : Int) / 2) (by omega)
          by_cases h15 : k < 15
          · obtain ⟨q, hq⟩ : ∃ q, a.getD (k + 1) 0 = q := ⟨_, rfl⟩
            have hdb := drop_getD a (k + 1) (by rw [hll.out]; omega)
            rw [hq] at hdb
            have hql : q < 65536 := hq ▸ getD_ltN haW.out (k + 1) (by rw [hll.out]; omega)
            have h15I : (k : Int) < 15 := by omega
            have hgx : ((d ++ a.drop k).set k (p / 2)).getD k 0 = p / 2 := by
              rw [step_set HD.out hda, ← HD.out]; simp
            have c2 := H1.hcell (.head _) k (p / 2) hkt hgx
            have c3 := H1.hcell (.tail _ (.tail _ (.head _))) (k + 1) q (by omega) hq
            have kk : IntKind.i64.wrap ((k : Int) + 1) = (k : Int) + 1 := by simp [IntKind.wrap, IntKind.signed, IntKind.bits]; omega
            have kk2 : ((k : Int) + 1).toNat = k + 1 := by omega
            have km : IntKind.i64.wrap ((q : Int) % 2 * 32768) = (q : Int) % 2 * 32768 := by simp [IntKind.wrap, IntKind.signed, IntKind.bits]; omega
            rw [show ((p / 2 : Nat) : Int) = (p : Int) / 2 by omega] at c2
            have hE : d ++ [p / 2 + q % 2 * 32768] ++ halfL (a.drop (k + 1)) = halfL a := by
              have h := HE.out
              rw [hda, hdb, halfL, ← hdb] at h
              rw [List.append_assoc]; exact h
            replace hE := Kept.mk hE
            replace hp := Kept.mk hp
            replace hq := Kept.mk hq
            replace hda := Kept.mk hda
            replace hdb := Kept.mk hdb
            replace hgx := Kept.mk hgx
            have H := H1
            go_wp2
            refine wp_region_from_tail 11 (by kernel_rfl) (by kernel_rfl) ?_
            simp only [List.take_succ_cons, List.take_zero, List.drop_succ_cons, List.drop_zero]
            repeat (first
              | (go_big_quiet_want; (refine a_quiet_load _ rfl _ _ rfl (by assumption) (by (repeat (first | exact .head _ | refine .tail _ ?_))) ?_); try simp only [Act.put, yI, yC, yZ]; go_big_quiet_on)
              | go_big_quiet_step ((fail)))
            refine wpQuiet_nil ?_
            intro w5 hw5
            have H := H.from hw5
            clear hw5
            clear c2 c3
            have c4 := H.cell (.head _) k hkt
            rw [hgx.out] at c4
            have f4 := H.frozen (.head _) k
            have Hn := H.cell0 k (p / 2 + q % 2 * 32768) ((p : Int) / 2 + (q : Int) % 2 * 32768) (by omega)
            rw [List.set_set, step_set HD.out hda.out] at Hn
            go_wp2
            go_roundw
            case rel => exact ⟨k + 1, d ++ [p / 2 + q % 2 * 32768], by omega, val_eq (by omega), ⟨by rw [List.length_append, HD.out]; rfl⟩, Hn, hE⟩
            case measure => first | (simp [RowKit.intOf]; done) | (simp [RowKit.intOf]; omega)
          · obtain rfl : k = 15 := by omega
            have hE : d ++ [p / 2] ++ halfL (a.drop 16) = halfL a := by
              have h := HE.out
              rw [hda, List.drop_eq_nil_of_le (show a.length ≤ 15 + 1 by rw [hll.out]; omega), halfL] at h
              rw [List.drop_eq_nil_of_le (by rw [hll.out]; omega), halfL, List.append_nil]
              exact h
            rw [step_set HD.out hda] at H1
            replace hE := Kept.mk hE
            replace hp := Kept.mk hp
            replace hda := Kept.mk hda
            go_wp2
            go_roundw
            case rel => exact ⟨16, d ++ [p / 2], by omega, val_eq (by omega), ⟨by rw [List.length_append, HD.out]; rfl⟩, H1, hE⟩
            case measure => first | (simp [RowKit.intOf]; done) | (simp [RowKit.intOf]; omega)
        · obtain rfl : k = 16 := by omega
          have hfin : d ++ a.drop 16 = Md (e / 2 ^ (i + 1)) := by
            have h := HE.out
            rw [List.drop_eq_nil_of_le (show a.length ≤ 16 by rw [hll.out]; omega)] at h ⊢
            rw [halfL] at h
            rw [h, hnx.out]
          rw [hfin] at H
          have hfl := Md_len (e / 2 ^ (i + 1))
          clear hfin HE
          go_wp2_with (first
            | (refine a_load rfl _ rfl _ _ rfl (by assumption) (by (repeat (first | exact .head _ | refine .tail _ ?_))) ?_; try simp only [Act.put, yI, yC, yZ])
            | (refine a_store2 rfl _ _ rfl _ _ _ rfl rfl _ _ _ (by assumption) (by first | assumption | exact limbs_len _ _ _ | exact z16_len) ?_; intro w H; try simp only [Act.put, yI, yC, yZ]))
          go_roundw
          case rel => exact ⟨i + 1, by omega, val_eq (by omega), H⟩
          case measure => first | (simp [RowKit.intOf]; done) | (simp [RowKit.intOf]; omega)
    · obtain rfl : i = m := by omega
      have hfl := Md_len (e / 2 ^ i)
      clear hi
      go_wp2_with (first
        | (refine a_load rfl _ rfl _ _ rfl (by assumption) (by (repeat (first | exact .head _ | refine .tail _ ?_))) ?_; try simp only [Act.put, yI, yC, yZ])
        | (refine a_store1 rfl _ _ rfl _ _ _ rfl rfl _ _ (by assumption) (by first | assumption | exact limbs_len _ _ _ | exact z16_len) ?_; intro w H; try simp only [Act.put, yI, yC, yZ]))
      exact a_ret Tryz.results95 _ rfl rfl (by assumption) (by (repeat (first | exact .head _ | refine .tail _ ?_))) (rfl)
end Go.Proofs.YtgnblaaldpniiaaGreatDoor
end
