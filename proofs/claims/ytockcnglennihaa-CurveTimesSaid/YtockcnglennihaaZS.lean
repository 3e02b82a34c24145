/- The law package's own calls: small numbers' elements; the calls that the document fixes.
Walks of the document's answer for package field: the number of bytes; which are elements.
Walks of the document's answer for package field: products.
Walks of the document's answer for package field: its calls Add, Sub, Mul.
Package field: squares, roots, inverses, modulo the prime. No walk. -/
import Derived.Test.YtockcnglennihaaZR
import Derived.Test.YtockcnglennihaaZC
section
set_option linter.unusedSimpArgs false
set_option linter.unusedVariables false
namespace Go.Proofs.Ytockcnglennihaa
open Go.RowKit
def BoolPost (b : Bool) (w : World) (e : Ending) (w' : World) : Prop := e = .returned (.bool b) ∧ Below w.heap.size w w'
theorem last_lt : pF - 1 < pF := by decide +kernel
theorem small_lt (n : Nat) (h : n < 1000) : n < pF := Nat.lt_trans h (by decide +kernel)
theorem not_p : isEl (leB pF) = false := by
  unfold isEl
  rw [numB_leB pF p_big]
  simp
end Go.Proofs.Ytockcnglennihaa
end
section
set_option linter.unusedSimpArgs false
set_option linter.unusedVariables false
namespace Go.Proofs.Ytockcnglennihaa
open Go.RowKit
def w2 (l : List UInt8) (i : Nat) : Nat := (l.getD (2 * i) 0).toNat + 256 * (l.getD (2 * i + 1) 0).toNat
theorem w2_lt (l : List UInt8) (i : Nat) : w2 l i < 65536 := by
  unfold w2
  have h0 := (l.getD (2 * i) 0).toNat_lt
  have h1 := (l.getD (2 * i + 1) 0).toNat_lt
  omega
theorem two_words : ∀ (n : Nat) (l : List UInt8), l.length = 2 * n → valB 65536 ((List.range n).map (w2 l)) = numB l
  | 0, l, h => by
    have : l = [] := List.eq_nil_of_length_eq_zero (by omega)
    subst this; rfl
  | n + 1, l, h => by
    match l, h with
    | a :: b :: r, h =>
      have ih := two_words n r (by simp at h; omega)
      rw [List.range_succ_eq_map, List.map_cons, List.map_map, valB]
      have e : (List.range n).map (w2 (a :: b :: r) ∘ Nat.succ) = (List.range n).map (w2 r) := by
        refine List.map_congr_left fun i _ => ?_
        simp only [Function.comp, w2]
        rw [show 2 * i.succ = 2 * i + 2 by omega]
        simp
      rw [e, ih]
      simp [numB, valB, w2]
      omega
def dig (l : List UInt8) (i : Nat) : List Nat := (List.range i).map (w2 l) ++ List.replicate (16 - i) 0
theorem dig_set (l : List UInt8) (i : Nat) (h : i < 16) : (dig l i).set i (w2 l i) = dig l (i + 1) := by
  unfold dig
  have hl : ((List.range i).map (w2 l)).length = i := by simp
  rw [show 16 - i = (16 - (i + 1)) + 1 by omega, List.replicate_succ]
  have e := set_mid ((List.range i).map (w2 l)) (List.replicate (16 - (i + 1)) 0) 0 (w2 l i)
  rw [hl] at e
  rw [e, List.range_succ, List.map_append]
  rfl
set_option maxHeartbeats 1000000 in
theorem digits_any (l : List UInt8) (hl : l.length = 32) (wS : World) : Calls Try.prog 70 #[.string (S l)] wS (AP (Md (numB l)) wS) := by
  have H := AMem.start wS
  have hsz : (S l).size = 32 := by rw [S_size, hl]
  have hres : dig l 16 = Md (numB l) := Md_of _ _ (by simp [dig]) (fun x hx => by
    unfold dig at hx
    rw [Nat.sub_self, List.replicate_zero, List.append_nil] at hx
    obtain ⟨i, _, rfl⟩ := List.mem_map.1 hx
    exact w2_lt l i) (by unfold dig; rw [Nat.sub_self, List.replicate_zero, List.append_nil]; exact two_words 16 l (by omega))
  replace hres := Kept.mk hres
  replace hl := Kept.mk hl
  have hML := Md_len (numB l)
  go_enter Try.func70, Try.ntmps70
  go_wp2_with (first
    | (refine a_box rfl _ rfl _ rfl (by assumption) (by first | assumption | exact limbs_len _ _ _ | exact z16_len) ?_; intro g w H; try simp only [Act.put, List.setIfInBounds_toArray, List.set_cons_succ, List.set_cons_zero])
    | (refine a_alloc rfl rfl (by assumption) ?_; intro g w H; try simp only [Act.put, List.setIfInBounds_toArray, List.set_cons_succ, List.set_cons_zero])
    | (refine a_build rfl rfl ?_; try simp only [Act.put, List.setIfInBounds_toArray, List.set_cons_succ, List.set_cons_zero])
    | (refine a_load rfl _ rfl _ _ rfl (by assumption) (by (first | exact .head _ | exact .tail _ (.head _) | exact .tail _ (.tail _ (.head _)) | exact .tail _ (.tail _ (.tail _ (.head _))) | exact .tail _ (.tail _ (.tail _ (.tail _ (.head _)))))) ?_; try simp only [Act.put, List.setIfInBounds_toArray, List.set_cons_succ, List.set_cons_zero])
    | (refine a_store0 rfl _ _ rfl _ _ _ rfl rfl _ (by assumption) (by first | assumption | exact limbs_len _ _ _ | exact z16_len) ?_; intro w H; try simp only [Act.put, List.setIfInBounds_toArray, List.set_cons_succ, List.set_cons_zero])
    | (refine a_store1 rfl _ _ rfl _ _ _ rfl rfl _ _ (by assumption) (by first | assumption | exact limbs_len _ _ _ | exact z16_len) ?_; intro w H; try simp only [Act.put, List.setIfInBounds_toArray, List.set_cons_succ, List.set_cons_zero])
    | (refine a_store2 rfl _ _ rfl _ _ _ rfl rfl _ _ _ (by assumption) (by first | assumption | exact limbs_len _ _ _ | exact z16_len) ?_; intro w H; try simp only [Act.put, List.setIfInBounds_toArray, List.set_cons_succ, List.set_cons_zero]))
  rename_i gr _ _ _ _ K _
  go_loopw [4] (fun v4 wr => ∃ (i : Nat), i ≤ 16 ∧ v4 = .int .i64 (i : Int) ∧ AMem wS wr [(g, dig l i), (gr, z16)]) (fun v4 _ => 16 - (RowKit.intOf v4).toNat)
  case atStart => exact ⟨0, by omega, rfl, H⟩
  case round =>
    clear H
    obtain ⟨i, hi, rfl, H⟩ := hrel
    by_cases hlt : i < 16
    · obtain ⟨b0, hb0⟩ : ∃ b, l.getD (2 * i) 0 = b := ⟨_, rfl⟩
      obtain ⟨b1, hb1⟩ : ∃ b, l.getD (2 * i + 1) 0 = b := ⟨_, rfl⟩
      have hw : w2 l i = b0.toNat + 256 * b1.toNat := by unfold w2; rw [hb0, hb1]
      have hs0 : 2 * i < (S l).size := by rw [hsz]; omega
      have hs1 : 2 * i + 1 < (S l).size := by rw [hsz]; omega
      have g0 : (S l)[2 * i] = b0 := by rw [byte_at, hb0]
      have g1 : (S l)[2 * i + 1] = b1 := by rw [byte_at, hb1]
      have l0 := b0.toNat_lt
      have l1 := b1.toNat_lt
      have hlti : (i : Int) < 16 := by omega
      have k1 : IntKind.i64.wrap (2 * (i : Int)) = 2 * (i : Int) := by simp [IntKind.wrap, IntKind.signed, IntKind.bits]; omega
      have k2 : IntKind.i64.wrap (2 * (i : Int) + 1) = 2 * (i : Int) + 1 := by simp [IntKind.wrap, IntKind.signed, IntKind.bits]; omega
      have k3 : (2 * (i : Int)).toNat = 2 * i := by omega
      have k4 : (2 * (i : Int) + 1).toNat = 2 * i + 1 := by omega
      have k5 : IntKind.i64.wrap (256 * (b1.toNat : Int)) = 256 * (b1.toNat : Int) := by simp [IntKind.wrap, IntKind.signed, IntKind.bits]; omega
      replace hw := Kept.mk hw
      replace hb0 := Kept.mk hb0
      replace hb1 := Kept.mk hb1
      go_wp2
      refine wp_region_from_tail 15 (by kernel_rfl) (by kernel_rfl) ?_
      simp only [List.take_succ_cons, List.take_zero, List.drop_succ_cons, List.drop_zero]
      repeat (first
        | (go_big_quiet_want; (refine a_quiet_load _ rfl _ _ rfl (by assumption) (by (first | exact .head _ | exact .tail _ (.head _) | exact .tail _ (.tail _ (.head _)) | exact .tail _ (.tail _ (.tail _ (.head _))) | exact .tail _ (.tail _ (.tail _ (.tail _ (.head _)))))) ?_); try simp only [Act.put, List.setIfInBounds_toArray, List.set_cons_succ, List.set_cons_zero]; go_big_quiet_on)
        | go_big_quiet_step ((fail)))
      refine wpQuiet_nil ?_
      intro w5 hw5
      have H := H.from hw5
      clear hw5
      clear k1 k2 k3 k4 k5
      have c3 := H.cell (.head _) i hlt
      have f3 := H.frozen (.head _) i
      have Hn := H.cell0 i (w2 l i) ((b0.toNat : Int) + 256 * (b1.toNat : Int)) (by rw [hw.out]; omega)
      rw [dig_set l i hlt] at Hn
      clear hs0 hs1 g0 g1
      go_wp2
      go_roundw
      case rel => exact ⟨i + 1, hlt, val_eq (by omega), Hn⟩
      case measure => simp [RowKit.intOf]; omega
    · obtain rfl : i = 16 := by omega
      rw [hres.out] at H
      clear hi
      go_wp2_with (first
        | (refine a_box rfl _ rfl _ rfl (by assumption) (by first | assumption | exact limbs_len _ _ _ | exact z16_len) ?_; intro g w H; try simp only [Act.put, List.setIfInBounds_toArray, List.set_cons_succ, List.set_cons_zero])
        | (refine a_alloc rfl rfl (by assumption) ?_; intro g w H; try simp only [Act.put, List.setIfInBounds_toArray, List.set_cons_succ, List.set_cons_zero])
        | (refine a_build rfl rfl ?_; try simp only [Act.put, List.setIfInBounds_toArray, List.set_cons_succ, List.set_cons_zero])
        | (refine a_load rfl _ rfl _ _ rfl (by assumption) (by (first | exact .head _ | exact .tail _ (.head _) | exact .tail _ (.tail _ (.head _)) | exact .tail _ (.tail _ (.tail _ (.head _))) | exact .tail _ (.tail _ (.tail _ (.tail _ (.head _)))))) ?_; try simp only [Act.put, List.setIfInBounds_toArray, List.set_cons_succ, List.set_cons_zero])
        | (refine a_store0 rfl _ _ rfl _ _ _ rfl rfl _ (by assumption) (by first | assumption | exact limbs_len _ _ _ | exact z16_len) ?_; intro w H; try simp only [Act.put, List.setIfInBounds_toArray, List.set_cons_succ, List.set_cons_zero])
        | (refine a_store1 rfl _ _ rfl _ _ _ rfl rfl _ _ (by assumption) (by first | assumption | exact limbs_len _ _ _ | exact z16_len) ?_; intro w H; try simp only [Act.put, List.setIfInBounds_toArray, List.set_cons_succ, List.set_cons_zero])
        | (refine a_store2 rfl _ _ rfl _ _ _ rfl rfl _ _ _ (by assumption) (by first | assumption | exact limbs_len _ _ _ | exact z16_len) ?_; intro w H; try simp only [Act.put, List.setIfInBounds_toArray, List.set_cons_succ, List.set_cons_zero]))
      exact a_ret Try.results70 _ rfl rfl (by assumption) (by (first | exact .head _ | exact .tail _ (.head _) | exact .tail _ (.tail _ (.head _)) | exact .tail _ (.tail _ (.tail _ (.head _))) | exact .tail _ (.tail _ (.tail _ (.tail _ (.head _)))))) (rfl)
theorem Num_any (l : List UInt8) (hl : l.length = 32) (wS : World) : Calls Try.prog 55 #[.string (S l)] wS (AP (Md (numB l % pF)) wS) := by
  have H := AMem.start wS
  have cD := Kept.mk fun w => digits_any l hl w
  have cM := fun w => mod_any (Md (numB l)) (Md_len _) (fun x hx => Nat.lt_trans (Md_lt _ x hx) (by decide)) w
  rw [Md_val _ (numB_lt l hl)] at cM
  replace cM := Kept.mk cM
  have h1 := Md_len (numB l)
  have h2 := Md_len (numB l % pF)
  clear hl
  go_enter Try.func55, Try.ntmps55
  go_wp2_with (first
    | (refine a_box rfl _ rfl _ rfl (by assumption) (by first | assumption | exact limbs_len _ _ _ | exact z16_len) ?_; intro g w H; try simp only [Act.put, List.setIfInBounds_toArray, List.set_cons_succ, List.set_cons_zero])
    | (refine a_alloc rfl rfl (by assumption) ?_; intro g w H; try simp only [Act.put, List.setIfInBounds_toArray, List.set_cons_succ, List.set_cons_zero])
    | (refine a_build rfl rfl ?_; try simp only [Act.put, List.setIfInBounds_toArray, List.set_cons_succ, List.set_cons_zero])
    | (refine a_load rfl _ rfl _ _ rfl (by assumption) (by (first | exact .head _ | exact .tail _ (.head _) | exact .tail _ (.tail _ (.head _)) | exact .tail _ (.tail _ (.tail _ (.head _))) | exact .tail _ (.tail _ (.tail _ (.tail _ (.head _)))))) ?_; try simp only [Act.put, List.setIfInBounds_toArray, List.set_cons_succ, List.set_cons_zero])
    | (refine a_store0 rfl _ _ rfl _ _ _ rfl rfl _ (by assumption) (by first | assumption | exact limbs_len _ _ _ | exact z16_len) ?_; intro w H; try simp only [Act.put, List.setIfInBounds_toArray, List.set_cons_succ, List.set_cons_zero])
    | (refine a_store1 rfl _ _ rfl _ _ _ rfl rfl _ _ (by assumption) (by first | assumption | exact limbs_len _ _ _ | exact z16_len) ?_; intro w H; try simp only [Act.put, List.setIfInBounds_toArray, List.set_cons_succ, List.set_cons_zero])
    | (refine a_store2 rfl _ _ rfl _ _ _ rfl rfl _ _ _ (by assumption) (by first | assumption | exact limbs_len _ _ _ | exact z16_len) ?_; intro w H; try simp only [Act.put, List.setIfInBounds_toArray, List.set_cons_succ, List.set_cons_zero])
    | (go_at_call 70; refine a_call (by assumption) (cD.out _) ?_; intro w H)
    | (go_at_call 61; refine a_call (by assumption) (cM.out _) ?_; intro w H))
  exact a_ret Try.results55 _ rfl rfl (by assumption) (by (first | exact .head _ | exact .tail _ (.head _) | exact .tail _ (.tail _ (.head _)) | exact .tail _ (.tail _ (.tail _ (.head _))) | exact .tail _ (.tail _ (.tail _ (.tail _ (.head _)))))) (rfl)
theorem Is_any (l : List UInt8) (wS : World) : Calls Try.prog 54 #[.string (S l)] wS fun e w' => e = .returned (.bool (isEl l)) ∧ Below wS.heap.size wS w' := by
  have H := AMem.start wS
  by_cases hl : l.length = 32
  · have hsz : (S l).size = 32 := by rw [S_size, hl]
    have cD := Kept.mk fun w => digits_any l hl w
    have cB := fun w => Below_any (numB l) pF (numB_lt l hl) p_bigR w
    have e : isEl l = decide (numB l < pF) := by unfold isEl; simp [hl]
    rw [e]
    generalize decide (numB l < pF) = b at cB ⊢
    have cB2 := Kept.mk cB
    clear e hl cB
    go_enter Try.func54, Try.ntmps54
    go_wp2_with (first
      | (refine a_box rfl _ rfl _ rfl (by assumption) (by first | assumption | exact limbs_len _ _ _ | exact z16_len) ?_; intro g w H; try simp only [Act.put, List.setIfInBounds_toArray, List.set_cons_succ, List.set_cons_zero])
      | (refine a_alloc rfl rfl (by assumption) ?_; intro g w H; try simp only [Act.put, List.setIfInBounds_toArray, List.set_cons_succ, List.set_cons_zero])
      | (refine a_build rfl rfl ?_; try simp only [Act.put, List.setIfInBounds_toArray, List.set_cons_succ, List.set_cons_zero])
      | (refine a_load rfl _ rfl _ _ rfl (by assumption) (by (first | exact .head _ | exact .tail _ (.head _) | exact .tail _ (.tail _ (.head _)) | exact .tail _ (.tail _ (.tail _ (.head _))) | exact .tail _ (.tail _ (.tail _ (.tail _ (.head _)))))) ?_; try simp only [Act.put, List.setIfInBounds_toArray, List.set_cons_succ, List.set_cons_zero])
      | (refine a_store0 rfl _ _ rfl _ _ _ rfl rfl _ (by assumption) (by first | assumption | exact limbs_len _ _ _ | exact z16_len) ?_; intro w H; try simp only [Act.put, List.setIfInBounds_toArray, List.set_cons_succ, List.set_cons_zero])
      | (refine a_store1 rfl _ _ rfl _ _ _ rfl rfl _ _ (by assumption) (by first | assumption | exact limbs_len _ _ _ | exact z16_len) ?_; intro w H; try simp only [Act.put, List.setIfInBounds_toArray, List.set_cons_succ, List.set_cons_zero])
      | (refine a_store2 rfl _ _ rfl _ _ _ rfl rfl _ _ _ (by assumption) (by first | assumption | exact limbs_len _ _ _ | exact z16_len) ?_; intro w H; try simp only [Act.put, List.setIfInBounds_toArray, List.set_cons_succ, List.set_cons_zero])
      | (go_at_call 60; refine a_call (by assumption) (P_any _) ?_; intro w H)
      | (go_at_call 70; refine a_call (by assumption) (cD.out _) ?_; intro w H)
      | (go_at_call 69; refine a_call (by assumption) (cB2.out _) ?_; intro w H))
    go_ret
    exact ⟨rfl, H.below⟩
  · have e : isEl l = false := by unfold isEl; simp [hl]
    have hsz : (((S l).size : Int) == 32) = false := by rw [S_size]; simp; omega
    rw [e]
    clear e hl
    go_enter Try.func54, Try.ntmps54
    go_wp2_with (first
      | (refine a_box rfl _ rfl _ rfl (by assumption) (by first | assumption | exact limbs_len _ _ _ | exact z16_len) ?_; intro g w H; try simp only [Act.put, List.setIfInBounds_toArray, List.set_cons_succ, List.set_cons_zero])
      | (refine a_alloc rfl rfl (by assumption) ?_; intro g w H; try simp only [Act.put, List.setIfInBounds_toArray, List.set_cons_succ, List.set_cons_zero])
      | (refine a_build rfl rfl ?_; try simp only [Act.put, List.setIfInBounds_toArray, List.set_cons_succ, List.set_cons_zero])
      | (refine a_load rfl _ rfl _ _ rfl (by assumption) (by (first | exact .head _ | exact .tail _ (.head _) | exact .tail _ (.tail _ (.head _)) | exact .tail _ (.tail _ (.tail _ (.head _))) | exact .tail _ (.tail _ (.tail _ (.tail _ (.head _)))))) ?_; try simp only [Act.put, List.setIfInBounds_toArray, List.set_cons_succ, List.set_cons_zero])
      | (refine a_store0 rfl _ _ rfl _ _ _ rfl rfl _ (by assumption) (by first | assumption | exact limbs_len _ _ _ | exact z16_len) ?_; intro w H; try simp only [Act.put, List.setIfInBounds_toArray, List.set_cons_succ, List.set_cons_zero])
      | (refine a_store1 rfl _ _ rfl _ _ _ rfl rfl _ _ (by assumption) (by first | assumption | exact limbs_len _ _ _ | exact z16_len) ?_; intro w H; try simp only [Act.put, List.setIfInBounds_toArray, List.set_cons_succ, List.set_cons_zero])
      | (refine a_store2 rfl _ _ rfl _ _ _ rfl rfl _ _ _ (by assumption) (by first | assumption | exact limbs_len _ _ _ | exact z16_len) ?_; intro w H; try simp only [Act.put, List.setIfInBounds_toArray, List.set_cons_succ, List.set_cons_zero]))
    go_ret
    exact ⟨rfl, H.below⟩
end Go.Proofs.Ytockcnglennihaa
end
section
set_option linter.unusedSimpArgs false
set_option linter.unusedVariables false
namespace Go.Proofs.Ytockcnglennihaa
open Go.RowKit
theorem valB_set (B : Nat) : ∀ (l : List Nat) (j v : Nat), j < l.length → valB B (l.set j (l.getD j 0 + v)) = valB B l + v * B ^ j
  | [], j, v, h => by simp at h
  | x :: r, 0, v, _ => by simp [valB]; omega
  | x :: r, j + 1, v, h => by
    have ih := valB_set B r j v (by simpa using h)
    simp only [List.set_cons_succ, List.getD_cons_succ, valB]
    rw [ih, Nat.mul_add, Nat.pow_succ, ← Nat.add_assoc]
    congr 1
    rw [Nat.mul_left_comm, Nat.mul_comm B (B ^ j)]
theorem take_val (B : Nat) (l : List Nat) : ∀ k, k < l.length → valB B (l.take (k + 1)) = valB B (l.take k) + l.getD k 0 * B ^ k := by
  intro k
  induction k generalizing l with
  | zero =>
    intro h
    cases l with
    | nil => simp at h
    | cons x r => simp [valB]
  | succ k ih =>
    intro h
    cases l with
    | nil => simp at h
    | cons x r =>
      rw [List.take_succ_cons, List.take_succ_cons, valB, valB, ih r (by simpa using h), List.getD_cons_succ, Nat.mul_add, Nat.pow_succ, ← Nat.add_assoc]
      congr 1
      rw [Nat.mul_left_comm, Nat.mul_comm B (B ^ k)]
theorem set_bound (l : List Nat) (j v M : Nat) (h : ∀ x ∈ l, x ≤ M) (hv : v ≤ M) : ∀ x ∈ l.set j v, x ≤ M := by
  intro x hx
  rcases List.mem_or_eq_of_mem_set hx with h2 | rfl
  · exact h x h2
  · exact hv
/-- Where a part of a product goes, and how much it counts there. -/
theorem part_mod (j : Nat) (d y : Nat) (h : 16 ≤ j) : (y + 38 * d * 65536 ^ (j - 16)) % pF = (y + d * 65536 ^ j) % pF := by
  have e : d * 65536 ^ j = big * (d * 65536 ^ (j - 16)) := by
    rw [← big16, show j = 16 + (j - 16) by omega, Nat.pow_add, Nat.add_sub_cancel_left]
    rw [Nat.mul_left_comm]
  rw [e, big_mod, Nat.mul_assoc]
theorem getD_le {l : List Nat} {M : Nat} (h : ∀ x ∈ l, x ≤ M) (i : Nat) (hi : i < l.length) : l.getD i 0 ≤ M := by
  refine h _ ?_
  rw [List.getD_eq_getElem?_getD, List.getElem?_eq_getElem hi]
  simp
/-- The product so far: of the first i digits with all of b, and of digit i with the first k of b. -/
def soFar (a b : List Nat) (i k : Nat) : Nat := valB 65536 (a.take i) * valB 65536 b + a.getD i 0 * 65536 ^ i * valB 65536 (b.take k)
theorem soFar_step (a b : List Nat) (i k : Nat) (hk : k < b.length) : soFar a b i (k + 1) = soFar a b i k + a.getD i 0 * b.getD k 0 * 65536 ^ (i + k) := by
  unfold soFar
  rw [take_val _ _ _ hk, Nat.mul_add, ← Nat.add_assoc]
  congr 1
  rw [Nat.pow_add]
  generalize 65536 ^ i = p
  generalize 65536 ^ k = q
  generalize a.getD i 0 = x
  generalize b.getD k 0 = y
  rw [Nat.mul_assoc, Nat.mul_assoc, Nat.mul_left_comm p y q]
theorem soFar_next (a b : List Nat) (i : Nat) (hi : i < a.length) : soFar a b i b.length = valB 65536 (a.take (i + 1)) * valB 65536 b := by
  unfold soFar
  rw [take_val _ _ _ hi, List.take_length, Nat.add_mul]
theorem soFar_zero (a b : List Nat) (i : Nat) : soFar a b i 0 = valB 65536 (a.take i) * valB 65536 b := by
  unfold soFar; rw [List.take_zero]; rfl
set_option maxHeartbeats 4000000 in
theorem Times_any (x y : Nat) (hx : x < big) (hy : y < big) (wS : World) : Calls Try.prog 41 #[arrV (Md x), arrV (Md y)] wS (AP (Md (x * y % pF)) wS) := by
  have H := AMem.start wS
  obtain ⟨a, ha⟩ : ∃ a, Md x = a := ⟨_, rfl⟩
  obtain ⟨b, hb⟩ : ∃ b, Md y = b := ⟨_, rfl⟩
  have hal : a.length = 16 := by rw [← ha, Md_len]
  have hbl : b.length = 16 := by rw [← hb, Md_len]
  have haW : ∀ x ∈ a, x < 65536 := ha ▸ Md_lt x
  have hbW : ∀ x ∈ b, x < 65536 := hb ▸ Md_lt y
  have hav : valB 65536 a = x := by rw [← ha]; exact Md_val x hx
  have hbv : valB 65536 b = y := by rw [← hb]; exact Md_val y hy
  rw [ha, hb]
  have hml := Md_len (x * y % pF)
  replace haW := Kept.mk haW
  replace hbW := Kept.mk hbW
  replace ha := Kept.mk ha
  replace hb := Kept.mk hb
  replace hav := Kept.mk hav
  replace hbv := Kept.mk hbv
  have hll := Kept.mk (And.intro hal hbl)
  clear hx hy
  unfold arrV
  go_enter Try.func41, Try.ntmps41
  go_wp2_with (first
    | (refine a_box rfl _ rfl _ rfl (by assumption) (by first | assumption | exact limbs_len _ _ _ | exact z16_len) ?_; intro g w H; try simp only [Act.put, List.setIfInBounds_toArray, List.set_cons_succ, List.set_cons_zero])
    | (refine a_alloc rfl rfl (by assumption) ?_; intro g w H; try simp only [Act.put, List.setIfInBounds_toArray, List.set_cons_succ, List.set_cons_zero])
    | (refine a_build rfl rfl ?_; try simp only [Act.put, List.setIfInBounds_toArray, List.set_cons_succ, List.set_cons_zero])
    | (refine a_load rfl _ rfl _ _ rfl (by assumption) (by (first | exact .head _ | exact .tail _ (.head _) | exact .tail _ (.tail _ (.head _)) | exact .tail _ (.tail _ (.tail _ (.head _))) | exact .tail _ (.tail _ (.tail _ (.tail _ (.head _)))))) ?_; try simp only [Act.put, List.setIfInBounds_toArray, List.set_cons_succ, List.set_cons_zero])
    | (refine a_store0 rfl _ _ rfl _ _ _ rfl rfl _ (by assumption) (by first | assumption | exact limbs_len _ _ _ | exact z16_len) ?_; intro w H; try simp only [Act.put, List.setIfInBounds_toArray, List.set_cons_succ, List.set_cons_zero])
    | (refine a_store1 rfl _ _ rfl _ _ _ rfl rfl _ _ (by assumption) (by first | assumption | exact limbs_len _ _ _ | exact z16_len) ?_; intro w H; try simp only [Act.put, List.setIfInBounds_toArray, List.set_cons_succ, List.set_cons_zero])
    | (refine a_store2 rfl _ _ rfl _ _ _ rfl rfl _ _ _ (by assumption) (by first | assumption | exact limbs_len _ _ _ | exact z16_len) ?_; intro w H; try simp only [Act.put, List.setIfInBounds_toArray, List.set_cons_succ, List.set_cons_zero]))
  clear hal hbl
  rename_i ga _ _ gb _ _ gr _ _ _ _ K _
  rename Nat => gy
  go_loopw [6] (fun v6 wr => ∃ (i : Nat) (y : List Nat), i ≤ 16 ∧ v6 = .int .i64 (i : Int) ∧ AMem wS wr [(gy, y), (gr, z16), (gb, b), (ga, a)] ∧ Kept (∀ x ∈ y, x ≤ 163203776550 * (16 * i)) ∧ Kept (valB 65536 y % pF = soFar a b i 0 % pF)) (fun v6 _ => 16 - (RowKit.intOf v6).toNat)
  case atStart => exact ⟨0, z16, by omega, rfl, H, ⟨fun x hx => by unfold z16 at hx; rw [List.eq_of_mem_replicate hx]; omega⟩, ⟨by rw [soFar_zero, List.take_zero]; show valB 65536 z16 % pF = (0 * _) % pF; rw [Nat.zero_mul]; rfl⟩⟩
  case round =>
    clear H
    obtain ⟨i, y0, hi, rfl, H, HB, HV⟩ := hrel
    by_cases hlt : i < 16
    · obtain ⟨p, hp⟩ : ∃ p, a.getD i 0 = p := ⟨_, rfl⟩
      have hpl : p < 65536 := hp ▸ getD_ltN haW.out i (by rw [hll.out.1]; omega)
      have hlti : (i : Int) < 16 := by omega
      replace hp := Kept.mk hp
      go_wp2
      obtain ⟨wo, rfl⟩ : ∃ wo : World, wo = wr := ⟨_, rfl⟩
      go_loopw [7] (fun v7 wr => ∃ (k : Nat) (y : List Nat), k ≤ 16 ∧ v7 = .int .i64 (k : Int) ∧ AMem wS wr [(gy, y), (gr, z16), (gb, b), (ga, a)] ∧ Kept (∀ x ∈ y, x ≤ 163203776550 * (16 * i + k)) ∧ Kept (valB 65536 y % pF = soFar a b i k % pF)) (fun v7 _ => 16 - (RowKit.intOf v7).toNat)
      case atStart => exact ⟨0, y0, by omega, rfl, H, HB, HV⟩
      case round =>
        clear H HB HV
        obtain ⟨k, y, hk, rfl, H, HB, HV⟩ := hrel
        have hyl := Kept.mk (H.len gy y (.head _))
        by_cases hkt : k < 16
        · obtain ⟨q, hq⟩ : ∃ q, b.getD k 0 = q := ⟨_, rfl⟩
          have hql : q < 65536 := hq ▸ getD_ltN hbW.out k (by rw [hll.out.2]; omega)
          have hltk : (k : Int) < 16 := by omega
          obtain ⟨pq, hpq⟩ : ∃ z, p * q = z := ⟨_, rfl⟩
          have hpql : pq ≤ 4294836225 := by
            rw [← hpq]
            exact Nat.mul_le_mul (show p ≤ 65535 by omega) (show q ≤ 65535 by omega)
          have hstep := soFar_step a b i k (by rw [hll.out.2]; omega)
          rw [hp.out, hq, hpq] at hstep
          have c1 := H.hcell (.tail _ (.tail _ (.tail _ (.head _)))) i p hlt hp.out
          have c2 := H.hcell (.tail _ (.tail _ (.head _))) k q hkt hq
          have kij : IntKind.i64.wrap ((i : Int) + (k : Int)) = (i : Int) + (k : Int) := by simp [IntKind.wrap, IntKind.signed, IntKind.bits]; omega
          have kij2 : ((i : Int) + (k : Int)).toNat = i + k := by omega
          replace hq := Kept.mk hq
          replace hstep := Kept.mk hstep
          by_cases hj : i + k < 16
          · obtain ⟨v, hv⟩ : ∃ v, y.getD (i + k) 0 = v := ⟨_, rfl⟩
            have hvl : v ≤ 163203776550 * (16 * i + k) := hv ▸ getD_le HB.out (i + k) (by rw [hyl.out]; omega)
            have c3 := H.hcell (.head _) (i + k) v hj hv
            have hjI : (i : Int) + (k : Int) < 16 := by omega
            have kp : IntKind.i64.wrap ((p : Int) * (q : Int)) = (pq : Int) := by
              rw [← Int.natCast_mul, hpq]
              simp [IntKind.wrap, IntKind.signed, IntKind.bits]; omega
            have hbnd := set_bound y (i + k) (v + pq) (163203776550 * (16 * i + (k + 1))) (fun x hx => Nat.le_trans (HB.out x hx) (by omega)) (by omega)
            have hval := valB_set 65536 y (i + k) pq (by rw [hyl.out]; omega)
            rw [hv] at hval
            have hmod : valB 65536 (y.set (i + k) (v + pq)) % pF = soFar a b i (k + 1) % pF := by
              rw [hval, hstep.out, Nat.add_mod, HV.out, ← Nat.add_mod]
            replace hv := Kept.mk hv
            replace hpq := Kept.mk hpq
            replace hval := Kept.mk hval
            replace hmod := Kept.mk hmod
            replace hbnd := Kept.mk hbnd
            go_wp2
            refine wp_region_from_tail 14 (by kernel_rfl) (by kernel_rfl) ?_
            simp only [List.take_succ_cons, List.take_zero, List.drop_succ_cons, List.drop_zero]
            repeat (first
              | (go_big_quiet_want; (refine a_quiet_load _ rfl _ _ rfl (by assumption) (by (first | exact .head _ | exact .tail _ (.head _) | exact .tail _ (.tail _ (.head _)) | exact .tail _ (.tail _ (.tail _ (.head _))) | exact .tail _ (.tail _ (.tail _ (.tail _ (.head _)))))) ?_); try simp only [Act.put, List.setIfInBounds_toArray, List.set_cons_succ, List.set_cons_zero]; go_big_quiet_on)
              | go_big_quiet_step ((fail)))
            refine wpQuiet_nil ?_
            intro w5 hw5
            have H := H.from hw5
            clear hw5
            clear c1 c2 c3
            have e3 := H.cell (.head _) (i + k) hj
            rw [hv.out] at e3
            have f3 := H.frozen (.head _) (i + k)
            have Hn := H.cell0 (i + k) (v + pq) ((v : Int) + (pq : Int)) (by omega)
            go_wp2
            go_roundw
            case rel => exact ⟨k + 1, y.set (i + k) (v + pq), by omega, val_eq (by omega), Hn, hbnd, hmod⟩
            case measure => simp [RowKit.intOf]; omega
          · obtain ⟨j, hjj⟩ : ∃ j, i + k = 16 + j := ⟨i + k - 16, by omega⟩
            have hj16 : j < 16 := by omega
            obtain ⟨v, hv⟩ : ∃ v, y.getD j 0 = v := ⟨_, rfl⟩
            have hvl : v ≤ 163203776550 * (16 * i + k) := hv ▸ getD_le HB.out j (by rw [hyl.out]; omega)
            have c3 := H.hcell (.head _) j v hj16 hv
            have hjI : ¬ ((i : Int) + (k : Int) < 16) := by omega
            have kjj : IntKind.i64.wrap ((i : Int) + (k : Int) - 16) = (j : Int) := by
              rw [show (i : Int) + (k : Int) - 16 = (j : Int) by omega]
              simp [IntKind.wrap, IntKind.signed, IntKind.bits]; omega
            have kp0 : IntKind.i64.wrap (38 * (p : Int)) = 38 * (p : Int) := by simp [IntKind.wrap, IntKind.signed, IntKind.bits]; omega
            have kp : IntKind.i64.wrap (38 * (p : Int) * (q : Int)) = ((38 * pq : Nat) : Int) := by
              have e : 38 * (p : Int) * (q : Int) = ((38 * pq : Nat) : Int) := by rw [← hpq, Int.natCast_mul, Int.natCast_mul, Int.mul_assoc]; rfl
              rw [e]
              simp [IntKind.wrap, IntKind.signed, IntKind.bits]; omega
            obtain ⟨pq38, h38⟩ : ∃ z, 38 * pq = z := ⟨_, rfl⟩
            rw [h38] at kp
            have h38l : pq38 ≤ 163203776550 := by omega
            have hbnd := set_bound y j (v + pq38) (163203776550 * (16 * i + (k + 1))) (fun x hx => Nat.le_trans (HB.out x hx) (by omega)) (by omega)
            have hval := valB_set 65536 y j pq38 (by rw [hyl.out]; omega)
            rw [hv] at hval
            have hmod : valB 65536 (y.set j (v + pq38)) % pF = soFar a b i (k + 1) % pF := by
              have hpm := part_mod (i + k) pq (valB 65536 y) (by omega)
              rw [show i + k - 16 = j by omega, h38] at hpm
              rw [hval, hpm, hstep.out, Nat.add_mod, HV.out, ← Nat.add_mod]
            replace hv := Kept.mk hv
            replace hpq := Kept.mk hpq
            replace h38 := Kept.mk h38
            replace hval := Kept.mk hval
            replace hmod := Kept.mk hmod
            replace hbnd := Kept.mk hbnd
            replace hjj := Kept.mk hjj
            go_wp2
            refine wp_region_from_tail 16 (by kernel_rfl) (by kernel_rfl) ?_
            simp only [List.take_succ_cons, List.take_zero, List.drop_succ_cons, List.drop_zero]
            repeat (first
              | (go_big_quiet_want; (refine a_quiet_load _ rfl _ _ rfl (by assumption) (by (first | exact .head _ | exact .tail _ (.head _) | exact .tail _ (.tail _ (.head _)) | exact .tail _ (.tail _ (.tail _ (.head _))) | exact .tail _ (.tail _ (.tail _ (.tail _ (.head _)))))) ?_); try simp only [Act.put, List.setIfInBounds_toArray, List.set_cons_succ, List.set_cons_zero]; go_big_quiet_on)
              | go_big_quiet_step ((fail)))
            refine wpQuiet_nil ?_
            intro w5 hw5
            have H := H.from hw5
            clear hw5
            clear c1 c2 c3
            have e3 := H.cell (.head _) j hj16
            rw [hv.out] at e3
            have f3 := H.frozen (.head _) j
            have Hn := H.cell0 j (v + pq38) ((v : Int) + (pq38 : Int)) (by omega)
            go_wp2
            go_roundw
            case rel => exact ⟨k + 1, y.set j (v + pq38), by omega, val_eq (by omega), Hn, hbnd, hmod⟩
            case measure => simp [RowKit.intOf]; omega
        · obtain rfl : k = 16 := by omega
          have hnx := soFar_next a b i (by rw [hll.out.1]; omega)
          rw [hll.out.2] at hnx
          have hV2 : valB 65536 y % pF = soFar a b (i + 1) 0 % pF := by rw [HV.out, hnx, soFar_zero]
          have hB2 : ∀ x ∈ y, x ≤ 163203776550 * (16 * (i + 1)) := fun x hx => Nat.le_trans (HB.out x hx) (by omega)
          replace hnx := Kept.mk hnx
          replace hV2 := Kept.mk hV2
          replace hB2 := Kept.mk hB2
          go_wp2
          go_roundw
          case rel => exact ⟨i + 1, y, by omega, val_eq (by omega), H, hB2, hV2⟩
          case measure => simp [RowKit.intOf]; omega
    · obtain rfl : i = 16 := by omega
      have hyl := H.len gy y0 (.head _)
      have cM := fun w => mod_any y0 hyl (fun x hx => Nat.lt_of_le_of_lt (HB.out x hx) (by omega)) w
      have e : valB 65536 y0 % pF = x * y % pF := by
        rw [HV.out, soFar_zero, List.take_of_length_le (by rw [hll.out.1]; omega), hav.out, hbv.out]
      rw [e] at cM
      replace cM := Kept.mk cM
      clear e HB HV
      go_wp2_with (first
        | (refine a_box rfl _ rfl _ rfl (by assumption) (by first | assumption | exact limbs_len _ _ _ | exact z16_len) ?_; intro g w H; try simp only [Act.put, List.setIfInBounds_toArray, List.set_cons_succ, List.set_cons_zero])
        | (refine a_alloc rfl rfl (by assumption) ?_; intro g w H; try simp only [Act.put, List.setIfInBounds_toArray, List.set_cons_succ, List.set_cons_zero])
        | (refine a_build rfl rfl ?_; try simp only [Act.put, List.setIfInBounds_toArray, List.set_cons_succ, List.set_cons_zero])
        | (refine a_load rfl _ rfl _ _ rfl (by assumption) (by (first | exact .head _ | exact .tail _ (.head _) | exact .tail _ (.tail _ (.head _)) | exact .tail _ (.tail _ (.tail _ (.head _))) | exact .tail _ (.tail _ (.tail _ (.tail _ (.head _)))))) ?_; try simp only [Act.put, List.setIfInBounds_toArray, List.set_cons_succ, List.set_cons_zero])
        | (refine a_store0 rfl _ _ rfl _ _ _ rfl rfl _ (by assumption) (by first | assumption | exact limbs_len _ _ _ | exact z16_len) ?_; intro w H; try simp only [Act.put, List.setIfInBounds_toArray, List.set_cons_succ, List.set_cons_zero])
        | (refine a_store1 rfl _ _ rfl _ _ _ rfl rfl _ _ (by assumption) (by first | assumption | exact limbs_len _ _ _ | exact z16_len) ?_; intro w H; try simp only [Act.put, List.setIfInBounds_toArray, List.set_cons_succ, List.set_cons_zero])
        | (refine a_store2 rfl _ _ rfl _ _ _ rfl rfl _ _ _ (by assumption) (by first | assumption | exact limbs_len _ _ _ | exact z16_len) ?_; intro w H; try simp only [Act.put, List.setIfInBounds_toArray, List.set_cons_succ, List.set_cons_zero])
        | (go_at_call 61; refine a_call (by assumption) (cM.out _) ?_; intro w H))
      exact a_ret Try.results41 _ rfl rfl (by assumption) (by (first | exact .head _ | exact .tail _ (.head _) | exact .tail _ (.tail _ (.head _)) | exact .tail _ (.tail _ (.tail _ (.head _))) | exact .tail _ (.tail _ (.tail _ (.tail _ (.head _)))))) (rfl)
end Go.Proofs.Ytockcnglennihaa
end
section
set_option linter.unusedSimpArgs false
set_option linter.unusedVariables false
namespace Go.Proofs.Ytockcnglennihaa
open Go.RowKit
theorem Num_el (l : List UInt8) (h : isEl l = true) (w : World) : Calls Try.prog 55 #[.string (S l)] w (AP (Md (numB l)) w) := by
  have c := Num_any l (isEl_len h) w
  rw [Nat.mod_eq_of_lt (isEl_lt h)] at c
  exact c
end Go.Proofs.Ytockcnglennihaa
end
section
set_option linter.unusedVariables false
namespace Go.Proofs.Ytockcnglennihaa
open Go.RowKit
theorem twice_mod (a : Nat) : 2 * a % pF = (a + a) % pF := by rw [Nat.two_mul]
theorem neg_lt (a : Nat) : (0 + (pF - a)) % pF < pF := Nat.mod_lt _ p_pos
theorem neg_zero' : (0 + (pF - 0)) % pF = 0 := by rw [Nat.zero_add, Nat.sub_zero, Nat.mod_self]
theorem neg_pos' (a : Nat) (h0 : a ≠ 0) (h : a < pF) : (0 + (pF - a)) % pF = pF - a := by rw [Nat.zero_add, Nat.mod_eq_of_lt (by omega)]
theorem neg_neg' (a : Nat) (h : a < pF) : (0 + (pF - (0 + (pF - a)) % pF)) % pF = a := by
  by_cases h0 : a = 0
  · subst h0; rw [neg_zero', neg_zero']
  · rw [neg_pos' a h0 h, neg_pos' (pF - a) (by omega) (by omega)]; omega
theorem add_neg (a : Nat) (h : a < pF) : (a + (0 + (pF - a)) % pF) % pF = 0 := by
  rw [Nat.zero_add, Nat.add_mod_mod, Nat.add_sub_cancel' (Nat.le_of_lt h), Nat.mod_self]
theorem inv_mul (b : Nat) (h0 : b ≠ 0) (h : b < pF) : b * invF b % pF = 1 := by rw [Nat.mul_comm]; exact invF_mul b h0 h
theorem mul_ne (a b : Nat) (ha : a ≠ 0) (hb : b ≠ 0) (hal : a < pF) (hbl : b < pF) : a * b % pF ≠ 0 := by
  intro h
  rcases pr_p.dvd_mul (Nat.dvd_of_mod_eq_zero h) with hd | hd
  · exact absurd (Nat.le_of_dvd (Nat.pos_of_ne_zero ha) hd) (Nat.not_le.2 hal)
  · exact absurd (Nat.le_of_dvd (Nat.pos_of_ne_zero hb) hd) (Nat.not_le.2 hbl)
theorem invF_ne (b : Nat) (h0 : b ≠ 0) (h : b < pF) : invF b ≠ 0 := by
  intro e
  have := inv_mul b h0 h
  rw [e, Nat.mul_zero, Nat.zero_mod] at this
  omega
theorem quot (a b : Nat) (ha : a < pF) (h0 : b ≠ 0) (h : b < pF) : (a * b % pF) * invF b % pF = a := by
  rw [Nat.mod_mul_mod, Nat.mul_assoc, ← Nat.mul_mod_mod, inv_mul b h0 h, Nat.mul_one, Nat.mod_eq_of_lt ha]
theorem inv_inv (b : Nat) (h0 : b ≠ 0) (h : b < pF) : invF (invF b) = b := by
  have h1 := inv_mul (invF b) (invF_ne b h0 h) (invF_lt b)
  have h2 : b * (invF b * invF (invF b) % pF) % pF = b := by rw [h1, Nat.mul_one, Nat.mod_eq_of_lt h]
  rw [Nat.mul_mod_mod, ← Nat.mul_assoc, ← Nat.mod_mul_mod, inv_mul b h0 h, Nat.one_mul, Nat.mod_eq_of_lt (invF_lt _)] at h2
  exact h2
theorem sq_eq (r a : Nat) (hr : r < pF) (ha : a < pF) (h : r * r % pF = a * a % pF) : r = a ∨ r + a = pF := by
  have key : ∀ x y : Nat, x < pF → y < pF → y ≤ x → x * x % pF = y * y % pF → x = y ∨ x + y = pF := by
    intro x y hx hy hle h
    have hd : pF ∣ x * x - y * y := Pr.dvd_sub_of_mod h
    rw [show x * x - y * y = (x + y) * (x - y) from Nat.mul_self_sub_mul_self_eq x y] at hd
    rcases pr_p.dvd_mul hd with hd | hd
    · obtain ⟨c, hc⟩ := hd
      have hc2 : c < 2 := by
        apply Classical.byContradiction
        intro hn
        have : pF * 2 ≤ pF * c := Nat.mul_le_mul_left pF (by omega)
        omega
      have : c = 0 ∨ c = 1 := by omega
      rcases this with rfl | rfl
      · left; omega
      · right; omega
    · by_cases e : x - y = 0
      · left; omega
      · exact absurd (Nat.le_of_dvd (by omega) hd) (by omega)
  by_cases hle : a ≤ r
  · exact key r a hr ha hle h
  · rcases key a r ha hr (by omega) h.symm with e | e
    · exact Or.inl e.symm
    · right; omega
theorem i_sq : iF * iF % pF = pF - 1 := by decide +kernel
theorem m1_sq : (pF - 1) * (pF - 1) % pF = 1 := by decide +kernel
/-- (p - 1) / 2. -/
def hF : Nat := (pF - 1) / 2
theorem hF_two : hF + hF = pF - 1 := by decide +kernel
theorem eF_four : eF + eF + (eF + eF) = hF + 2 := by decide +kernel
theorem euler (a : Nat) (h0 : a ≠ 0) (h : a < pF) : powF a hF = 1 ∨ powF a hF = pF - 1 := by
  have hl := pr_p.little (a := a) (fun hd => absurd (Nat.le_of_dvd (Nat.pos_of_ne_zero h0) hd) (Nat.not_le.2 h))
  rw [← hF_two, Nat.pow_add, Nat.mul_mod] at hl
  have h1 : powF a hF * powF a hF % pF = 1 * 1 % pF := by
    unfold powF
    rw [hl]
    decide +kernel
  rcases sq_eq (powF a hF) 1 (powF_lt a hF) (small_lt 1 (by omega)) h1 with e | e
  · exact Or.inl e
  · right; omega
theorem sq_pow (a : Nat) : powF (a * a % pF) eF * powF (a * a % pF) eF % pF = powF a hF * (a * a) % pF := by
  unfold powF
  rw [← Nat.mul_mod, ← Nat.pow_add, ← Nat.pow_mod, ← Nat.pow_two, ← Nat.pow_mul, Nat.mod_mul_mod, ← Nat.pow_add]
  rw [show 2 * (eF + eF) = hF + 2 by rw [Nat.two_mul, eF_four]]
theorem cand_sq (a : Nat) (h : a < pF) : cand (a * a % pF) * cand (a * a % pF) % pF = a * a % pF := by
  unfold cand
  have hs := sq_pow a
  obtain ⟨w, hw⟩ : ∃ w, powF (a * a % pF) eF = w := ⟨_, rfl⟩
  rw [hw] at hs ⊢
  clear hw
  by_cases e : w * w % pF = a * a % pF
  · rw [if_pos e]; exact e
  · rw [if_neg e]
    have h0 : a ≠ 0 := by
      intro h0
      apply e
      have hz : a * a = 0 := by rw [h0]
      rw [hs, hz, Nat.mul_zero]
    rcases euler a h0 h with h1 | h1
    · rw [h1, Nat.one_mul] at hs
      exact absurd hs e
    · rw [h1] at hs
      have e2 : (w * iF % pF) * (w * iF % pF) % pF = (w * w % pF) * (iF * iF % pF) % pF := by
        rw [← Nat.mul_mod, ← Nat.mul_mod]
        congr 1
        rw [Nat.mul_assoc, Nat.mul_left_comm iF w iF, ← Nat.mul_assoc]
      rw [e2, hs, i_sq, Nat.mod_mul_mod, Nat.mul_assoc, Nat.mul_comm (a * a), ← Nat.mul_assoc, ← Nat.mod_mul_mod, m1_sq, Nat.one_mul]
theorem even_root (a : Nat) (h : a < pF) : evenN (cand (a * a % pF)) = a ∨ evenN (cand (a * a % pF)) = (0 + (pF - a)) % pF := by
  have hc := cand_lt (a * a % pF)
  have hsq := cand_sq a h
  generalize cand (a * a % pF) = r at hc hsq ⊢
  by_cases h0 : a = 0
  · subst h0
    rcases sq_eq r 0 hc p_pos hsq with e | e
    · subst e; left; rfl
    · omega
  · rw [neg_pos' a h0 h]
    unfold evenN
    rcases sq_eq r a hc h hsq with e | e
    · subst e
      split
      · exact Or.inr rfl
      · exact Or.inl rfl
    · split
      · left; omega
      · right; omega
theorem even_sq (r : Nat) (h : r < pF) : evenN r * evenN r % pF = r * r % pF := by
  unfold evenN
  split
  · have e : (pF - r) * (pF - r) + pF * (2 * r) = r * r + pF * pF := by
      obtain ⟨k, hk⟩ : ∃ k, pF = r + k := ⟨pF - r, by omega⟩
      rw [hk, Nat.add_sub_cancel_left, Nat.add_mul, Nat.add_mul, Nat.mul_add, Nat.mul_add]
      rw [show r * (2 * r) = r * r + r * r by rw [Nat.mul_left_comm, Nat.two_mul], show k * (2 * r) = r * k + k * r by rw [Nat.mul_left_comm, Nat.two_mul, Nat.mul_comm k r]]
      omega
    rw [← Nat.add_mul_mod_self_left _ pF (2 * r), e, Nat.add_mul_mod_self_left]
  · rfl
theorem even_lt (n : Nat) : evenN (cand n) < pF := evenN_lt _ (cand_lt n)
/-- Unlike elements have unlike bytes. -/
theorem E_ne {x y : Nat} (hx : x < pF) (hy : y < pF) (h : x ≠ y) : ((S (leB x)).toList == (S (leB y)).toList) = false := by
  rw [S_beq, decide_eq_false_iff_not]
  exact fun e => h (leB_inj (Nat.lt_trans hx p_big) (Nat.lt_trans hy p_big) e)
end Go.Proofs.Ytockcnglennihaa
end
