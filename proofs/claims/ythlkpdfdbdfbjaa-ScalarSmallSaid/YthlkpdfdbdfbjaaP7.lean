/- Package scalar: a number modulo the order, a word after the other. -/
import Derived.Test.YthlkpdfdbdfbjaaP6
set_option linter.unusedSimpArgs false
set_option linter.unusedVariables false
namespace Go.Proofs.Ythlkpdfdbdfbjaa
open Go.RowKit
theorem red_step (n j : Nat) : (n / 4294967296 ^ j % 4294967296 + 4294967296 * (n / 4294967296 ^ (j + 1) % oN)) % oN = n / 4294967296 ^ j % oN := by
  have e : n / 4294967296 ^ (j + 1) = n / 4294967296 ^ j / 4294967296 := by rw [Nat.div_div_eq_div_mul, Nat.pow_succ]
  rw [e]
  generalize n / 4294967296 ^ j = t
  have h1 := Nat.div_add_mod t 4294967296
  have h2 := Nat.div_add_mod (t / 4294967296) oN
  have h3 : t = (t % 4294967296 + 4294967296 * (t / 4294967296 % oN)) + oN * (4294967296 * (t / 4294967296 / oN)) := by
    rw [Nat.mul_left_comm oN 4294967296]
    omega
  conv => rhs; rw [h3, Nat.add_mul_mod_self_left]
theorem red_lt (n j : Nat) : n / 4294967296 ^ j % 4294967296 + 4294967296 * (n / 4294967296 ^ (j + 1) % oN) < 4294967296 * oN := by
  have h1 : n / 4294967296 ^ j % 4294967296 < 4294967296 := Nat.mod_lt _ (by decide)
  have h2 : n / 4294967296 ^ (j + 1) % oN < oN := Nat.mod_lt _ o_pos
  have h3 : 4294967296 * (n / 4294967296 ^ (j + 1) % oN + 1) ≤ 4294967296 * oN := Nat.mul_le_mul_left _ h2
  rw [Nat.mul_add] at h3
  omega
set_option maxHeartbeats 1000000 in
theorem reduced_any (n : Nat) (hn : n < big) (wS : World) : Calls Try.prog 24 #[numV n] wS (NP (n % oN) wS) := by
  have H := Mem.start wS
  have h0 : n / 4294967296 ^ 16 % oN = 0 := by rw [Nat.div_eq_of_lt (show n < 4294967296 ^ 16 from hn)]; rfl
  replace h0 := Kept.mk h0
  clear hn
  rw [numV_eq]
  go_enter Try.func24, Try.ntmps24
  go_wp2_with (first
    | (refine mem_box rfl _ rfl _ rfl (by assumption) ?_; intro g w H; try simp only [Act.put, List.setIfInBounds_toArray, List.set_cons_succ, List.set_cons_zero])
    | (refine mem_alloc rfl rfl (by assumption) ?_; intro g w H; try simp only [Act.put, List.setIfInBounds_toArray, List.set_cons_succ, List.set_cons_zero])
    | (refine mem_load rfl _ rfl _ _ rfl (by assumption) (by (first | exact .head _ | exact .tail _ (.head _) | exact .tail _ (.tail _ (.head _)) | exact .tail _ (.tail _ (.tail _ (.head _))) | exact .tail _ (.tail _ (.tail _ (.tail _ (.head _)))))) ?_; try simp only [Act.put, List.setIfInBounds_toArray, List.set_cons_succ, List.set_cons_zero])
    | (refine mem_store0 rfl _ _ rfl _ _ _ rfl rfl _ (by assumption) ?_; intro w H; try simp only [Act.put, List.setIfInBounds_toArray, List.set_cons_succ, List.set_cons_zero])
    | (refine mem_store1 rfl _ _ rfl _ _ _ rfl rfl _ _ (by assumption) ?_; intro w H; try simp only [Act.put, List.setIfInBounds_toArray, List.set_cons_succ, List.set_cons_zero])
    | (refine mem_store2 rfl _ _ rfl _ _ _ rfl rfl _ _ _ (by assumption) ?_; intro w H; try simp only [Act.put, List.setIfInBounds_toArray, List.set_cons_succ, List.set_cons_zero])
    | (refine mem_store3 rfl _ _ rfl _ _ _ rfl rfl _ _ _ _ (by assumption) ?_; intro w H; try simp only [Act.put, List.setIfInBounds_toArray, List.set_cons_succ, List.set_cons_zero]))
  rename_i gn _ _ gr _ _ _ _
  go_loopw [4] (fun v4 wr => ∃ (j : Nat), j ≤ 16 ∧ v4 = .int .i64 ((j : Int) - 1) ∧ Mem wS wr [(g, n / 4294967296 ^ j % oN), (gr, 0), (gn, n)]) (fun v4 _ => (RowKit.intOf v4 + 1).toNat)
  case atStart => exact ⟨16, by omega, rfl, by rw [h0.out]; exact H⟩
  case round =>
    clear H
    obtain ⟨j, hj, rfl, H⟩ := hrel
    by_cases hlt : j = 0
    · subst hlt
      rw [Nat.pow_zero, Nat.div_one] at H
      go_wp2_with (first
        | (refine mem_box rfl _ rfl _ rfl (by assumption) ?_; intro g w H; try simp only [Act.put, List.setIfInBounds_toArray, List.set_cons_succ, List.set_cons_zero])
        | (refine mem_alloc rfl rfl (by assumption) ?_; intro g w H; try simp only [Act.put, List.setIfInBounds_toArray, List.set_cons_succ, List.set_cons_zero])
        | (refine mem_load rfl _ rfl _ _ rfl (by assumption) (by (first | exact .head _ | exact .tail _ (.head _) | exact .tail _ (.tail _ (.head _)) | exact .tail _ (.tail _ (.tail _ (.head _))) | exact .tail _ (.tail _ (.tail _ (.tail _ (.head _)))))) ?_; try simp only [Act.put, List.setIfInBounds_toArray, List.set_cons_succ, List.set_cons_zero])
        | (refine mem_store0 rfl _ _ rfl _ _ _ rfl rfl _ (by assumption) ?_; intro w H; try simp only [Act.put, List.setIfInBounds_toArray, List.set_cons_succ, List.set_cons_zero])
        | (refine mem_store1 rfl _ _ rfl _ _ _ rfl rfl _ _ (by assumption) ?_; intro w H; try simp only [Act.put, List.setIfInBounds_toArray, List.set_cons_succ, List.set_cons_zero])
        | (refine mem_store2 rfl _ _ rfl _ _ _ rfl rfl _ _ _ (by assumption) ?_; intro w H; try simp only [Act.put, List.setIfInBounds_toArray, List.set_cons_succ, List.set_cons_zero])
        | (refine mem_store3 rfl _ _ rfl _ _ _ rfl rfl _ _ _ _ (by assumption) ?_; intro w H; try simp only [Act.put, List.setIfInBounds_toArray, List.set_cons_succ, List.set_cons_zero]))
      exact mem_ret Try.results24 _ rfl rfl (by assumption) (by (first | exact .head _ | exact .tail _ (.head _) | exact .tail _ (.tail _ (.head _)) | exact .tail _ (.tail _ (.tail _ (.head _))) | exact .tail _ (.tail _ (.tail _ (.tail _ (.head _))))))
    · obtain ⟨i, rfl⟩ : ∃ i, j = i + 1 := ⟨j - 1, by omega⟩
      have hst := red_step n i
      have hlo := red_lt n i
      have hwl : n / 4294967296 ^ i % 4294967296 < 4294967296 := Nat.mod_lt _ (by decide)
      have c1 : ∀ u : Held (From wr.drew), u.w.cell? ⟨gn, i, none⟩ = some (.int .u32 ((n / 4294967296 ^ i % 4294967296 : Nat) : Int)) := fun u => (mem_from H u.h).word (.tail _ (.tail _ (.head _))) i (by omega)
      rw [show ((i + 1 : Nat) : Int) - 1 = (i : Int) by omega]
      generalize n / 4294967296 ^ (i + 1) % oN = y at H hst hlo
      generalize n / 4294967296 ^ i % 4294967296 = wd at hst hlo hwl c1
      have cA := Kept.mk fun w => above_any y wd hwl w
      have cR := Kept.mk fun w => remainder_any (wd + 4294967296 * y) hlo w
      rw [hst] at cR
      replace hst := Kept.mk hst
      clear hlo hwl
      have hi0 : (0 : Int) ≤ (i : Int) := by omega
      have hi16 : (i : Int) < 16 := by omega
      have k1 : IntKind.i64.wrap ((i : Int) - 1) = (i : Int) - 1 := by simp [IntKind.wrap, IntKind.signed, IntKind.bits]; omega
      have k2 : wrap64 ((i : Int) - 1) = (i : Int) - 1 := by simp [wrap64]; omega
      go_wp2
      refine wp_region_from_tail 6 (by kernel_rfl) (by kernel_rfl) ?_
      simp only [List.take_succ_cons, List.take_zero, List.drop_succ_cons, List.drop_zero]
      repeat (first
        | (go_big_quiet_want; (refine mem_quiet_load _ rfl _ _ rfl (by assumption) (by (first | exact .head _ | exact .tail _ (.head _) | exact .tail _ (.tail _ (.head _)) | exact .tail _ (.tail _ (.tail _ (.head _))) | exact .tail _ (.tail _ (.tail _ (.tail _ (.head _)))))) ?_); try simp only [Act.put, List.setIfInBounds_toArray, List.set_cons_succ, List.set_cons_zero]; go_big_quiet_on)
        | go_big_quiet_step (((first | (go_at_call 31; exact held_call _ (cA.out _)) | (go_at_call 32; exact held_call _ (cR.out _))))))
      refine wpQuiet_nil ?_
      intro w5 hw5
      have H := mem_from H hw5
      clear hw5
      go_wp2_with (first
        | (refine mem_box rfl _ rfl _ rfl (by assumption) ?_; intro g w H; try simp only [Act.put, List.setIfInBounds_toArray, List.set_cons_succ, List.set_cons_zero])
        | (refine mem_alloc rfl rfl (by assumption) ?_; intro g w H; try simp only [Act.put, List.setIfInBounds_toArray, List.set_cons_succ, List.set_cons_zero])
        | (refine mem_load rfl _ rfl _ _ rfl (by assumption) (by (first | exact .head _ | exact .tail _ (.head _) | exact .tail _ (.tail _ (.head _)) | exact .tail _ (.tail _ (.tail _ (.head _))) | exact .tail _ (.tail _ (.tail _ (.tail _ (.head _)))))) ?_; try simp only [Act.put, List.setIfInBounds_toArray, List.set_cons_succ, List.set_cons_zero])
        | (refine mem_store0 rfl _ _ rfl _ _ _ rfl rfl _ (by assumption) ?_; intro w H; try simp only [Act.put, List.setIfInBounds_toArray, List.set_cons_succ, List.set_cons_zero])
        | (refine mem_store1 rfl _ _ rfl _ _ _ rfl rfl _ _ (by assumption) ?_; intro w H; try simp only [Act.put, List.setIfInBounds_toArray, List.set_cons_succ, List.set_cons_zero])
        | (refine mem_store2 rfl _ _ rfl _ _ _ rfl rfl _ _ _ (by assumption) ?_; intro w H; try simp only [Act.put, List.setIfInBounds_toArray, List.set_cons_succ, List.set_cons_zero])
        | (refine mem_store3 rfl _ _ rfl _ _ _ rfl rfl _ _ _ _ (by assumption) ?_; intro w H; try simp only [Act.put, List.setIfInBounds_toArray, List.set_cons_succ, List.set_cons_zero]))
      go_roundw
      case rel => exact ⟨i, by omega, val_eq (by omega), H⟩
      case measure => first | (simp [RowKit.intOf]; done) | (simp [RowKit.intOf]; omega)
end Go.Proofs.Ythlkpdfdbdfbjaa
