/- Package scalar: the order; a number with a word behind it. -/
import Derived.Test.YthlkpdfdbdfbjaaPM
set_option linter.unusedSimpArgs false
set_option linter.unusedVariables false
namespace Go.Proofs.Ythlkpdfdbdfbjaa
open Go.RowKit
theorem order_num (w : World) : Calls Try.prog 35 #[] w (NP oN w) := by
  have H := Mem.start w
  have hb := Kept.mk built_order
  go_enter Try.func35, Try.ntmps35
  go_wp2_with (first
    | (refine mem_box rfl _ rfl _ rfl (by assumption) ?_; intro g w H; try simp only [Act.put, List.setIfInBounds_toArray, List.set_cons_succ, List.set_cons_zero])
    | (refine mem_alloc rfl rfl (by assumption) ?_; intro g w H; try simp only [Act.put, List.setIfInBounds_toArray, List.set_cons_succ, List.set_cons_zero])
    | (refine mem_load rfl _ rfl _ _ rfl (by assumption) (by (first | exact .head _ | exact .tail _ (.head _) | exact .tail _ (.tail _ (.head _)) | exact .tail _ (.tail _ (.tail _ (.head _))) | exact .tail _ (.tail _ (.tail _ (.tail _ (.head _)))))) ?_; try simp only [Act.put, List.setIfInBounds_toArray, List.set_cons_succ, List.set_cons_zero])
    | (refine mem_store0 rfl _ _ rfl _ _ _ rfl rfl _ (by assumption) ?_; intro w H; try simp only [Act.put, List.setIfInBounds_toArray, List.set_cons_succ, List.set_cons_zero])
    | (refine mem_store1 rfl _ _ rfl _ _ _ rfl rfl _ _ (by assumption) ?_; intro w H; try simp only [Act.put, List.setIfInBounds_toArray, List.set_cons_succ, List.set_cons_zero])
    | (refine mem_store2 rfl _ _ rfl _ _ _ rfl rfl _ _ _ (by assumption) ?_; intro w H; try simp only [Act.put, List.setIfInBounds_toArray, List.set_cons_succ, List.set_cons_zero])
    | (refine mem_store3 rfl _ _ rfl _ _ _ rfl rfl _ _ _ _ (by assumption) ?_; intro w H; try simp only [Act.put, List.setIfInBounds_toArray, List.set_cons_succ, List.set_cons_zero])
    | (refine mem_build rfl _ rfl _ (by rw [Array.toList_map]; rfl) _ hb.out ?_; try simp only [Act.put, List.setIfInBounds_toArray, List.set_cons_succ, List.set_cons_zero]))
  exact mem_ret Try.results35 _ rfl rfl (by assumption) (by (first | exact .head _ | exact .tail _ (.head _) | exact .tail _ (.tail _ (.head _)) | exact .tail _ (.tail _ (.tail _ (.head _))) | exact .tail _ (.tail _ (.tail _ (.tail _ (.head _))))))

theorem nL_above (x n : Nat) (h : x < 4294967296) : nL (x + 4294967296 * n) = x :: (nL n).take 15 := by
  unfold nL
  rw [limbs_take _ _ _ _ (by decide), limbs, Nat.add_mul_mod_self_left, Nat.mod_eq_of_lt h, Nat.add_mul_div_left _ _ (by decide), Nat.div_eq_of_lt h, Nat.zero_add]
theorem above_row (x n : Nat) (h : x < 4294967296) : ((numA x).toList.take 1 ++ (((numC .u32 (nL n)).take 15) ++ (numA x).toList.drop (1 + ((numC .u32 (nL n)).take 15).length))).toArray = numA (x + 4294967296 * n) := by
  unfold numA
  rw [nL_above x n h, nL_lo x h]
  have hl : ((numC .u32 (nL n)).take 15).length = 15 := by rw [List.length_take, numC_length, nL_len]; rfl
  rw [hl]
  simp [numC, List.map_take]
theorem add0 (g j : Nat) : ((⟨g, 0, none⟩ : Addr).add j) = ⟨g, j, none⟩ := by
  unfold Addr.add; split <;> simp_all
section
variable {ops : Array Oper} {rest : List Oper} {o : Oper} {a : Act} {w0 w : World} {Q : Exit → Act → World → Prop} {L : List (Nat × Nat)}
theorem mem_copy (hg : o.guard = none) (d s : Operand) (ho : o.op = .call { callee := .builtin .copy, args := #[d, s], argTypes := #[49, 49] }) (g g' x n : Nat) (hd : a.eval d = .slice (some ⟨g, 1, none⟩) 15 15) (hs : a.eval s = .slice (some ⟨g', 0, none⟩) 16 16)
    (H : Mem w0 w ((g, x) :: L)) (hm : (g', n) ∈ (g, x) :: L) (hrow : ((numA x).toList.take 1 ++ (((numC .u32 (nL n)).take 15) ++ (numA x).toList.drop (1 + ((numC .u32 (nL n)).take 15).length))).toArray = numA (x + 4294967296 * n))
    (h : ∀ w', Mem w0 w' ((g, x + 4294967296 * n) :: L) → wpList Try.prog ops Q rest (a.put o.dst (goInt 15)) w') : wpList Try.prog ops Q (o :: rest) a w := by
  have hl : ((numC .u32 (nL n)).take 15).length = 15 := by rw [List.length_take, numC_length, nL_len]; rfl
  have hone := numA_one n
  have h1 := H.holds g x (.head _)
  have h2 := H.holds g' n hm
  refine wpList_copy_own hg d s _ _ ho 33 Try.underlying49 (by kernel_rfl) g 1 15 15 ⟨g', 0, none⟩ 16 16 hd hs (numA x) 41 h1 ((numC .u32 (nL n)).take 15) (by rw [hl]; rfl) (fun j v hj => ?_) (by rw [hl, numA_size]; decide) (fun v hv => ?_) ?_
  · rw [add0, cell_of_row w g' _ _ _ _ h2]
    rw [List.getElem?_take] at hj
    split at hj
    · unfold numA
      rw [List.getElem?_toArray]
      exact hj
    · cases hj
  · obtain ⟨y, _, rfl⟩ := List.mem_map.1 (List.mem_of_mem_take hv)
    rfl
  · rw [hl] at hrow ⊢
    rw [hrow]
    have hk := H.put (.head _) (x + 4294967296 * n)
    rw [show putN g (x + 4294967296 * n) ((g, x) :: L) = (g, x + 4294967296 * n) :: L from putN_mid [] L H.apart] at hk
    exact h _ hk
end
set_option maxHeartbeats 1000000 in
theorem above_any (n x : Nat) (hx : x < 4294967296) (w : World) : Calls Try.prog 31 #[numV n, .int .u32 (x : Int)] w (NP (x + 4294967296 * n) w) := by
  have H := Mem.start w
  have hb := Kept.mk (built_one x hx)
  have hrow := Kept.mk (above_row x n hx)
  clear hx
  rw [numV_eq]
  go_enter Try.func31, Try.ntmps31
  go_wp2_with (first
    | (refine mem_box rfl _ rfl _ rfl (by assumption) ?_; intro g w H; try simp only [Act.put, List.setIfInBounds_toArray, List.set_cons_succ, List.set_cons_zero])
    | (refine mem_alloc rfl rfl (by assumption) ?_; intro g w H; try simp only [Act.put, List.setIfInBounds_toArray, List.set_cons_succ, List.set_cons_zero])
    | (refine mem_load rfl _ rfl _ _ rfl (by assumption) (by (first | exact .head _ | exact .tail _ (.head _) | exact .tail _ (.tail _ (.head _)) | exact .tail _ (.tail _ (.tail _ (.head _))) | exact .tail _ (.tail _ (.tail _ (.tail _ (.head _)))))) ?_; try simp only [Act.put, List.setIfInBounds_toArray, List.set_cons_succ, List.set_cons_zero])
    | (refine mem_store0 rfl _ _ rfl _ _ _ rfl rfl _ (by assumption) ?_; intro w H; try simp only [Act.put, List.setIfInBounds_toArray, List.set_cons_succ, List.set_cons_zero])
    | (refine mem_store1 rfl _ _ rfl _ _ _ rfl rfl _ _ (by assumption) ?_; intro w H; try simp only [Act.put, List.setIfInBounds_toArray, List.set_cons_succ, List.set_cons_zero])
    | (refine mem_store2 rfl _ _ rfl _ _ _ rfl rfl _ _ _ (by assumption) ?_; intro w H; try simp only [Act.put, List.setIfInBounds_toArray, List.set_cons_succ, List.set_cons_zero])
    | (refine mem_store3 rfl _ _ rfl _ _ _ rfl rfl _ _ _ _ (by assumption) ?_; intro w H; try simp only [Act.put, List.setIfInBounds_toArray, List.set_cons_succ, List.set_cons_zero])
    | (refine mem_build rfl _ rfl _ (by rw [Array.toList_map]; rfl) _ hb.out ?_; try simp only [Act.put, List.setIfInBounds_toArray, List.set_cons_succ, List.set_cons_zero]))
  refine wp_region_from_tail 2 (by kernel_rfl) (by kernel_rfl) ?_
  simp only [List.take_succ_cons, List.take_zero, List.drop_succ_cons, List.drop_zero]
  repeat (go_big_quiet_step (fail))
  refine wpQuiet_nil ?_
  intro w5 hw5
  have H := mem_from H hw5
  clear hw5
  go_wp2_with (first
    | (refine mem_box rfl _ rfl _ rfl (by assumption) ?_; intro g w H; try simp only [Act.put, List.setIfInBounds_toArray, List.set_cons_succ, List.set_cons_zero])
    | (refine mem_alloc rfl rfl (by assumption) ?_; intro g w H; try simp only [Act.put, List.setIfInBounds_toArray, List.set_cons_succ, List.set_cons_zero])
    | (refine mem_load rfl _ rfl _ _ rfl (by assumption) (by (first | exact .head _ | exact .tail _ (.head _) | exact .tail _ (.tail _ (.head _)) | exact .tail _ (.tail _ (.tail _ (.head _))) | exact .tail _ (.tail _ (.tail _ (.tail _ (.head _)))))) ?_; try simp only [Act.put, List.setIfInBounds_toArray, List.set_cons_succ, List.set_cons_zero])
    | (refine mem_store0 rfl _ _ rfl _ _ _ rfl rfl _ (by assumption) ?_; intro w H; try simp only [Act.put, List.setIfInBounds_toArray, List.set_cons_succ, List.set_cons_zero])
    | (refine mem_store1 rfl _ _ rfl _ _ _ rfl rfl _ _ (by assumption) ?_; intro w H; try simp only [Act.put, List.setIfInBounds_toArray, List.set_cons_succ, List.set_cons_zero])
    | (refine mem_store2 rfl _ _ rfl _ _ _ rfl rfl _ _ _ (by assumption) ?_; intro w H; try simp only [Act.put, List.setIfInBounds_toArray, List.set_cons_succ, List.set_cons_zero])
    | (refine mem_store3 rfl _ _ rfl _ _ _ rfl rfl _ _ _ _ (by assumption) ?_; intro w H; try simp only [Act.put, List.setIfInBounds_toArray, List.set_cons_succ, List.set_cons_zero])
    | (refine mem_copy rfl _ _ rfl _ _ _ _ rfl rfl (by assumption) (by (first | exact .head _ | exact .tail _ (.head _) | exact .tail _ (.tail _ (.head _)) | exact .tail _ (.tail _ (.tail _ (.head _))) | exact .tail _ (.tail _ (.tail _ (.tail _ (.head _)))))) hrow.out ?_; intro w H; try simp only [Act.put, List.setIfInBounds_toArray, List.set_cons_succ, List.set_cons_zero]))
  exact mem_ret Try.results31 _ rfl rfl (by assumption) (by (first | exact .head _ | exact .tail _ (.head _) | exact .tail _ (.tail _ (.head _)) | exact .tail _ (.tail _ (.tail _ (.head _))) | exact .tail _ (.tail _ (.tail _ (.tail _ (.head _))))))
end Go.Proofs.Ythlkpdfdbdfbjaa
