/- The document's answer for package curve: the point of bytes with the highest bit. -/
import Derived.Test.YtockcnglennihaaD5
set_option linter.unusedSimpArgs false
set_option linter.unusedVariables false
set_option maxRecDepth 100000
namespace Go.Proofs.Ytockcnglennihaa
open Go.RowKit
set_option maxHeartbeats 4000000 in
theorem parse_odd_noel (sl st s1 : ByteArray) (b b1 : UInt8) (hsz : sl.size = 32) (hs31 : 31 < sl.size) (g31 : sl[31] = b) (hb : (128 : Int) ≤ (b.toNat : Int)) (hb1 : (b.toNat : Int) - 128 = (b1.toNat : Int)) (hs1 : S [b1] = s1) (hcat : sl.extract 0 31 ++ s1 = st) (cI : ∀ w, Calls Try.prog 54 #[.string st] w (RetV (.bool false) w)) (wS : World) : Calls Try.prog 32 #[.string sl] wS (RetV (.tuple #[.agg (ptC 0 0 0).toArray, .bool false]) wS) := by
  have H := RMem.start wS
  replace cI := Kept.mk cI
  have hs1z : s1.size = 1 := by rw [← hs1]; rfl
  replace hs1 := Kept.mk hs1
  replace hcat := Kept.mk hcat
  go_enter Try.func32, Try.ntmps32
  go_wp2_with (first
    | (refine p_boxP rfl _ rfl _ _ _ rfl (by assumption) ?_; intro g w H; try simp only [Act.put, List.setIfInBounds_toArray, List.set_cons_succ, List.set_cons_zero])
    | (refine p_boxN rfl _ rfl _ rfl (by assumption) ?_; intro g w H; try simp only [Act.put, List.setIfInBounds_toArray, List.set_cons_succ, List.set_cons_zero])
    | (refine p_allocN rfl rfl (by assumption) ?_; intro g w H; try simp only [Act.put, List.setIfInBounds_toArray, List.set_cons_succ, List.set_cons_zero])
    | (refine p_allocP rfl rfl (by assumption) ?_; intro g w H; try simp only [Act.put, List.setIfInBounds_toArray, List.set_cons_succ, List.set_cons_zero])
    | (refine p_loadN rfl _ rfl _ _ rfl (by assumption) (by (repeat (first | exact .head _ | refine .tail _ ?_))) ?_; try simp only [Act.put, List.setIfInBounds_toArray, List.set_cons_succ, List.set_cons_zero])
    | (refine p_loadP rfl _ rfl _ _ _ _ rfl (by assumption) (by (repeat (first | exact .head _ | refine .tail _ ?_))) ?_; try simp only [Act.put, List.setIfInBounds_toArray, List.set_cons_succ, List.set_cons_zero])
    | (refine p_part0 rfl _ rfl _ _ _ _ rfl (by assumption) (by (repeat (first | exact .head _ | refine .tail _ ?_))) ?_; try simp only [Act.put, List.setIfInBounds_toArray, List.set_cons_succ, List.set_cons_zero])
    | (refine p_part1 rfl _ rfl _ _ _ _ rfl (by assumption) (by (repeat (first | exact .head _ | refine .tail _ ?_))) ?_; try simp only [Act.put, List.setIfInBounds_toArray, List.set_cons_succ, List.set_cons_zero])
    | (refine p_part2 rfl _ rfl _ _ _ _ rfl (by assumption) (by (repeat (first | exact .head _ | refine .tail _ ?_))) ?_; try simp only [Act.put, List.setIfInBounds_toArray, List.set_cons_succ, List.set_cons_zero])
    | (refine p_storeN0 rfl _ _ rfl _ _ _ rfl rfl _ (by assumption) ?_; intro w H; try simp only [Act.put, List.setIfInBounds_toArray, List.set_cons_succ, List.set_cons_zero])
    | (refine p_storeN1 rfl _ _ rfl _ _ _ rfl rfl _ _ (by assumption) ?_; intro w H; try simp only [Act.put, List.setIfInBounds_toArray, List.set_cons_succ, List.set_cons_zero])
    | (refine p_storeP0 rfl _ _ rfl _ _ _ _ _ _ _ rfl rfl _ (by assumption) ?_; intro w H; try simp only [Act.put, List.setIfInBounds_toArray, List.set_cons_succ, List.set_cons_zero]))
  refine wp_region_any (by kernel_rfl) ?_
  have H := H.grow (Below.refl _ _).drew
  refine wpAny_take (i := 0) (v := .string sl) rfl (by kernel_rfl) (by kernel_rfl) (by kernel_rfl) (fun _ _ _ h => h) (Or.inl ⟨by rfl, fun w => by rfl⟩) ?_
  try simp only [Act.put, List.setIfInBounds_toArray, List.set_cons_succ, List.set_cons_zero]
  refine wpAny_take (i := 1) (v := .string (sl.extract 0 31)) rfl (by kernel_rfl) (by kernel_rfl) (by kernel_rfl) (fun _ _ _ h => h) (Or.inl ⟨by rfl, fun w => by simp [execOp, Act.eval, go_sem, hsz]⟩) ?_
  try simp only [Act.put, List.setIfInBounds_toArray, List.set_cons_succ, List.set_cons_zero]
  refine wpAny_rest 2 _ rfl (by kernel_rfl) ?_
  simp only [List.drop_succ_cons, List.drop_zero]
  refine (show wpList _ _ _ _ _ (World.drew w) from ?_)
  generalize World.drew w = wd at H ⊢
  have hm : (b1.toNat : Int) % 256 = (b1.toNat : Int) := by have := b1.toNat_lt; omega
  have hcv := conv_one (w := wd) b1
  rw [hs1.out] at hcv
  have H := H.grow ((Below.refl _ wd).alloc (Nat.le_refl _) (.cells #[.int .u8 (b1.toNat : Int)] 5))
  have hcat := hcat.out
  go_wp2_with (first
    | (refine p_boxP rfl _ rfl _ _ _ rfl (by assumption) ?_; intro g w H; try simp only [Act.put, List.setIfInBounds_toArray, List.set_cons_succ, List.set_cons_zero])
    | (refine p_boxN rfl _ rfl _ rfl (by assumption) ?_; intro g w H; try simp only [Act.put, List.setIfInBounds_toArray, List.set_cons_succ, List.set_cons_zero])
    | (refine p_allocN rfl rfl (by assumption) ?_; intro g w H; try simp only [Act.put, List.setIfInBounds_toArray, List.set_cons_succ, List.set_cons_zero])
    | (refine p_allocP rfl rfl (by assumption) ?_; intro g w H; try simp only [Act.put, List.setIfInBounds_toArray, List.set_cons_succ, List.set_cons_zero])
    | (refine p_loadN rfl _ rfl _ _ rfl (by assumption) (by (repeat (first | exact .head _ | refine .tail _ ?_))) ?_; try simp only [Act.put, List.setIfInBounds_toArray, List.set_cons_succ, List.set_cons_zero])
    | (refine p_loadP rfl _ rfl _ _ _ _ rfl (by assumption) (by (repeat (first | exact .head _ | refine .tail _ ?_))) ?_; try simp only [Act.put, List.setIfInBounds_toArray, List.set_cons_succ, List.set_cons_zero])
    | (refine p_part0 rfl _ rfl _ _ _ _ rfl (by assumption) (by (repeat (first | exact .head _ | refine .tail _ ?_))) ?_; try simp only [Act.put, List.setIfInBounds_toArray, List.set_cons_succ, List.set_cons_zero])
    | (refine p_part1 rfl _ rfl _ _ _ _ rfl (by assumption) (by (repeat (first | exact .head _ | refine .tail _ ?_))) ?_; try simp only [Act.put, List.setIfInBounds_toArray, List.set_cons_succ, List.set_cons_zero])
    | (refine p_part2 rfl _ rfl _ _ _ _ rfl (by assumption) (by (repeat (first | exact .head _ | refine .tail _ ?_))) ?_; try simp only [Act.put, List.setIfInBounds_toArray, List.set_cons_succ, List.set_cons_zero])
    | (refine p_storeN0 rfl _ _ rfl _ _ _ rfl rfl _ (by assumption) ?_; intro w H; try simp only [Act.put, List.setIfInBounds_toArray, List.set_cons_succ, List.set_cons_zero])
    | (refine p_storeN1 rfl _ _ rfl _ _ _ rfl rfl _ _ (by assumption) ?_; intro w H; try simp only [Act.put, List.setIfInBounds_toArray, List.set_cons_succ, List.set_cons_zero])
    | (refine p_storeP0 rfl _ _ rfl _ _ _ _ _ _ _ rfl rfl _ (by assumption) ?_; intro w H; try simp only [Act.put, List.setIfInBounds_toArray, List.set_cons_succ, List.set_cons_zero])
    | (refine p_build0 rfl _ rfl (by rw [Array.toList_map]; rfl) ?_; try simp only [Act.put, List.setIfInBounds_toArray, List.set_cons_succ, List.set_cons_zero])
    | (refine p_loadN_g (by rfl) _ rfl _ _ rfl (by assumption) (by (repeat (first | exact .head _ | refine .tail _ ?_))) ?_; try simp only [Act.put, List.setIfInBounds_toArray, List.set_cons_succ, List.set_cons_zero])
    | (go_at_call 54; with_reducible refine r_call (by assumption) (cI.out _) ?_; intro w H)
    | (refine p_storeP_fin rfl _ _ rfl _ _ _ _ _ _ _ rfl rfl (by assumption) (by (repeat (first | exact .head _ | refine .tail _ ?_))) ?_; intro w H; try simp only [Act.put, List.setIfInBounds_toArray, List.set_cons_succ, List.set_cons_zero]))
  exact p_ret2 Try.results32 _ rfl rfl rfl H (by (repeat (first | exact .head _ | refine .tail _ ?_)))
set_option maxHeartbeats 4000000 in
theorem parse_odd_noroot (sl st s1 : ByteArray) (b b1 : UInt8) (hsz : sl.size = 32) (hs31 : 31 < sl.size) (g31 : sl[31] = b) (hb : (128 : Int) ≤ (b.toNat : Int)) (hb1 : (b.toNat : Int) - 128 = (b1.toNat : Int)) (hs1 : S [b1] = s1) (hcat : sl.extract 0 31 ++ s1 = st) (cI : ∀ w, Calls Try.prog 54 #[.string st] w (RetV (.bool true) w)) (y : Nat) (cN : ∀ w, Calls Try.prog 55 #[.string st] w (RetV (.agg (nC y).toArray) w)) (hy : y < pF) (x : Nat) (hx : x < pF) (cR : ∀ w, Calls Try.prog 56 #[.agg (nC (sqY y)).toArray] w (RetV (.tuple #[.agg (nC x).toArray, .bool false]) w)) (wS : World) : Calls Try.prog 32 #[.string sl] wS (RetV (.tuple #[.agg (ptC 0 0 0).toArray, .bool false]) wS) := by
  have H := RMem.start wS
  have t1 := Kept.mk fun w => timesD y y hy hy w
  have s1' := Kept.mk fun w => small_at 1 (by omega) 1 rfl w
  have cD := Kept.mk fun w => D_any w
  have m1 := Kept.mk fun w => minusD (ml y y) 1 (ml_lt _ _) (by decide +kernel) w
  have t2 := Kept.mk fun w => timesD dF (ml y y) (by decide +kernel) (ml_lt _ _) w
  have p1 := Kept.mk fun w => plusD 1 (ml dF (ml y y)) (by decide +kernel) (ml_lt _ _) w
  have i1 := Kept.mk fun w => inverseD (ad 1 (ml dF (ml y y))) (ad_lt _ _) w
  have t3 := Kept.mk fun w => timesD (sb (ml y y) 1) (fi (ad 1 (ml dF (ml y y)))) (sb_lt _ _) (fi_lt _) w
  have ro := Kept.mk fun w => cR w
  unfold sqY at ro
  clear cR hx hy
  generalize ml (sb (ml y y) 1) (fi (ad 1 (ml dF (ml y y)))) = q at t3 ro
  generalize fi (ad 1 (ml dF (ml y y))) = f at i1 t3
  generalize ad 1 (ml dF (ml y y)) = e at p1 i1
  generalize sb (ml y y) 1 = yy1 at m1 t3
  generalize ml dF (ml y y) = dyy at t2 p1
  generalize ml y y = yy at t1 m1 t2
  replace cI := Kept.mk cI
  replace cN := Kept.mk cN
  have hs1z : s1.size = 1 := by rw [← hs1]; rfl
  replace hs1 := Kept.mk hs1
  replace hcat := Kept.mk hcat
  go_enter Try.func32, Try.ntmps32
  go_wp2_with (first
    | (refine p_boxP rfl _ rfl _ _ _ rfl (by assumption) ?_; intro g w H; try simp only [Act.put, List.setIfInBounds_toArray, List.set_cons_succ, List.set_cons_zero])
    | (refine p_boxN rfl _ rfl _ rfl (by assumption) ?_; intro g w H; try simp only [Act.put, List.setIfInBounds_toArray, List.set_cons_succ, List.set_cons_zero])
    | (refine p_allocN rfl rfl (by assumption) ?_; intro g w H; try simp only [Act.put, List.setIfInBounds_toArray, List.set_cons_succ, List.set_cons_zero])
    | (refine p_allocP rfl rfl (by assumption) ?_; intro g w H; try simp only [Act.put, List.setIfInBounds_toArray, List.set_cons_succ, List.set_cons_zero])
    | (refine p_loadN rfl _ rfl _ _ rfl (by assumption) (by (repeat (first | exact .head _ | refine .tail _ ?_))) ?_; try simp only [Act.put, List.setIfInBounds_toArray, List.set_cons_succ, List.set_cons_zero])
    | (refine p_loadP rfl _ rfl _ _ _ _ rfl (by assumption) (by (repeat (first | exact .head _ | refine .tail _ ?_))) ?_; try simp only [Act.put, List.setIfInBounds_toArray, List.set_cons_succ, List.set_cons_zero])
    | (refine p_part0 rfl _ rfl _ _ _ _ rfl (by assumption) (by (repeat (first | exact .head _ | refine .tail _ ?_))) ?_; try simp only [Act.put, List.setIfInBounds_toArray, List.set_cons_succ, List.set_cons_zero])
    | (refine p_part1 rfl _ rfl _ _ _ _ rfl (by assumption) (by (repeat (first | exact .head _ | refine .tail _ ?_))) ?_; try simp only [Act.put, List.setIfInBounds_toArray, List.set_cons_succ, List.set_cons_zero])
    | (refine p_part2 rfl _ rfl _ _ _ _ rfl (by assumption) (by (repeat (first | exact .head _ | refine .tail _ ?_))) ?_; try simp only [Act.put, List.setIfInBounds_toArray, List.set_cons_succ, List.set_cons_zero])
    | (refine p_storeN0 rfl _ _ rfl _ _ _ rfl rfl _ (by assumption) ?_; intro w H; try simp only [Act.put, List.setIfInBounds_toArray, List.set_cons_succ, List.set_cons_zero])
    | (refine p_storeN1 rfl _ _ rfl _ _ _ rfl rfl _ _ (by assumption) ?_; intro w H; try simp only [Act.put, List.setIfInBounds_toArray, List.set_cons_succ, List.set_cons_zero])
    | (refine p_storeP0 rfl _ _ rfl _ _ _ _ _ _ _ rfl rfl _ (by assumption) ?_; intro w H; try simp only [Act.put, List.setIfInBounds_toArray, List.set_cons_succ, List.set_cons_zero]))
  refine wp_region_any (by kernel_rfl) ?_
  have H := H.grow (Below.refl _ _).drew
  refine wpAny_take (i := 0) (v := .string sl) rfl (by kernel_rfl) (by kernel_rfl) (by kernel_rfl) (fun _ _ _ h => h) (Or.inl ⟨by rfl, fun w => by rfl⟩) ?_
  try simp only [Act.put, List.setIfInBounds_toArray, List.set_cons_succ, List.set_cons_zero]
  refine wpAny_take (i := 1) (v := .string (sl.extract 0 31)) rfl (by kernel_rfl) (by kernel_rfl) (by kernel_rfl) (fun _ _ _ h => h) (Or.inl ⟨by rfl, fun w => by simp [execOp, Act.eval, go_sem, hsz]⟩) ?_
  try simp only [Act.put, List.setIfInBounds_toArray, List.set_cons_succ, List.set_cons_zero]
  refine wpAny_rest 2 _ rfl (by kernel_rfl) ?_
  simp only [List.drop_succ_cons, List.drop_zero]
  refine (show wpList _ _ _ _ _ (World.drew w) from ?_)
  generalize World.drew w = wd at H ⊢
  have hm : (b1.toNat : Int) % 256 = (b1.toNat : Int) := by have := b1.toNat_lt; omega
  have hcv := conv_one (w := wd) b1
  rw [hs1.out] at hcv
  have H := H.grow ((Below.refl _ wd).alloc (Nat.le_refl _) (.cells #[.int .u8 (b1.toNat : Int)] 5))
  have hcat := hcat.out
  go_wp2_with (first
    | (refine p_boxP rfl _ rfl _ _ _ rfl (by assumption) ?_; intro g w H; try simp only [Act.put, List.setIfInBounds_toArray, List.set_cons_succ, List.set_cons_zero])
    | (refine p_boxN rfl _ rfl _ rfl (by assumption) ?_; intro g w H; try simp only [Act.put, List.setIfInBounds_toArray, List.set_cons_succ, List.set_cons_zero])
    | (refine p_allocN rfl rfl (by assumption) ?_; intro g w H; try simp only [Act.put, List.setIfInBounds_toArray, List.set_cons_succ, List.set_cons_zero])
    | (refine p_allocP rfl rfl (by assumption) ?_; intro g w H; try simp only [Act.put, List.setIfInBounds_toArray, List.set_cons_succ, List.set_cons_zero])
    | (refine p_loadN rfl _ rfl _ _ rfl (by assumption) (by (repeat (first | exact .head _ | refine .tail _ ?_))) ?_; try simp only [Act.put, List.setIfInBounds_toArray, List.set_cons_succ, List.set_cons_zero])
    | (refine p_loadP rfl _ rfl _ _ _ _ rfl (by assumption) (by (repeat (first | exact .head _ | refine .tail _ ?_))) ?_; try simp only [Act.put, List.setIfInBounds_toArray, List.set_cons_succ, List.set_cons_zero])
    | (refine p_part0 rfl _ rfl _ _ _ _ rfl (by assumption) (by (repeat (first | exact .head _ | refine .tail _ ?_))) ?_; try simp only [Act.put, List.setIfInBounds_toArray, List.set_cons_succ, List.set_cons_zero])
    | (refine p_part1 rfl _ rfl _ _ _ _ rfl (by assumption) (by (repeat (first | exact .head _ | refine .tail _ ?_))) ?_; try simp only [Act.put, List.setIfInBounds_toArray, List.set_cons_succ, List.set_cons_zero])
    | (refine p_part2 rfl _ rfl _ _ _ _ rfl (by assumption) (by (repeat (first | exact .head _ | refine .tail _ ?_))) ?_; try simp only [Act.put, List.setIfInBounds_toArray, List.set_cons_succ, List.set_cons_zero])
    | (refine p_storeN0 rfl _ _ rfl _ _ _ rfl rfl _ (by assumption) ?_; intro w H; try simp only [Act.put, List.setIfInBounds_toArray, List.set_cons_succ, List.set_cons_zero])
    | (refine p_storeN1 rfl _ _ rfl _ _ _ rfl rfl _ _ (by assumption) ?_; intro w H; try simp only [Act.put, List.setIfInBounds_toArray, List.set_cons_succ, List.set_cons_zero])
    | (refine p_storeP0 rfl _ _ rfl _ _ _ _ _ _ _ rfl rfl _ (by assumption) ?_; intro w H; try simp only [Act.put, List.setIfInBounds_toArray, List.set_cons_succ, List.set_cons_zero])
    | (refine p_build0 rfl _ rfl (by rw [Array.toList_map]; rfl) ?_; try simp only [Act.put, List.setIfInBounds_toArray, List.set_cons_succ, List.set_cons_zero])
    | (refine p_loadN_g (by rfl) _ rfl _ _ rfl (by assumption) (by (repeat (first | exact .head _ | refine .tail _ ?_))) ?_; try simp only [Act.put, List.setIfInBounds_toArray, List.set_cons_succ, List.set_cons_zero])
    | (go_at_call 54; with_reducible refine r_call (by assumption) (cI.out _) ?_; intro w H)
    | (go_at_call 55; with_reducible refine r_call (by assumption) (cN.out _) ?_; intro w H)
    | (go_at_call 41; with_reducible refine r_call (by assumption) (t1.out _) ?_; intro w H)
    | (go_at_call 39; with_reducible refine r_call (by assumption) (s1'.out _) ?_; intro w H)
    | (refine p_storeP_fin rfl _ _ rfl _ _ _ _ _ _ _ rfl rfl (by assumption) (by (repeat (first | exact .head _ | refine .tail _ ?_))) ?_; intro w H; try simp only [Act.put, List.setIfInBounds_toArray, List.set_cons_succ, List.set_cons_zero]))
  refine wp_region_from_allocL 15 14 13 _ _ _ _ 46 (nC 0).toArray rfl rfl rfl rfl rfl zero_nC (by kernel_rfl) (by kernel_rfl) (by kernel_rfl) (fun _ _ _ _ h => h) ?_
  apply Exists.intro
  refine And.intro ?_ (And.intro ?_ ?_)
  · intro u hu x
    simp only [List.take_succ_cons, List.take_zero, List.eraseIdx_cons_succ, List.eraseIdx_cons_zero, Act.put, List.setIfInBounds_toArray, List.set_cons_succ, List.set_cons_zero]
    repeat (first
      | (go_big_quiet_want; (first
        | (refine q_loadN _ rfl _ _ _ hu rfl (by assumption) (by (repeat (first | exact .head _ | refine .tail _ ?_))) ?_)
        | (refine q_loadP _ rfl _ _ _ _ _ hu rfl (by assumption) (by (repeat (first | exact .head _ | refine .tail _ ?_))) ?_)
        | (refine q_part0 _ rfl _ _ _ _ _ hu rfl (by assumption) (by (repeat (first | exact .head _ | refine .tail _ ?_))) ?_)
        | (refine q_part1 _ rfl _ _ _ _ _ hu rfl (by assumption) (by (repeat (first | exact .head _ | refine .tail _ ?_))) ?_)
        | (refine q_part2 _ rfl _ _ _ _ _ hu rfl (by assumption) (by (repeat (first | exact .head _ | refine .tail _ ?_))) ?_)
        | (refine q_build3 _ rfl _ _ _ (by rw [Array.toList_map]; rfl) ?_)
        | (refine q_build1 _ rfl _ (by rw [Array.toList_map]; rfl) ?_)); try simp only [Act.put, List.setIfInBounds_toArray, List.set_cons_succ, List.set_cons_zero]; go_big_quiet_on)
      | go_big_quiet_step (((first | (go_at_call 35; with_reducible exact held_call _ (cD.out _)) | (go_at_call 38; with_reducible exact held_call _ (m1.out _)) | (go_at_call 41; with_reducible exact held_call _ (t2.out _)) | (go_at_call 57; with_reducible exact held_call _ (p1.out _)) | (go_at_call 42; with_reducible exact held_call _ (i1.out _)) | (go_at_call 41; with_reducible exact held_call _ (t3.out _)) | (go_at_call 56; with_reducible exact held_call _ (ro.out _))))))
    exact wpQuiet_nil rfl
  · exact fun _ => rfl
  intro x w5 hw5 hF
  have H := H.extra hw5 hF
  simp only [List.drop_succ_cons, List.drop_zero]
  go_wp2_with (first
    | (refine p_boxP rfl _ rfl _ _ _ rfl (by assumption) ?_; intro g w H; try simp only [Act.put, List.setIfInBounds_toArray, List.set_cons_succ, List.set_cons_zero])
    | (refine p_boxN rfl _ rfl _ rfl (by assumption) ?_; intro g w H; try simp only [Act.put, List.setIfInBounds_toArray, List.set_cons_succ, List.set_cons_zero])
    | (refine p_allocN rfl rfl (by assumption) ?_; intro g w H; try simp only [Act.put, List.setIfInBounds_toArray, List.set_cons_succ, List.set_cons_zero])
    | (refine p_allocP rfl rfl (by assumption) ?_; intro g w H; try simp only [Act.put, List.setIfInBounds_toArray, List.set_cons_succ, List.set_cons_zero])
    | (refine p_loadN rfl _ rfl _ _ rfl (by assumption) (by (repeat (first | exact .head _ | refine .tail _ ?_))) ?_; try simp only [Act.put, List.setIfInBounds_toArray, List.set_cons_succ, List.set_cons_zero])
    | (refine p_loadP rfl _ rfl _ _ _ _ rfl (by assumption) (by (repeat (first | exact .head _ | refine .tail _ ?_))) ?_; try simp only [Act.put, List.setIfInBounds_toArray, List.set_cons_succ, List.set_cons_zero])
    | (refine p_part0 rfl _ rfl _ _ _ _ rfl (by assumption) (by (repeat (first | exact .head _ | refine .tail _ ?_))) ?_; try simp only [Act.put, List.setIfInBounds_toArray, List.set_cons_succ, List.set_cons_zero])
    | (refine p_part1 rfl _ rfl _ _ _ _ rfl (by assumption) (by (repeat (first | exact .head _ | refine .tail _ ?_))) ?_; try simp only [Act.put, List.setIfInBounds_toArray, List.set_cons_succ, List.set_cons_zero])
    | (refine p_part2 rfl _ rfl _ _ _ _ rfl (by assumption) (by (repeat (first | exact .head _ | refine .tail _ ?_))) ?_; try simp only [Act.put, List.setIfInBounds_toArray, List.set_cons_succ, List.set_cons_zero])
    | (refine p_storeN0 rfl _ _ rfl _ _ _ rfl rfl _ (by assumption) ?_; intro w H; try simp only [Act.put, List.setIfInBounds_toArray, List.set_cons_succ, List.set_cons_zero])
    | (refine p_storeN1 rfl _ _ rfl _ _ _ rfl rfl _ _ (by assumption) ?_; intro w H; try simp only [Act.put, List.setIfInBounds_toArray, List.set_cons_succ, List.set_cons_zero])
    | (refine p_storeP0 rfl _ _ rfl _ _ _ _ _ _ _ rfl rfl _ (by assumption) ?_; intro w H; try simp only [Act.put, List.setIfInBounds_toArray, List.set_cons_succ, List.set_cons_zero])
    | (refine p_build0 rfl _ rfl (by rw [Array.toList_map]; rfl) ?_; try simp only [Act.put, List.setIfInBounds_toArray, List.set_cons_succ, List.set_cons_zero])
    | (refine p_loadN_g (by rfl) _ rfl _ _ rfl (by assumption) (by (repeat (first | exact .head _ | refine .tail _ ?_))) ?_; try simp only [Act.put, List.setIfInBounds_toArray, List.set_cons_succ, List.set_cons_zero])
    | (go_at_call 54; with_reducible refine r_call (by assumption) (cI.out _) ?_; intro w H)
    | (go_at_call 55; with_reducible refine r_call (by assumption) (cN.out _) ?_; intro w H)
    | (go_at_call 41; with_reducible refine r_call (by assumption) (t1.out _) ?_; intro w H)
    | (go_at_call 39; with_reducible refine r_call (by assumption) (s1'.out _) ?_; intro w H)
    | (refine p_storeP_fin rfl _ _ rfl _ _ _ _ _ _ _ rfl rfl (by assumption) (by (repeat (first | exact .head _ | refine .tail _ ?_))) ?_; intro w H; try simp only [Act.put, List.setIfInBounds_toArray, List.set_cons_succ, List.set_cons_zero]))
  exact p_ret2 Try.results32 _ rfl rfl rfl H (by (repeat (first | exact .head _ | refine .tail _ ?_)))
set_option maxHeartbeats 4000000 in
theorem parse_odd_zero (sl st s1 : ByteArray) (b b1 : UInt8) (hsz : sl.size = 32) (hs31 : 31 < sl.size) (g31 : sl[31] = b) (hb : (128 : Int) ≤ (b.toNat : Int)) (hb1 : (b.toNat : Int) - 128 = (b1.toNat : Int)) (hs1 : S [b1] = s1) (hcat : sl.extract 0 31 ++ s1 = st) (cI : ∀ w, Calls Try.prog 54 #[.string st] w (RetV (.bool true) w)) (y : Nat) (cN : ∀ w, Calls Try.prog 55 #[.string st] w (RetV (.agg (nC y).toArray) w)) (hy : y < pF) (x : Nat) (hx : x < pF) (cR : ∀ w, Calls Try.prog 56 #[.agg (nC (sqY y)).toArray] w (RetV (.tuple #[.agg (nC x).toArray, .bool true]) w)) (hz : (x = 0) = True) (wS : World) : Calls Try.prog 32 #[.string sl] wS (RetV (.tuple #[.agg (ptC 0 0 0).toArray, .bool false]) wS) := by
  have H := RMem.start wS
  have t1 := Kept.mk fun w => timesD y y hy hy w
  have s1' := Kept.mk fun w => small_at 1 (by omega) 1 rfl w
  have cD := Kept.mk fun w => D_any w
  have m1 := Kept.mk fun w => minusD (ml y y) 1 (ml_lt _ _) (by decide +kernel) w
  have t2 := Kept.mk fun w => timesD dF (ml y y) (by decide +kernel) (ml_lt _ _) w
  have p1 := Kept.mk fun w => plusD 1 (ml dF (ml y y)) (by decide +kernel) (ml_lt _ _) w
  have i1 := Kept.mk fun w => inverseD (ad 1 (ml dF (ml y y))) (ad_lt _ _) w
  have t3 := Kept.mk fun w => timesD (sb (ml y y) 1) (fi (ad 1 (ml dF (ml y y)))) (sb_lt _ _) (fi_lt _) w
  have ro := Kept.mk fun w => cR w
  unfold sqY at ro
  have cZ := fun w => Zero_at x hx w
  simp only [hz, decide_true, decide_false] at cZ
  replace cZ := Kept.mk cZ
  clear hz
  clear cR hx hy
  generalize ml (sb (ml y y) 1) (fi (ad 1 (ml dF (ml y y)))) = q at t3 ro
  generalize fi (ad 1 (ml dF (ml y y))) = f at i1 t3
  generalize ad 1 (ml dF (ml y y)) = e at p1 i1
  generalize sb (ml y y) 1 = yy1 at m1 t3
  generalize ml dF (ml y y) = dyy at t2 p1
  generalize ml y y = yy at t1 m1 t2
  replace cI := Kept.mk cI
  replace cN := Kept.mk cN
  have hs1z : s1.size = 1 := by rw [← hs1]; rfl
  replace hs1 := Kept.mk hs1
  replace hcat := Kept.mk hcat
  go_enter Try.func32, Try.ntmps32
  go_wp2_with (first
    | (refine p_boxP rfl _ rfl _ _ _ rfl (by assumption) ?_; intro g w H; try simp only [Act.put, List.setIfInBounds_toArray, List.set_cons_succ, List.set_cons_zero])
    | (refine p_boxN rfl _ rfl _ rfl (by assumption) ?_; intro g w H; try simp only [Act.put, List.setIfInBounds_toArray, List.set_cons_succ, List.set_cons_zero])
    | (refine p_allocN rfl rfl (by assumption) ?_; intro g w H; try simp only [Act.put, List.setIfInBounds_toArray, List.set_cons_succ, List.set_cons_zero])
    | (refine p_allocP rfl rfl (by assumption) ?_; intro g w H; try simp only [Act.put, List.setIfInBounds_toArray, List.set_cons_succ, List.set_cons_zero])
    | (refine p_loadN rfl _ rfl _ _ rfl (by assumption) (by (repeat (first | exact .head _ | refine .tail _ ?_))) ?_; try simp only [Act.put, List.setIfInBounds_toArray, List.set_cons_succ, List.set_cons_zero])
    | (refine p_loadP rfl _ rfl _ _ _ _ rfl (by assumption) (by (repeat (first | exact .head _ | refine .tail _ ?_))) ?_; try simp only [Act.put, List.setIfInBounds_toArray, List.set_cons_succ, List.set_cons_zero])
    | (refine p_part0 rfl _ rfl _ _ _ _ rfl (by assumption) (by (repeat (first | exact .head _ | refine .tail _ ?_))) ?_; try simp only [Act.put, List.setIfInBounds_toArray, List.set_cons_succ, List.set_cons_zero])
    | (refine p_part1 rfl _ rfl _ _ _ _ rfl (by assumption) (by (repeat (first | exact .head _ | refine .tail _ ?_))) ?_; try simp only [Act.put, List.setIfInBounds_toArray, List.set_cons_succ, List.set_cons_zero])
    | (refine p_part2 rfl _ rfl _ _ _ _ rfl (by assumption) (by (repeat (first | exact .head _ | refine .tail _ ?_))) ?_; try simp only [Act.put, List.setIfInBounds_toArray, List.set_cons_succ, List.set_cons_zero])
    | (refine p_storeN0 rfl _ _ rfl _ _ _ rfl rfl _ (by assumption) ?_; intro w H; try simp only [Act.put, List.setIfInBounds_toArray, List.set_cons_succ, List.set_cons_zero])
    | (refine p_storeN1 rfl _ _ rfl _ _ _ rfl rfl _ _ (by assumption) ?_; intro w H; try simp only [Act.put, List.setIfInBounds_toArray, List.set_cons_succ, List.set_cons_zero])
    | (refine p_storeP0 rfl _ _ rfl _ _ _ _ _ _ _ rfl rfl _ (by assumption) ?_; intro w H; try simp only [Act.put, List.setIfInBounds_toArray, List.set_cons_succ, List.set_cons_zero]))
  refine wp_region_any (by kernel_rfl) ?_
  have H := H.grow (Below.refl _ _).drew
  refine wpAny_take (i := 0) (v := .string sl) rfl (by kernel_rfl) (by kernel_rfl) (by kernel_rfl) (fun _ _ _ h => h) (Or.inl ⟨by rfl, fun w => by rfl⟩) ?_
  try simp only [Act.put, List.setIfInBounds_toArray, List.set_cons_succ, List.set_cons_zero]
  refine wpAny_take (i := 1) (v := .string (sl.extract 0 31)) rfl (by kernel_rfl) (by kernel_rfl) (by kernel_rfl) (fun _ _ _ h => h) (Or.inl ⟨by rfl, fun w => by simp [execOp, Act.eval, go_sem, hsz]⟩) ?_
  try simp only [Act.put, List.setIfInBounds_toArray, List.set_cons_succ, List.set_cons_zero]
  refine wpAny_rest 2 _ rfl (by kernel_rfl) ?_
  simp only [List.drop_succ_cons, List.drop_zero]
  refine (show wpList _ _ _ _ _ (World.drew w) from ?_)
  generalize World.drew w = wd at H ⊢
  have hm : (b1.toNat : Int) % 256 = (b1.toNat : Int) := by have := b1.toNat_lt; omega
  have hcv := conv_one (w := wd) b1
  rw [hs1.out] at hcv
  have H := H.grow ((Below.refl _ wd).alloc (Nat.le_refl _) (.cells #[.int .u8 (b1.toNat : Int)] 5))
  have hcat := hcat.out
  go_wp2_with (first
    | (refine p_boxP rfl _ rfl _ _ _ rfl (by assumption) ?_; intro g w H; try simp only [Act.put, List.setIfInBounds_toArray, List.set_cons_succ, List.set_cons_zero])
    | (refine p_boxN rfl _ rfl _ rfl (by assumption) ?_; intro g w H; try simp only [Act.put, List.setIfInBounds_toArray, List.set_cons_succ, List.set_cons_zero])
    | (refine p_allocN rfl rfl (by assumption) ?_; intro g w H; try simp only [Act.put, List.setIfInBounds_toArray, List.set_cons_succ, List.set_cons_zero])
    | (refine p_allocP rfl rfl (by assumption) ?_; intro g w H; try simp only [Act.put, List.setIfInBounds_toArray, List.set_cons_succ, List.set_cons_zero])
    | (refine p_loadN rfl _ rfl _ _ rfl (by assumption) (by (repeat (first | exact .head _ | refine .tail _ ?_))) ?_; try simp only [Act.put, List.setIfInBounds_toArray, List.set_cons_succ, List.set_cons_zero])
    | (refine p_loadP rfl _ rfl _ _ _ _ rfl (by assumption) (by (repeat (first | exact .head _ | refine .tail _ ?_))) ?_; try simp only [Act.put, List.setIfInBounds_toArray, List.set_cons_succ, List.set_cons_zero])
    | (refine p_part0 rfl _ rfl _ _ _ _ rfl (by assumption) (by (repeat (first | exact .head _ | refine .tail _ ?_))) ?_; try simp only [Act.put, List.setIfInBounds_toArray, List.set_cons_succ, List.set_cons_zero])
    | (refine p_part1 rfl _ rfl _ _ _ _ rfl (by assumption) (by (repeat (first | exact .head _ | refine .tail _ ?_))) ?_; try simp only [Act.put, List.setIfInBounds_toArray, List.set_cons_succ, List.set_cons_zero])
    | (refine p_part2 rfl _ rfl _ _ _ _ rfl (by assumption) (by (repeat (first | exact .head _ | refine .tail _ ?_))) ?_; try simp only [Act.put, List.setIfInBounds_toArray, List.set_cons_succ, List.set_cons_zero])
    | (refine p_storeN0 rfl _ _ rfl _ _ _ rfl rfl _ (by assumption) ?_; intro w H; try simp only [Act.put, List.setIfInBounds_toArray, List.set_cons_succ, List.set_cons_zero])
    | (refine p_storeN1 rfl _ _ rfl _ _ _ rfl rfl _ _ (by assumption) ?_; intro w H; try simp only [Act.put, List.setIfInBounds_toArray, List.set_cons_succ, List.set_cons_zero])
    | (refine p_storeP0 rfl _ _ rfl _ _ _ _ _ _ _ rfl rfl _ (by assumption) ?_; intro w H; try simp only [Act.put, List.setIfInBounds_toArray, List.set_cons_succ, List.set_cons_zero])
    | (refine p_build0 rfl _ rfl (by rw [Array.toList_map]; rfl) ?_; try simp only [Act.put, List.setIfInBounds_toArray, List.set_cons_succ, List.set_cons_zero])
    | (refine p_loadN_g (by rfl) _ rfl _ _ rfl (by assumption) (by (repeat (first | exact .head _ | refine .tail _ ?_))) ?_; try simp only [Act.put, List.setIfInBounds_toArray, List.set_cons_succ, List.set_cons_zero])
    | (go_at_call 54; with_reducible refine r_call (by assumption) (cI.out _) ?_; intro w H)
    | (go_at_call 55; with_reducible refine r_call (by assumption) (cN.out _) ?_; intro w H)
    | (go_at_call 41; with_reducible refine r_call (by assumption) (t1.out _) ?_; intro w H)
    | (go_at_call 39; with_reducible refine r_call (by assumption) (s1'.out _) ?_; intro w H)
    | (refine p_storeP_fin rfl _ _ rfl _ _ _ _ _ _ _ rfl rfl (by assumption) (by (repeat (first | exact .head _ | refine .tail _ ?_))) ?_; intro w H; try simp only [Act.put, List.setIfInBounds_toArray, List.set_cons_succ, List.set_cons_zero]))
  refine wp_region_from_allocL 15 14 13 _ _ _ _ 46 (nC 0).toArray rfl rfl rfl rfl rfl zero_nC (by kernel_rfl) (by kernel_rfl) (by kernel_rfl) (fun _ _ _ _ h => h) ?_
  apply Exists.intro
  refine And.intro ?_ (And.intro ?_ ?_)
  · intro u hu x
    simp only [List.take_succ_cons, List.take_zero, List.eraseIdx_cons_succ, List.eraseIdx_cons_zero, Act.put, List.setIfInBounds_toArray, List.set_cons_succ, List.set_cons_zero]
    repeat (first
      | (go_big_quiet_want; (first
        | (refine q_loadN _ rfl _ _ _ hu rfl (by assumption) (by (repeat (first | exact .head _ | refine .tail _ ?_))) ?_)
        | (refine q_loadP _ rfl _ _ _ _ _ hu rfl (by assumption) (by (repeat (first | exact .head _ | refine .tail _ ?_))) ?_)
        | (refine q_part0 _ rfl _ _ _ _ _ hu rfl (by assumption) (by (repeat (first | exact .head _ | refine .tail _ ?_))) ?_)
        | (refine q_part1 _ rfl _ _ _ _ _ hu rfl (by assumption) (by (repeat (first | exact .head _ | refine .tail _ ?_))) ?_)
        | (refine q_part2 _ rfl _ _ _ _ _ hu rfl (by assumption) (by (repeat (first | exact .head _ | refine .tail _ ?_))) ?_)
        | (refine q_build3 _ rfl _ _ _ (by rw [Array.toList_map]; rfl) ?_)
        | (refine q_build1 _ rfl _ (by rw [Array.toList_map]; rfl) ?_)); try simp only [Act.put, List.setIfInBounds_toArray, List.set_cons_succ, List.set_cons_zero]; go_big_quiet_on)
      | go_big_quiet_step (((first | (go_at_call 35; with_reducible exact held_call _ (cD.out _)) | (go_at_call 38; with_reducible exact held_call _ (m1.out _)) | (go_at_call 41; with_reducible exact held_call _ (t2.out _)) | (go_at_call 57; with_reducible exact held_call _ (p1.out _)) | (go_at_call 42; with_reducible exact held_call _ (i1.out _)) | (go_at_call 41; with_reducible exact held_call _ (t3.out _)) | (go_at_call 56; with_reducible exact held_call _ (ro.out _))))))
    exact wpQuiet_nil rfl
  · exact fun _ => rfl
  intro x w5 hw5 hF
  have H := H.extra hw5 hF
  simp only [List.drop_succ_cons, List.drop_zero]
  go_wp2_with (first
    | (refine p_boxP rfl _ rfl _ _ _ rfl (by assumption) ?_; intro g w H; try simp only [Act.put, List.setIfInBounds_toArray, List.set_cons_succ, List.set_cons_zero])
    | (refine p_boxN rfl _ rfl _ rfl (by assumption) ?_; intro g w H; try simp only [Act.put, List.setIfInBounds_toArray, List.set_cons_succ, List.set_cons_zero])
    | (refine p_allocN rfl rfl (by assumption) ?_; intro g w H; try simp only [Act.put, List.setIfInBounds_toArray, List.set_cons_succ, List.set_cons_zero])
    | (refine p_allocP rfl rfl (by assumption) ?_; intro g w H; try simp only [Act.put, List.setIfInBounds_toArray, List.set_cons_succ, List.set_cons_zero])
    | (refine p_loadN rfl _ rfl _ _ rfl (by assumption) (by (repeat (first | exact .head _ | refine .tail _ ?_))) ?_; try simp only [Act.put, List.setIfInBounds_toArray, List.set_cons_succ, List.set_cons_zero])
    | (refine p_loadP rfl _ rfl _ _ _ _ rfl (by assumption) (by (repeat (first | exact .head _ | refine .tail _ ?_))) ?_; try simp only [Act.put, List.setIfInBounds_toArray, List.set_cons_succ, List.set_cons_zero])
    | (refine p_part0 rfl _ rfl _ _ _ _ rfl (by assumption) (by (repeat (first | exact .head _ | refine .tail _ ?_))) ?_; try simp only [Act.put, List.setIfInBounds_toArray, List.set_cons_succ, List.set_cons_zero])
    | (refine p_part1 rfl _ rfl _ _ _ _ rfl (by assumption) (by (repeat (first | exact .head _ | refine .tail _ ?_))) ?_; try simp only [Act.put, List.setIfInBounds_toArray, List.set_cons_succ, List.set_cons_zero])
    | (refine p_part2 rfl _ rfl _ _ _ _ rfl (by assumption) (by (repeat (first | exact .head _ | refine .tail _ ?_))) ?_; try simp only [Act.put, List.setIfInBounds_toArray, List.set_cons_succ, List.set_cons_zero])
    | (refine p_storeN0 rfl _ _ rfl _ _ _ rfl rfl _ (by assumption) ?_; intro w H; try simp only [Act.put, List.setIfInBounds_toArray, List.set_cons_succ, List.set_cons_zero])
    | (refine p_storeN1 rfl _ _ rfl _ _ _ rfl rfl _ _ (by assumption) ?_; intro w H; try simp only [Act.put, List.setIfInBounds_toArray, List.set_cons_succ, List.set_cons_zero])
    | (refine p_storeP0 rfl _ _ rfl _ _ _ _ _ _ _ rfl rfl _ (by assumption) ?_; intro w H; try simp only [Act.put, List.setIfInBounds_toArray, List.set_cons_succ, List.set_cons_zero])
    | (refine p_build0 rfl _ rfl (by rw [Array.toList_map]; rfl) ?_; try simp only [Act.put, List.setIfInBounds_toArray, List.set_cons_succ, List.set_cons_zero])
    | (refine p_loadN_g (by rfl) _ rfl _ _ rfl (by assumption) (by (repeat (first | exact .head _ | refine .tail _ ?_))) ?_; try simp only [Act.put, List.setIfInBounds_toArray, List.set_cons_succ, List.set_cons_zero])
    | (go_at_call 54; with_reducible refine r_call (by assumption) (cI.out _) ?_; intro w H)
    | (go_at_call 55; with_reducible refine r_call (by assumption) (cN.out _) ?_; intro w H)
    | (go_at_call 41; with_reducible refine r_call (by assumption) (t1.out _) ?_; intro w H)
    | (go_at_call 39; with_reducible refine r_call (by assumption) (s1'.out _) ?_; intro w H)
    | (go_at_call 58; with_reducible refine r_call (by assumption) (cZ.out _) ?_; intro w H)
    | (refine p_storeP_fin rfl _ _ rfl _ _ _ _ _ _ _ rfl rfl (by assumption) (by (repeat (first | exact .head _ | refine .tail _ ?_))) ?_; intro w H; try simp only [Act.put, List.setIfInBounds_toArray, List.set_cons_succ, List.set_cons_zero]))
  exact p_ret2 Try.results32 _ rfl rfl rfl H (by (repeat (first | exact .head _ | refine .tail _ ?_)))
set_option maxHeartbeats 4000000 in
theorem parse_odd_ok (sl st s1 : ByteArray) (b b1 : UInt8) (hsz : sl.size = 32) (hs31 : 31 < sl.size) (g31 : sl[31] = b) (hb : (128 : Int) ≤ (b.toNat : Int)) (hb1 : (b.toNat : Int) - 128 = (b1.toNat : Int)) (hs1 : S [b1] = s1) (hcat : sl.extract 0 31 ++ s1 = st) (cI : ∀ w, Calls Try.prog 54 #[.string st] w (RetV (.bool true) w)) (y : Nat) (cN : ∀ w, Calls Try.prog 55 #[.string st] w (RetV (.agg (nC y).toArray) w)) (hy : y < pF) (x : Nat) (hx : x < pF) (cR : ∀ w, Calls Try.prog 56 #[.agg (nC (sqY y)).toArray] w (RetV (.tuple #[.agg (nC x).toArray, .bool true]) w)) (hz : (x = 0) = False) (wS : World) : Calls Try.prog 32 #[.string sl] wS (RetV (.tuple #[.agg (ptC (sb 0 x) y 1).toArray, .bool true]) wS) := by
  have H := RMem.start wS
  have t1 := Kept.mk fun w => timesD y y hy hy w
  have s1' := Kept.mk fun w => small_at 1 (by omega) 1 rfl w
  have cD := Kept.mk fun w => D_any w
  have m1 := Kept.mk fun w => minusD (ml y y) 1 (ml_lt _ _) (by decide +kernel) w
  have t2 := Kept.mk fun w => timesD dF (ml y y) (by decide +kernel) (ml_lt _ _) w
  have p1 := Kept.mk fun w => plusD 1 (ml dF (ml y y)) (by decide +kernel) (ml_lt _ _) w
  have i1 := Kept.mk fun w => inverseD (ad 1 (ml dF (ml y y))) (ad_lt _ _) w
  have t3 := Kept.mk fun w => timesD (sb (ml y y) 1) (fi (ad 1 (ml dF (ml y y)))) (sb_lt _ _) (fi_lt _) w
  have ro := Kept.mk fun w => cR w
  unfold sqY at ro
  have cA := Kept.mk fun w => At_any (sb 0 x) y w
  have s0 := Kept.mk fun w => small_at 0 (by omega) 0 rfl w
  have mx := Kept.mk fun w => minusD 0 x (by decide +kernel) hx w
  have cZ := fun w => Zero_at x hx w
  simp only [hz, decide_true, decide_false] at cZ
  replace cZ := Kept.mk cZ
  clear hz
  clear cR hx hy
  generalize ml (sb (ml y y) 1) (fi (ad 1 (ml dF (ml y y)))) = q at t3 ro
  generalize fi (ad 1 (ml dF (ml y y))) = f at i1 t3
  generalize ad 1 (ml dF (ml y y)) = e at p1 i1
  generalize sb (ml y y) 1 = yy1 at m1 t3
  generalize ml dF (ml y y) = dyy at t2 p1
  generalize ml y y = yy at t1 m1 t2
  replace cI := Kept.mk cI
  replace cN := Kept.mk cN
  have hs1z : s1.size = 1 := by rw [← hs1]; rfl
  replace hs1 := Kept.mk hs1
  replace hcat := Kept.mk hcat
  go_enter Try.func32, Try.ntmps32
  go_wp2_with (first
    | (refine p_boxP rfl _ rfl _ _ _ rfl (by assumption) ?_; intro g w H; try simp only [Act.put, List.setIfInBounds_toArray, List.set_cons_succ, List.set_cons_zero])
    | (refine p_boxN rfl _ rfl _ rfl (by assumption) ?_; intro g w H; try simp only [Act.put, List.setIfInBounds_toArray, List.set_cons_succ, List.set_cons_zero])
    | (refine p_allocN rfl rfl (by assumption) ?_; intro g w H; try simp only [Act.put, List.setIfInBounds_toArray, List.set_cons_succ, List.set_cons_zero])
    | (refine p_allocP rfl rfl (by assumption) ?_; intro g w H; try simp only [Act.put, List.setIfInBounds_toArray, List.set_cons_succ, List.set_cons_zero])
    | (refine p_loadN rfl _ rfl _ _ rfl (by assumption) (by (repeat (first | exact .head _ | refine .tail _ ?_))) ?_; try simp only [Act.put, List.setIfInBounds_toArray, List.set_cons_succ, List.set_cons_zero])
    | (refine p_loadP rfl _ rfl _ _ _ _ rfl (by assumption) (by (repeat (first | exact .head _ | refine .tail _ ?_))) ?_; try simp only [Act.put, List.setIfInBounds_toArray, List.set_cons_succ, List.set_cons_zero])
    | (refine p_part0 rfl _ rfl _ _ _ _ rfl (by assumption) (by (repeat (first | exact .head _ | refine .tail _ ?_))) ?_; try simp only [Act.put, List.setIfInBounds_toArray, List.set_cons_succ, List.set_cons_zero])
    | (refine p_part1 rfl _ rfl _ _ _ _ rfl (by assumption) (by (repeat (first | exact .head _ | refine .tail _ ?_))) ?_; try simp only [Act.put, List.setIfInBounds_toArray, List.set_cons_succ, List.set_cons_zero])
    | (refine p_part2 rfl _ rfl _ _ _ _ rfl (by assumption) (by (repeat (first | exact .head _ | refine .tail _ ?_))) ?_; try simp only [Act.put, List.setIfInBounds_toArray, List.set_cons_succ, List.set_cons_zero])
    | (refine p_storeN0 rfl _ _ rfl _ _ _ rfl rfl _ (by assumption) ?_; intro w H; try simp only [Act.put, List.setIfInBounds_toArray, List.set_cons_succ, List.set_cons_zero])
    | (refine p_storeN1 rfl _ _ rfl _ _ _ rfl rfl _ _ (by assumption) ?_; intro w H; try simp only [Act.put, List.setIfInBounds_toArray, List.set_cons_succ, List.set_cons_zero])
    | (refine p_storeP0 rfl _ _ rfl _ _ _ _ _ _ _ rfl rfl _ (by assumption) ?_; intro w H; try simp only [Act.put, List.setIfInBounds_toArray, List.set_cons_succ, List.set_cons_zero]))
  refine wp_region_any (by kernel_rfl) ?_
  have H := H.grow (Below.refl _ _).drew
  refine wpAny_take (i := 0) (v := .string sl) rfl (by kernel_rfl) (by kernel_rfl) (by kernel_rfl) (fun _ _ _ h => h) (Or.inl ⟨by rfl, fun w => by rfl⟩) ?_
  try simp only [Act.put, List.setIfInBounds_toArray, List.set_cons_succ, List.set_cons_zero]
  refine wpAny_take (i := 1) (v := .string (sl.extract 0 31)) rfl (by kernel_rfl) (by kernel_rfl) (by kernel_rfl) (fun _ _ _ h => h) (Or.inl ⟨by rfl, fun w => by simp [execOp, Act.eval, go_sem, hsz]⟩) ?_
  try simp only [Act.put, List.setIfInBounds_toArray, List.set_cons_succ, List.set_cons_zero]
  refine wpAny_rest 2 _ rfl (by kernel_rfl) ?_
  simp only [List.drop_succ_cons, List.drop_zero]
  refine (show wpList _ _ _ _ _ (World.drew w) from ?_)
  generalize World.drew w = wd at H ⊢
  have hm : (b1.toNat : Int) % 256 = (b1.toNat : Int) := by have := b1.toNat_lt; omega
  have hcv := conv_one (w := wd) b1
  rw [hs1.out] at hcv
  have H := H.grow ((Below.refl _ wd).alloc (Nat.le_refl _) (.cells #[.int .u8 (b1.toNat : Int)] 5))
  have hcat := hcat.out
  go_wp2_with (first
    | (refine p_boxP rfl _ rfl _ _ _ rfl (by assumption) ?_; intro g w H; try simp only [Act.put, List.setIfInBounds_toArray, List.set_cons_succ, List.set_cons_zero])
    | (refine p_boxN rfl _ rfl _ rfl (by assumption) ?_; intro g w H; try simp only [Act.put, List.setIfInBounds_toArray, List.set_cons_succ, List.set_cons_zero])
    | (refine p_allocN rfl rfl (by assumption) ?_; intro g w H; try simp only [Act.put, List.setIfInBounds_toArray, List.set_cons_succ, List.set_cons_zero])
    | (refine p_allocP rfl rfl (by assumption) ?_; intro g w H; try simp only [Act.put, List.setIfInBounds_toArray, List.set_cons_succ, List.set_cons_zero])
    | (refine p_loadN rfl _ rfl _ _ rfl (by assumption) (by (repeat (first | exact .head _ | refine .tail _ ?_))) ?_; try simp only [Act.put, List.setIfInBounds_toArray, List.set_cons_succ, List.set_cons_zero])
    | (refine p_loadP rfl _ rfl _ _ _ _ rfl (by assumption) (by (repeat (first | exact .head _ | refine .tail _ ?_))) ?_; try simp only [Act.put, List.setIfInBounds_toArray, List.set_cons_succ, List.set_cons_zero])
    | (refine p_part0 rfl _ rfl _ _ _ _ rfl (by assumption) (by (repeat (first | exact .head _ | refine .tail _ ?_))) ?_; try simp only [Act.put, List.setIfInBounds_toArray, List.set_cons_succ, List.set_cons_zero])
    | (refine p_part1 rfl _ rfl _ _ _ _ rfl (by assumption) (by (repeat (first | exact .head _ | refine .tail _ ?_))) ?_; try simp only [Act.put, List.setIfInBounds_toArray, List.set_cons_succ, List.set_cons_zero])
    | (refine p_part2 rfl _ rfl _ _ _ _ rfl (by assumption) (by (repeat (first | exact .head _ | refine .tail _ ?_))) ?_; try simp only [Act.put, List.setIfInBounds_toArray, List.set_cons_succ, List.set_cons_zero])
    | (refine p_storeN0 rfl _ _ rfl _ _ _ rfl rfl _ (by assumption) ?_; intro w H; try simp only [Act.put, List.setIfInBounds_toArray, List.set_cons_succ, List.set_cons_zero])
    | (refine p_storeN1 rfl _ _ rfl _ _ _ rfl rfl _ _ (by assumption) ?_; intro w H; try simp only [Act.put, List.setIfInBounds_toArray, List.set_cons_succ, List.set_cons_zero])
    | (refine p_storeP0 rfl _ _ rfl _ _ _ _ _ _ _ rfl rfl _ (by assumption) ?_; intro w H; try simp only [Act.put, List.setIfInBounds_toArray, List.set_cons_succ, List.set_cons_zero])
    | (refine p_build0 rfl _ rfl (by rw [Array.toList_map]; rfl) ?_; try simp only [Act.put, List.setIfInBounds_toArray, List.set_cons_succ, List.set_cons_zero])
    | (refine p_loadN_g (by rfl) _ rfl _ _ rfl (by assumption) (by (repeat (first | exact .head _ | refine .tail _ ?_))) ?_; try simp only [Act.put, List.setIfInBounds_toArray, List.set_cons_succ, List.set_cons_zero])
    | (go_at_call 54; with_reducible refine r_call (by assumption) (cI.out _) ?_; intro w H)
    | (go_at_call 55; with_reducible refine r_call (by assumption) (cN.out _) ?_; intro w H)
    | (go_at_call 41; with_reducible refine r_call (by assumption) (t1.out _) ?_; intro w H)
    | (go_at_call 39; with_reducible refine r_call (by assumption) (s1'.out _) ?_; intro w H)
    | (refine p_storeP_fin rfl _ _ rfl _ _ _ _ _ _ _ rfl rfl (by assumption) (by (repeat (first | exact .head _ | refine .tail _ ?_))) ?_; intro w H; try simp only [Act.put, List.setIfInBounds_toArray, List.set_cons_succ, List.set_cons_zero]))
  refine wp_region_from_allocL 15 14 13 _ _ _ _ 46 (nC 0).toArray rfl rfl rfl rfl rfl zero_nC (by kernel_rfl) (by kernel_rfl) (by kernel_rfl) (fun _ _ _ _ h => h) ?_
  apply Exists.intro
  refine And.intro ?_ (And.intro ?_ ?_)
  · intro u hu x
    simp only [List.take_succ_cons, List.take_zero, List.eraseIdx_cons_succ, List.eraseIdx_cons_zero, Act.put, List.setIfInBounds_toArray, List.set_cons_succ, List.set_cons_zero]
    repeat (first
      | (go_big_quiet_want; (first
        | (refine q_loadN _ rfl _ _ _ hu rfl (by assumption) (by (repeat (first | exact .head _ | refine .tail _ ?_))) ?_)
        | (refine q_loadP _ rfl _ _ _ _ _ hu rfl (by assumption) (by (repeat (first | exact .head _ | refine .tail _ ?_))) ?_)
        | (refine q_part0 _ rfl _ _ _ _ _ hu rfl (by assumption) (by (repeat (first | exact .head _ | refine .tail _ ?_))) ?_)
        | (refine q_part1 _ rfl _ _ _ _ _ hu rfl (by assumption) (by (repeat (first | exact .head _ | refine .tail _ ?_))) ?_)
        | (refine q_part2 _ rfl _ _ _ _ _ hu rfl (by assumption) (by (repeat (first | exact .head _ | refine .tail _ ?_))) ?_)
        | (refine q_build3 _ rfl _ _ _ (by rw [Array.toList_map]; rfl) ?_)
        | (refine q_build1 _ rfl _ (by rw [Array.toList_map]; rfl) ?_)); try simp only [Act.put, List.setIfInBounds_toArray, List.set_cons_succ, List.set_cons_zero]; go_big_quiet_on)
      | go_big_quiet_step (((first | (go_at_call 35; with_reducible exact held_call _ (cD.out _)) | (go_at_call 38; with_reducible exact held_call _ (m1.out _)) | (go_at_call 41; with_reducible exact held_call _ (t2.out _)) | (go_at_call 57; with_reducible exact held_call _ (p1.out _)) | (go_at_call 42; with_reducible exact held_call _ (i1.out _)) | (go_at_call 41; with_reducible exact held_call _ (t3.out _)) | (go_at_call 56; with_reducible exact held_call _ (ro.out _))))))
    exact wpQuiet_nil rfl
  · exact fun _ => rfl
  intro x w5 hw5 hF
  have H := H.extra hw5 hF
  simp only [List.drop_succ_cons, List.drop_zero]
  go_wp2_with (first
    | (refine p_boxP rfl _ rfl _ _ _ rfl (by assumption) ?_; intro g w H; try simp only [Act.put, List.setIfInBounds_toArray, List.set_cons_succ, List.set_cons_zero])
    | (refine p_boxN rfl _ rfl _ rfl (by assumption) ?_; intro g w H; try simp only [Act.put, List.setIfInBounds_toArray, List.set_cons_succ, List.set_cons_zero])
    | (refine p_allocN rfl rfl (by assumption) ?_; intro g w H; try simp only [Act.put, List.setIfInBounds_toArray, List.set_cons_succ, List.set_cons_zero])
    | (refine p_allocP rfl rfl (by assumption) ?_; intro g w H; try simp only [Act.put, List.setIfInBounds_toArray, List.set_cons_succ, List.set_cons_zero])
    | (refine p_loadN rfl _ rfl _ _ rfl (by assumption) (by (repeat (first | exact .head _ | refine .tail _ ?_))) ?_; try simp only [Act.put, List.setIfInBounds_toArray, List.set_cons_succ, List.set_cons_zero])
    | (refine p_loadP rfl _ rfl _ _ _ _ rfl (by assumption) (by (repeat (first | exact .head _ | refine .tail _ ?_))) ?_; try simp only [Act.put, List.setIfInBounds_toArray, List.set_cons_succ, List.set_cons_zero])
    | (refine p_part0 rfl _ rfl _ _ _ _ rfl (by assumption) (by (repeat (first | exact .head _ | refine .tail _ ?_))) ?_; try simp only [Act.put, List.setIfInBounds_toArray, List.set_cons_succ, List.set_cons_zero])
    | (refine p_part1 rfl _ rfl _ _ _ _ rfl (by assumption) (by (repeat (first | exact .head _ | refine .tail _ ?_))) ?_; try simp only [Act.put, List.setIfInBounds_toArray, List.set_cons_succ, List.set_cons_zero])
    | (refine p_part2 rfl _ rfl _ _ _ _ rfl (by assumption) (by (repeat (first | exact .head _ | refine .tail _ ?_))) ?_; try simp only [Act.put, List.setIfInBounds_toArray, List.set_cons_succ, List.set_cons_zero])
    | (refine p_storeN0 rfl _ _ rfl _ _ _ rfl rfl _ (by assumption) ?_; intro w H; try simp only [Act.put, List.setIfInBounds_toArray, List.set_cons_succ, List.set_cons_zero])
    | (refine p_storeN1 rfl _ _ rfl _ _ _ rfl rfl _ _ (by assumption) ?_; intro w H; try simp only [Act.put, List.setIfInBounds_toArray, List.set_cons_succ, List.set_cons_zero])
    | (refine p_storeP0 rfl _ _ rfl _ _ _ _ _ _ _ rfl rfl _ (by assumption) ?_; intro w H; try simp only [Act.put, List.setIfInBounds_toArray, List.set_cons_succ, List.set_cons_zero])
    | (refine p_build0 rfl _ rfl (by rw [Array.toList_map]; rfl) ?_; try simp only [Act.put, List.setIfInBounds_toArray, List.set_cons_succ, List.set_cons_zero])
    | (refine p_loadN_g (by rfl) _ rfl _ _ rfl (by assumption) (by (repeat (first | exact .head _ | refine .tail _ ?_))) ?_; try simp only [Act.put, List.setIfInBounds_toArray, List.set_cons_succ, List.set_cons_zero])
    | (go_at_call 54; with_reducible refine r_call (by assumption) (cI.out _) ?_; intro w H)
    | (go_at_call 55; with_reducible refine r_call (by assumption) (cN.out _) ?_; intro w H)
    | (go_at_call 41; with_reducible refine r_call (by assumption) (t1.out _) ?_; intro w H)
    | (go_at_call 39; with_reducible refine r_call (by assumption) (s1'.out _) ?_; intro w H)
    | (go_at_call 58; with_reducible refine r_call (by assumption) (cZ.out _) ?_; intro w H)
    | (refine p_storeP_fin rfl _ _ rfl _ _ _ _ _ _ _ rfl rfl (by assumption) (by (repeat (first | exact .head _ | refine .tail _ ?_))) ?_; intro w H; try simp only [Act.put, List.setIfInBounds_toArray, List.set_cons_succ, List.set_cons_zero]))
  refine wp_region_from_tail 3 (by kernel_rfl) (by kernel_rfl) ?_
  simp only [List.take_succ_cons, List.take_zero, List.drop_succ_cons, List.drop_zero]
  repeat (first
    | (go_big_quiet_want; (first
      | (refine q_loadN _ rfl _ _ _ (From.refl _) rfl (by assumption) (by (repeat (first | exact .head _ | refine .tail _ ?_))) ?_)
      | (refine q_loadP _ rfl _ _ _ _ _ (From.refl _) rfl (by assumption) (by (repeat (first | exact .head _ | refine .tail _ ?_))) ?_)
      | (refine q_part0 _ rfl _ _ _ _ _ (From.refl _) rfl (by assumption) (by (repeat (first | exact .head _ | refine .tail _ ?_))) ?_)
      | (refine q_part1 _ rfl _ _ _ _ _ (From.refl _) rfl (by assumption) (by (repeat (first | exact .head _ | refine .tail _ ?_))) ?_)
      | (refine q_part2 _ rfl _ _ _ _ _ (From.refl _) rfl (by assumption) (by (repeat (first | exact .head _ | refine .tail _ ?_))) ?_)
      | (refine q_build3 _ rfl _ _ _ (by rw [Array.toList_map]; rfl) ?_)
      | (refine q_build1 _ rfl _ (by rw [Array.toList_map]; rfl) ?_)); try simp only [Act.put, List.setIfInBounds_toArray, List.set_cons_succ, List.set_cons_zero]; go_big_quiet_on)
    | go_big_quiet_step (((first | (go_at_call 39; exact held_call _ (s0.out _)) | (go_at_call 38; exact held_call _ (mx.out _))))))
  refine wpQuiet_nil ?_
  intro w5 hw5
  have H := H.from hw5
  clear hw5
  go_wp2_with (first
    | (refine p_boxP rfl _ rfl _ _ _ rfl (by assumption) ?_; intro g w H; try simp only [Act.put, List.setIfInBounds_toArray, List.set_cons_succ, List.set_cons_zero])
    | (refine p_boxN rfl _ rfl _ rfl (by assumption) ?_; intro g w H; try simp only [Act.put, List.setIfInBounds_toArray, List.set_cons_succ, List.set_cons_zero])
    | (refine p_allocN rfl rfl (by assumption) ?_; intro g w H; try simp only [Act.put, List.setIfInBounds_toArray, List.set_cons_succ, List.set_cons_zero])
    | (refine p_allocP rfl rfl (by assumption) ?_; intro g w H; try simp only [Act.put, List.setIfInBounds_toArray, List.set_cons_succ, List.set_cons_zero])
    | (refine p_loadN rfl _ rfl _ _ rfl (by assumption) (by (repeat (first | exact .head _ | refine .tail _ ?_))) ?_; try simp only [Act.put, List.setIfInBounds_toArray, List.set_cons_succ, List.set_cons_zero])
    | (refine p_loadP rfl _ rfl _ _ _ _ rfl (by assumption) (by (repeat (first | exact .head _ | refine .tail _ ?_))) ?_; try simp only [Act.put, List.setIfInBounds_toArray, List.set_cons_succ, List.set_cons_zero])
    | (refine p_part0 rfl _ rfl _ _ _ _ rfl (by assumption) (by (repeat (first | exact .head _ | refine .tail _ ?_))) ?_; try simp only [Act.put, List.setIfInBounds_toArray, List.set_cons_succ, List.set_cons_zero])
    | (refine p_part1 rfl _ rfl _ _ _ _ rfl (by assumption) (by (repeat (first | exact .head _ | refine .tail _ ?_))) ?_; try simp only [Act.put, List.setIfInBounds_toArray, List.set_cons_succ, List.set_cons_zero])
    | (refine p_part2 rfl _ rfl _ _ _ _ rfl (by assumption) (by (repeat (first | exact .head _ | refine .tail _ ?_))) ?_; try simp only [Act.put, List.setIfInBounds_toArray, List.set_cons_succ, List.set_cons_zero])
    | (refine p_storeN0 rfl _ _ rfl _ _ _ rfl rfl _ (by assumption) ?_; intro w H; try simp only [Act.put, List.setIfInBounds_toArray, List.set_cons_succ, List.set_cons_zero])
    | (refine p_storeN1 rfl _ _ rfl _ _ _ rfl rfl _ _ (by assumption) ?_; intro w H; try simp only [Act.put, List.setIfInBounds_toArray, List.set_cons_succ, List.set_cons_zero])
    | (refine p_storeP0 rfl _ _ rfl _ _ _ _ _ _ _ rfl rfl _ (by assumption) ?_; intro w H; try simp only [Act.put, List.setIfInBounds_toArray, List.set_cons_succ, List.set_cons_zero])
    | (refine p_build0 rfl _ rfl (by rw [Array.toList_map]; rfl) ?_; try simp only [Act.put, List.setIfInBounds_toArray, List.set_cons_succ, List.set_cons_zero])
    | (refine p_loadN_g (by rfl) _ rfl _ _ rfl (by assumption) (by (repeat (first | exact .head _ | refine .tail _ ?_))) ?_; try simp only [Act.put, List.setIfInBounds_toArray, List.set_cons_succ, List.set_cons_zero])
    | (go_at_call 54; with_reducible refine r_call (by assumption) (cI.out _) ?_; intro w H)
    | (go_at_call 55; with_reducible refine r_call (by assumption) (cN.out _) ?_; intro w H)
    | (go_at_call 41; with_reducible refine r_call (by assumption) (t1.out _) ?_; intro w H)
    | (go_at_call 39; with_reducible refine r_call (by assumption) (s1'.out _) ?_; intro w H)
    | (go_at_call 37; with_reducible refine r_call (by assumption) (cA.out _) ?_; intro w H)
    | (refine p_storeP_fin rfl _ _ rfl _ _ _ _ _ _ _ rfl rfl (by assumption) (by (repeat (first | exact .head _ | refine .tail _ ?_))) ?_; intro w H; try simp only [Act.put, List.setIfInBounds_toArray, List.set_cons_succ, List.set_cons_zero]))
  exact p_ret2 Try.results32 _ rfl rfl rfl H (by (repeat (first | exact .head _ | refine .tail _ ?_)))
end Go.Proofs.Ytockcnglennihaa
