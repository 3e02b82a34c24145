/- Package field: what is reduced; powers of ones; inverses; roots.
Package field: whether two numbers are the same.
Package field: roots. -/
import Derived.Test.YtgnblaaldpniiaaGreatDoorZA3
import Derived.Deep.LoopGhost
import Derived.ChangeKeysEq
import Derived.Laws.StructEq
section
set_option linter.unusedSimpArgs false
set_option linter.unusedVariables false
set_option maxRecDepth 100000
namespace Go.Proofs.YtgnblaaldpniiaaGreatDoor
open Go.RowKit
theorem isRed_yes (x : Nat) (hx : x < big) (h : x < pF) (w : World) : Calls Tryz.prog 114 #[numV x] w fun e w' => e = .returned (.bool true) ∧ Below w.heap.size w w' := by
  have c := isReduced_any x hx w
  rw [decide_eq_true h] at c
  exact c
theorem isRed_no (x : Nat) (hx : x < big) (h : ¬ x < pF) (w : World) : Calls Tryz.prog 114 #[numV x] w fun e w' => e = .returned (.bool false) ∧ Below w.heap.size w w' := by
  have c := isReduced_any x hx w
  rw [decide_eq_false h] at c
  exact c
set_option maxHeartbeats 1000000 in
theorem reduced_any (x : Nat) (hx : x < big) (wS : World) : Calls Tryz.prog 119 #[numV x] wS (NP (x % pF) wS) := by
  have H := Mem.start wS
  have hx3 : x < (2 + 1) * pF := by have := big_p; have h2 : 38 < pF := by decide +kernel
                                    omega
  rw [numV_eq]
  go_enter Tryz.func119, Tryz.ntmps119
  go_wp2_with (first
    | (refine mem_box rfl _ rfl _ rfl (by assumption) ?_; intro g w H; try simp only [Act.put, yI, yC, yZ])
    | (refine mem_alloc rfl rfl (by assumption) ?_; intro g w H; try simp only [Act.put, yI, yC, yZ]))
  rename_i gb _ _ K _
  go_loopg [] 2 (fun k wr => ∃ y, y < big ∧ y < (k + 1) * pF ∧ Kept (y % pF = x % pF) ∧ Mem wS wr [(g, 0), (gb, y)])
  case atStart => exact ⟨x, hx, hx3, ⟨rfl⟩, H⟩
  case round =>
    clear H hx3
    obtain ⟨y, hyb, hyk, HY, H⟩ := hrel
    by_cases hr : y < pF
    · have hres := HY.out
      rw [Nat.mod_eq_of_lt hr] at hres
      replace hres := Kept.mk hres
      have cR := Kept.mk fun w => isRed_yes y hyb hr w
      clear hyb hyk hr
      go_wp2_with (first
        | (refine mem_load rfl _ rfl _ _ rfl (by assumption) (by (repeat (first | exact .head _ | refine .tail _ ?_))) ?_; try simp only [Act.put, yI, yC, yZ])
        | (refine mem_store0 rfl _ _ rfl _ _ _ rfl rfl _ (by assumption) ?_; intro w H; try simp only [Act.put, yI, yC, yZ])
        | (refine mem_store1 rfl _ _ rfl _ _ _ rfl rfl _ _ (by assumption) ?_; intro w H; try simp only [Act.put, yI, yC, yZ])
        | (go_at_call 114; refine mem_call (by assumption) (cR.out _) ?_; intro w H))
      rw [← hres.out]
      exact mem_ret Tryz.results119 _ rfl rfl (by assumption) (by (repeat (first | exact .head _ | refine .tail _ ?_)))
    · obtain ⟨k, rfl⟩ : ∃ k, gk = k + 1 := by
        cases gk with
        | zero => rw [Nat.zero_add, Nat.one_mul] at hyk; exact absurd hyk hr
        | succ k => exact ⟨k, rfl⟩
      have cR := Kept.mk fun w => isRed_no y hyb hr w
      have cd := Kept.mk fun w => diffN_any y pF hyb (Nat.not_lt.1 hr) w
      have n1 : y - pF < big := by omega
      have n2 : y - pF < (k + 1) * pF := by rw [Nat.add_mul (k + 1), Nat.one_mul] at hyk; omega
      have n3 : (y - pF) % pF = x % pF := by
        have h := HY.out
        rw [← Nat.sub_add_cancel (Nat.not_lt.1 hr), Nat.add_mod_right] at h
        exact h
      replace n3 := Kept.mk n3
      clear hyb hyk hr HY
      go_wp2_with (first
        | (refine mem_load rfl _ rfl _ _ rfl (by assumption) (by (repeat (first | exact .head _ | refine .tail _ ?_))) ?_; try simp only [Act.put, yI, yC, yZ])
        | (refine mem_store0 rfl _ _ rfl _ _ _ rfl rfl _ (by assumption) ?_; intro w H; try simp only [Act.put, yI, yC, yZ])
        | (go_at_call 114; refine mem_call (by assumption) (cR.out _) ?_; intro w H))
      refine wp_region_from_tail 3 (by kernel_rfl) (by kernel_rfl) ?_
      simp only [List.take_succ_cons, List.take_zero, List.drop_succ_cons, List.drop_zero]
      repeat (first
        | (go_big_quiet_want; (refine mem_quiet_load _ rfl _ _ rfl (by assumption) (by (repeat (first | exact .head _ | refine .tail _ ?_))) ?_); try simp only [Act.put, yI, yC, yZ]; go_big_quiet_on)
        | go_big_quiet_step (((first | (go_at_call 127; exact held_call _ (prime_any _)) | (go_at_call 129; exact held_call _ (cd.out _))))))
      refine wpQuiet_nil ?_
      intro w5 hw5
      have H := mem_from H hw5
      clear hw5
      go_wp2_with (first
        | (refine mem_store1 rfl _ _ rfl _ _ _ rfl rfl _ _ (by assumption) ?_; intro w H; try simp only [Act.put, yI, yC, yZ]))
      go_roundg k
      case rel => exact ⟨y - pF, n1, n2, n3, H⟩
      case measure => omega
def onesN (n : Nat) : Nat → Nat
  | c => if h : c ≤ 1 then n else
    bif c % 2 == 1 then prodN (sqN (prodN (sqN (onesN n (c / 2)) (c / 2)) (onesN n (c / 2))) 1) n else prodN (sqN (onesN n (c / 2)) (c / 2)) (onesN n (c / 2))
termination_by c => c
decreasing_by all_goals omega
set_option maxHeartbeats 1000000 in
theorem ones_any (n : Nat) : ∀ (c : Nat), 1 ≤ c → c ≤ 1000 → ∀ (wS : World), Calls Tryz.prog 131 #[numV n, .int .i64 (c : Int)] wS (NP (onesN n c) wS) := by
  intro c
  induction c using Nat.strongRecOn with
  | _ c ih =>
    intro h1 h2 wS
    have H := Mem.start wS
    by_cases hc : c = 1
    · subst hc
      have e : onesN n 1 = n := by rw [onesN, dif_pos (by omega)]
      rw [e, show ((1 : Nat) : Int) = 1 from rfl, numV_eq]
      clear ih e h1 h2
      go_enter Tryz.func131, Tryz.ntmps131
      go_wp2_with (first
        | (refine mem_box rfl _ rfl _ rfl (by assumption) ?_; intro g w H; try simp only [Act.put, yI, yC, yZ])
        | (refine mem_alloc rfl rfl (by assumption) ?_; intro g w H; try simp only [Act.put, yI, yC, yZ])
        | (refine mem_load rfl _ rfl _ _ rfl (by assumption) (by (repeat (first | exact .head _ | refine .tail _ ?_))) ?_; try simp only [Act.put, yI, yC, yZ])
        | (refine mem_store0 rfl _ _ rfl _ _ _ rfl rfl _ (by assumption) ?_; intro w H; try simp only [Act.put, yI, yC, yZ]))
      exact mem_ret Tryz.results131 _ rfl rfl (by assumption) (by (repeat (first | exact .head _ | refine .tail _ ?_)))
    · obtain ⟨k, hk⟩ : ∃ k, c / 2 = k := ⟨_, rfl⟩
      have hq : (c : Int) / 2 = (k : Int) := by omega
      have hn1 : ((c : Int) == 1) = false := by simp; omega
      have hcl : (0 : Int) ≤ (c : Int) := by omega
      have hcu : (c : Int) ≤ 1000 := by omega
      have cO := Kept.mk (ih k (by omega) (by omega) (by omega))
      have cS := Kept.mk fun x w => squared_any x k (by omega) w
      have c1 := Kept.mk fun x w => squared_any x 1 (by omega) w
      rw [show ((1 : Nat) : Int) = 1 from rfl] at c1
      by_cases ho : c % 2 = 1
      · have hr : (c : Int) % 2 = 1 := by omega
        have e : onesN n c = prodN (sqN (prodN (sqN (onesN n k) k) (onesN n k)) 1) n := by
          rw [onesN, dif_neg (by omega), hk, show (c % 2 == 1) = true by simp [ho]]; rfl
        rw [e, numV_eq]
        clear ih e h1 h2 hc
        replace hk := Kept.mk hk
        replace ho := Kept.mk ho
        go_enter Tryz.func131, Tryz.ntmps131
        go_wp2_with (first
          | (refine mem_box rfl _ rfl _ rfl (by assumption) ?_; intro g w H; try simp only [Act.put, yI, yC, yZ])
          | (refine mem_alloc rfl rfl (by assumption) ?_; intro g w H; try simp only [Act.put, yI, yC, yZ])
          | (refine mem_load rfl _ rfl _ _ rfl (by assumption) (by (repeat (first | exact .head _ | refine .tail _ ?_))) ?_; try simp only [Act.put, yI, yC, yZ])
          | (refine mem_store0 rfl _ _ rfl _ _ _ rfl rfl _ (by assumption) ?_; intro w H; try simp only [Act.put, yI, yC, yZ])
          | (go_at_call 131; refine mem_call (by assumption) (cO.out _) ?_; intro w H))
        refine wp_region_from_alloc 7 6 _ 118 (numA 0) rfl rfl rfl zero_num (by kernel_rfl) (by kernel_rfl) ?_
        apply Exists.intro
        refine And.intro ?_ (And.intro ?_ ?_)
        · intro u hu x
          have H := mem_from H hu
          simp only [List.take_succ_cons, List.take_zero, List.eraseIdx_cons_succ, List.eraseIdx_cons_zero, Act.put, yI, yC, yZ]
          repeat (first
            | (go_big_quiet_want; (refine mem_quiet_load_u _ rfl _ _ rfl (by assumption) (by (repeat (first | exact .head _ | refine .tail _ ?_))) ?_); try simp only [Act.put, yI, yC, yZ]; go_big_quiet_on)
            | go_big_quiet_step (((first | (go_at_call 130; exact held_call _ (cS.out _ _)) | (go_at_call 122; exact held_call _ (prodN_any _ _ _))))))
          exact wpQuiet_nil rfl
        · exact fun _ => rfl
        intro x w5 hw5 hF
        have H := H.extra hw5 hF
        simp only [List.drop_succ_cons, List.drop_zero]
        go_wp2_with (first
          | (refine mem_store0 rfl _ _ rfl _ _ _ rfl rfl _ (by assumption) ?_; intro w H; try simp only [Act.put, yI, yC, yZ]))
        refine wp_region_from_tail 4 (by kernel_rfl) (by kernel_rfl) ?_
        simp only [List.take_succ_cons, List.take_zero, List.drop_succ_cons, List.drop_zero]
        repeat (first
          | (go_big_quiet_want; (refine mem_quiet_load _ rfl _ _ rfl (by assumption) (by (repeat (first | exact .head _ | refine .tail _ ?_))) ?_); try simp only [Act.put, yI, yC, yZ]; go_big_quiet_on)
          | go_big_quiet_step (((first | (go_at_call 130; exact held_call _ (c1.out _ _)) | (go_at_call 122; exact held_call _ (prodN_any _ _ _))))))
        refine wpQuiet_nil ?_
        intro w5 hw5
        have H := mem_from H hw5
        clear hw5
        go_wp2_with (first
          | (refine mem_load rfl _ rfl _ _ rfl (by assumption) (by (repeat (first | exact .head _ | refine .tail _ ?_))) ?_; try simp only [Act.put, yI, yC, yZ])
          | (refine mem_store0 rfl _ _ rfl _ _ _ rfl rfl _ (by assumption) ?_; intro w H; try simp only [Act.put, yI, yC, yZ])
          | (refine mem_store2 rfl _ _ rfl _ _ _ rfl rfl _ _ _ (by assumption) ?_; intro w H; try simp only [Act.put, yI, yC, yZ]))
        exact mem_ret Tryz.results131 _ rfl rfl (by assumption) (by (repeat (first | exact .head _ | refine .tail _ ?_)))
      · have hr : (c : Int) % 2 = 0 := by omega
        have e : onesN n c = prodN (sqN (onesN n k) k) (onesN n k) := by
          rw [onesN, dif_neg (by omega), hk, show (c % 2 == 1) = false by simp; omega]; rfl
        rw [e, numV_eq]
        clear ih e h1 h2 hc
        replace hk := Kept.mk hk
        replace ho := Kept.mk ho
        go_enter Tryz.func131, Tryz.ntmps131
        go_wp2_with (first
          | (refine mem_box rfl _ rfl _ rfl (by assumption) ?_; intro g w H; try simp only [Act.put, yI, yC, yZ])
          | (refine mem_alloc rfl rfl (by assumption) ?_; intro g w H; try simp only [Act.put, yI, yC, yZ])
          | (refine mem_load rfl _ rfl _ _ rfl (by assumption) (by (repeat (first | exact .head _ | refine .tail _ ?_))) ?_; try simp only [Act.put, yI, yC, yZ])
          | (refine mem_store0 rfl _ _ rfl _ _ _ rfl rfl _ (by assumption) ?_; intro w H; try simp only [Act.put, yI, yC, yZ])
          | (go_at_call 131; refine mem_call (by assumption) (cO.out _) ?_; intro w H))
        refine wp_region_from_alloc 7 6 _ 118 (numA 0) rfl rfl rfl zero_num (by kernel_rfl) (by kernel_rfl) ?_
        apply Exists.intro
        refine And.intro ?_ (And.intro ?_ ?_)
        · intro u hu x
          have H := mem_from H hu
          simp only [List.take_succ_cons, List.take_zero, List.eraseIdx_cons_succ, List.eraseIdx_cons_zero, Act.put, yI, yC, yZ]
          repeat (first
            | (go_big_quiet_want; (refine mem_quiet_load_u _ rfl _ _ rfl (by assumption) (by (repeat (first | exact .head _ | refine .tail _ ?_))) ?_); try simp only [Act.put, yI, yC, yZ]; go_big_quiet_on)
            | go_big_quiet_step (((first | (go_at_call 130; exact held_call _ (cS.out _ _)) | (go_at_call 122; exact held_call _ (prodN_any _ _ _))))))
          exact wpQuiet_nil rfl
        · exact fun _ => rfl
        intro x w5 hw5 hF
        have H := H.extra hw5 hF
        simp only [List.drop_succ_cons, List.drop_zero]
        go_wp2_with (first
          | (refine mem_load rfl _ rfl _ _ rfl (by assumption) (by (repeat (first | exact .head _ | refine .tail _ ?_))) ?_; try simp only [Act.put, yI, yC, yZ])
          | (refine mem_store0 rfl _ _ rfl _ _ _ rfl rfl _ (by assumption) ?_; intro w H; try simp only [Act.put, yI, yC, yZ])
          | (refine mem_store2 rfl _ _ rfl _ _ _ rfl rfl _ _ _ (by assumption) ?_; intro w H; try simp only [Act.put, yI, yC, yZ]))
        exact mem_ret Tryz.results131 _ rfl rfl (by assumption) (by (repeat (first | exact .head _ | refine .tail _ ?_)))
set_option maxHeartbeats 1000000 in
theorem inverse_any (n : Nat) (wS : World) : Calls Tryz.prog 121 #[numV n] wS (NP (prodN (sqN (onesN n 250) 5) (prodN (sqN (prodN (sqN n 2) n) 1) n)) wS) := by
  have H := Mem.start wS
  have c1 := Kept.mk fun x w => squared_any x 1 (by omega) w
  have c2 := Kept.mk fun x w => squared_any x 2 (by omega) w
  have c5 := Kept.mk fun x w => squared_any x 5 (by omega) w
  have cO := Kept.mk fun w => ones_any n 250 (by omega) (by omega) w
  rw [show ((1 : Nat) : Int) = 1 from rfl] at c1
  rw [show ((2 : Nat) : Int) = 2 from rfl] at c2
  rw [show ((5 : Nat) : Int) = 5 from rfl] at c5
  rw [show ((250 : Nat) : Int) = 250 from rfl] at cO
  rw [numV_eq]
  go_enter Tryz.func121, Tryz.ntmps121
  go_wp2_with (first
    | (refine mem_box rfl _ rfl _ rfl (by assumption) ?_; intro g w H; try simp only [Act.put, yI, yC, yZ])
    | (refine mem_alloc rfl rfl (by assumption) ?_; intro g w H; try simp only [Act.put, yI, yC, yZ]))
  refine wp_region_from_alloc 5 4 _ 118 (numA 0) rfl rfl rfl zero_num (by kernel_rfl) (by kernel_rfl) ?_
  apply Exists.intro
  refine And.intro ?_ (And.intro ?_ ?_)
  · intro u hu x
    have H := mem_from H hu
    simp only [List.take_succ_cons, List.take_zero, List.eraseIdx_cons_succ, List.eraseIdx_cons_zero, Act.put, yI, yC, yZ]
    repeat (first
      | (go_big_quiet_want; (refine mem_quiet_load_u _ rfl _ _ rfl (by assumption) (by (repeat (first | exact .head _ | refine .tail _ ?_))) ?_); try simp only [Act.put, yI, yC, yZ]; go_big_quiet_on)
      | go_big_quiet_step (((first | (go_at_call 130; exact held_call _ (c2.out _ _)) | (go_at_call 122; exact held_call _ (prodN_any _ _ _))))))
    exact wpQuiet_nil rfl
  · exact fun _ => rfl
  intro x w5 hw5 hF
  have H := H.extra hw5 hF
  simp only [List.drop_succ_cons, List.drop_zero]
  go_wp2_with (first
    | (refine mem_store0 rfl _ _ rfl _ _ _ rfl rfl _ (by assumption) ?_; intro w H; try simp only [Act.put, yI, yC, yZ]))
  refine wp_region_from_alloc 5 4 _ 118 (numA 0) rfl rfl rfl zero_num (by kernel_rfl) (by kernel_rfl) ?_
  apply Exists.intro
  refine And.intro ?_ (And.intro ?_ ?_)
  · intro u hu x
    have H := mem_from H hu
    simp only [List.take_succ_cons, List.take_zero, List.eraseIdx_cons_succ, List.eraseIdx_cons_zero, Act.put, yI, yC, yZ]
    repeat (first
      | (go_big_quiet_want; (refine mem_quiet_load_u _ rfl _ _ rfl (by assumption) (by (repeat (first | exact .head _ | refine .tail _ ?_))) ?_); try simp only [Act.put, yI, yC, yZ]; go_big_quiet_on)
      | go_big_quiet_step (((first | (go_at_call 130; exact held_call _ (c1.out _ _)) | (go_at_call 122; exact held_call _ (prodN_any _ _ _))))))
    exact wpQuiet_nil rfl
  · exact fun _ => rfl
  intro x w5 hw5 hF
  have H := H.extra hw5 hF
  simp only [List.drop_succ_cons, List.drop_zero]
  go_wp2_with (first
    | (refine mem_store0 rfl _ _ rfl _ _ _ rfl rfl _ (by assumption) ?_; intro w H; try simp only [Act.put, yI, yC, yZ]))
  refine wp_region_from_tail 5 (by kernel_rfl) (by kernel_rfl) ?_
  simp only [List.take_succ_cons, List.take_zero, List.drop_succ_cons, List.drop_zero]
  repeat (first
    | (go_big_quiet_want; (refine mem_quiet_load _ rfl _ _ rfl (by assumption) (by (repeat (first | exact .head _ | refine .tail _ ?_))) ?_); try simp only [Act.put, yI, yC, yZ]; go_big_quiet_on)
    | go_big_quiet_step (((first | (go_at_call 131; exact held_call _ (cO.out _)) | (go_at_call 130; exact held_call _ (c5.out _ _)) | (go_at_call 122; exact held_call _ (prodN_any _ _ _))))))
  refine wpQuiet_nil ?_
  intro w5 hw5
  have H := mem_from H hw5
  clear hw5
  go_wp2_with (first
    | (refine mem_store2 rfl _ _ rfl _ _ _ rfl rfl _ _ _ (by assumption) ?_; intro w H; try simp only [Act.put, yI, yC, yZ]))
  exact mem_ret Tryz.results121 _ rfl rfl (by assumption) (by (repeat (first | exact .head _ | refine .tail _ ?_)))
end Go.Proofs.YtgnblaaldpniiaaGreatDoor
end
section
set_option linter.unusedVariables false
set_option maxRecDepth 100000
set_option linter.unusedSimpArgs false
namespace Go.Proofs.YtgnblaaldpniiaaGreatDoor
open Go.RowKit
theorem cells33 : Tryz.prog.cellsOf 85 = 1 := by kernel_rfl
theorem plain33 : Tryz.prog.plainKey 85 = true := by kernel_rfl
theorem eq_u32 (d : Nat) (x y : Int) (w : World) : (Op.equalIn (d + 1) 85 (.int .u32 x) (.int .u32 y)).run Tryz.prog w = .ok (x == y) w := by
  simp only [Op.equalIn, Sem.run_bind, run_underlying Tryz.underlying85, Result.andThen_ok, if_true, Sem.run_pure]
theorem eqItems_num (d : Nat) (a b : List Nat) (hl : a.length = b.length) (w : World) : ∀ (m k : Nat), k + m = a.length →
    (Op.eqItems (d + 1) 85 (Tryz.prog.cellsOf 85) (numC .u32 a).toArray (numC .u32 b).toArray (List.range' k m)).run Tryz.prog w = .ok (decide (a.drop k = b.drop k)) w
  | 0, k, h => by
    rw [List.range'_zero, Op.eqItems, List.drop_eq_nil_of_le (by omega), List.drop_eq_nil_of_le (by omega)]
    rfl
  | m + 1, k, h => by
    have hka : (numC .u32 a).toArray[k * 1]? = some (.int .u32 (a.getD k 0 : Nat)) := by
      rw [Nat.mul_one]; simp [numC, show k < a.length by omega]
    have hkb : (numC .u32 b).toArray[k * 1]? = some (.int .u32 (b.getD k 0 : Nat)) := by
      rw [Nat.mul_one]; simp [numC, show k < b.length by omega]
    have ih := eqItems_num d a b hl w m (k + 1) (by omega)
    rw [cells33] at ih ⊢
    rw [List.range'_succ]
    simp only [Op.eqItems, Sem.run_bind, run_part_plain w plain33 hka, run_part_plain w plain33 hkb, eq_u32, Result.andThen_ok]
    rw [drop_getD a k (by omega), drop_getD b k (by omega)]
    generalize a.getD k 0 = p
    generalize b.getD k 0 = q
    by_cases he : p = q
    · rw [show ((p : Int) == (q : Int)) = true by rw [he]; simp]
      simp only [Bool.not_true, Bool.false_eq_true, if_false]
      rw [ih]
      congr 1
      simp [he]
    · rw [show ((p : Int) == (q : Int)) = false by simp; omega]
      simp only [Bool.not_false, if_true, Sem.run_pure]
      congr 1
      simp only [List.cons.injEq, he, false_and, decide_false]
theorem equal_num (x y : Nat) (hx : x < big) (hy : y < big) (w : World) : (Op.equal 118 (.agg (numA x)) (.agg (numA y))).run Tryz.prog w = .ok (decide (x = y)) w := by
  obtain ⟨i, hi⟩ : ∃ i, Tryz.prog.info? 85 = some i := by
    have h : (Tryz.prog.info? 85).isSome = true := by kernel_rfl
    exact Option.isSome_iff_exists.1 h
  unfold Op.equal
  rw [show Op.maxDepth = 9998 + 1 + 1 from rfl, run_equalIn_array w (9998 + 1) (n := 8) (e := 85) (numA x) (numA y) Tryz.underlying118 hi]
  have h := eqItems_num 9998 (nL x) (nL y) (by rw [nL_len, nL_len]) w 8 0 (by rw [nL_len])
  rw [List.range_eq_range']
  unfold numA
  rw [h]
  congr 1
  rw [List.drop_zero, List.drop_zero, decide_eq_decide]
  constructor
  · intro h
    rw [← nL_val x hx, ← nL_val y hy, h]
  · intro h; rw [h]
theorem run_neq_num (x y : Nat) (hx : x < big) (hy : y < big) (w : World) : (binOp .neq 118 (.agg (numA x)) (.agg (numA y))).run Tryz.prog w = .ok (.bool (!decide (x = y))) w := by
  unfold binOp
  simp only [Sem.run_bind, equal_num x y hx hy, Result.andThen_ok, Sem.run_pure]
theorem quiet_neq_num {o : Oper} {a : Act} {C : World → Prop} {K : Act → Prop} (x y : Operand) (rt : TypeId) (ho : o.op = .binOp .neq 118 x y rt) (m n : Nat) (hx : a.eval x = .agg (numA m)) (hy : a.eval y = .agg (numA n)) (hm : m < big) (hn : n < big)
    (h : K (a.put o.dst (.bool (!decide (m = n))))) : o.quiet Tryz.prog a C K := by
  refine ⟨.bool (!decide (m = n)), fun w _ => ?_, h⟩
  unfold Oper.quietAt execOp
  simp only [ho, hx, hy]
  have hg := fun x y => run_eqGuard_agg (P := Tryz.prog) w .neq 118 x y (numA m) (numA n) (by kernel_rfl)
  simp only [Sem.run_bind, hg, Result.andThen_ok, run_neq_num m n hm hn, Sem.run_pure]
  exact ⟨rfl, rfl⟩
section
variable {ops : Array Oper} {rest : List Oper} {o : Oper} {a : Act} {w0 w : World} {Q : Exit → Act → World → Prop} {L : List (Nat × Nat)}
theorem built_num : Tryz.prog.built 118 [] = some (numA 0) := by kernel_rfl
theorem mem_build (hg : o.guard = none) (ho : o.op = .build 118 #[]) (h : wpList Tryz.prog ops Q rest (a.put o.dst (.agg (numA 0))) w) : wpList Tryz.prog ops Q (o :: rest) a w :=
  wpList_build hg 118 #[] ho (by rw [Array.map_empty, built_num]; rfl) (by rw [Array.map_empty, built_num]; exact h)
theorem mem_ret2 {R : Ending → World → Prop} {fn : Func} {p q : Tmp} {x : Nat} {v : Value} {g : Nat} (hr : fn.results = #[.cell p 118, .tmp q]) (a : Act) (hp : a.tmps.getD p undef = .pointer (some ⟨g, 0, none⟩)) (hq : a.tmps.getD q undef = v) (hd : a.defers = []) (H : Mem w0 w L) (hm : (g, x) ∈ L)
    (h : R (.returned (.tuple #[.agg (numA x), v])) w) : bodyPost Tryz.prog fn R .ret a w := by
  have hp' : a.tmps[p]?.getD undef = .pointer (some ⟨g, 0, none⟩) := by simpa using hp
  have hq' : a.tmps[q]?.getD undef = v := by simpa using hq
  have hl := run_loadVar_row (P := Tryz.prog) w g 118 118 (numA x) (0, 0) _ (H.holds g x hm) Tryz.underlying118 rfl (numA_info x)
  refine bodyPost_ret (v := .tuple #[.agg (numA x), v]) ?_ hd h
  simp [results, hr, hp', hq', asAddr, hl]
theorem mem_ret3 {R : Ending → World → Prop} {fn : Func} {p r q : Tmp} {x y : Nat} {v : Value} {g g' : Nat} (hr : fn.results = #[.cell p 118, .cell r 118, .tmp q]) (a : Act) (hp : a.tmps.getD p undef = .pointer (some ⟨g, 0, none⟩)) (hp2 : a.tmps.getD r undef = .pointer (some ⟨g', 0, none⟩)) (hq : a.tmps.getD q undef = v) (hd : a.defers = []) (H : Mem w0 w L) (hm : (g, x) ∈ L) (hm2 : (g', y) ∈ L)
    (h : R (.returned (.tuple #[.agg (numA x), .agg (numA y), v])) w) : bodyPost Tryz.prog fn R .ret a w := by
  have hp' : a.tmps[p]?.getD undef = .pointer (some ⟨g, 0, none⟩) := by simpa using hp
  have hp2' : a.tmps[r]?.getD undef = .pointer (some ⟨g', 0, none⟩) := by simpa using hp2
  have hq' : a.tmps[q]?.getD undef = v := by simpa using hq
  have hl := run_loadVar_row (P := Tryz.prog) w g 118 118 (numA x) (0, 0) _ (H.holds g x hm) Tryz.underlying118 rfl (numA_info x)
  have hl2 := run_loadVar_row (P := Tryz.prog) w g' 118 118 (numA y) (0, 0) _ (H.holds g' y hm2) Tryz.underlying118 rfl (numA_info y)
  refine bodyPost_ret (v := .tuple #[.agg (numA x), .agg (numA y), v]) ?_ hd h
  simp [results, hr, hp', hp2', hq', asAddr, hl, hl2]
end
end Go.Proofs.YtgnblaaldpniiaaGreatDoor
end
section
set_option linter.unusedSimpArgs false
set_option linter.unusedVariables false
set_option maxRecDepth 100000
namespace Go.Proofs.YtgnblaaldpniiaaGreatDoor
open Go.RowKit
theorem sq1_big (x : Nat) : sqN x 1 < big := prodN_lt _ _
def r0N (n : Nat) : Nat := sqN (onesN n 251) 1
def r1N (n : Nat) : Nat := if sqN (r0N n) 1 % pF = n then r0N n else prodN (r0N n) iF
def evenN (r : Nat) : Nat := if r % 2 = 1 then pF - r else r
def RootPost (n : Nat) (w : World) (e : Ending) (w' : World) : Prop :=
  e = .returned (if sqN (r1N n) 1 % pF = n then .tuple #[numV (evenN (r1N n % pF)), .bool true] else .tuple #[numV 0, .bool false]) ∧ Below w.heap.size w w'
theorem r1_big (n : Nat) : r1N n < big := by
  unfold r1N
  split
  · exact prodN_lt _ _
  · exact prodN_lt _ _
theorem arr_of {w0 w : World} {L : List (Nat × Nat)} {g x : Nat} (H : Mem w0 w L) (hm : (g, x) ∈ L) : Arr w g 118 .u32 (nL x) := ⟨H.holds g x hm⟩
theorem low_limb (x : Nat) : (nL x).getD 0 0 = x % 4294967296 := rfl
theorem limb0 {w0 w : World} {L : List (Nat × Nat)} {g x l0 : Nat} (H : Mem w0 w ((g, x) :: L)) (hl : x % 4294967296 = l0) : w.cell? ⟨g, 0, none⟩ = some (.int .u32 (l0 : Int)) := by
  have h := (arr_of H (.head _)).cell 0 (by rw [nL_len]; omega)
  rw [h, low_limb, hl]
set_option maxHeartbeats 4000000 in
theorem root_any (n : Nat) (hn : n < pF) (wS : World) : Calls Tryz.prog 128 #[numV n] wS (RootPost n wS) := by
  have H := Mem.start wS
  have hnb := Kept.mk (show n < big from Nat.lt_trans hn p_big)
  have c1 := Kept.mk fun x w => squared_any x 1 (by omega) w
  have cO := Kept.mk fun w => ones_any n 251 (by omega) (by omega) w
  rw [show ((1 : Nat) : Int) = 1 from rfl] at c1
  rw [show ((251 : Nat) : Int) = 251 from rfl] at cO
  have hR : RootPost n wS = RootPost n wS := rfl
  obtain ⟨R, hRd⟩ : ∃ R, RootPost n wS = R := ⟨_, rfl⟩
  rw [hRd]
  have hr0 : sqN (onesN n 251) 1 = r0N n := rfl
  clear hR hn
  replace hRd := Kept.mk hRd
  obtain ⟨r0, hr0e⟩ : ∃ r0, r0N n = r0 := ⟨_, rfl⟩
  rw [hr0e] at hr0
  have cr := Kept.mk fun w => ones_any n 251 (by omega) (by omega) w
  have c1' := c1.out (onesN n 251)
  rw [hr0] at c1'
  replace c1' := Kept.mk c1'
  replace hr0e := Kept.mk hr0e
  clear hr0
  rw [numV_eq]
  go_enter Tryz.func128, Tryz.ntmps128
  go_wp2_with (first
    | (refine mem_box rfl _ rfl _ rfl (by assumption) ?_; intro g w H; try simp only [Act.put, yI, yC, yZ])
    | (refine mem_alloc rfl rfl (by assumption) ?_; intro g w H; try simp only [Act.put, yI, yC, yZ])
    | (refine mem_load rfl _ rfl _ _ rfl (by assumption) (by (repeat (first | exact .head _ | refine .tail _ ?_))) ?_; try simp only [Act.put, yI, yC, yZ])
    | (refine mem_store0 rfl _ _ rfl _ _ _ rfl rfl _ (by assumption) ?_; intro w H; try simp only [Act.put, yI, yC, yZ])
    | (go_at_call 131; refine mem_call (by assumption) (cO.out _) ?_; intro w H)
    | (go_at_call 130; refine mem_call (by assumption) (c1'.out _) ?_; intro w H))
  obtain ⟨s0, hs0⟩ : ∃ s, sqN r0 1 % pF = s := ⟨_, rfl⟩
  have hs0b : s0 < big := hs0 ▸ Nat.lt_trans (Nat.mod_lt _ (by decide +kernel)) p_big
  have cR0 := Kept.mk fun w => reduced_any (sqN r0 1) (sq1_big r0) w
  rw [hs0] at cR0
  have hb := Kept.mk hs0b
  clear hs0b c1'
  by_cases h0 : s0 = n
  · have hd0 : (!decide (s0 = n)) = false := by simp [h0]
    have hr1 : r1N n = r0 := by unfold r1N; rw [hr0e.out, hs0, if_pos h0]
    have hq1 : sqN (r1N n) 1 % pF = n := by rw [hr1, hs0, h0]
    replace hs0 := Kept.mk hs0
    replace hr1 := Kept.mk hr1
    replace hq1 := Kept.mk hq1
    replace h0 := Kept.mk h0
    refine wp_region_from (by kernel_rfl) (by kernel_rfl) ?_
    repeat (first
      | (go_big_quiet_want; (refine mem_quiet_load _ rfl _ _ rfl (by assumption) (by (repeat (first | exact .head _ | refine .tail _ ?_))) ?_); try simp only [Act.put, yI, yC, yZ]; go_big_quiet_on)
      | (go_big_quiet_want; (refine quiet_neq_num _ _ _ rfl _ _ rfl rfl (hb.out) (hnb.out) ?_); rw [hd0]; try simp only [Act.put, yI, yC, yZ]; go_big_quiet_on)
      | go_big_quiet_step (((first | (go_at_call 130; exact held_call _ (c1.out _ _)) | (go_at_call 119; exact held_call _ (cR0.out _))))))
    refine wpQuiet_nil ?_
    intro w5 hw5
    have H := mem_from H hw5
    clear hw5
    go_wp2_with (first
      | (refine mem_box rfl _ rfl _ rfl (by assumption) ?_; intro g w H; try simp only [Act.put, yI, yC, yZ]))
    have hrb := Kept.mk (show r0 < big from hr0e.out ▸ sq1_big (onesN n 251))
    clear hb
    obtain ⟨s1, hs1⟩ : ∃ s, sqN r0 1 % pF = s := ⟨_, rfl⟩
    have hb := Kept.mk (show s1 < big from hs1 ▸ Nat.lt_trans (Nat.mod_lt _ (by decide +kernel)) p_big)
    have cR1 := Kept.mk fun w => reduced_any (sqN r0 1) (sq1_big r0) w
    rw [hs1] at cR1
    by_cases h1 : s1 = n
    · have hd1 : (!decide (s1 = n)) = false := by simp [h1]
      have hq1 : sqN (r1N n) 1 % pF = n := by rw [hr1.out, hs1, h1]
      obtain ⟨t, ht⟩ : ∃ t, r0 % pF = t := ⟨_, rfl⟩
      have htp : t < pF := ht ▸ Nat.mod_lt _ (by decide +kernel)
      have cRt := Kept.mk fun w => reduced_any r0 hrb.out w
      rw [ht] at cRt
      have cN := Kept.mk fun w => negated_any t (Nat.le_of_lt htp) w
      obtain ⟨l0, hl0⟩ : ∃ l, t % 4294967296 = l := ⟨_, rfl⟩
      have hl0b : l0 < 4294967296 := hl0 ▸ Nat.mod_lt _ (by decide)
      clear htp
      replace hs1 := Kept.mk hs1
      replace h1 := Kept.mk h1
      replace hq1 := Kept.mk hq1
      replace ht := Kept.mk ht
      by_cases hpar : t % 2 = 1
      · have hp0 : (l0 : Int) % 2 = 1 := by omega
        have hres : evenN (r1N n % pF) = pF - t := by rw [hr1.out, ht.out]; unfold evenN; rw [if_pos hpar]
        replace hl0 := Kept.mk hl0
        replace hpar := Kept.mk hpar
        replace hres := Kept.mk hres
        refine wp_region_from (by kernel_rfl) (by kernel_rfl) ?_
        repeat (first
          | (go_big_quiet_want; (refine mem_quiet_load _ rfl _ _ rfl (by assumption) (by (repeat (first | exact .head _ | refine .tail _ ?_))) ?_); try simp only [Act.put, yI, yC, yZ]; go_big_quiet_on)
          | (go_big_quiet_want; (refine quiet_neq_num _ _ _ rfl _ _ rfl rfl (hb.out) (hnb.out) ?_); rw [hd1]; try simp only [Act.put, yI, yC, yZ]; go_big_quiet_on)
          | go_big_quiet_step (((first | (go_at_call 130; exact held_call _ (c1.out _ _)) | (go_at_call 119; exact held_call _ (cR1.out _))))))
        refine wpQuiet_nil ?_
        intro w5 hw5
        have H := mem_from H hw5
        clear hw5
        go_wp2_with (first
          | (refine mem_store0 rfl _ _ rfl _ _ _ rfl rfl _ (by assumption) ?_; intro w H; have hc := limb0 H hl0.out; try simp only [Act.put, yI, yC, yZ])
          | (refine mem_load rfl _ rfl _ _ rfl (by assumption) (by (repeat (first | exact .head _ | refine .tail _ ?_))) ?_; try simp only [Act.put, yI, yC, yZ])
          | (refine mem_store0 rfl _ _ rfl _ _ _ rfl rfl _ (by assumption) ?_; intro w H; try simp only [Act.put, yI, yC, yZ])
          | (refine mem_store1 rfl _ _ rfl _ _ _ rfl rfl _ _ (by assumption) ?_; intro w H; try simp only [Act.put, yI, yC, yZ])
          | (go_at_call 119; refine mem_call (by assumption) (cRt.out _) ?_; intro w H)
          | (go_at_call 118; refine mem_call (by assumption) (cN.out _) ?_; intro w H))
        refine mem_ret2 Tryz.results128 _ rfl rfl rfl (by assumption) (by (repeat (first | exact .head _ | refine .tail _ ?_))) ?_
        rw [← hRd.out]
        exact ⟨by rw [if_pos hq1.out, hres.out]; rfl, H.below⟩
      · have hp0 : (l0 : Int) % 2 = 0 := by omega
        have hres : evenN (r1N n % pF) = t := by rw [hr1.out, ht.out]; unfold evenN; rw [if_neg hpar]
        replace hl0 := Kept.mk hl0
        replace hpar := Kept.mk hpar
        replace hres := Kept.mk hres
        refine wp_region_from (by kernel_rfl) (by kernel_rfl) ?_
        repeat (first
          | (go_big_quiet_want; (refine mem_quiet_load _ rfl _ _ rfl (by assumption) (by (repeat (first | exact .head _ | refine .tail _ ?_))) ?_); try simp only [Act.put, yI, yC, yZ]; go_big_quiet_on)
          | (go_big_quiet_want; (refine quiet_neq_num _ _ _ rfl _ _ rfl rfl (hb.out) (hnb.out) ?_); rw [hd1]; try simp only [Act.put, yI, yC, yZ]; go_big_quiet_on)
          | go_big_quiet_step (((first | (go_at_call 130; exact held_call _ (c1.out _ _)) | (go_at_call 119; exact held_call _ (cR1.out _))))))
        refine wpQuiet_nil ?_
        intro w5 hw5
        have H := mem_from H hw5
        clear hw5
        go_wp2_with (first
          | (refine mem_store0 rfl _ _ rfl _ _ _ rfl rfl _ (by assumption) ?_; intro w H; have hc := limb0 H hl0.out; try simp only [Act.put, yI, yC, yZ])
          | (refine mem_load rfl _ rfl _ _ rfl (by assumption) (by (repeat (first | exact .head _ | refine .tail _ ?_))) ?_; try simp only [Act.put, yI, yC, yZ])
          | (refine mem_store1 rfl _ _ rfl _ _ _ rfl rfl _ _ (by assumption) ?_; intro w H; try simp only [Act.put, yI, yC, yZ])
          | (go_at_call 119; refine mem_call (by assumption) (cRt.out _) ?_; intro w H))
        refine mem_ret2 Tryz.results128 _ rfl rfl rfl (by assumption) (by (repeat (first | exact .head _ | refine .tail _ ?_))) ?_
        rw [← hRd.out]
        exact ⟨by rw [if_pos hq1.out, hres.out]; rfl, H.below⟩
    · have hd1 : (!decide (s1 = n)) = true := by simp [h1]
      have hq1 : ¬ sqN (r1N n) 1 % pF = n := by rw [hr1.out, hs1]; exact h1
      replace hs1 := Kept.mk hs1
      replace h1 := Kept.mk h1
      replace hq1 := Kept.mk hq1
      refine wp_region_from (by kernel_rfl) (by kernel_rfl) ?_
      repeat (first
        | (go_big_quiet_want; (refine mem_quiet_load _ rfl _ _ rfl (by assumption) (by (repeat (first | exact .head _ | refine .tail _ ?_))) ?_); try simp only [Act.put, yI, yC, yZ]; go_big_quiet_on)
        | (go_big_quiet_want; (refine quiet_neq_num _ _ _ rfl _ _ rfl rfl (hb.out) (hnb.out) ?_); rw [hd1]; try simp only [Act.put, yI, yC, yZ]; go_big_quiet_on)
        | go_big_quiet_step (((first | (go_at_call 130; exact held_call _ (c1.out _ _)) | (go_at_call 119; exact held_call _ (cR1.out _))))))
      refine wpQuiet_nil ?_
      intro w5 hw5
      have H := mem_from H hw5
      clear hw5
      go_wp2_with (first
        | (refine mem_store1 rfl _ _ rfl _ _ _ rfl rfl _ _ (by assumption) ?_; intro w H; try simp only [Act.put, yI, yC, yZ])
        | (refine mem_build rfl rfl ?_; try simp only [Act.put, yI, yC, yZ]))
      refine mem_ret2 Tryz.results128 _ rfl rfl rfl (by assumption) (by (repeat (first | exact .head _ | refine .tail _ ?_))) ?_
      rw [← hRd.out]
      exact ⟨by rw [if_neg hq1.out]; rfl, H.below⟩
  · have hd0 : (!decide (s0 = n)) = true := by simp [h0]
    obtain ⟨r1, hr1i⟩ : ∃ r, prodN r0 iF = r := ⟨_, rfl⟩
    have hr1 : r1N n = r1 := by unfold r1N; rw [hr0e.out, hs0, if_neg h0, hr1i]
    have cP := Kept.mk fun w => prodN_any r0 iF w
    rw [hr1i] at cP
    have hrb := Kept.mk (show r1 < big from hr1i ▸ prodN_lt r0 iF)
    replace hr1i := Kept.mk hr1i
    replace hs0 := Kept.mk hs0
    replace hr1 := Kept.mk hr1
    replace h0 := Kept.mk h0
    refine wp_region_from (by kernel_rfl) (by kernel_rfl) ?_
    repeat (first
      | (go_big_quiet_want; (refine mem_quiet_load _ rfl _ _ rfl (by assumption) (by (repeat (first | exact .head _ | refine .tail _ ?_))) ?_); try simp only [Act.put, yI, yC, yZ]; go_big_quiet_on)
      | (go_big_quiet_want; (refine quiet_neq_num _ _ _ rfl _ _ rfl rfl (hb.out) (hnb.out) ?_); rw [hd0]; try simp only [Act.put, yI, yC, yZ]; go_big_quiet_on)
      | go_big_quiet_step (((first | (go_at_call 130; exact held_call _ (c1.out _ _)) | (go_at_call 119; exact held_call _ (cR0.out _))))))
    refine wpQuiet_nil ?_
    intro w5 hw5
    have H := mem_from H hw5
    clear hw5
    go_wp2_with (first
      | (refine mem_box rfl _ rfl _ rfl (by assumption) ?_; intro g w H; try simp only [Act.put, yI, yC, yZ]))
    refine wp_region_from_tail 3 (by kernel_rfl) (by kernel_rfl) ?_
    simp only [List.take_succ_cons, List.take_zero, List.drop_succ_cons, List.drop_zero]
    repeat (first
      | (go_big_quiet_want; (refine mem_quiet_load _ rfl _ _ rfl (by assumption) (by (repeat (first | exact .head _ | refine .tail _ ?_))) ?_); try simp only [Act.put, yI, yC, yZ]; go_big_quiet_on)
      | go_big_quiet_step (((first | (go_at_call 137; exact held_call _ (iroot_any _)) | (go_at_call 122; exact held_call _ (cP.out _))))))
    refine wpQuiet_nil ?_
    intro w5 hw5
    have H := mem_from H hw5
    clear hw5
    go_wp2_with (first
      | (refine mem_store0 rfl _ _ rfl _ _ _ rfl rfl _ (by assumption) ?_; intro w H; try simp only [Act.put, yI, yC, yZ]))
    clear hb
    obtain ⟨s1, hs1⟩ : ∃ s, sqN r1 1 % pF = s := ⟨_, rfl⟩
    have hb := Kept.mk (show s1 < big from hs1 ▸ Nat.lt_trans (Nat.mod_lt _ (by decide +kernel)) p_big)
    have cR1 := Kept.mk fun w => reduced_any (sqN r1 1) (sq1_big r1) w
    rw [hs1] at cR1
    by_cases h1 : s1 = n
    · have hd1 : (!decide (s1 = n)) = false := by simp [h1]
      have hq1 : sqN (r1N n) 1 % pF = n := by rw [hr1.out, hs1, h1]
      obtain ⟨t, ht⟩ : ∃ t, r1 % pF = t := ⟨_, rfl⟩
      have htp : t < pF := ht ▸ Nat.mod_lt _ (by decide +kernel)
      have cRt := Kept.mk fun w => reduced_any r1 hrb.out w
      rw [ht] at cRt
      have cN := Kept.mk fun w => negated_any t (Nat.le_of_lt htp) w
      obtain ⟨l0, hl0⟩ : ∃ l, t % 4294967296 = l := ⟨_, rfl⟩
      have hl0b : l0 < 4294967296 := hl0 ▸ Nat.mod_lt _ (by decide)
      clear htp
      replace hs1 := Kept.mk hs1
      replace h1 := Kept.mk h1
      replace hq1 := Kept.mk hq1
      replace ht := Kept.mk ht
      by_cases hpar : t % 2 = 1
      · have hp0 : (l0 : Int) % 2 = 1 := by omega
        have hres : evenN (r1N n % pF) = pF - t := by rw [hr1.out, ht.out]; unfold evenN; rw [if_pos hpar]
        replace hl0 := Kept.mk hl0
        replace hpar := Kept.mk hpar
        replace hres := Kept.mk hres
        refine wp_region_from (by kernel_rfl) (by kernel_rfl) ?_
        repeat (first
          | (go_big_quiet_want; (refine mem_quiet_load _ rfl _ _ rfl (by assumption) (by (repeat (first | exact .head _ | refine .tail _ ?_))) ?_); try simp only [Act.put, yI, yC, yZ]; go_big_quiet_on)
          | (go_big_quiet_want; (refine quiet_neq_num _ _ _ rfl _ _ rfl rfl (hb.out) (hnb.out) ?_); rw [hd1]; try simp only [Act.put, yI, yC, yZ]; go_big_quiet_on)
          | go_big_quiet_step (((first | (go_at_call 130; exact held_call _ (c1.out _ _)) | (go_at_call 119; exact held_call _ (cR1.out _))))))
        refine wpQuiet_nil ?_
        intro w5 hw5
        have H := mem_from H hw5
        clear hw5
        go_wp2_with (first
          | (refine mem_store0 rfl _ _ rfl _ _ _ rfl rfl _ (by assumption) ?_; intro w H; have hc := limb0 H hl0.out; try simp only [Act.put, yI, yC, yZ])
          | (refine mem_load rfl _ rfl _ _ rfl (by assumption) (by (repeat (first | exact .head _ | refine .tail _ ?_))) ?_; try simp only [Act.put, yI, yC, yZ])
          | (refine mem_store0 rfl _ _ rfl _ _ _ rfl rfl _ (by assumption) ?_; intro w H; try simp only [Act.put, yI, yC, yZ])
          | (refine mem_store1 rfl _ _ rfl _ _ _ rfl rfl _ _ (by assumption) ?_; intro w H; try simp only [Act.put, yI, yC, yZ])
          | (go_at_call 119; refine mem_call (by assumption) (cRt.out _) ?_; intro w H)
          | (go_at_call 118; refine mem_call (by assumption) (cN.out _) ?_; intro w H))
        refine mem_ret2 Tryz.results128 _ rfl rfl rfl (by assumption) (by (repeat (first | exact .head _ | refine .tail _ ?_))) ?_
        rw [← hRd.out]
        exact ⟨by rw [if_pos hq1.out, hres.out]; rfl, H.below⟩
      · have hp0 : (l0 : Int) % 2 = 0 := by omega
        have hres : evenN (r1N n % pF) = t := by rw [hr1.out, ht.out]; unfold evenN; rw [if_neg hpar]
        replace hl0 := Kept.mk hl0
        replace hpar := Kept.mk hpar
        replace hres := Kept.mk hres
        refine wp_region_from (by kernel_rfl) (by kernel_rfl) ?_
        repeat (first
          | (go_big_quiet_want; (refine mem_quiet_load _ rfl _ _ rfl (by assumption) (by (repeat (first | exact .head _ | refine .tail _ ?_))) ?_); try simp only [Act.put, yI, yC, yZ]; go_big_quiet_on)
          | (go_big_quiet_want; (refine quiet_neq_num _ _ _ rfl _ _ rfl rfl (hb.out) (hnb.out) ?_); rw [hd1]; try simp only [Act.put, yI, yC, yZ]; go_big_quiet_on)
          | go_big_quiet_step (((first | (go_at_call 130; exact held_call _ (c1.out _ _)) | (go_at_call 119; exact held_call _ (cR1.out _))))))
        refine wpQuiet_nil ?_
        intro w5 hw5
        have H := mem_from H hw5
        clear hw5
        go_wp2_with (first
          | (refine mem_store0 rfl _ _ rfl _ _ _ rfl rfl _ (by assumption) ?_; intro w H; have hc := limb0 H hl0.out; try simp only [Act.put, yI, yC, yZ])
          | (refine mem_load rfl _ rfl _ _ rfl (by assumption) (by (repeat (first | exact .head _ | refine .tail _ ?_))) ?_; try simp only [Act.put, yI, yC, yZ])
          | (refine mem_store1 rfl _ _ rfl _ _ _ rfl rfl _ _ (by assumption) ?_; intro w H; try simp only [Act.put, yI, yC, yZ])
          | (go_at_call 119; refine mem_call (by assumption) (cRt.out _) ?_; intro w H))
        refine mem_ret2 Tryz.results128 _ rfl rfl rfl (by assumption) (by (repeat (first | exact .head _ | refine .tail _ ?_))) ?_
        rw [← hRd.out]
        exact ⟨by rw [if_pos hq1.out, hres.out]; rfl, H.below⟩
    · have hd1 : (!decide (s1 = n)) = true := by simp [h1]
      have hq1 : ¬ sqN (r1N n) 1 % pF = n := by rw [hr1.out, hs1]; exact h1
      replace hs1 := Kept.mk hs1
      replace h1 := Kept.mk h1
      replace hq1 := Kept.mk hq1
      refine wp_region_from (by kernel_rfl) (by kernel_rfl) ?_
      repeat (first
        | (go_big_quiet_want; (refine mem_quiet_load _ rfl _ _ rfl (by assumption) (by (repeat (first | exact .head _ | refine .tail _ ?_))) ?_); try simp only [Act.put, yI, yC, yZ]; go_big_quiet_on)
        | (go_big_quiet_want; (refine quiet_neq_num _ _ _ rfl _ _ rfl rfl (hb.out) (hnb.out) ?_); rw [hd1]; try simp only [Act.put, yI, yC, yZ]; go_big_quiet_on)
        | go_big_quiet_step (((first | (go_at_call 130; exact held_call _ (c1.out _ _)) | (go_at_call 119; exact held_call _ (cR1.out _))))))
      refine wpQuiet_nil ?_
      intro w5 hw5
      have H := mem_from H hw5
      clear hw5
      go_wp2_with (first
        | (refine mem_store1 rfl _ _ rfl _ _ _ rfl rfl _ _ (by assumption) ?_; intro w H; try simp only [Act.put, yI, yC, yZ])
        | (refine mem_build rfl rfl ?_; try simp only [Act.put, yI, yC, yZ]))
      refine mem_ret2 Tryz.results128 _ rfl rfl rfl (by assumption) (by (repeat (first | exact .head _ | refine .tail _ ?_))) ?_
      rw [← hRd.out]
      exact ⟨by rw [if_neg hq1.out]; rfl, H.below⟩
end Go.Proofs.YtgnblaaldpniiaaGreatDoor
end
