/- Package field: roots. -/
import Derived.Test.YtbkaemekcjinaaaFQ
set_option linter.unusedSimpArgs false
set_option linter.unusedVariables false
namespace Go.Proofs.Ytbkaemekcjinaaa
open Go.RowKit
theorem prodN_big (x y : Nat) : prodN x y < big := prodN_lt x y
theorem sq1_big (x : Nat) : sqN x 1 < big := prodN_lt _ _
def r0N (n : Nat) : Nat := sqN (onesN n 251) 1
def r1N (n : Nat) : Nat := if sqN (r0N n) 1 % pF = n then r0N n else prodN (r0N n) iF
/-- The even one of a root and its like. -/
def evenN (r : Nat) : Nat := if r % 2 = 1 then pF - r else r
def RootPost (n : Nat) (w : World) (e : Ending) (w' : World) : Prop :=
  e = .returned (if sqN (r1N n) 1 % pF = n then .tuple #[numV (evenN (r1N n % pF)), .bool true] else .tuple #[numV 0, .bool false]) ∧ Below w.heap.size w w'
theorem r1_big (n : Nat) : r1N n < big := by
  unfold r1N
  split
  · exact prodN_lt _ _
  · exact prodN_lt _ _
theorem arr_of {w0 w : World} {L : List (Nat × Nat)} {g x : Nat} (H : Mem w0 w L) (hm : (g, x) ∈ L) : Arr w g 35 .u32 (nL x) := ⟨H.holds g x hm⟩
theorem low_limb (x : Nat) : (nL x).getD 0 0 = x % 4294967296 := rfl
theorem limb0 {w0 w : World} {L : List (Nat × Nat)} {g x l0 : Nat} (H : Mem w0 w ((g, x) :: L)) (hl : x % 4294967296 = l0) : w.cell? ⟨g, 0, none⟩ = some (.int .u32 (l0 : Int)) := by
  have h := (arr_of H (.head _)).cell 0 (by rw [nL_len]; omega)
  rw [h, low_limb, hl]
set_option maxHeartbeats 4000000 in
theorem root_any (n : Nat) (hn : n < pF) (wS : World) : Calls Try.prog 46 #[numV n] wS (RootPost n wS) := by
  have H := Mem.start wS
  have hnb := Kept.mk (show n < big from Nat.lt_trans hn p_big)
  have c1 := Kept.mk fun x w => squared_any x 1 (by omega) w
  have cO := Kept.mk fun w => ones_any n 251 (by omega) (by omega) w
  rw [show ((1 : Nat) : Int) = 1 from rfl] at c1
  rw [show ((251 : Nat) : Int) = 251 from rfl] at cO
  have hR : RootPost n wS = RootPost n wS := rfl
  obtain ⟨R, hRd⟩ : ∃ R, RootPost n wS = R := ⟨_, rfl⟩
  rw [hRd]
  have hr0 : sqN (onesN n 251) 1 = r0N n := rfl
  clear hR hn
  replace hRd := Kept.mk hRd
  obtain ⟨r0, hr0e⟩ : ∃ r0, r0N n = r0 := ⟨_, rfl⟩
  rw [hr0e] at hr0
  have cr := Kept.mk fun w => ones_any n 251 (by omega) (by omega) w
  have c1' := c1.out (onesN n 251)
  rw [hr0] at c1'
  replace c1' := Kept.mk c1'
  replace hr0e := Kept.mk hr0e
  clear hr0
  rw [numV_eq]
  go_enter Try.func46, Try.ntmps46
  go_wp2_with (first
    | (refine mem_box rfl _ rfl _ rfl (by assumption) ?_; intro g w H; try simp only [Act.put, List.setIfInBounds_toArray, List.set_cons_succ, List.set_cons_zero])
    | (refine mem_alloc rfl rfl (by assumption) ?_; intro g w H; try simp only [Act.put, List.setIfInBounds_toArray, List.set_cons_succ, List.set_cons_zero])
    | (refine mem_load rfl _ rfl _ _ rfl (by assumption) (by (first | exact .head _ | exact .tail _ (.head _) | exact .tail _ (.tail _ (.head _)) | exact .tail _ (.tail _ (.tail _ (.head _))) | exact .tail _ (.tail _ (.tail _ (.tail _ (.head _)))))) ?_; try simp only [Act.put, List.setIfInBounds_toArray, List.set_cons_succ, List.set_cons_zero])
    | (refine mem_store0 rfl _ _ rfl _ _ _ rfl rfl _ (by assumption) ?_; intro w H; try simp only [Act.put, List.setIfInBounds_toArray, List.set_cons_succ, List.set_cons_zero])
    | (refine mem_store1 rfl _ _ rfl _ _ _ rfl rfl _ _ (by assumption) ?_; intro w H; try simp only [Act.put, List.setIfInBounds_toArray, List.set_cons_succ, List.set_cons_zero])
    | (refine mem_store2 rfl _ _ rfl _ _ _ rfl rfl _ _ _ (by assumption) ?_; intro w H; try simp only [Act.put, List.setIfInBounds_toArray, List.set_cons_succ, List.set_cons_zero])
    | (refine mem_store3 rfl _ _ rfl _ _ _ rfl rfl _ _ _ _ (by assumption) ?_; intro w H; try simp only [Act.put, List.setIfInBounds_toArray, List.set_cons_succ, List.set_cons_zero])
    | (refine mem_build rfl rfl ?_; try simp only [Act.put, List.setIfInBounds_toArray, List.set_cons_succ, List.set_cons_zero])
    | (go_at_call 55; refine mem_call (by assumption) (cO.out _) ?_; intro w H)
    | (go_at_call 54; refine mem_call (by assumption) (c1'.out _) ?_; intro w H))
  obtain ⟨s0, hs0⟩ : ∃ s, sqN r0 1 % pF = s := ⟨_, rfl⟩
  have hs0b : s0 < big := hs0 ▸ Nat.lt_trans (Nat.mod_lt _ (by decide +kernel)) p_big
  have cR0 := Kept.mk fun w => reduced_any (sqN r0 1) (sq1_big r0) w
  rw [hs0] at cR0
  have hb := Kept.mk hs0b
  clear hs0b c1'
  by_cases h0 : s0 = n
  · have hd0 : (!decide (s0 = n)) = false := by simp [h0]
    have hr1 : r1N n = r0 := by unfold r1N; rw [hr0e.out, hs0, if_pos h0]
    have hq1 : sqN (r1N n) 1 % pF = n := by rw [hr1, hs0, h0]
    replace hs0 := Kept.mk hs0
    replace hr1 := Kept.mk hr1
    replace hq1 := Kept.mk hq1
    replace h0 := Kept.mk h0
    refine wp_region_from (by kernel_rfl) (by kernel_rfl) ?_
    repeat (first
      | (go_big_quiet_want; (refine mem_quiet_load _ rfl _ _ rfl (by assumption) (by (first | exact .head _ | exact .tail _ (.head _) | exact .tail _ (.tail _ (.head _)) | exact .tail _ (.tail _ (.tail _ (.head _))) | exact .tail _ (.tail _ (.tail _ (.tail _ (.head _)))))) ?_); try simp only [Act.put, List.setIfInBounds_toArray, List.set_cons_succ, List.set_cons_zero]; go_big_quiet_on)
      | (go_big_quiet_want; (refine quiet_neq_num _ _ _ rfl _ _ rfl rfl (hb.out) (hnb.out) ?_); rw [hd0]; try simp only [Act.put, List.setIfInBounds_toArray, List.set_cons_succ, List.set_cons_zero]; go_big_quiet_on)
      | go_big_quiet_step (((first | (go_at_call 54; exact held_call _ (c1.out _ _)) | (go_at_call 27; exact held_call _ (cR0.out _))))))
    refine wpQuiet_nil ?_
    intro w5 hw5
    have H := mem_from H hw5
    clear hw5
    go_wp2_with (first
      | (refine mem_box rfl _ rfl _ rfl (by assumption) ?_; intro g w H; try simp only [Act.put, List.setIfInBounds_toArray, List.set_cons_succ, List.set_cons_zero])
      | (refine mem_alloc rfl rfl (by assumption) ?_; intro g w H; try simp only [Act.put, List.setIfInBounds_toArray, List.set_cons_succ, List.set_cons_zero])
      | (refine mem_load rfl _ rfl _ _ rfl (by assumption) (by (first | exact .head _ | exact .tail _ (.head _) | exact .tail _ (.tail _ (.head _)) | exact .tail _ (.tail _ (.tail _ (.head _))) | exact .tail _ (.tail _ (.tail _ (.tail _ (.head _)))))) ?_; try simp only [Act.put, List.setIfInBounds_toArray, List.set_cons_succ, List.set_cons_zero])
      | (refine mem_store0 rfl _ _ rfl _ _ _ rfl rfl _ (by assumption) ?_; intro w H; try simp only [Act.put, List.setIfInBounds_toArray, List.set_cons_succ, List.set_cons_zero])
      | (refine mem_store1 rfl _ _ rfl _ _ _ rfl rfl _ _ (by assumption) ?_; intro w H; try simp only [Act.put, List.setIfInBounds_toArray, List.set_cons_succ, List.set_cons_zero])
      | (refine mem_store2 rfl _ _ rfl _ _ _ rfl rfl _ _ _ (by assumption) ?_; intro w H; try simp only [Act.put, List.setIfInBounds_toArray, List.set_cons_succ, List.set_cons_zero])
      | (refine mem_store3 rfl _ _ rfl _ _ _ rfl rfl _ _ _ _ (by assumption) ?_; intro w H; try simp only [Act.put, List.setIfInBounds_toArray, List.set_cons_succ, List.set_cons_zero])
      | (refine mem_build rfl rfl ?_; try simp only [Act.put, List.setIfInBounds_toArray, List.set_cons_succ, List.set_cons_zero]))
    have hrb := Kept.mk (show r0 < big from hr0e.out ▸ sq1_big (onesN n 251))
    clear hb
    obtain ⟨s1, hs1⟩ : ∃ s, sqN r0 1 % pF = s := ⟨_, rfl⟩
    have hb := Kept.mk (show s1 < big from hs1 ▸ Nat.lt_trans (Nat.mod_lt _ (by decide +kernel)) p_big)
    have cR1 := Kept.mk fun w => reduced_any (sqN r0 1) (sq1_big r0) w
    rw [hs1] at cR1
    by_cases h1 : s1 = n
    · have hd1 : (!decide (s1 = n)) = false := by simp [h1]
      have hq1 : sqN (r1N n) 1 % pF = n := by rw [hr1.out, hs1, h1]
      obtain ⟨t, ht⟩ : ∃ t, r0 % pF = t := ⟨_, rfl⟩
      have htp : t < pF := ht ▸ Nat.mod_lt _ (by decide +kernel)
      have cRt := Kept.mk fun w => reduced_any r0 hrb.out w
      rw [ht] at cRt
      have cN := Kept.mk fun w => negated_any t (Nat.le_of_lt htp) w
      obtain ⟨l0, hl0⟩ : ∃ l, t % 4294967296 = l := ⟨_, rfl⟩
      have hl0b : l0 < 4294967296 := hl0 ▸ Nat.mod_lt _ (by decide)
      clear htp
      replace hs1 := Kept.mk hs1
      replace h1 := Kept.mk h1
      replace hq1 := Kept.mk hq1
      replace ht := Kept.mk ht
      by_cases hpar : t % 2 = 1
      · have hp0 : (l0 : Int) % 2 = 1 := by omega
        have hres : evenN (r1N n % pF) = pF - t := by rw [hr1.out, ht.out]; unfold evenN; rw [if_pos hpar]
        replace hl0 := Kept.mk hl0
        replace hpar := Kept.mk hpar
        replace hres := Kept.mk hres
        refine wp_region_from (by kernel_rfl) (by kernel_rfl) ?_
        repeat (first
          | (go_big_quiet_want; (refine mem_quiet_load _ rfl _ _ rfl (by assumption) (by (first | exact .head _ | exact .tail _ (.head _) | exact .tail _ (.tail _ (.head _)) | exact .tail _ (.tail _ (.tail _ (.head _))) | exact .tail _ (.tail _ (.tail _ (.tail _ (.head _)))))) ?_); try simp only [Act.put, List.setIfInBounds_toArray, List.set_cons_succ, List.set_cons_zero]; go_big_quiet_on)
          | (go_big_quiet_want; (refine quiet_neq_num _ _ _ rfl _ _ rfl rfl (hb.out) (hnb.out) ?_); rw [hd1]; try simp only [Act.put, List.setIfInBounds_toArray, List.set_cons_succ, List.set_cons_zero]; go_big_quiet_on)
          | go_big_quiet_step (((first | (go_at_call 54; exact held_call _ (c1.out _ _)) | (go_at_call 27; exact held_call _ (cR1.out _))))))
        refine wpQuiet_nil ?_
        intro w5 hw5
        have H := mem_from H hw5
        clear hw5
        go_wp2_with (first
          | (refine mem_store0 rfl _ _ rfl _ _ _ rfl rfl _ (by assumption) ?_; intro w H; have hc := limb0 H hl0.out; try simp only [Act.put, List.setIfInBounds_toArray, List.set_cons_succ, List.set_cons_zero])
          | (refine mem_box rfl _ rfl _ rfl (by assumption) ?_; intro g w H; try simp only [Act.put, List.setIfInBounds_toArray, List.set_cons_succ, List.set_cons_zero])
          | (refine mem_alloc rfl rfl (by assumption) ?_; intro g w H; try simp only [Act.put, List.setIfInBounds_toArray, List.set_cons_succ, List.set_cons_zero])
          | (refine mem_load rfl _ rfl _ _ rfl (by assumption) (by (first | exact .head _ | exact .tail _ (.head _) | exact .tail _ (.tail _ (.head _)) | exact .tail _ (.tail _ (.tail _ (.head _))) | exact .tail _ (.tail _ (.tail _ (.tail _ (.head _)))))) ?_; try simp only [Act.put, List.setIfInBounds_toArray, List.set_cons_succ, List.set_cons_zero])
          | (refine mem_store0 rfl _ _ rfl _ _ _ rfl rfl _ (by assumption) ?_; intro w H; try simp only [Act.put, List.setIfInBounds_toArray, List.set_cons_succ, List.set_cons_zero])
          | (refine mem_store1 rfl _ _ rfl _ _ _ rfl rfl _ _ (by assumption) ?_; intro w H; try simp only [Act.put, List.setIfInBounds_toArray, List.set_cons_succ, List.set_cons_zero])
          | (refine mem_store2 rfl _ _ rfl _ _ _ rfl rfl _ _ _ (by assumption) ?_; intro w H; try simp only [Act.put, List.setIfInBounds_toArray, List.set_cons_succ, List.set_cons_zero])
          | (refine mem_store3 rfl _ _ rfl _ _ _ rfl rfl _ _ _ _ (by assumption) ?_; intro w H; try simp only [Act.put, List.setIfInBounds_toArray, List.set_cons_succ, List.set_cons_zero])
          | (refine mem_build rfl rfl ?_; try simp only [Act.put, List.setIfInBounds_toArray, List.set_cons_succ, List.set_cons_zero])
          | (go_at_call 27; refine mem_call (by assumption) (cRt.out _) ?_; intro w H)
          | (go_at_call 41; refine mem_call (by assumption) (cN.out _) ?_; intro w H))
        refine mem_ret2 Try.results46 _ rfl rfl rfl (by assumption) (by (first | exact .head _ | exact .tail _ (.head _) | exact .tail _ (.tail _ (.head _)) | exact .tail _ (.tail _ (.tail _ (.head _))) | exact .tail _ (.tail _ (.tail _ (.tail _ (.head _)))))) ?_
        rw [← hRd.out]
        exact ⟨by rw [if_pos hq1.out, hres.out]; rfl, H.below⟩
      · have hp0 : (l0 : Int) % 2 = 0 := by omega
        have hres : evenN (r1N n % pF) = t := by rw [hr1.out, ht.out]; unfold evenN; rw [if_neg hpar]
        replace hl0 := Kept.mk hl0
        replace hpar := Kept.mk hpar
        replace hres := Kept.mk hres
        refine wp_region_from (by kernel_rfl) (by kernel_rfl) ?_
        repeat (first
          | (go_big_quiet_want; (refine mem_quiet_load _ rfl _ _ rfl (by assumption) (by (first | exact .head _ | exact .tail _ (.head _) | exact .tail _ (.tail _ (.head _)) | exact .tail _ (.tail _ (.tail _ (.head _))) | exact .tail _ (.tail _ (.tail _ (.tail _ (.head _)))))) ?_); try simp only [Act.put, List.setIfInBounds_toArray, List.set_cons_succ, List.set_cons_zero]; go_big_quiet_on)
          | (go_big_quiet_want; (refine quiet_neq_num _ _ _ rfl _ _ rfl rfl (hb.out) (hnb.out) ?_); rw [hd1]; try simp only [Act.put, List.setIfInBounds_toArray, List.set_cons_succ, List.set_cons_zero]; go_big_quiet_on)
          | go_big_quiet_step (((first | (go_at_call 54; exact held_call _ (c1.out _ _)) | (go_at_call 27; exact held_call _ (cR1.out _))))))
        refine wpQuiet_nil ?_
        intro w5 hw5
        have H := mem_from H hw5
        clear hw5
        go_wp2_with (first
          | (refine mem_store0 rfl _ _ rfl _ _ _ rfl rfl _ (by assumption) ?_; intro w H; have hc := limb0 H hl0.out; try simp only [Act.put, List.setIfInBounds_toArray, List.set_cons_succ, List.set_cons_zero])
          | (refine mem_box rfl _ rfl _ rfl (by assumption) ?_; intro g w H; try simp only [Act.put, List.setIfInBounds_toArray, List.set_cons_succ, List.set_cons_zero])
          | (refine mem_alloc rfl rfl (by assumption) ?_; intro g w H; try simp only [Act.put, List.setIfInBounds_toArray, List.set_cons_succ, List.set_cons_zero])
          | (refine mem_load rfl _ rfl _ _ rfl (by assumption) (by (first | exact .head _ | exact .tail _ (.head _) | exact .tail _ (.tail _ (.head _)) | exact .tail _ (.tail _ (.tail _ (.head _))) | exact .tail _ (.tail _ (.tail _ (.tail _ (.head _)))))) ?_; try simp only [Act.put, List.setIfInBounds_toArray, List.set_cons_succ, List.set_cons_zero])
          | (refine mem_store0 rfl _ _ rfl _ _ _ rfl rfl _ (by assumption) ?_; intro w H; try simp only [Act.put, List.setIfInBounds_toArray, List.set_cons_succ, List.set_cons_zero])
          | (refine mem_store1 rfl _ _ rfl _ _ _ rfl rfl _ _ (by assumption) ?_; intro w H; try simp only [Act.put, List.setIfInBounds_toArray, List.set_cons_succ, List.set_cons_zero])
          | (refine mem_store2 rfl _ _ rfl _ _ _ rfl rfl _ _ _ (by assumption) ?_; intro w H; try simp only [Act.put, List.setIfInBounds_toArray, List.set_cons_succ, List.set_cons_zero])
          | (refine mem_store3 rfl _ _ rfl _ _ _ rfl rfl _ _ _ _ (by assumption) ?_; intro w H; try simp only [Act.put, List.setIfInBounds_toArray, List.set_cons_succ, List.set_cons_zero])
          | (refine mem_build rfl rfl ?_; try simp only [Act.put, List.setIfInBounds_toArray, List.set_cons_succ, List.set_cons_zero])
          | (go_at_call 27; refine mem_call (by assumption) (cRt.out _) ?_; intro w H))
        refine mem_ret2 Try.results46 _ rfl rfl rfl (by assumption) (by (first | exact .head _ | exact .tail _ (.head _) | exact .tail _ (.tail _ (.head _)) | exact .tail _ (.tail _ (.tail _ (.head _))) | exact .tail _ (.tail _ (.tail _ (.tail _ (.head _)))))) ?_
        rw [← hRd.out]
        exact ⟨by rw [if_pos hq1.out, hres.out]; rfl, H.below⟩
    · have hd1 : (!decide (s1 = n)) = true := by simp [h1]
      have hq1 : ¬ sqN (r1N n) 1 % pF = n := by rw [hr1.out, hs1]; exact h1
      replace hs1 := Kept.mk hs1
      replace h1 := Kept.mk h1
      replace hq1 := Kept.mk hq1
      refine wp_region_from (by kernel_rfl) (by kernel_rfl) ?_
      repeat (first
        | (go_big_quiet_want; (refine mem_quiet_load _ rfl _ _ rfl (by assumption) (by (first | exact .head _ | exact .tail _ (.head _) | exact .tail _ (.tail _ (.head _)) | exact .tail _ (.tail _ (.tail _ (.head _))) | exact .tail _ (.tail _ (.tail _ (.tail _ (.head _)))))) ?_); try simp only [Act.put, List.setIfInBounds_toArray, List.set_cons_succ, List.set_cons_zero]; go_big_quiet_on)
        | (go_big_quiet_want; (refine quiet_neq_num _ _ _ rfl _ _ rfl rfl (hb.out) (hnb.out) ?_); rw [hd1]; try simp only [Act.put, List.setIfInBounds_toArray, List.set_cons_succ, List.set_cons_zero]; go_big_quiet_on)
        | go_big_quiet_step (((first | (go_at_call 54; exact held_call _ (c1.out _ _)) | (go_at_call 27; exact held_call _ (cR1.out _))))))
      refine wpQuiet_nil ?_
      intro w5 hw5
      have H := mem_from H hw5
      clear hw5
      go_wp2_with (first
        | (refine mem_box rfl _ rfl _ rfl (by assumption) ?_; intro g w H; try simp only [Act.put, List.setIfInBounds_toArray, List.set_cons_succ, List.set_cons_zero])
        | (refine mem_alloc rfl rfl (by assumption) ?_; intro g w H; try simp only [Act.put, List.setIfInBounds_toArray, List.set_cons_succ, List.set_cons_zero])
        | (refine mem_load rfl _ rfl _ _ rfl (by assumption) (by (first | exact .head _ | exact .tail _ (.head _) | exact .tail _ (.tail _ (.head _)) | exact .tail _ (.tail _ (.tail _ (.head _))) | exact .tail _ (.tail _ (.tail _ (.tail _ (.head _)))))) ?_; try simp only [Act.put, List.setIfInBounds_toArray, List.set_cons_succ, List.set_cons_zero])
        | (refine mem_store0 rfl _ _ rfl _ _ _ rfl rfl _ (by assumption) ?_; intro w H; try simp only [Act.put, List.setIfInBounds_toArray, List.set_cons_succ, List.set_cons_zero])
        | (refine mem_store1 rfl _ _ rfl _ _ _ rfl rfl _ _ (by assumption) ?_; intro w H; try simp only [Act.put, List.setIfInBounds_toArray, List.set_cons_succ, List.set_cons_zero])
        | (refine mem_store2 rfl _ _ rfl _ _ _ rfl rfl _ _ _ (by assumption) ?_; intro w H; try simp only [Act.put, List.setIfInBounds_toArray, List.set_cons_succ, List.set_cons_zero])
        | (refine mem_store3 rfl _ _ rfl _ _ _ rfl rfl _ _ _ _ (by assumption) ?_; intro w H; try simp only [Act.put, List.setIfInBounds_toArray, List.set_cons_succ, List.set_cons_zero])
        | (refine mem_build rfl rfl ?_; try simp only [Act.put, List.setIfInBounds_toArray, List.set_cons_succ, List.set_cons_zero]))
      refine mem_ret2 Try.results46 _ rfl rfl rfl (by assumption) (by (first | exact .head _ | exact .tail _ (.head _) | exact .tail _ (.tail _ (.head _)) | exact .tail _ (.tail _ (.tail _ (.head _))) | exact .tail _ (.tail _ (.tail _ (.tail _ (.head _)))))) ?_
      rw [← hRd.out]
      exact ⟨by rw [if_neg hq1.out]; rfl, H.below⟩
  · have hd0 : (!decide (s0 = n)) = true := by simp [h0]
    obtain ⟨r1, hr1i⟩ : ∃ r, prodN r0 iF = r := ⟨_, rfl⟩
    have hr1 : r1N n = r1 := by unfold r1N; rw [hr0e.out, hs0, if_neg h0, hr1i]
    have cP := Kept.mk fun w => prodN_any r0 iF w
    rw [hr1i] at cP
    have hrb := Kept.mk (show r1 < big from hr1i ▸ prodN_lt r0 iF)
    replace hr1i := Kept.mk hr1i
    replace hs0 := Kept.mk hs0
    replace hr1 := Kept.mk hr1
    replace h0 := Kept.mk h0
    refine wp_region_from (by kernel_rfl) (by kernel_rfl) ?_
    repeat (first
      | (go_big_quiet_want; (refine mem_quiet_load _ rfl _ _ rfl (by assumption) (by (first | exact .head _ | exact .tail _ (.head _) | exact .tail _ (.tail _ (.head _)) | exact .tail _ (.tail _ (.tail _ (.head _))) | exact .tail _ (.tail _ (.tail _ (.tail _ (.head _)))))) ?_); try simp only [Act.put, List.setIfInBounds_toArray, List.set_cons_succ, List.set_cons_zero]; go_big_quiet_on)
      | (go_big_quiet_want; (refine quiet_neq_num _ _ _ rfl _ _ rfl rfl (hb.out) (hnb.out) ?_); rw [hd0]; try simp only [Act.put, List.setIfInBounds_toArray, List.set_cons_succ, List.set_cons_zero]; go_big_quiet_on)
      | go_big_quiet_step (((first | (go_at_call 54; exact held_call _ (c1.out _ _)) | (go_at_call 27; exact held_call _ (cR0.out _))))))
    refine wpQuiet_nil ?_
    intro w5 hw5
    have H := mem_from H hw5
    clear hw5
    go_wp2_with (first
      | (refine mem_box rfl _ rfl _ rfl (by assumption) ?_; intro g w H; try simp only [Act.put, List.setIfInBounds_toArray, List.set_cons_succ, List.set_cons_zero])
      | (refine mem_alloc rfl rfl (by assumption) ?_; intro g w H; try simp only [Act.put, List.setIfInBounds_toArray, List.set_cons_succ, List.set_cons_zero])
      | (refine mem_load rfl _ rfl _ _ rfl (by assumption) (by (first | exact .head _ | exact .tail _ (.head _) | exact .tail _ (.tail _ (.head _)) | exact .tail _ (.tail _ (.tail _ (.head _))) | exact .tail _ (.tail _ (.tail _ (.tail _ (.head _)))))) ?_; try simp only [Act.put, List.setIfInBounds_toArray, List.set_cons_succ, List.set_cons_zero])
      | (refine mem_store0 rfl _ _ rfl _ _ _ rfl rfl _ (by assumption) ?_; intro w H; try simp only [Act.put, List.setIfInBounds_toArray, List.set_cons_succ, List.set_cons_zero])
      | (refine mem_store1 rfl _ _ rfl _ _ _ rfl rfl _ _ (by assumption) ?_; intro w H; try simp only [Act.put, List.setIfInBounds_toArray, List.set_cons_succ, List.set_cons_zero])
      | (refine mem_store2 rfl _ _ rfl _ _ _ rfl rfl _ _ _ (by assumption) ?_; intro w H; try simp only [Act.put, List.setIfInBounds_toArray, List.set_cons_succ, List.set_cons_zero])
      | (refine mem_store3 rfl _ _ rfl _ _ _ rfl rfl _ _ _ _ (by assumption) ?_; intro w H; try simp only [Act.put, List.setIfInBounds_toArray, List.set_cons_succ, List.set_cons_zero])
      | (refine mem_build rfl rfl ?_; try simp only [Act.put, List.setIfInBounds_toArray, List.set_cons_succ, List.set_cons_zero]))
    refine wp_region_from_tail 3 (by kernel_rfl) (by kernel_rfl) ?_
    simp only [List.take_succ_cons, List.take_zero, List.drop_succ_cons, List.drop_zero]
    repeat (first
      | (go_big_quiet_want; (refine mem_quiet_load _ rfl _ _ rfl (by assumption) (by (first | exact .head _ | exact .tail _ (.head _) | exact .tail _ (.tail _ (.head _)) | exact .tail _ (.tail _ (.tail _ (.head _))) | exact .tail _ (.tail _ (.tail _ (.tail _ (.head _)))))) ?_); try simp only [Act.put, List.setIfInBounds_toArray, List.set_cons_succ, List.set_cons_zero]; go_big_quiet_on)
      | go_big_quiet_step (((first | (go_at_call 57; exact held_call _ (iroot_any _)) | (go_at_call 42; exact held_call _ (cP.out _))))))
    refine wpQuiet_nil ?_
    intro w5 hw5
    have H := mem_from H hw5
    clear hw5
    go_wp2_with (first
      | (refine mem_box rfl _ rfl _ rfl (by assumption) ?_; intro g w H; try simp only [Act.put, List.setIfInBounds_toArray, List.set_cons_succ, List.set_cons_zero])
      | (refine mem_alloc rfl rfl (by assumption) ?_; intro g w H; try simp only [Act.put, List.setIfInBounds_toArray, List.set_cons_succ, List.set_cons_zero])
      | (refine mem_load rfl _ rfl _ _ rfl (by assumption) (by (first | exact .head _ | exact .tail _ (.head _) | exact .tail _ (.tail _ (.head _)) | exact .tail _ (.tail _ (.tail _ (.head _))) | exact .tail _ (.tail _ (.tail _ (.tail _ (.head _)))))) ?_; try simp only [Act.put, List.setIfInBounds_toArray, List.set_cons_succ, List.set_cons_zero])
      | (refine mem_store0 rfl _ _ rfl _ _ _ rfl rfl _ (by assumption) ?_; intro w H; try simp only [Act.put, List.setIfInBounds_toArray, List.set_cons_succ, List.set_cons_zero])
      | (refine mem_store1 rfl _ _ rfl _ _ _ rfl rfl _ _ (by assumption) ?_; intro w H; try simp only [Act.put, List.setIfInBounds_toArray, List.set_cons_succ, List.set_cons_zero])
      | (refine mem_store2 rfl _ _ rfl _ _ _ rfl rfl _ _ _ (by assumption) ?_; intro w H; try simp only [Act.put, List.setIfInBounds_toArray, List.set_cons_succ, List.set_cons_zero])
      | (refine mem_store3 rfl _ _ rfl _ _ _ rfl rfl _ _ _ _ (by assumption) ?_; intro w H; try simp only [Act.put, List.setIfInBounds_toArray, List.set_cons_succ, List.set_cons_zero])
      | (refine mem_build rfl rfl ?_; try simp only [Act.put, List.setIfInBounds_toArray, List.set_cons_succ, List.set_cons_zero]))
    clear hb
    obtain ⟨s1, hs1⟩ : ∃ s, sqN r1 1 % pF = s := ⟨_, rfl⟩
    have hb := Kept.mk (show s1 < big from hs1 ▸ Nat.lt_trans (Nat.mod_lt _ (by decide +kernel)) p_big)
    have cR1 := Kept.mk fun w => reduced_any (sqN r1 1) (sq1_big r1) w
    rw [hs1] at cR1
    by_cases h1 : s1 = n
    · have hd1 : (!decide (s1 = n)) = false := by simp [h1]
      have hq1 : sqN (r1N n) 1 % pF = n := by rw [hr1.out, hs1, h1]
      obtain ⟨t, ht⟩ : ∃ t, r1 % pF = t := ⟨_, rfl⟩
      have htp : t < pF := ht ▸ Nat.mod_lt _ (by decide +kernel)
      have cRt := Kept.mk fun w => reduced_any r1 hrb.out w
      rw [ht] at cRt
      have cN := Kept.mk fun w => negated_any t (Nat.le_of_lt htp) w
      obtain ⟨l0, hl0⟩ : ∃ l, t % 4294967296 = l := ⟨_, rfl⟩
      have hl0b : l0 < 4294967296 := hl0 ▸ Nat.mod_lt _ (by decide)
      clear htp
      replace hs1 := Kept.mk hs1
      replace h1 := Kept.mk h1
      replace hq1 := Kept.mk hq1
      replace ht := Kept.mk ht
      by_cases hpar : t % 2 = 1
      · have hp0 : (l0 : Int) % 2 = 1 := by omega
        have hres : evenN (r1N n % pF) = pF - t := by rw [hr1.out, ht.out]; unfold evenN; rw [if_pos hpar]
        replace hl0 := Kept.mk hl0
        replace hpar := Kept.mk hpar
        replace hres := Kept.mk hres
        refine wp_region_from (by kernel_rfl) (by kernel_rfl) ?_
        repeat (first
          | (go_big_quiet_want; (refine mem_quiet_load _ rfl _ _ rfl (by assumption) (by (first | exact .head _ | exact .tail _ (.head _) | exact .tail _ (.tail _ (.head _)) | exact .tail _ (.tail _ (.tail _ (.head _))) | exact .tail _ (.tail _ (.tail _ (.tail _ (.head _)))))) ?_); try simp only [Act.put, List.setIfInBounds_toArray, List.set_cons_succ, List.set_cons_zero]; go_big_quiet_on)
          | (go_big_quiet_want; (refine quiet_neq_num _ _ _ rfl _ _ rfl rfl (hb.out) (hnb.out) ?_); rw [hd1]; try simp only [Act.put, List.setIfInBounds_toArray, List.set_cons_succ, List.set_cons_zero]; go_big_quiet_on)
          | go_big_quiet_step (((first | (go_at_call 54; exact held_call _ (c1.out _ _)) | (go_at_call 27; exact held_call _ (cR1.out _))))))
        refine wpQuiet_nil ?_
        intro w5 hw5
        have H := mem_from H hw5
        clear hw5
        go_wp2_with (first
          | (refine mem_store0 rfl _ _ rfl _ _ _ rfl rfl _ (by assumption) ?_; intro w H; have hc := limb0 H hl0.out; try simp only [Act.put, List.setIfInBounds_toArray, List.set_cons_succ, List.set_cons_zero])
          | (refine mem_box rfl _ rfl _ rfl (by assumption) ?_; intro g w H; try simp only [Act.put, List.setIfInBounds_toArray, List.set_cons_succ, List.set_cons_zero])
          | (refine mem_alloc rfl rfl (by assumption) ?_; intro g w H; try simp only [Act.put, List.setIfInBounds_toArray, List.set_cons_succ, List.set_cons_zero])
          | (refine mem_load rfl _ rfl _ _ rfl (by assumption) (by (first | exact .head _ | exact .tail _ (.head _) | exact .tail _ (.tail _ (.head _)) | exact .tail _ (.tail _ (.tail _ (.head _))) | exact .tail _ (.tail _ (.tail _ (.tail _ (.head _)))))) ?_; try simp only [Act.put, List.setIfInBounds_toArray, List.set_cons_succ, List.set_cons_zero])
          | (refine mem_store0 rfl _ _ rfl _ _ _ rfl rfl _ (by assumption) ?_; intro w H; try simp only [Act.put, List.setIfInBounds_toArray, List.set_cons_succ, List.set_cons_zero])
          | (refine mem_store1 rfl _ _ rfl _ _ _ rfl rfl _ _ (by assumption) ?_; intro w H; try simp only [Act.put, List.setIfInBounds_toArray, List.set_cons_succ, List.set_cons_zero])
          | (refine mem_store2 rfl _ _ rfl _ _ _ rfl rfl _ _ _ (by assumption) ?_; intro w H; try simp only [Act.put, List.setIfInBounds_toArray, List.set_cons_succ, List.set_cons_zero])
          | (refine mem_store3 rfl _ _ rfl _ _ _ rfl rfl _ _ _ _ (by assumption) ?_; intro w H; try simp only [Act.put, List.setIfInBounds_toArray, List.set_cons_succ, List.set_cons_zero])
          | (refine mem_build rfl rfl ?_; try simp only [Act.put, List.setIfInBounds_toArray, List.set_cons_succ, List.set_cons_zero])
          | (go_at_call 27; refine mem_call (by assumption) (cRt.out _) ?_; intro w H)
          | (go_at_call 41; refine mem_call (by assumption) (cN.out _) ?_; intro w H))
        refine mem_ret2 Try.results46 _ rfl rfl rfl (by assumption) (by (first | exact .head _ | exact .tail _ (.head _) | exact .tail _ (.tail _ (.head _)) | exact .tail _ (.tail _ (.tail _ (.head _))) | exact .tail _ (.tail _ (.tail _ (.tail _ (.head _)))))) ?_
        rw [← hRd.out]
        exact ⟨by rw [if_pos hq1.out, hres.out]; rfl, H.below⟩
      · have hp0 : (l0 : Int) % 2 = 0 := by omega
        have hres : evenN (r1N n % pF) = t := by rw [hr1.out, ht.out]; unfold evenN; rw [if_neg hpar]
        replace hl0 := Kept.mk hl0
        replace hpar := Kept.mk hpar
        replace hres := Kept.mk hres
        refine wp_region_from (by kernel_rfl) (by kernel_rfl) ?_
        repeat (first
          | (go_big_quiet_want; (refine mem_quiet_load _ rfl _ _ rfl (by assumption) (by (first | exact .head _ | exact .tail _ (.head _) | exact .tail _ (.tail _ (.head _)) | exact .tail _ (.tail _ (.tail _ (.head _))) | exact .tail _ (.tail _ (.tail _ (.tail _ (.head _)))))) ?_); try simp only [Act.put, List.setIfInBounds_toArray, List.set_cons_succ, List.set_cons_zero]; go_big_quiet_on)
          | (go_big_quiet_want; (refine quiet_neq_num _ _ _ rfl _ _ rfl rfl (hb.out) (hnb.out) ?_); rw [hd1]; try simp only [Act.put, List.setIfInBounds_toArray, List.set_cons_succ, List.set_cons_zero]; go_big_quiet_on)
          | go_big_quiet_step (((first | (go_at_call 54; exact held_call _ (c1.out _ _)) | (go_at_call 27; exact held_call _ (cR1.out _))))))
        refine wpQuiet_nil ?_
        intro w5 hw5
        have H := mem_from H hw5
        clear hw5
        go_wp2_with (first
          | (refine mem_store0 rfl _ _ rfl _ _ _ rfl rfl _ (by assumption) ?_; intro w H; have hc := limb0 H hl0.out; try simp only [Act.put, List.setIfInBounds_toArray, List.set_cons_succ, List.set_cons_zero])
          | (refine mem_box rfl _ rfl _ rfl (by assumption) ?_; intro g w H; try simp only [Act.put, List.setIfInBounds_toArray, List.set_cons_succ, List.set_cons_zero])
          | (refine mem_alloc rfl rfl (by assumption) ?_; intro g w H; try simp only [Act.put, List.setIfInBounds_toArray, List.set_cons_succ, List.set_cons_zero])
          | (refine mem_load rfl _ rfl _ _ rfl (by assumption) (by (first | exact .head _ | exact .tail _ (.head _) | exact .tail _ (.tail _ (.head _)) | exact .tail _ (.tail _ (.tail _ (.head _))) | exact .tail _ (.tail _ (.tail _ (.tail _ (.head _)))))) ?_; try simp only [Act.put, List.setIfInBounds_toArray, List.set_cons_succ, List.set_cons_zero])
          | (refine mem_store0 rfl _ _ rfl _ _ _ rfl rfl _ (by assumption) ?_; intro w H; try simp only [Act.put, List.setIfInBounds_toArray, List.set_cons_succ, List.set_cons_zero])
          | (refine mem_store1 rfl _ _ rfl _ _ _ rfl rfl _ _ (by assumption) ?_; intro w H; try simp only [Act.put, List.setIfInBounds_toArray, List.set_cons_succ, List.set_cons_zero])
          | (refine mem_store2 rfl _ _ rfl _ _ _ rfl rfl _ _ _ (by assumption) ?_; intro w H; try simp only [Act.put, List.setIfInBounds_toArray, List.set_cons_succ, List.set_cons_zero])
          | (refine mem_store3 rfl _ _ rfl _ _ _ rfl rfl _ _ _ _ (by assumption) ?_; intro w H; try simp only [Act.put, List.setIfInBounds_toArray, List.set_cons_succ, List.set_cons_zero])
          | (refine mem_build rfl rfl ?_; try simp only [Act.put, List.setIfInBounds_toArray, List.set_cons_succ, List.set_cons_zero])
          | (go_at_call 27; refine mem_call (by assumption) (cRt.out _) ?_; intro w H))
        refine mem_ret2 Try.results46 _ rfl rfl rfl (by assumption) (by (first | exact .head _ | exact .tail _ (.head _) | exact .tail _ (.tail _ (.head _)) | exact .tail _ (.tail _ (.tail _ (.head _))) | exact .tail _ (.tail _ (.tail _ (.tail _ (.head _)))))) ?_
        rw [← hRd.out]
        exact ⟨by rw [if_pos hq1.out, hres.out]; rfl, H.below⟩
    · have hd1 : (!decide (s1 = n)) = true := by simp [h1]
      have hq1 : ¬ sqN (r1N n) 1 % pF = n := by rw [hr1.out, hs1]; exact h1
      replace hs1 := Kept.mk hs1
      replace h1 := Kept.mk h1
      replace hq1 := Kept.mk hq1
      refine wp_region_from (by kernel_rfl) (by kernel_rfl) ?_
      repeat (first
        | (go_big_quiet_want; (refine mem_quiet_load _ rfl _ _ rfl (by assumption) (by (first | exact .head _ | exact .tail _ (.head _) | exact .tail _ (.tail _ (.head _)) | exact .tail _ (.tail _ (.tail _ (.head _))) | exact .tail _ (.tail _ (.tail _ (.tail _ (.head _)))))) ?_); try simp only [Act.put, List.setIfInBounds_toArray, List.set_cons_succ, List.set_cons_zero]; go_big_quiet_on)
        | (go_big_quiet_want; (refine quiet_neq_num _ _ _ rfl _ _ rfl rfl (hb.out) (hnb.out) ?_); rw [hd1]; try simp only [Act.put, List.setIfInBounds_toArray, List.set_cons_succ, List.set_cons_zero]; go_big_quiet_on)
        | go_big_quiet_step (((first | (go_at_call 54; exact held_call _ (c1.out _ _)) | (go_at_call 27; exact held_call _ (cR1.out _))))))
      refine wpQuiet_nil ?_
      intro w5 hw5
      have H := mem_from H hw5
      clear hw5
      go_wp2_with (first
        | (refine mem_box rfl _ rfl _ rfl (by assumption) ?_; intro g w H; try simp only [Act.put, List.setIfInBounds_toArray, List.set_cons_succ, List.set_cons_zero])
        | (refine mem_alloc rfl rfl (by assumption) ?_; intro g w H; try simp only [Act.put, List.setIfInBounds_toArray, List.set_cons_succ, List.set_cons_zero])
        | (refine mem_load rfl _ rfl _ _ rfl (by assumption) (by (first | exact .head _ | exact .tail _ (.head _) | exact .tail _ (.tail _ (.head _)) | exact .tail _ (.tail _ (.tail _ (.head _))) | exact .tail _ (.tail _ (.tail _ (.tail _ (.head _)))))) ?_; try simp only [Act.put, List.setIfInBounds_toArray, List.set_cons_succ, List.set_cons_zero])
        | (refine mem_store0 rfl _ _ rfl _ _ _ rfl rfl _ (by assumption) ?_; intro w H; try simp only [Act.put, List.setIfInBounds_toArray, List.set_cons_succ, List.set_cons_zero])
        | (refine mem_store1 rfl _ _ rfl _ _ _ rfl rfl _ _ (by assumption) ?_; intro w H; try simp only [Act.put, List.setIfInBounds_toArray, List.set_cons_succ, List.set_cons_zero])
        | (refine mem_store2 rfl _ _ rfl _ _ _ rfl rfl _ _ _ (by assumption) ?_; intro w H; try simp only [Act.put, List.setIfInBounds_toArray, List.set_cons_succ, List.set_cons_zero])
        | (refine mem_store3 rfl _ _ rfl _ _ _ rfl rfl _ _ _ _ (by assumption) ?_; intro w H; try simp only [Act.put, List.setIfInBounds_toArray, List.set_cons_succ, List.set_cons_zero])
        | (refine mem_build rfl rfl ?_; try simp only [Act.put, List.setIfInBounds_toArray, List.set_cons_succ, List.set_cons_zero]))
      refine mem_ret2 Try.results46 _ rfl rfl rfl (by assumption) (by (first | exact .head _ | exact .tail _ (.head _) | exact .tail _ (.tail _ (.head _)) | exact .tail _ (.tail _ (.tail _ (.head _))) | exact .tail _ (.tail _ (.tail _ (.tail _ (.head _)))))) ?_
      rw [← hRd.out]
      exact ⟨by rw [if_neg hq1.out]; rfl, H.below⟩
end Go.Proofs.Ytbkaemekcjinaaa
