/- Package field: sum, difference, product, by numbers; p, its like. -/
import Derived.Test.YtbkaemekcjinaaaFV
import Derived.Test.YtbkaemekcjinaaaG0
namespace Go.Proofs.Ytbkaemekcjinaaa
open Go.RowKit Go.Lib
def NP (x : Nat) (w : World) (e : Ending) (w' : World) : Prop := e = .returned (numV x) ∧ Below w.heap.size w w'
theorem sumN_any (x y : Nat) (hx : x < big) (hy : y < big) (hs : x + y < big) (w : World) : Calls Try.prog 38 #[numV x, numV y] w (NP (x + y) w) := by
  refine (sum_any (nL x) (nL y) (nL_len x) (nL_len y) (nL_lt x) (nL_lt y) w).mono ?_
  rintro e w' ⟨rfl, hb⟩
  refine ⟨?_, hb⟩
  rw [nL_of (addL (nL x) (nL y) 0) (x + y) (by rw [addL_len _ _ _ (by rw [nL_len, nL_len]), nL_len]) (addL_lt _ _ _) (by
    rw [addL_val _ _ _ (by rw [nL_len, nL_len]), nL_len, big_eq, nL_val x hx, nL_val y hy, Nat.add_zero, Nat.mod_eq_of_lt hs])]
  rfl
theorem diffN_any (x y : Nat) (hx : x < big) (hle : y ≤ x) (w : World) : Calls Try.prog 49 #[numV x, numV y] w (NP (x - y) w) := by
  refine (diff_any (nL x) (nL y) (nL_len x) (nL_len y) (nL_lt x) (nL_lt y) w).mono ?_
  rintro e w' ⟨rfl, hb⟩
  refine ⟨?_, hb⟩
  have hv := subL_val (nL x) (nL y) 0 (by rw [nL_len, nL_len]) (nL_lt x) (nL_lt y) (by omega) (by rw [nL_val x hx, nL_val y (by omega)]; exact hle)
  rw [nL_val x hx, nL_val y (by omega)] at hv
  rw [nL_of (subL (nL x) (nL y) 0) (x - y) (by rw [subL_len _ _ _ (by rw [nL_len, nL_len]), nL_len]) (subL_lt _ _ _) (by omega)]
  rfl
theorem prodN_any (x y : Nat) (w : World) : Calls Try.prog 42 #[numV x, numV y] w (NP (prodN x y) w) := by
  refine (product_of (fun l => foldedL l) (fun l w hl hW => folded_of l hl hW (foldedL_fin l hl hW) w) (fun l hl => foldedL_len l hl) (nL x) (nL y) (nL_len x) (nL_len y) (nL_lt x) (nL_lt y) w).mono ?_
  rintro e w' ⟨rfl, hb⟩
  refine ⟨?_, hb⟩
  rw [prodN_nL]
  rfl
theorem nL_p : nL pF = [4294967277, 4294967295, 4294967295, 4294967295, 4294967295, 4294967295, 4294967295, 2147483647] := by decide +kernel
/-- A root of p - 1. -/
def iF : Nat := 19681161376707505956807079304988542015446066515923890162744021073123829784752
theorem nL_i : nL iF = [1242472624, 3303938855, 2905597048, 792926214, 1039914919, 726466713, 1338105611, 730014848] := by decide +kernel
theorem prime_any (w : World) : Calls Try.prog 50 #[] w (NP pF w) := by
  go_enter Try.func50, Try.ntmps50
  go_wp2
  refine bodyPost_ret (v := numV pF) (by unfold numV; rw [nL_p]; simp [results, Try.results50, go_sem, aggN, numC]) rfl ⟨rfl, (Below.refl _ _).alloc (Nat.le_refl _) _⟩
theorem iroot_any (w : World) : Calls Try.prog 57 #[] w (NP iF w) := by
  go_enter Try.func57, Try.ntmps57
  go_wp2
  refine bodyPost_ret (v := numV iF) (by unfold numV; rw [nL_i]; simp [results, Try.results57, go_sem, aggN, numC]) rfl ⟨rfl, (Below.refl _ _).alloc (Nat.le_refl _) _⟩
theorem top_lt (a b : List Nat) (k : Nat) (hl : a.length = b.length) (hk : k < a.length) (ha : ∀ x ∈ a, x < 4294967296) (h : a.drop (k + 1) = b.drop (k + 1)) (hlt : a.getD k 0 < b.getD k 0) : valB 4294967296 a < valB 4294967296 b := by
  rw [valB_split a k (by omega), valB_split b k (by omega), drop_getD a k hk, drop_getD b k (by omega), valB, valB, h]
  have h1 := valB_lt (B := 4294967296) (by decide) (a.take k) fun x hx => ha x (List.mem_of_mem_take hx)
  rw [List.length_take, Nat.min_eq_left (by omega)] at h1
  generalize valB 4294967296 (b.drop (k + 1)) = v
  have h2 : 4294967296 ^ k * (a.getD k 0 + 4294967296 * v + 1) ≤ 4294967296 ^ k * (b.getD k 0 + 4294967296 * v) := Nat.mul_le_mul_left _ (by omega)
  rw [Nat.mul_add _ _ 1, Nat.mul_one] at h2
  omega
set_option maxHeartbeats 1000000 in
theorem isReduced_any (x : Nat) (hx : x < big) (w : World) : Calls Try.prog 48 #[numV x] w fun e w' => e = .returned (.bool (decide (x < pF))) ∧ Below w.heap.size w w' := by
  obtain ⟨Z, hZ, hz⟩ := zeroN
  obtain ⟨a, ha⟩ : ∃ a, nL x = a := ⟨_, rfl⟩
  obtain ⟨b, hb⟩ : ∃ b, nL pF = b := ⟨_, rfl⟩
  have hal : a.length = 8 := by rw [← ha, nL_len]
  have hbl : b.length = 8 := by rw [← hb, nL_len]
  have haW : ∀ x ∈ a, x < 4294967296 := ha ▸ nL_lt x
  have hbW : ∀ x ∈ b, x < 4294967296 := hb ▸ nL_lt pF
  have hav : valB 4294967296 a = x := by rw [← ha]; exact nL_val x hx
  have hbv : valB 4294967296 b = pF := by rw [← hb]; exact nL_val pF (by decide +kernel)
  have cp := fun w => prime_any w
  unfold NP numV aggN at cp
  rw [hb] at cp
  obtain ⟨A, hA⟩ : ∃ A, (numC .u32 a).toArray = A := ⟨_, rfl⟩
  obtain ⟨B, hB⟩ : ∃ B, (numC .u32 b).toArray = B := ⟨_, rfl⟩
  have hB8 : B.size = 8 := by rw [← hB, List.size_toArray, numC_length, hbl]
  have hB1 : B.all (·.oneCell') = true := by rw [← hB]; exact numC_one _ _
  rw [hB] at cp
  unfold numV aggN
  rw [ha, hA]
  replace cp := Kept.mk cp
  replace hZ := Kept.mk hZ
  replace ha := Kept.mk ha
  replace hb := Kept.mk hb
  replace hal := Kept.mk hal
  replace hbl := Kept.mk hbl
  replace haW := Kept.mk haW
  replace hbW := Kept.mk hbW
  replace hav := Kept.mk hav
  replace hbv := Kept.mk hbv
  replace hB8 := Kept.mk hB8
  replace hB1 := Kept.mk hB1
  clear hx
  go_enter Try.func48, Try.ntmps48
  go_wp2_with (first
    | (go_at_call 50; refine (cp.out _).mono ?_; rintro e w1 ⟨rfl, hb1⟩; replace hb1 := Kept.mk hb1)
    | (refine wpList_store_row rfl 35 (.tmp 3) (.tmp 5) rfl w1.heap.size B rfl rfl 35 Z (heap_alloc_new w1 _) ?_ ?_ hB1.out ?_; (rw [infoN, hB8.out]); (rw [hZ.out, hB8.out])))
  rw [World.setRow_alloc_new]
  have h1 : Arr (w1.alloc (.cells B 35)) w.heap.size 35 .u32 a := by
    have h := Arr.new w 35 .u32 a
    rw [hA] at h
    exact (h.from hb1.out).from ((Below.refl _ _).alloc (Nat.le_refl _) _)
  have h2 : Arr (w1.alloc (.cells B 35)) w1.heap.size 35 .u32 b := by
    have h := Arr.new w1 35 .u32 b
    rw [hB] at h
    exact h
  have h4 : Below w.heap.size w (w1.alloc (.cells B 35)) := (((Below.refl _ _).alloc (Nat.le_refl _) _).trans (hb1.out.mono (by simp))).alloc (by have := hb1.out.size; simp at this; omega) _
  replace hA := Kept.mk hA
  replace hB := Kept.mk hB
  clear hb1
  generalize w1.alloc (.cells B 35) = w0 at h1 h2 h4 ⊢
  generalize hn : w.heap.size = n at h1 ⊢
  generalize w1.heap.size = m at h2 ⊢
  replace h1 := Kept.mk h1
  replace h2 := Kept.mk h2
  replace h4 := Kept.mk h4
  replace hn := Kept.mk hn
  go_loopw [4] (fun v4 wr => ∃ (k : Nat), k ≤ 8 ∧ v4 = .int .i64 ((k : Int) - 1) ∧ Kept (a.drop k = b.drop k) ∧ Kept (Arr wr n 35 .u32 a) ∧ Kept (Arr wr m 35 .u32 b) ∧ Kept (Below w.heap.size w wr)) (fun v4 _ => (intOf v4 + 1).toNat)
  case atStart => exact ⟨8, by omega, rfl, ⟨by rw [List.drop_eq_nil_of_le (by rw [hal.out]; omega), List.drop_eq_nil_of_le (by rw [hbl.out]; omega)]⟩, h1, h2, h4⟩
  case round =>
    clear h1 h2 h4
    obtain ⟨k, hk, rfl, HD, H1, H2, H4⟩ := hrel
    cases k with
    | zero =>
      rw [show ((0 : Nat) : Int) - 1 = -1 from rfl]
      go_wp2
      go_ret
      refine ⟨?_, H4.out⟩
      have hab : a = b := HD.out
      have : ¬ x < pF := by rw [← hav.out, ← hbv.out, hab]; omega
      rw [decide_eq_false this]
      rfl
    | succ k =>
      rw [show ((k + 1 : Nat) : Int) - 1 = (k : Int) by omega]
      obtain ⟨y, hy⟩ : ∃ y, a.getD k 0 = y := ⟨_, rfl⟩
      obtain ⟨z, hz⟩ : ∃ z, b.getD k 0 = z := ⟨_, rfl⟩
      have c1 : ∀ u : Held (From wr.drew), u.w.cell? ⟨n, k, none⟩ = some (.int .u32 (y : Int)) := fun u => hy ▸ (H1.out.from u.h.of_drew).cell k (by rw [hal.out]; omega)
      have c2 : ∀ u : Held (From wr.drew), u.w.cell? ⟨m, k, none⟩ = some (.int .u32 (z : Int)) := fun u => hz ▸ (H2.out.from u.h.of_drew).cell k (by rw [hbl.out]; omega)
      by_cases hyz : y = z
      · have e1 : ((y : Int) != (z : Int)) = false := by simp [hyz]
        have hdr : a.drop k = b.drop k := by rw [drop_getD a k (by rw [hal.out]; omega), drop_getD b k (by rw [hbl.out]; omega), hy, hz, hyz, HD.out]
        have hk1 : IntKind.i64.wrap ((k : Int) - 1) = (k : Int) - 1 := by simp [IntKind.wrap, IntKind.signed, IntKind.bits]; omega
        replace hyz := Kept.mk hyz
        replace hdr := Kept.mk hdr
        replace hy := Kept.mk hy
        replace hz := Kept.mk hz
        go_wp2
        refine wp_region_from (by kernel_rfl) (by kernel_rfl) ?_
        repeat (go_big_quiet_step (fail))
        refine wpQuiet_nil ?_
        intro w5 hw5
        have H15 := H1.out.from hw5.of_drew
        have H25 := H2.out.from hw5.of_drew
        have H45 := H4.out.trans (hw5.of_drew.mono H4.out.size)
        replace H15 := Kept.mk H15
        replace H25 := Kept.mk H25
        replace H45 := Kept.mk H45
        clear c1 c2
        go_wp2
        go_roundw
        case rel => exact ⟨k, by omega, rfl, hdr, H15, H25, H45⟩
        case measure => first | (simp [intOf]; done) | (simp [intOf]; omega)
      · have e1 : ((y : Int) != (z : Int)) = true := by simp; omega
        have hres : (x < pF) = (y < z) := by
          rw [← hav.out, ← hbv.out]
          have g1 := top_lt a b k (by rw [hal.out, hbl.out]) (by rw [hal.out]; omega) haW.out HD.out
          have g2 := top_lt b a k (by rw [hal.out, hbl.out]) (by rw [hbl.out]; omega) hbW.out HD.out.symm
          rw [hy, hz] at g1 g2
          apply propext
          constructor
          · intro h
            have : ¬ z < y := fun h2 => by have := g2 h2; omega
            omega
          · exact g1
        replace hyz := Kept.mk hyz
        replace hres := Kept.mk hres
        replace hy := Kept.mk hy
        replace hz := Kept.mk hz
        go_wp2
        refine wp_region_from (by kernel_rfl) (by kernel_rfl) ?_
        repeat (go_big_quiet_step (fail))
        refine wpQuiet_nil ?_
        intro w5 hw5
        have H15 := H1.out.from hw5.of_drew
        have H25 := H2.out.from hw5.of_drew
        have H45 := H4.out.trans (hw5.of_drew.mono H4.out.size)
        replace H45 := Kept.mk H45
        clear c1 c2
        have c1 : ∀ u : Held (From w5.drew), u.w.cell? ⟨n, k, none⟩ = some (.int .u32 (y : Int)) := fun u => hy.out ▸ (H15.from u.h.of_drew).cell k (by rw [hal.out]; omega)
        have c2 : ∀ u : Held (From w5.drew), u.w.cell? ⟨m, k, none⟩ = some (.int .u32 (z : Int)) := fun u => hz.out ▸ (H25.from u.h.of_drew).cell k (by rw [hbl.out]; omega)
        go_wp2
        refine wp_region_from (by kernel_rfl) (by kernel_rfl) ?_
        repeat (go_big_quiet_step (fail))
        refine wpQuiet_nil ?_
        intro w6 hw6
        have H46 := H45.out.trans (hw6.of_drew.mono H45.out.size)
        replace H46 := Kept.mk H46
        clear c1 c2
        go_wp2
        go_ret
        refine ⟨?_, H46.out⟩
        exact bool_ret (decide_eq_decide.2 (by rw [hres.out]))
end Go.Proofs.Ytbkaemekcjinaaa
