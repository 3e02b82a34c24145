/- Walks of package scalar: differences. -/
import Derived.Test.YthlkpdfdbdfbjaaP1
set_option linter.unusedSimpArgs false
set_option linter.unusedVariables false
namespace Go.Proofs.Ythlkpdfdbdfbjaa
open Go.RowKit Go.Lib
def subL : List Nat → List Nat → Nat → List Nat
  | x :: xs, y :: ys, c => (x + 4294967296 - y - c) % 4294967296 :: subL xs ys (if x < y + c then 1 else 0)
  | _, _, _ => []
theorem subL_nil (ys : List Nat) (c : Nat) : subL [] ys c = [] := by cases ys <;> rfl
/-- The last borrow. -/
def subU : List Nat → List Nat → Nat → Nat
  | x :: xs, y :: ys, c => subU xs ys (if x < y + c then 1 else 0)
  | _, _, c => c
theorem subU_nil (ys : List Nat) (c : Nat) : subU [] ys c = c := by cases ys <;> rfl
theorem subU_le : ∀ (xs ys : List Nat) (c : Nat), c ≤ 1 → subU xs ys c ≤ 1
  | [], _, _, h => by rw [subU_nil]; exact h
  | x :: xs, [], _, h => h
  | x :: xs, y :: ys, c, h => by rw [subU]; exact subU_le xs ys _ (by split <;> omega)
def DiffPost (l : List Nat) (u : Nat) (w : World) (e : Ending) (w' : World) : Prop := e = .returned (.tuple #[aggN .u32 l, .bool (decide (u = 1))]) ∧ Below w.heap.size w w'
theorem eq_one (c : Nat) : ((c : Int) == 1) = decide (c = 1) := by
  rw [Bool.eq_iff_iff, beq_iff_eq, decide_eq_true_eq]; omega
theorem under_hi (x y c : Nat) (hx : x < 4294967296) (hy : y < 4294967296) (hc : c ≤ 1) : IntKind.u64.wrap (IntKind.u64.wrap ((x : Int) - (y : Int)) - (c : Int)) / 9223372036854775808 = (((if x < y + c then 1 else 0 : Nat)) : Int) := by
  simp only [IntKind.wrap, IntKind.signed, IntKind.bits]
  by_cases h : x < y + c
  · rw [if_pos h]; simp; omega
  · rw [if_neg h]; simp; omega
theorem under_lo (x y c : Nat) (hx : x < 4294967296) (hy : y < 4294967296) (hc : c ≤ 1) : IntKind.u64.wrap (IntKind.u64.wrap ((x : Int) - (y : Int)) - (c : Int)) % 4294967296 = (((x + 4294967296 - y - c) % 4294967296 : Nat) : Int) := by
  simp only [IntKind.wrap, IntKind.signed, IntKind.bits]
  simp; omega
set_option maxHeartbeats 1000000 in
theorem diff_any (a b : List Nat) (ha : a.length = 16) (hb : b.length = 16) (hal : ∀ x ∈ a, x < 4294967296) (hbl : ∀ x ∈ b, x < 4294967296) (w : World) :
    Calls Try.prog 34 #[aggN .u32 a, aggN .u32 b] w (DiffPost (subL a b 0) (subU a b 0) w) := by
  obtain ⟨Z, hZ, hz⟩ := zeroN
  replace hZ := Kept.mk hZ
  replace ha := Kept.mk ha
  replace hb := Kept.mk hb
  replace hal := Kept.mk hal
  replace hbl := Kept.mk hbl
  obtain ⟨A, hA⟩ : ∃ A, (numC .u32 a).toArray = A := ⟨_, rfl⟩
  obtain ⟨B, hB⟩ : ∃ B, (numC .u32 b).toArray = B := ⟨_, rfl⟩
  unfold aggN
  rw [hA, hB]
  go_enter Try.func34, Try.ntmps34
  go_wp2
  have h1 : Arr (((w.alloc (.cells A 41)).alloc (.cells B 41)).alloc (.cells Z 41)) w.heap.size 41 .u32 a := by
    have h := Arr.new w 41 .u32 a
    rw [hA] at h
    exact (h.from ((Below.refl _ _).alloc (Nat.le_refl _) _)).from ((Below.refl _ _).alloc (Nat.le_refl _) _)
  have h2 : Arr (((w.alloc (.cells A 41)).alloc (.cells B 41)).alloc (.cells Z 41)) (w.heap.size + 1) 41 .u32 b := by
    have h := Arr.new (w.alloc (.cells A 41)) 41 .u32 b
    rw [hB, World.size_alloc] at h
    exact h.from ((Below.refl _ _).alloc (Nat.le_refl _) _)
  have h3 : (((w.alloc (.cells A 41)).alloc (.cells B 41)).alloc (.cells Z 41)).heap[w.heap.size + 2]? = some (.cells Z 41 (0, 0)) := by
    have h := heap_alloc_new ((w.alloc (.cells A 41)).alloc (.cells B 41)) (.cells Z 41)
    simpa using h
  have h4 : Below w.heap.size w (((w.alloc (.cells A 41)).alloc (.cells B 41)).alloc (.cells Z 41)) :=
    (((Below.refl _ _).alloc (Nat.le_refl _) _).alloc (by simp) _).alloc (by simp; omega) _
  replace hA := Kept.mk hA
  replace hB := Kept.mk hB
  generalize ((w.alloc (.cells A 41)).alloc (.cells B 41)).alloc (.cells Z 41) = w0 at h1 h2 h3 h4 ⊢
  obtain ⟨n, hn⟩ : ∃ n, w.heap.size = n := ⟨_, rfl⟩
  rw [hn] at h1 h2 h3 ⊢
  replace h1 := Kept.mk h1
  replace h2 := Kept.mk h2
  replace h3 := Kept.mk h3
  replace h4 := Kept.mk h4
  replace hn := Kept.mk hn
  go_loopw [6, 9] (fun v6 v9 wr => ∃ (i c : Nat) (d : List Nat), i ≤ 16 ∧ c ≤ 1 ∧ v6 = .int .u64 (c : Int) ∧ v9 = .int .i64 (i : Int) ∧ Kept (d.length = i) ∧ Kept (Arr wr n 41 .u32 (d ++ a.drop i)) ∧ Kept (Arr wr (n + 1) 41 .u32 b) ∧
    Kept (wr.heap[n + 2]? = some (.cells Z 41 (0, 0))) ∧ Kept (Below w.heap.size w wr) ∧ Kept (d ++ subL (a.drop i) (b.drop i) c = subL a b 0) ∧ Kept (subU (a.drop i) (b.drop i) c = subU a b 0)) (fun _ v9 _ => 16 - (intOf v9).toNat)
  case atStart => exact ⟨0, 0, [], by omega, by omega, rfl, rfl, ⟨rfl⟩, h1, h2, h3, h4, ⟨rfl⟩, ⟨rfl⟩⟩
  case round =>
    clear h1 h2 h3 h4
    obtain ⟨i, c, d, hi, hc, rfl, rfl, HD, H1, H2, H3, H4, HE, HU⟩ := hrel
    by_cases hlt : i < 16
    · obtain ⟨x, hx⟩ : ∃ x, a.getD i 0 = x := ⟨_, rfl⟩
      obtain ⟨y, hy⟩ : ∃ y, b.getD i 0 = y := ⟨_, rfl⟩
      have hda := drop_getD a i (by rw [ha.out]; exact hlt)
      have hdb := drop_getD b i (by rw [hb.out]; exact hlt)
      rw [hx] at hda
      rw [hy] at hdb
      have c1 : ∀ u : Held (From wr.drew), u.w.cell? ⟨n, i, none⟩ = some (.int .u32 (x : Int)) := fun u => (H1.out.from u.h.of_drew).cellMid hda HD.out
      have c2 : ∀ u : Held (From wr.drew), u.w.cell? ⟨n + 1, i, none⟩ = some (.int .u32 (y : Int)) := fun u => hy ▸ (H2.out.from u.h.of_drew).cell i (by rw [hb.out]; exact hlt)
      replace hda := Kept.mk hda
      replace hdb := Kept.mk hdb
      have hxl : x < 4294967296 := hx ▸ getD_ltN hal.out i (by rw [ha.out]; exact hlt)
      have hyl : y < 4294967296 := hy ▸ getD_ltN hbl.out i (by rw [hb.out]; exact hlt)
      replace hx := Kept.mk hx
      replace hy := Kept.mk hy
      go_wp2
      refine wp_region_from (by kernel_rfl) (by kernel_rfl) ?_
      repeat (go_big_quiet_step (fail))
      refine wpQuiet_nil ?_
      intro w5 hw5
      have H15 := H1.out.from hw5.of_drew
      have H25 := H2.out.from hw5.of_drew
      have f5 := H15.frozen i
      have c5 := H15.cellMid hda.out HD.out
      have b5 := H4.out.trans (hw5.of_drew.mono H4.out.size)
      have h35 := (hw5.of_drew.block (n + 2) (Array.getElem?_eq_some_iff.1 H3.out).1).trans H3.out
      replace H15 := Kept.mk H15
      replace H25 := Kept.mk H25
      replace b5 := Kept.mk b5
      replace h35 := Kept.mk h35
      clear c1 c2
      go_wp2
      go_roundw
      case rel => exact ⟨i + 1, (if x < y + c then 1 else 0), d ++ [(x + 4294967296 - y - c) % 4294967296], by omega, by split <;> omega, val_eq (under_hi x y c hxl hyl hc), val_eq (by omega), ⟨by rw [List.length_append, HD.out]; rfl⟩, ⟨H15.out.step hda.out HD.out _ (under_lo x y c hxl hyl hc)⟩,
        ⟨H25.out.other (by omega) _ _⟩, ⟨(Below.heap_setCell w5 ⟨n, i, none⟩ _ (n + 2) (by simp)).trans h35.out⟩, ⟨b5.out.setCell (by simp [hn.out]) _⟩, ⟨by
          have h := HE.out
          rw [hda.out, hdb.out, subL] at h
          rw [List.append_assoc]
          exact h⟩, ⟨by
          have h := HU.out
          rw [hda.out, hdb.out, subU] at h
          exact h⟩⟩
      case measure => simp [intOf]; omega
    · obtain rfl : i = 16 := by omega
      have hA8 : Arr wr n 41 .u32 d := by have h := H1.out; rw [List.drop_eq_nil_of_le (by rw [ha.out]; omega), List.append_nil] at h; exact h
      have hd : d = subL a b 0 := by have h := HE.out; rw [List.drop_eq_nil_of_le (by rw [ha.out]; omega), subL_nil, List.append_nil] at h; exact h
      have hu : decide (c = 1) = decide (subU a b 0 = 1) := by have h := HU.out; rw [List.drop_eq_nil_of_le (by rw [ha.out]; omega), subU_nil] at h; rw [h]
      have hce := eq_one c
      replace hA8 := Kept.mk hA8
      replace hd := Kept.mk hd
      replace hu := Kept.mk hu
      clear HE H1 HU
      go_wp2_with (first
        | (refine wpList_load_row rfl 41 (.tmp 2) rfl n rfl 41 (numC .u32 d).toArray (0, 0) _ hA8.out.blk Try.underlying41 rfl ?_ ?_; (rw [infoN, List.size_toArray, numC_length, HD.out]))
        | (refine wpList_store_row rfl 41 (.tmp 4) (.tmp 30) rfl (n + 2) (numC .u32 d).toArray rfl rfl 41 Z H3.out ?_ ?_ (numC_one _ _) ?_; (rw [infoN, List.size_toArray, numC_length, HD.out]); (rw [hZ.out, List.size_toArray, numC_length, HD.out])))
      have hl := run_loadVar_row (P := Try.prog) (wr.setRow (n + 2) (numC .u32 d).toArray) (n + 2) 41 41 (numC .u32 d).toArray (0, 0) _ (setRow_heap _ _ _ _ _ _ H3.out) Try.underlying41 rfl (by rw [infoN, List.size_toArray, numC_length, HD.out])
      refine bodyPost_ret (v := .tuple #[.agg (numC .u32 d).toArray, .bool (decide (c = 1))]) ?_ rfl ⟨by rw [hd.out, hu.out]; rfl, below_setRow H4.out (by rw [hn.out]; omega) _⟩
      simp [results, Try.results34, asAddr, hl]
end Go.Proofs.Ythlkpdfdbdfbjaa
