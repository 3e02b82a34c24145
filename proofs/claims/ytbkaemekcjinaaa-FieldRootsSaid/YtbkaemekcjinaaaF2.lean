/- Walks of package field: differences. -/
import Derived.Test.YtbkaemekcjinaaaF1
namespace Go.Proofs.Ytbkaemekcjinaaa
open Go.RowKit Go.Lib
def subL : List Nat → List Nat → Nat → List Nat
  | x :: xs, y :: ys, c => (x + 4294967296 - y - c) % 4294967296 :: subL xs ys (if x < y + c then 1 else 0)
  | _, _, _ => []
theorem subL_nil (ys : List Nat) (c : Nat) : subL [] ys c = [] := by cases ys <;> rfl
theorem under_hi (x y c : Nat) (hx : x < 4294967296) (hy : y < 4294967296) (hc : c ≤ 1) : IntKind.u64.wrap (IntKind.u64.wrap ((x : Int) - (y : Int)) - (c : Int)) / 9223372036854775808 = (((if x < y + c then 1 else 0 : Nat)) : Int) := by
  simp only [IntKind.wrap, IntKind.signed, IntKind.bits]
  by_cases h : x < y + c
  · rw [if_pos h]; simp; omega
  · rw [if_neg h]; simp; omega
theorem under_lo (x y c : Nat) (hx : x < 4294967296) (hy : y < 4294967296) (hc : c ≤ 1) : IntKind.u64.wrap (IntKind.u64.wrap ((x : Int) - (y : Int)) - (c : Int)) % 4294967296 = (((x + 4294967296 - y - c) % 4294967296 : Nat) : Int) := by
  simp only [IntKind.wrap, IntKind.signed, IntKind.bits]
  simp; omega
set_option maxHeartbeats 1000000 in
theorem diff_any (a b : List Nat) (ha : a.length = 8) (hb : b.length = 8) (hal : ∀ x ∈ a, x < 4294967296) (hbl : ∀ x ∈ b, x < 4294967296) (w : World) :
    Calls Try.prog 49 #[aggN .u32 a, aggN .u32 b] w (NumPost (subL a b 0) w) := by
  obtain ⟨Z, hZ, hz⟩ := zeroN
  replace hZ := Kept.mk hZ
  replace ha := Kept.mk ha
  replace hb := Kept.mk hb
  replace hal := Kept.mk hal
  replace hbl := Kept.mk hbl
  obtain ⟨A, hA⟩ : ∃ A, (numC .u32 a).toArray = A := ⟨_, rfl⟩
  obtain ⟨B, hB⟩ : ∃ B, (numC .u32 b).toArray = B := ⟨_, rfl⟩
  unfold aggN
  rw [hA, hB]
  go_enter Try.func49, Try.ntmps49
  go_wp2
  have h1 : Arr (((w.alloc (.cells A 35)).alloc (.cells B 35)).alloc (.cells Z 35)) w.heap.size 35 .u32 a := by
    have h := Arr.new w 35 .u32 a
    rw [hA] at h
    exact (h.from ((Below.refl _ _).alloc (Nat.le_refl _) _)).from ((Below.refl _ _).alloc (Nat.le_refl _) _)
  have h2 : Arr (((w.alloc (.cells A 35)).alloc (.cells B 35)).alloc (.cells Z 35)) (w.heap.size + 1) 35 .u32 b := by
    have h := Arr.new (w.alloc (.cells A 35)) 35 .u32 b
    rw [hB, World.size_alloc] at h
    exact h.from ((Below.refl _ _).alloc (Nat.le_refl _) _)
  have h3 : (((w.alloc (.cells A 35)).alloc (.cells B 35)).alloc (.cells Z 35)).heap[w.heap.size + 2]? = some (.cells Z 35 (0, 0)) := by
    have h := heap_alloc_new ((w.alloc (.cells A 35)).alloc (.cells B 35)) (.cells Z 35)
    simpa using h
  have h4 : Below w.heap.size w (((w.alloc (.cells A 35)).alloc (.cells B 35)).alloc (.cells Z 35)) :=
    (((Below.refl _ _).alloc (Nat.le_refl _) _).alloc (by simp) _).alloc (by simp; omega) _
  replace hA := Kept.mk hA
  replace hB := Kept.mk hB
  generalize ((w.alloc (.cells A 35)).alloc (.cells B 35)).alloc (.cells Z 35) = w0 at h1 h2 h3 h4 ⊢
  obtain ⟨n, hn⟩ : ∃ n, w.heap.size = n := ⟨_, rfl⟩
  rw [hn] at h1 h2 h3 ⊢
  replace h1 := Kept.mk h1
  replace h2 := Kept.mk h2
  replace h3 := Kept.mk h3
  replace h4 := Kept.mk h4
  replace hn := Kept.mk hn
  go_loopw [5, 8] (fun v5 v8 wr => ∃ (i c : Nat) (d : List Nat), i ≤ 8 ∧ c ≤ 1 ∧ v5 = .int .u64 (c : Int) ∧ v8 = .int .i64 (i : Int) ∧ Kept (d.length = i) ∧ Kept (Arr wr n 35 .u32 (d ++ a.drop i)) ∧ Kept (Arr wr (n + 1) 35 .u32 b) ∧
    Kept (wr.heap[n + 2]? = some (.cells Z 35 (0, 0))) ∧ Kept (Below w.heap.size w wr) ∧ Kept (d ++ subL (a.drop i) (b.drop i) c = subL a b 0)) (fun _ v8 _ => 8 - (intOf v8).toNat)
  case atStart => exact ⟨0, 0, [], by omega, by omega, rfl, rfl, ⟨rfl⟩, h1, h2, h3, h4, ⟨rfl⟩⟩
  case round =>
    clear h1 h2 h3 h4
    obtain ⟨i, c, d, hi, hc, rfl, rfl, HD, H1, H2, H3, H4, HE⟩ := hrel
    by_cases hlt : i < 8
    · obtain ⟨x, hx⟩ : ∃ x, a.getD i 0 = x := ⟨_, rfl⟩
      obtain ⟨y, hy⟩ : ∃ y, b.getD i 0 = y := ⟨_, rfl⟩
      have hda := drop_getD a i (by rw [ha.out]; exact hlt)
      have hdb := drop_getD b i (by rw [hb.out]; exact hlt)
      rw [hx] at hda
      rw [hy] at hdb
      have c1 : ∀ u : Held (From wr.drew), u.w.cell? ⟨n, i, none⟩ = some (.int .u32 (x : Int)) := fun u => (H1.out.from u.h.of_drew).cellMid hda HD.out
      have c2 : ∀ u : Held (From wr.drew), u.w.cell? ⟨n + 1, i, none⟩ = some (.int .u32 (y : Int)) := fun u => hy ▸ (H2.out.from u.h.of_drew).cell i (by rw [hb.out]; exact hlt)
      replace hda := Kept.mk hda
      replace hdb := Kept.mk hdb
      have hxl : x < 4294967296 := hx ▸ getD_ltN hal.out i (by rw [ha.out]; exact hlt)
      have hyl : y < 4294967296 := hy ▸ getD_ltN hbl.out i (by rw [hb.out]; exact hlt)
      replace hx := Kept.mk hx
      replace hy := Kept.mk hy
      go_wp2
      refine wp_region_from (by kernel_rfl) (by kernel_rfl) ?_
      repeat (go_big_quiet_step (fail))
      refine wpQuiet_nil ?_
      intro w5 hw5
      have H15 := H1.out.from hw5.of_drew
      have H25 := H2.out.from hw5.of_drew
      have f5 := H15.frozen i
      have c5 := H15.cellMid hda.out HD.out
      have b5 := H4.out.trans (hw5.of_drew.mono H4.out.size)
      have h35 := (hw5.of_drew.block (n + 2) (Array.getElem?_eq_some_iff.1 H3.out).1).trans H3.out
      replace H15 := Kept.mk H15
      replace H25 := Kept.mk H25
      replace b5 := Kept.mk b5
      replace h35 := Kept.mk h35
      clear c1 c2
      go_wp2
      go_roundw
      case rel => exact ⟨i + 1, (if x < y + c then 1 else 0), d ++ [(x + 4294967296 - y - c) % 4294967296], by omega, by split <;> omega, val_eq (under_hi x y c hxl hyl hc), val_eq (by omega), ⟨by rw [List.length_append, HD.out]; rfl⟩, ⟨H15.out.step hda.out HD.out _ (under_lo x y c hxl hyl hc)⟩,
        ⟨H25.out.other (by omega) _ _⟩, ⟨(Below.heap_setCell w5 ⟨n, i, none⟩ _ (n + 2) (by simp)).trans h35.out⟩, ⟨b5.out.setCell (by simp [hn.out]) _⟩, ⟨by
          have h := HE.out
          rw [hda.out, hdb.out, subL] at h
          rw [List.append_assoc]
          exact h⟩⟩
      case measure => simp [intOf]; omega
    · obtain rfl : i = 8 := by omega
      have hA8 : Arr wr n 35 .u32 d := by have h := H1.out; rw [List.drop_eq_nil_of_le (by rw [ha.out]; omega), List.append_nil] at h; exact h
      have hd : d = subL a b 0 := by have h := HE.out; rw [List.drop_eq_nil_of_le (by rw [ha.out]; omega), subL_nil, List.append_nil] at h; exact h
      replace hA8 := Kept.mk hA8
      replace hd := Kept.mk hd
      clear HE H1
      go_wp2_with (first
        | (refine wpList_load_row rfl 35 (.tmp 2) rfl n rfl 35 (numC .u32 d).toArray (0, 0) _ hA8.out.blk Try.underlying35 rfl ?_ ?_; (rw [infoN, List.size_toArray, numC_length, HD.out]))
        | (refine wpList_store_row rfl 35 (.tmp 4) (.tmp 29) rfl (n + 2) (numC .u32 d).toArray rfl rfl 35 Z H3.out ?_ ?_ (numC_one _ _) ?_; (rw [infoN, List.size_toArray, numC_length, HD.out]); (rw [hZ.out, List.size_toArray, numC_length, HD.out])))
      exact bodyPost_ret (results_cell_row (p := 4) (ty := 35) Try.results49 _ _ (n + 2) 35 (numC .u32 d).toArray (0, 0) _ rfl (setRow_heap _ _ _ _ _ _ H3.out) Try.underlying35 rfl (by rw [infoN, List.size_toArray, numC_length, HD.out])) rfl
        ⟨by rw [← hd.out]; rfl, below_setRow H4.out (by rw [hn.out]; omega) _⟩
end Go.Proofs.Ytbkaemekcjinaaa
