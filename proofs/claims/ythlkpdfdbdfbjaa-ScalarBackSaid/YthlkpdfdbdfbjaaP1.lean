/- Walks of package scalar: sums. -/
import Derived.Test.YthlkpdfdbdfbjaaFA
set_option linter.unusedSimpArgs false
set_option linter.unusedVariables false
namespace Go.Proofs.Ythlkpdfdbdfbjaa
open Go.RowKit Go.Lib
def addL : List Nat → List Nat → Nat → List Nat
  | x :: xs, y :: ys, c => (x + y + c) % 4294967296 :: addL xs ys ((x + y + c) / 4294967296)
  | _, _, _ => []
theorem addL_nil (ys : List Nat) (c : Nat) : addL [] ys c = [] := by cases ys <;> rfl
theorem infoN : (Try.prog.info? 41).map (·.size) = some 16 := by kernel_rfl
theorem zeroN : ∃ Z : Array Value, Z.size = 16 ∧ ∀ w, (zeroValue 41).run Try.prog w = .ok (.agg Z) w :=
  ⟨(numC .u32 (List.replicate 16 0)).toArray, by kernel_rfl, (zero_of_info (n := 16) (by kernel_rfl)).1⟩
def NumPost (l : List Nat) (w : World) (e : Ending) (w' : World) : Prop := e = .returned (aggN .u32 l) ∧ Below w.heap.size w w'
set_option maxHeartbeats 1000000 in
theorem sum_any (a b : List Nat) (ha : a.length = 16) (hb : b.length = 16) (hal : ∀ x ∈ a, x < 4294967296) (hbl : ∀ x ∈ b, x < 4294967296) (w : World) :
    Calls Try.prog 28 #[aggN .u32 a, aggN .u32 b] w (NumPost (addL a b 0) w) := by
  obtain ⟨Z, hZ, hz⟩ := zeroN
  replace hZ := Kept.mk hZ
  replace ha := Kept.mk ha
  replace hb := Kept.mk hb
  replace hal := Kept.mk hal
  replace hbl := Kept.mk hbl
  obtain ⟨A, hA⟩ : ∃ A, (numC .u32 a).toArray = A := ⟨_, rfl⟩
  obtain ⟨B, hB⟩ : ∃ B, (numC .u32 b).toArray = B := ⟨_, rfl⟩
  unfold aggN
  rw [hA, hB]
  go_enter Try.func28, Try.ntmps28
  go_wp2
  have h1 : Arr (((w.alloc (.cells A 41)).alloc (.cells B 41)).alloc (.cells Z 41)) w.heap.size 41 .u32 a := by
    have h := Arr.new w 41 .u32 a
    rw [hA] at h
    exact (h.from ((Below.refl _ _).alloc (Nat.le_refl _) _)).from ((Below.refl _ _).alloc (Nat.le_refl _) _)
  have h2 : Arr (((w.alloc (.cells A 41)).alloc (.cells B 41)).alloc (.cells Z 41)) (w.heap.size + 1) 41 .u32 b := by
    have h := Arr.new (w.alloc (.cells A 41)) 41 .u32 b
    rw [hB, World.size_alloc] at h
    exact h.from ((Below.refl _ _).alloc (Nat.le_refl _) _)
  have h3 : (((w.alloc (.cells A 41)).alloc (.cells B 41)).alloc (.cells Z 41)).heap[w.heap.size + 2]? = some (.cells Z 41 (0, 0)) := by
    have h := heap_alloc_new ((w.alloc (.cells A 41)).alloc (.cells B 41)) (.cells Z 41)
    simpa using h
  have h4 : Below w.heap.size w (((w.alloc (.cells A 41)).alloc (.cells B 41)).alloc (.cells Z 41)) :=
    (((Below.refl _ _).alloc (Nat.le_refl _) _).alloc (by simp) _).alloc (by simp; omega) _
  replace hA := Kept.mk hA
  replace hB := Kept.mk hB
  generalize ((w.alloc (.cells A 41)).alloc (.cells B 41)).alloc (.cells Z 41) = w0 at h1 h2 h3 h4 ⊢
  obtain ⟨n, hn⟩ : ∃ n, w.heap.size = n := ⟨_, rfl⟩
  rw [hn] at h1 h2 h3 ⊢
  replace h1 := Kept.mk h1
  replace h2 := Kept.mk h2
  replace h3 := Kept.mk h3
  replace h4 := Kept.mk h4
  replace hn := Kept.mk hn
  go_loopw [5, 8] (fun v5 v8 wr => ∃ (i c : Nat) (d : List Nat), i ≤ 16 ∧ c ≤ 1 ∧ v5 = .int .u64 (c : Int) ∧ v8 = .int .i64 (i : Int) ∧ Kept (d.length = i) ∧ Kept (Arr wr n 41 .u32 (d ++ a.drop i)) ∧ Kept (Arr wr (n + 1) 41 .u32 b) ∧
    Kept (wr.heap[n + 2]? = some (.cells Z 41 (0, 0))) ∧ Kept (Below w.heap.size w wr) ∧ Kept (d ++ addL (a.drop i) (b.drop i) c = addL a b 0)) (fun _ v8 _ => 16 - (intOf v8).toNat)
  case atStart => exact ⟨0, 0, [], by omega, by omega, rfl, rfl, ⟨rfl⟩, h1, h2, h3, h4, ⟨rfl⟩⟩
  case round =>
    clear h1 h2 h3 h4
    obtain ⟨i, c, d, hi, hc, rfl, rfl, HD, H1, H2, H3, H4, HE⟩ := hrel
    by_cases hlt : i < 16
    · obtain ⟨x, hx⟩ : ∃ x, a.getD i 0 = x := ⟨_, rfl⟩
      obtain ⟨y, hy⟩ : ∃ y, b.getD i 0 = y := ⟨_, rfl⟩
      have hda := drop_getD a i (by rw [ha.out]; exact hlt)
      have hdb := drop_getD b i (by rw [hb.out]; exact hlt)
      rw [hx] at hda
      rw [hy] at hdb
      have c1 : ∀ u : Held (From wr.drew), u.w.cell? ⟨n, i, none⟩ = some (.int .u32 (x : Int)) := fun u => (H1.out.from u.h.of_drew).cellMid hda HD.out
      have c2 : ∀ u : Held (From wr.drew), u.w.cell? ⟨n + 1, i, none⟩ = some (.int .u32 (y : Int)) := fun u => hy ▸ (H2.out.from u.h.of_drew).cell i (by rw [hb.out]; exact hlt)
      replace hda := Kept.mk hda
      replace hdb := Kept.mk hdb
      have hxl : x < 4294967296 := hx ▸ getD_ltN hal.out i (by rw [ha.out]; exact hlt)
      have hyl : y < 4294967296 := hy ▸ getD_ltN hbl.out i (by rw [hb.out]; exact hlt)
      replace hx := Kept.mk hx
      replace hy := Kept.mk hy
      go_wp2
      refine wp_region_from (by kernel_rfl) (by kernel_rfl) ?_
      repeat (go_big_quiet_step (fail))
      refine wpQuiet_nil ?_
      intro w5 hw5
      have H15 := H1.out.from hw5.of_drew
      have H25 := H2.out.from hw5.of_drew
      have f5 := H15.frozen i
      have c5 := H15.cellMid hda.out HD.out
      have b5 := H4.out.trans (hw5.of_drew.mono H4.out.size)
      have h35 := (hw5.of_drew.block (n + 2) (Array.getElem?_eq_some_iff.1 H3.out).1).trans H3.out
      replace H15 := Kept.mk H15
      replace H25 := Kept.mk H25
      replace b5 := Kept.mk b5
      replace h35 := Kept.mk h35
      clear c1 c2
      go_wp2
      go_roundw
      case rel => exact ⟨i + 1, (x + y + c) / 4294967296, d ++ [(x + y + c) % 4294967296], by omega, by omega, val_eq (by omega), val_eq (by omega), ⟨by rw [List.length_append, HD.out]; rfl⟩, ⟨H15.out.step hda.out HD.out _ (by omega)⟩,
        ⟨H25.out.other (by omega) _ _⟩, ⟨(Below.heap_setCell w5 ⟨n, i, none⟩ _ (n + 2) (by simp)).trans h35.out⟩, ⟨b5.out.setCell (by simp [hn.out]) _⟩, ⟨by
          have h := HE.out
          rw [hda.out, hdb.out, addL] at h
          rw [List.append_assoc]
          exact h⟩⟩
      case measure => simp [intOf]; omega
    · obtain rfl : i = 16 := by omega
      have hA8 : Arr wr n 41 .u32 d := by have h := H1.out; rw [List.drop_eq_nil_of_le (by rw [ha.out]; omega), List.append_nil] at h; exact h
      have hd : d = addL a b 0 := by have h := HE.out; rw [List.drop_eq_nil_of_le (by rw [ha.out]; omega), addL_nil, List.append_nil] at h; exact h
      replace hA8 := Kept.mk hA8
      replace hd := Kept.mk hd
      clear HE H1
      go_wp2_with (first
        | (refine wpList_load_row rfl 41 (.tmp 2) rfl n rfl 41 (numC .u32 d).toArray (0, 0) _ hA8.out.blk Try.underlying41 rfl ?_ ?_; (rw [infoN, List.size_toArray, numC_length, HD.out]))
        | (refine wpList_store_row rfl 41 (.tmp 4) (.tmp 29) rfl (n + 2) (numC .u32 d).toArray rfl rfl 41 Z H3.out ?_ ?_ (numC_one _ _) ?_; (rw [infoN, List.size_toArray, numC_length, HD.out]); (rw [hZ.out, List.size_toArray, numC_length, HD.out])))
      exact bodyPost_ret (results_cell_row (p := 4) (ty := 41) Try.results28 _ _ (n + 2) 41 (numC .u32 d).toArray (0, 0) _ rfl (setRow_heap _ _ _ _ _ _ H3.out) Try.underlying41 rfl (by rw [infoN, List.size_toArray, numC_length, HD.out])) rfl
        ⟨by rw [← hd.out]; rfl, below_setRow H4.out (by rw [hn.out]; omega) _⟩
end Go.Proofs.Ythlkpdfdbdfbjaa
