/- Walks of package scalar: differences.
Walks of package scalar: products.
Package scalar: numbers of sixteen words; sums, differences, products by numbers; the order. -/
import Derived.Test.YtgnblaaldpniiaaGreatDoorZO2
section
set_option linter.unusedSimpArgs false
set_option linter.unusedVariables false
set_option maxRecDepth 100000
namespace Go.Proofs.YtgnblaaldpniiaaGreatDoor.Sc
open Go.RowKit Go.Lib
def subL : List Nat → List Nat → Nat → List Nat
  | x :: xs, y :: ys, c => (x + 4294967296 - y - c) % 4294967296 :: subL xs ys (if x < y + c then 1 else 0)
  | _, _, _ => []
theorem subL_nil (ys : List Nat) (c : Nat) : subL [] ys c = [] := by cases ys <;> rfl
def subU : List Nat → List Nat → Nat → Nat
  | x :: xs, y :: ys, c => subU xs ys (if x < y + c then 1 else 0)
  | _, _, c => c
theorem subU_nil (ys : List Nat) (c : Nat) : subU [] ys c = c := by cases ys <;> rfl
theorem subU_le : ∀ (xs ys : List Nat) (c : Nat), c ≤ 1 → subU xs ys c ≤ 1
  | [], _, _, h => by rw [subU_nil]; exact h
  | x :: xs, [], _, h => h
  | x :: xs, y :: ys, c, h => by rw [subU]; exact subU_le xs ys _ (by split <;> omega)
def DiffPost (l : List Nat) (u : Nat) (w : World) (e : Ending) (w' : World) : Prop := e = .returned (.tuple #[aggN .u32 l, .bool (decide (u = 1))]) ∧ Below w.heap.size w w'
theorem eq_one (c : Nat) : ((c : Int) == 1) = decide (c = 1) := by
  rw [Bool.eq_iff_iff, beq_iff_eq, decide_eq_true_eq]; omega
theorem under_hi (x y c : Nat) (hx : x < 4294967296) (hy : y < 4294967296) (hc : c ≤ 1) : IntKind.u64.wrap (IntKind.u64.wrap ((x : Int) - (y : Int)) - (c : Int)) / 9223372036854775808 = (((if x < y + c then 1 else 0 : Nat)) : Int) := by
  simp only [IntKind.wrap, IntKind.signed, IntKind.bits]
  by_cases h : x < y + c
  · rw [if_pos h]; simp; omega
  · rw [if_neg h]; simp; omega
theorem under_lo (x y c : Nat) (hx : x < 4294967296) (hy : y < 4294967296) (hc : c ≤ 1) : IntKind.u64.wrap (IntKind.u64.wrap ((x : Int) - (y : Int)) - (c : Int)) % 4294967296 = (((x + 4294967296 - y - c) % 4294967296 : Nat) : Int) := by
  simp only [IntKind.wrap, IntKind.signed, IntKind.bits]
  simp; omega
set_option maxHeartbeats 1000000 in
theorem diff_any (a b : List Nat) (ha : a.length = 16) (hb : b.length = 16) (hal : ∀ x ∈ a, x < 4294967296) (hbl : ∀ x ∈ b, x < 4294967296) (w : World) :
    Calls Tryz.prog 111 #[aggN .u32 a, aggN .u32 b] w (DiffPost (subL a b 0) (subU a b 0) w) := by
  obtain ⟨Z, hZ, hz⟩ := zeroN
  replace hZ := Kept.mk hZ
  replace ha := Kept.mk ha
  replace hb := Kept.mk hb
  replace hal := Kept.mk hal
  replace hbl := Kept.mk hbl
  obtain ⟨A, hA⟩ : ∃ A, (numC .u32 a).toArray = A := ⟨_, rfl⟩
  obtain ⟨B, hB⟩ : ∃ B, (numC .u32 b).toArray = B := ⟨_, rfl⟩
  unfold aggN
  rw [hA, hB]
  go_enter Tryz.func111, Tryz.ntmps111
  go_wp2
  have h1 : Arr (((w.alloc (.cells A 87)).alloc (.cells B 87)).alloc (.cells Z 87)) w.heap.size 87 .u32 a := by
    have h := Arr.new w 87 .u32 a
    rw [hA] at h
    exact (h.from ((Below.refl _ _).alloc (Nat.le_refl _) _)).from ((Below.refl _ _).alloc (Nat.le_refl _) _)
  have h2 : Arr (((w.alloc (.cells A 87)).alloc (.cells B 87)).alloc (.cells Z 87)) (w.heap.size + 1) 87 .u32 b := by
    have h := Arr.new (w.alloc (.cells A 87)) 87 .u32 b
    rw [hB, World.size_alloc] at h
    exact h.from ((Below.refl _ _).alloc (Nat.le_refl _) _)
  have h3 : (((w.alloc (.cells A 87)).alloc (.cells B 87)).alloc (.cells Z 87)).heap[w.heap.size + 2]? = some (.cells Z 87 (0, 0)) := by
    have h := heap_alloc_new ((w.alloc (.cells A 87)).alloc (.cells B 87)) (.cells Z 87)
    simpa using h
  have h4 : Below w.heap.size w (((w.alloc (.cells A 87)).alloc (.cells B 87)).alloc (.cells Z 87)) :=
    (((Below.refl _ _).alloc (Nat.le_refl _) _).alloc (by simp) _).alloc (by simp; omega) _
  replace hA := Kept.mk hA
  replace hB := Kept.mk hB
  generalize ((w.alloc (.cells A 87)).alloc (.cells B 87)).alloc (.cells Z 87) = w0 at h1 h2 h3 h4 ⊢
  obtain ⟨n, hn⟩ : ∃ n, w.heap.size = n := ⟨_, rfl⟩
  rw [hn] at h1 h2 h3 ⊢
  replace h1 := Kept.mk h1
  replace h2 := Kept.mk h2
  replace h3 := Kept.mk h3
  replace h4 := Kept.mk h4
  replace hn := Kept.mk hn
  go_loopw [6, 9] (fun v6 v9 wr => ∃ (i c : Nat) (d : List Nat), i ≤ 16 ∧ c ≤ 1 ∧ v6 = .int .u64 (c : Int) ∧ v9 = .int .i64 (i : Int) ∧ Kept (d.length = i) ∧ Kept (Arr wr n 87 .u32 (d ++ a.drop i)) ∧ Kept (Arr wr (n + 1) 87 .u32 b) ∧
    Kept (wr.heap[n + 2]? = some (.cells Z 87 (0, 0))) ∧ Kept (Below w.heap.size w wr) ∧ Kept (d ++ subL (a.drop i) (b.drop i) c = subL a b 0) ∧ Kept (subU (a.drop i) (b.drop i) c = subU a b 0)) (fun _ v9 _ => 16 - (RowKit.intOf v9).toNat)
  case atStart => exact ⟨0, 0, [], by omega, by omega, rfl, rfl, ⟨rfl⟩, h1, h2, h3, h4, ⟨rfl⟩, ⟨rfl⟩⟩
  case round =>
    clear h1 h2 h3 h4
    obtain ⟨i, c, d, hi, hc, rfl, rfl, HD, H1, H2, H3, H4, HE, HU⟩ := hrel
    by_cases hlt : i < 16
    · obtain ⟨x, hx⟩ : ∃ x, a.getD i 0 = x := ⟨_, rfl⟩
      obtain ⟨y, hy⟩ : ∃ y, b.getD i 0 = y := ⟨_, rfl⟩
      have hda := drop_getD a i (by rw [ha.out]; exact hlt)
      have hdb := drop_getD b i (by rw [hb.out]; exact hlt)
      rw [hx] at hda
      rw [hy] at hdb
      have c1 : ∀ u : Held (From wr.drew), u.w.cell? ⟨n, i, none⟩ = some (.int .u32 (x : Int)) := fun u => (H1.out.from u.h.of_drew).cellMid hda HD.out
      have c2 : ∀ u : Held (From wr.drew), u.w.cell? ⟨n + 1, i, none⟩ = some (.int .u32 (y : Int)) := fun u => hy ▸ (H2.out.from u.h.of_drew).cell i (by rw [hb.out]; exact hlt)
      replace hda := Kept.mk hda
      replace hdb := Kept.mk hdb
      have hxl : x < 4294967296 := hx ▸ getD_ltN hal.out i (by rw [ha.out]; exact hlt)
      have hyl : y < 4294967296 := hy ▸ getD_ltN hbl.out i (by rw [hb.out]; exact hlt)
      replace hx := Kept.mk hx
      replace hy := Kept.mk hy
      go_wp2
      refine wp_region_from (by kernel_rfl) (by kernel_rfl) ?_
      repeat (go_big_quiet_step (fail))
      refine wpQuiet_nil ?_
      intro w5 hw5
      have H15 := H1.out.from hw5.of_drew
      have H25 := H2.out.from hw5.of_drew
      have f5 := H15.frozen i
      have c5 := H15.cellMid hda.out HD.out
      have b5 := H4.out.trans (hw5.of_drew.mono H4.out.size)
      have h35 := (hw5.of_drew.block (n + 2) (Array.getElem?_eq_some_iff.1 H3.out).1).trans H3.out
      replace H15 := Kept.mk H15
      replace H25 := Kept.mk H25
      replace b5 := Kept.mk b5
      replace h35 := Kept.mk h35
      clear c1 c2
      go_wp2
      go_roundw
      case rel => exact ⟨i + 1, (if x < y + c then 1 else 0), d ++ [(x + 4294967296 - y - c) % 4294967296], by omega, by split <;> omega, val_eq (under_hi x y c hxl hyl hc), val_eq (by omega), ⟨by rw [List.length_append, HD.out]; rfl⟩, ⟨H15.out.step hda.out HD.out _ (under_lo x y c hxl hyl hc)⟩,
        ⟨H25.out.other (by omega) _ _⟩, ⟨(Below.heap_setCell w5 ⟨n, i, none⟩ _ (n + 2) (by simp)).trans h35.out⟩, ⟨b5.out.setCell (by simp [hn.out]) _⟩, ⟨by
          have h := HE.out
          rw [hda.out, hdb.out, subL] at h
          rw [List.append_assoc]
          exact h⟩, ⟨by
          have h := HU.out
          rw [hda.out, hdb.out, subU] at h
          exact h⟩⟩
      case measure => simp [RowKit.intOf]; omega
    · obtain rfl : i = 16 := by omega
      have hA8 : Arr wr n 87 .u32 d := by have h := H1.out; rw [List.drop_eq_nil_of_le (by rw [ha.out]; omega), List.append_nil] at h; exact h
      have hd : d = subL a b 0 := by have h := HE.out; rw [List.drop_eq_nil_of_le (by rw [ha.out]; omega), subL_nil, List.append_nil] at h; exact h
      have hu : decide (c = 1) = decide (subU a b 0 = 1) := by have h := HU.out; rw [List.drop_eq_nil_of_le (by rw [ha.out]; omega), subU_nil] at h; rw [h]
      have hce := eq_one c
      replace hA8 := Kept.mk hA8
      replace hd := Kept.mk hd
      replace hu := Kept.mk hu
      clear HE H1 HU
      go_wp2_with (first
        | (refine wpList_load_row rfl 87 (.tmp 2) rfl n rfl 87 (numC .u32 d).toArray (0, 0) _ hA8.out.blk Tryz.underlying87 rfl ?_ ?_; (rw [infoN, List.size_toArray, numC_length, HD.out]))
        | (refine wpList_store_row rfl 87 (.tmp 4) (.tmp 30) rfl (n + 2) (numC .u32 d).toArray rfl rfl 87 Z H3.out ?_ ?_ (numC_one _ _) ?_; (rw [infoN, List.size_toArray, numC_length, HD.out]); (rw [hZ.out, List.size_toArray, numC_length, HD.out])))
      have hl := run_loadVar_row (P := Tryz.prog) (wr.setRow (n + 2) (numC .u32 d).toArray) (n + 2) 87 87 (numC .u32 d).toArray (0, 0) _ (setRow_heap _ _ _ _ _ _ H3.out) Tryz.underlying87 rfl (by rw [infoN, List.size_toArray, numC_length, HD.out])
      refine bodyPost_ret (v := .tuple #[.agg (numC .u32 d).toArray, .bool (decide (c = 1))]) ?_ rfl ⟨by rw [hd.out, hu.out]; rfl, below_setRow H4.out (by rw [hn.out]; omega) _⟩
      simp [results, Tryz.results111, asAddr, hl]
end Go.Proofs.YtgnblaaldpniiaaGreatDoor.Sc
end
section
set_option linter.unusedSimpArgs false
set_option linter.unusedVariables false
set_option maxRecDepth 100000
namespace Go.Proofs.YtgnblaaldpniiaaGreatDoor.Sc
open Go.RowKit Go.Lib
def macL : Nat → List Nat → List Nat → Nat → List Nat
  | x, y :: ys, v :: vs, c => (x * y + v + c) % 4294967296 :: macL x ys vs ((x * y + v + c) / 4294967296)
  | _, [], _ :: vs, c => c :: vs
  | _, _, [], _ => []
def mulL : List Nat → List Nat → List Nat → List Nat
  | [], _, ws => ws
  | x :: xs, ys, ws => (macL x ys ws 0).headD 0 :: mulL xs ys (macL x ys ws 0).tail
theorem zeroW : ∀ w, (zeroValue 87).run Tryz.prog w = .ok (aggN .u32 (List.replicate 16 0)) w :=
  (zero_of_info (n := 16) (by kernel_rfl)).1
theorem macL_len : ∀ (x : Nat) (ys ws : List Nat) (c : Nat), (macL x ys ws c).length = ws.length
  | _, _ :: ys, _ :: vs, c => by rw [macL, List.length_cons, List.length_cons, macL_len _ ys vs]
  | _, [], _ :: vs, c => rfl
  | _, [], [], _ => rfl
  | _, _ :: _, [], _ => rfl
theorem macL_lt : ∀ (x : Nat) (ys ws : List Nat) (c : Nat), x < 4294967296 → (∀ y ∈ ys, y < 4294967296) → (∀ y ∈ ws, y < 4294967296) → c < 4294967296 → ∀ z ∈ macL x ys ws c, z < 4294967296
  | x, y :: ys, v :: vs, c, hx, hy, hw, hc, z, hz => by
    rw [macL, List.mem_cons] at hz
    have hy0 := hy y (by simp)
    have hv0 := hw v (by simp)
    rcases hz with rfl | hz
    · omega
    · have hp : x * y ≤ 4294967295 * 4294967295 := Nat.mul_le_mul (by omega) (by omega)
      exact macL_lt x ys vs _ hx (fun y h => hy y (by simp [h])) (fun y h => hw y (by simp [h])) (by omega) z hz
  | _, [], v :: vs, c, _, _, hw, hc, z, hz => by
    rw [macL, List.mem_cons] at hz
    rcases hz with rfl | hz
    · exact hc
    · exact hw z (by simp [hz])
  | _, [], [], _, _, _, _, _, z, hz => by simp [macL] at hz
  | _, _ :: _, [], _, _, _, _, _, z, hz => by simp [macL] at hz
set_option maxHeartbeats 1000000 in
theorem product_any (a b : List Nat) (ha : a.length = 16) (hb : b.length = 16) (hal : ∀ x ∈ a, x < 4294967296) (hbl : ∀ x ∈ b, x < 4294967296) (w : World) :
    Calls Tryz.prog 72 #[aggN .u32 a, aggN .u32 b] w (NumPost (mulL (a.take 8) (b.take 8) (List.replicate 16 0)) w) := by
  obtain ⟨Z, hZ, hz⟩ := zeroN
  obtain ⟨z16, hz16⟩ : ∃ z, List.replicate 16 0 = z := ⟨_, rfl⟩
  have hzl : z16.length = 16 := by rw [← hz16]; rfl
  have hzz : ∀ x ∈ z16, x < 4294967296 := by rw [← hz16]; intro x hx; rw [List.eq_of_mem_replicate hx]; decide
  have hZz : Z = (numC .u32 z16).toArray := by
    have h0 := zeroW w
    have h1 := hz w
    rw [h0] at h1
    injection h1 with h1 _
    injection h1 with h1
    rw [← h1, hz16]
  rw [hz16]
  obtain ⟨p, hp⟩ : ∃ p, a.take 8 = p := ⟨_, rfl⟩
  obtain ⟨q, hq⟩ : ∃ q, b.take 8 = q := ⟨_, rfl⟩
  rw [hp, hq]
  have hpl : p.length = 8 := by rw [← hp, List.length_take, ha]; rfl
  have hql : q.length = 8 := by rw [← hq, List.length_take, hb]; rfl
  have hpW : ∀ x ∈ p, x < 4294967296 := fun x hx => hal x (List.mem_of_mem_take (hp ▸ hx))
  have hqW : ∀ x ∈ q, x < 4294967296 := fun x hx => hbl x (List.mem_of_mem_take (hq ▸ hx))
  have hpg : ∀ i, i < 8 → p.getD i 0 = a.getD i 0 := fun i hi => by rw [← hp]; simp [hi]
  have hqg : ∀ i, i < 8 → q.getD i 0 = b.getD i 0 := fun i hi => by rw [← hq]; simp [hi]
  obtain ⟨M, hM⟩ : ∃ M, mulL p q z16 = M := ⟨_, rfl⟩
  replace hp := Kept.mk hp
  replace hq := Kept.mk hq
  replace hpl := Kept.mk hpl
  replace hql := Kept.mk hql
  replace hpW := Kept.mk hpW
  replace hqW := Kept.mk hqW
  replace hpg := Kept.mk hpg
  replace hqg := Kept.mk hqg
  rw [hM]
  replace hZz := Kept.mk hZz
  replace hM := Kept.mk hM
  replace hz16 := Kept.mk hz16
  replace hzl := Kept.mk hzl
  replace hzz := Kept.mk hzz
  replace hZ := Kept.mk hZ
  replace ha := Kept.mk ha
  replace hb := Kept.mk hb
  replace hal := Kept.mk hal
  replace hbl := Kept.mk hbl
  obtain ⟨A, hA⟩ : ∃ A, (numC .u32 a).toArray = A := ⟨_, rfl⟩
  obtain ⟨B, hB⟩ : ∃ B, (numC .u32 b).toArray = B := ⟨_, rfl⟩
  unfold aggN
  rw [hA, hB]
  go_enter Tryz.func72, Tryz.ntmps72
  go_wp2
  have h1 : Arr ((((w.alloc (.cells A 87)).alloc (.cells B 87)).alloc (.cells Z 87)).alloc (.cells Z 87)) w.heap.size 87 .u32 a := by
    have h := Arr.new w 87 .u32 a
    rw [hA] at h
    exact ((h.from ((Below.refl _ _).alloc (Nat.le_refl _) _)).from ((Below.refl _ _).alloc (Nat.le_refl _) _)).from ((Below.refl _ _).alloc (Nat.le_refl _) _)
  have h2 : Arr ((((w.alloc (.cells A 87)).alloc (.cells B 87)).alloc (.cells Z 87)).alloc (.cells Z 87)) (w.heap.size + 1) 87 .u32 b := by
    have h := Arr.new (w.alloc (.cells A 87)) 87 .u32 b
    rw [hB, World.size_alloc] at h
    exact (h.from ((Below.refl _ _).alloc (Nat.le_refl _) _)).from ((Below.refl _ _).alloc (Nat.le_refl _) _)
  have h3 : ((((w.alloc (.cells A 87)).alloc (.cells B 87)).alloc (.cells Z 87)).alloc (.cells Z 87)).heap[w.heap.size + 2]? = some (.cells Z 87 (0, 0)) := by
    have h := heap_alloc_new ((w.alloc (.cells A 87)).alloc (.cells B 87)) (.cells Z 87)
    rw [← h]
    simpa using (Below.alloc (Below.refl _ (((w.alloc (.cells A 87)).alloc (.cells B 87)).alloc (.cells Z 87))) (Nat.le_refl _) (.cells Z 87)).block (w.heap.size + 2) (by simp)
  have h5 : Arr ((((w.alloc (.cells A 87)).alloc (.cells B 87)).alloc (.cells Z 87)).alloc (.cells Z 87)) (w.heap.size + 3) 87 .u32 z16 := by
    have h := Arr.new (((w.alloc (.cells A 87)).alloc (.cells B 87)).alloc (.cells Z 87)) 87 .u32 z16
    rw [← hZz.out] at h
    simpa using h
  have h4 : Below w.heap.size w ((((w.alloc (.cells A 87)).alloc (.cells B 87)).alloc (.cells Z 87)).alloc (.cells Z 87)) :=
    ((((Below.refl _ _).alloc (Nat.le_refl _) _).alloc (by simp) _).alloc (by simp; omega) _).alloc (by simp; omega) _
  replace hA := Kept.mk hA
  replace hB := Kept.mk hB
  generalize (((w.alloc (.cells A 87)).alloc (.cells B 87)).alloc (.cells Z 87)).alloc (.cells Z 87) = w0 at h1 h2 h3 h4 h5 ⊢
  obtain ⟨n, hn⟩ : ∃ n, w.heap.size = n := ⟨_, rfl⟩
  rw [hn] at h1 h2 h3 h5 ⊢
  replace h1 := Kept.mk h1
  replace h2 := Kept.mk h2
  replace h3 := Kept.mk h3
  replace h4 := Kept.mk h4
  replace h5 := Kept.mk h5
  replace hn := Kept.mk hn
  go_loopw [10] (fun v10 wr => ∃ (i : Nat) (d r : List Nat), i ≤ 8 ∧ v10 = .int .i64 (i : Int) ∧ Kept (d.length = i) ∧ Kept (r.length = 16 - i) ∧ Kept (∀ x ∈ d ++ r, x < 4294967296) ∧ Kept (Arr wr n 87 .u32 a) ∧ Kept (Arr wr (n + 1) 87 .u32 b) ∧
    Kept (wr.heap[n + 2]? = some (.cells Z 87 (0, 0))) ∧ Kept (Arr wr (n + 3) 87 .u32 (d ++ r)) ∧ Kept (Below w.heap.size w wr) ∧ Kept (d ++ mulL (p.drop i) q r = M)) (fun v10 _ => 8 - (RowKit.intOf v10).toNat)
  case atStart => exact ⟨0, [], z16, by omega, rfl, ⟨rfl⟩, hzl, hzz, h1, h2, h3, h5, h4, hM⟩
  case round =>
    clear h1 h2 h3 h4 h5
    obtain ⟨i, d, r, hi, rfl, HD, HRl, HRW, H1, H2, H3, H5, H4, HE⟩ := hrel
    obtain ⟨wo, rfl⟩ : ∃ wo : World, wo = wr := ⟨_, rfl⟩
    by_cases hlt : i < 8
    · obtain ⟨x, hx⟩ : ∃ x, a.getD i 0 = x := ⟨_, rfl⟩
      have hda := drop_getD p i (by rw [hpl.out]; exact hlt)
      rw [hpg.out i hlt, hx] at hda
      have hxl : x < 4294967296 := hx ▸ getD_ltN hal.out i (by rw [ha.out]; omega)
      replace hx := Kept.mk hx
      replace hda := Kept.mk hda
      have hlti : (i : Int) < 8 := by omega
      go_wp2
      go_loopw [7, 13] (fun v7 v13 wr => ∃ (j c : Nat) (e : List Nat), j ≤ 8 ∧ c < 4294967296 ∧ v7 = .int .u64 (c : Int) ∧ v13 = .int .i64 (j : Int) ∧ Kept (e.length = j) ∧ Kept (Arr wr n 87 .u32 a) ∧ Kept (Arr wr (n + 1) 87 .u32 b) ∧
        Kept (wr.heap[n + 2]? = some (.cells Z 87 (0, 0))) ∧ Kept (Arr wr (n + 3) 87 .u32 (d ++ e ++ r.drop j)) ∧ Kept (Below w.heap.size w wr) ∧ Kept (e ++ macL x (q.drop j) (r.drop j) c = macL x q r 0)) (fun _ v13 _ => 8 - (RowKit.intOf v13).toNat)
      case atStart => exact ⟨0, 0, [], by omega, by omega, rfl, rfl, ⟨rfl⟩, H1, H2, H3, ⟨by rw [List.append_nil]; exact H5.out⟩, H4, ⟨rfl⟩⟩
      case round =>
        clear H1 H2 H3 H4 H5
        obtain ⟨j, c, e, hj, hc, rfl, rfl, HEl, H1, H2, H3, H5, H4, HI⟩ := hrel
        by_cases hjt : j < 8
        · obtain ⟨y, hy⟩ : ∃ y, b.getD j 0 = y := ⟨_, rfl⟩
          obtain ⟨v, hv⟩ : ∃ v, r.getD j 0 = v := ⟨_, rfl⟩
          have hdb := drop_getD q j (by rw [hql.out]; exact hjt)
          have hdr := drop_getD r j (by rw [HRl.out]; omega)
          rw [hqg.out j hjt, hy] at hdb
          rw [hv] at hdr
          have hyl : y < 4294967296 := hy ▸ getD_ltN hbl.out j (by rw [hb.out]; omega)
          have hvl : v < 4294967296 := hv ▸ getD_ltN (fun x hx => HRW.out x (List.mem_append_right _ hx)) j (by rw [HRl.out]; omega)
          have hdel : (d ++ e).length = i + j := by rw [List.length_append, HD.out, HEl.out]
          have hx := hx.out
          have c1 : ∀ u : Held (From wr.drew), u.w.cell? ⟨n, i, none⟩ = some (.int .u32 (x : Int)) := fun u => hx ▸ (H1.out.from u.h.of_drew).cell i (by rw [ha.out]; omega)
          have c2 : ∀ u : Held (From wr.drew), u.w.cell? ⟨n + 1, j, none⟩ = some (.int .u32 (y : Int)) := fun u => hy ▸ (H2.out.from u.h.of_drew).cell j (by rw [hb.out]; omega)
          have c3 : ∀ u : Held (From wr.drew), u.w.cell? ⟨n + 3, i + j, none⟩ = some (.int .u32 (v : Int)) := fun u => (H5.out.from u.h.of_drew).cellMid hdr hdel
          obtain ⟨pp, hpp⟩ : ∃ pp, x * y = pp := ⟨_, rfl⟩
          have hppl : pp ≤ 4294967295 * 4294967295 := hpp ▸ Nat.mul_le_mul (by omega) (by omega)
          have k1 : IntKind.u64.wrap ((x : Int) * (y : Int)) = (pp : Int) := by
            rw [← hpp, ← Int.natCast_mul, hpp]
            simp [IntKind.wrap, IntKind.signed, IntKind.bits]; omega
          have k2 : IntKind.i64.wrap ((i : Int) + (j : Int)) = (i : Int) + (j : Int) := by simp [IntKind.wrap, IntKind.signed, IntKind.bits]; omega
          have k3 : ((i : Int) + (j : Int)).toNat = i + j := by omega
          replace hx := Kept.mk hx
          replace hy := Kept.mk hy
          replace hv := Kept.mk hv
          replace hpp := Kept.mk hpp
          replace hda := Kept.mk hda
          replace hdb := Kept.mk hdb
          replace hdr := Kept.mk hdr
          replace hdel := Kept.mk hdel
          go_wp2
          refine wp_region_from (by kernel_rfl) (by kernel_rfl) ?_
          repeat (go_big_quiet_step (fail))
          refine wpQuiet_nil ?_
          intro w5 hw5
          have b5 := hw5.of_drew
          have H15 := H1.out.from b5
          have H25 := H2.out.from b5
          have H55 := H5.out.from b5
          have f5 := H55.frozen (i + j)
          have c5 := H55.cellMid hdr.out hdel.out
          have h35 := (b5.block (n + 2) (Array.getElem?_eq_some_iff.1 H3.out).1).trans H3.out
          replace b5 := H4.out.trans (b5.mono H4.out.size)
          replace H15 := Kept.mk H15
          replace H25 := Kept.mk H25
          replace H55 := Kept.mk H55
          replace b5 := Kept.mk b5
          replace h35 := Kept.mk h35
          clear c1 c2 c3
          go_wp2
          go_roundw
          case rel => exact ⟨j + 1, (pp + v + c) / 4294967296, e ++ [(pp + v + c) % 4294967296], by omega, by omega, val_eq (by omega), val_eq (by omega), ⟨by rw [List.length_append, HEl.out]; rfl⟩, ⟨H15.out.other (by omega) _ _⟩, ⟨H25.out.other (by omega) _ _⟩,
            ⟨(Below.heap_setCell w5 ⟨n + 3, i + j, none⟩ _ (n + 2) (by simp)).trans h35.out⟩, ⟨by have h := H55.out.step hdr.out hdel.out ((pp + v + c) % 4294967296) (v := (↑pp + ↑v + ↑c) % 4294967296) (by omega); rw [← List.append_assoc]; exact h⟩, ⟨b5.out.setCell (by show w.heap.size ≤ n + 3; rw [hn.out]; omega) _⟩, ⟨by
              have h := HI.out
              rw [hdb.out, hdr.out, macL, hpp.out] at h
              rw [List.append_assoc]
              exact h⟩⟩
          case measure => simp [RowKit.intOf]; omega
        · obtain rfl : j = 8 := by omega
          obtain ⟨v, hv⟩ : ∃ v, r.getD 8 0 = v := ⟨_, rfl⟩
          have hdr := drop_getD r 8 (by rw [HRl.out]; omega)
          rw [hv] at hdr
          have hdel : (d ++ e).length = i + 8 := by rw [List.length_append, HD.out, HEl.out]
          have hmac : e ++ c :: r.drop 9 = macL x q r 0 := by
            have h := HI.out
            rw [List.drop_eq_nil_of_le (show q.length ≤ 8 by rw [hql.out]; omega), hdr] at h
            exact h
          have f5 := H5.out.frozen (i + 8)
          have c5 := H5.out.cellMid hdr hdel
          have k4 : IntKind.i64.wrap ((i : Int) + 8) = (i : Int) + 8 := by simp [IntKind.wrap, IntKind.signed, IntKind.bits]; omega
          have k5 : ((i : Int) + 8).toNat = i + 8 := by omega
          have hcW : (c : Int) % 4294967296 = (c : Int) := by omega
          replace hv := Kept.mk hv
          replace hdr := Kept.mk hdr
          replace hdel := Kept.mk hdel
          replace hmac := Kept.mk hmac
          go_wp2
          have hml : (macL x q r 0).length = 16 - i := by rw [macL_len, HRl.out]
          have hmlt : ∀ z ∈ macL x q r 0, z < 4294967296 := macL_lt x q r 0 hxl hqW.out (fun z hz => HRW.out z (List.mem_append_right _ hz)) (by omega)
          have hstep := H5.out.step hdr.out hdel.out c (v := (c : Int)) rfl
          have hEq : d ++ e ++ [c] ++ r.drop 9 = d ++ macL x q r 0 := by rw [← hmac.out]; simp
          rw [hEq] at hstep
          have hME := HE.out
          rw [hda.out, mulL] at hME
          obtain ⟨h0, qs, hqq⟩ : ∃ h0 qs, macL x q r 0 = h0 :: qs := by
            match hm : macL x q r 0 with
            | [] => rw [hm] at hml; simp at hml; omega
            | h0 :: qs => exact ⟨h0, qs, rfl⟩
          rw [hqq] at hml hmlt hstep hME
          replace hml := Kept.mk hml
          replace hmlt := Kept.mk hmlt
          replace hstep := Kept.mk hstep
          replace hME := Kept.mk hME
          replace hqq := Kept.mk hqq
          replace hEq := Kept.mk hEq
          go_roundw
          case rel => exact ⟨i + 1, d ++ [h0], qs, by omega, val_eq (by omega), ⟨by rw [List.length_append, HD.out]; rfl⟩, ⟨by have h := hml.out; rw [List.length_cons] at h; omega⟩,
            ⟨fun z hz => by
              rw [List.append_assoc] at hz
              rcases List.mem_append.1 hz with hz | hz
              · exact HRW.out z (List.mem_append_left _ hz)
              · exact hmlt.out z hz⟩, ⟨H1.out.other (by omega) _ _⟩, ⟨H2.out.other (by omega) _ _⟩,
            ⟨(Below.heap_setCell wr ⟨n + 3, i + 8, none⟩ _ (n + 2) (by simp)).trans H3.out⟩, ⟨by have h := hstep.out; rw [List.append_assoc]; exact h⟩, ⟨H4.out.setCell (by show w.heap.size ≤ n + 3; rw [hn.out]; omega) _⟩,
            ⟨by have h := hME.out; rw [List.append_assoc]; exact h⟩⟩
          case measure => simp [RowKit.intOf]; omega
    · obtain rfl : i = 8 := by omega
      have hdr : d ++ r = M := by
        have h := HE.out
        rw [List.drop_eq_nil_of_le (by rw [hpl.out]; omega)] at h
        exact h
      have hMl : M.length = 16 := by rw [← hdr, List.length_append, HD.out, HRl.out]
      have hMW : ∀ x ∈ M, x < 4294967296 := hdr ▸ HRW.out
      have hA8 : Arr wo (n + 3) 87 .u32 M := hdr ▸ H5.out
      replace hdr := Kept.mk hdr
      replace hMl := Kept.mk hMl
      replace hMW := Kept.mk hMW
      replace hA8 := Kept.mk hA8
      clear HE H5
      go_wp2_with (first
        | (refine wpList_load_row rfl 87 (.tmp 5) rfl (n + 3) rfl 87 (numC .u32 M).toArray (0, 0) _ hA8.out.blk Tryz.underlying87 rfl ?_ ?_; (rw [infoN, List.size_toArray, numC_length, hMl.out]))
        | (refine wpList_store_row rfl 87 (.tmp 4) (.tmp 49) rfl (n + 2) (numC .u32 M).toArray rfl rfl 87 Z H3.out ?_ ?_ (numC_one _ _) ?_; (rw [infoN, List.size_toArray, numC_length, hMl.out]); (rw [hZ.out, List.size_toArray, numC_length, hMl.out])))
      exact bodyPost_ret (results_cell_row (p := 4) (ty := 87) Tryz.results72 _ _ (n + 2) 87 (numC .u32 M).toArray (0, 0) _ rfl (setRow_heap _ _ _ _ _ _ H3.out) Tryz.underlying87 rfl (by rw [infoN, List.size_toArray, numC_length, hMl.out])) rfl
        ⟨rfl, below_setRow H4.out (by rw [hn.out]; omega) _⟩
end Go.Proofs.YtgnblaaldpniiaaGreatDoor.Sc
end
section
set_option linter.unusedSimpArgs false
set_option linter.unusedVariables false
set_option maxRecDepth 100000
namespace Go.Proofs.YtgnblaaldpniiaaGreatDoor.Sc
open Go.RowKit Go.Lib
theorem addL_len : ∀ (xs ys : List Nat) (c : Nat), xs.length = ys.length → (addL xs ys c).length = xs.length
  | [], _, _, _ => by rw [addL_nil]
  | x :: xs, [], _, h => by simp at h
  | x :: xs, y :: ys, c, h => by rw [addL, List.length_cons, List.length_cons, addL_len xs ys _ (by simpa using h)]
theorem addL_lt : ∀ (xs ys : List Nat) (c : Nat), ∀ z ∈ addL xs ys c, z < 4294967296
  | [], _, _, z, h => by rw [addL_nil] at h; simp at h
  | x :: xs, [], _, z, h => by simp [addL] at h
  | x :: xs, y :: ys, c, z, h => by
    rw [addL, List.mem_cons] at h
    rcases h with rfl | h
    · exact Nat.mod_lt _ (by decide)
    · exact addL_lt xs ys _ z h
theorem addL_val : ∀ (xs ys : List Nat) (c : Nat), xs.length = ys.length → valB 4294967296 (addL xs ys c) = (valB 4294967296 xs + valB 4294967296 ys + c) % 4294967296 ^ xs.length
  | [], [], _, _ => by rw [List.length_nil, Nat.pow_zero, Nat.mod_one]; rfl
  | [], y :: ys, _, h => by simp at h
  | x :: xs, [], _, h => by simp at h
  | x :: xs, y :: ys, c, h => by
    rw [addL, valB, addL_val xs ys _ (by simpa using h), List.length_cons, Nat.pow_succ, Nat.mul_comm (4294967296 ^ xs.length), Nat.mod_mul, valB, valB]
    have e1 : (x + 4294967296 * valB 4294967296 xs + (y + 4294967296 * valB 4294967296 ys) + c) % 4294967296 = (x + y + c) % 4294967296 := by omega
    have e2 : (x + 4294967296 * valB 4294967296 xs + (y + 4294967296 * valB 4294967296 ys) + c) / 4294967296 = valB 4294967296 xs + valB 4294967296 ys + (x + y + c) / 4294967296 := by omega
    rw [e1, e2]
theorem subL_len : ∀ (xs ys : List Nat) (c : Nat), xs.length = ys.length → (subL xs ys c).length = xs.length
  | [], _, _, _ => by rw [subL_nil]
  | x :: xs, [], _, h => by simp at h
  | x :: xs, y :: ys, c, h => by rw [subL, List.length_cons, List.length_cons, subL_len xs ys _ (by simpa using h)]
theorem subL_lt : ∀ (xs ys : List Nat) (c : Nat), ∀ z ∈ subL xs ys c, z < 4294967296
  | [], _, _, z, h => by rw [subL_nil] at h; simp at h
  | x :: xs, [], _, z, h => by simp [subL] at h
  | x :: xs, y :: ys, c, z, h => by
    rw [subL, List.mem_cons] at h
    rcases h with rfl | h
    · exact Nat.mod_lt _ (by decide)
    · exact subL_lt xs ys _ z h
theorem macL_val : ∀ (x : Nat) (ys ws : List Nat) (c : Nat), ys.length < ws.length → ws.getD ys.length 0 = 0 → valB 4294967296 (macL x ys ws c) = valB 4294967296 ws + x * valB 4294967296 ys + c
  | x, [], [], _, h, _ => by simp at h
  | x, [], v :: vs, c, _, h => by
    have : v = 0 := by simpa using h
    subst this
    simp [macL, valB]; omega
  | x, y :: ys, [], _, h, _ => by simp at h
  | x, y :: ys, v :: vs, c, h, h0 => by
    rw [macL, valB, macL_val x ys vs _ (by simpa using h) (by simpa using h0), valB, valB, Nat.mul_add x y]
    have e : x * (4294967296 * valB 4294967296 ys) = 4294967296 * (x * valB 4294967296 ys) := Nat.mul_left_comm _ _ _
    rw [e]
    generalize x * valB 4294967296 ys = p
    generalize x * y = q
    omega
theorem macL_beyond : ∀ (x : Nat) (ys ws : List Nat) (c j : Nat), ys.length < j → (macL x ys ws c).getD j 0 = ws.getD j 0
  | x, [], [], _, _, _ => rfl
  | x, [], v :: vs, c, j, h => by
    obtain ⟨j, rfl⟩ : ∃ i, j = i + 1 := ⟨j - 1, by simp at h; omega⟩
    simp [macL]
  | x, y :: ys, [], _, _, _ => rfl
  | x, y :: ys, v :: vs, c, j, h => by
    obtain ⟨j, rfl⟩ : ∃ i, j = i + 1 := ⟨j - 1, by simp at h; omega⟩
    rw [macL]
    have := macL_beyond x ys vs ((x * y + v + c) / 4294967296) j (by simpa using h)
    simpa using this
theorem mulL_val : ∀ (xs ys ws : List Nat), xs.length + ys.length ≤ ws.length → (∀ j, ys.length ≤ j → ws.getD j 0 = 0) → valB 4294967296 (mulL xs ys ws) = valB 4294967296 ws + valB 4294967296 xs * valB 4294967296 ys
  | [], ys, ws, _, _ => by simp [mulL, valB]
  | x :: xs, ys, ws, h, h0 => by
    simp only [List.length_cons] at h
    have hm := macL_val x ys ws 0 (by omega) (h0 _ (Nat.le_refl _))
    have hl := macL_len x ys ws 0
    have hb := macL_beyond x ys ws 0
    rw [mulL]
    match hq : macL x ys ws 0 with
    | [] => rw [hq] at hl; simp at hl; omega
    | q :: qs =>
      rw [hq] at hm hl hb
      show valB 4294967296 (q :: mulL xs ys qs) = _
      have hz : ∀ j, ys.length ≤ j → qs.getD j 0 = 0 := fun j hj => by
        have := hb (j + 1) (by omega)
        rw [h0 (j + 1) (by omega)] at this
        simpa using this
      rw [valB, mulL_val xs ys qs (by simp at hl; omega) hz, valB, Nat.add_mul, Nat.mul_assoc]
      rw [valB] at hm
      generalize valB 4294967296 xs * valB 4294967296 ys = p at hm ⊢
      generalize x * valB 4294967296 ys = r at hm ⊢
      omega
theorem mulL_len : ∀ (xs ys ws : List Nat), xs.length ≤ ws.length → (mulL xs ys ws).length = ws.length
  | [], _, _, _ => rfl
  | x :: xs, ys, ws, h => by
    have hl := macL_len x ys ws 0
    rw [List.length_cons] at h
    rw [mulL, List.length_cons, mulL_len xs ys _ (by rw [List.length_tail]; omega), List.length_tail]
    omega
theorem mulL_lt : ∀ (xs ys ws : List Nat), (∀ x ∈ xs, x < 4294967296) → (∀ x ∈ ys, x < 4294967296) → (∀ x ∈ ws, x < 4294967296) → ∀ z ∈ mulL xs ys ws, z < 4294967296
  | [], _, ws, _, _, hw, z, hz => hw z hz
  | x :: xs, ys, ws, hx, hy, hw, z, hz => by
    have hm := macL_lt x ys ws 0 (hx x (by simp)) hy hw (by decide)
    rw [mulL, List.mem_cons] at hz
    rcases hz with rfl | hz
    · match hq : macL x ys ws 0 with
      | [] => decide
      | q :: qs => rw [hq] at hm; exact hm q (by simp)
    · exact mulL_lt xs ys _ (fun z hz => hx z (by simp [hz])) hy (fun z hz => hm z (List.mem_of_mem_tail hz)) z hz
theorem valB_split (l : List Nat) : ∀ k, k ≤ l.length → valB 4294967296 l = valB 4294967296 (l.take k) + 4294967296 ^ k * valB 4294967296 (l.drop k) := by
  intro k
  induction k generalizing l with
  | zero => intro _; simp [valB]
  | succ k ih =>
    intro h
    cases l with
    | nil => simp at h
    | cons x r =>
      rw [List.take_succ_cons, List.drop_succ_cons, valB, valB, ih r (by simpa using h), Nat.mul_add, Nat.pow_succ, Nat.mul_comm (4294967296 ^ k) 4294967296, Nat.mul_assoc]
      omega
theorem zeros_val : ∀ k, valB 4294967296 (List.replicate k 0) = 0
  | 0 => rfl
  | k + 1 => by rw [List.replicate_succ, valB, zeros_val k]
theorem zeros_getD (k j : Nat) : (List.replicate k 0).getD j 0 = 0 := by
  by_cases h : j < k
  · simp [h]
  · rw [List.getD_eq_getElem?_getD, List.getElem?_eq_none (by simp; omega)]; rfl
def big : Nat := 4294967296 ^ 16
def mid : Nat := 4294967296 ^ 8
theorem big_pos : 0 < big := by decide +kernel
theorem mid_big : mid * mid = big := by decide +kernel
theorem subL_full : ∀ (xs ys : List Nat) (c : Nat), xs.length = ys.length → (∀ x ∈ xs, x < 4294967296) → (∀ x ∈ ys, x < 4294967296) → c ≤ 1 →
    valB 4294967296 (subL xs ys c) + valB 4294967296 ys + c = valB 4294967296 xs + 4294967296 ^ xs.length * subU xs ys c
  | [], [], c, _, _, _, _ => by simp [valB, subL, subU]
  | [], y :: ys, _, h, _, _, _ => by simp at h
  | x :: xs, [], _, h, _, _, _ => by simp at h
  | x :: xs, y :: ys, c, h, hx, hy, hc => by
    have h1 := hx x (by simp)
    have h2 := hy y (by simp)
    have ih := subL_full xs ys (if x < y + c then 1 else 0) (by simpa using h) (fun z hz => hx z (by simp [hz])) (fun z hz => hy z (by simp [hz])) (by split <;> omega)
    rw [subL, subU, List.length_cons, Nat.pow_succ, Nat.mul_comm (4294967296 ^ xs.length) 4294967296, Nat.mul_assoc]
    simp only [valB]
    generalize 4294967296 ^ xs.length * subU xs ys (if x < y + c then 1 else 0) = p at ih ⊢
    by_cases hb : x < y + c
    · rw [if_pos hb] at ih ⊢
      omega
    · rw [if_neg hb] at ih ⊢
      omega
def nL (x : Nat) : List Nat := limbs 4294967296 16 x
theorem nL_len (x : Nat) : (nL x).length = 16 := limbs_len _ _ _
theorem nL_lt (x : Nat) : ∀ y ∈ nL x, y < 4294967296 := limbs_lt (by decide) _ _
theorem nL_val (x : Nat) (h : x < big) : valB 4294967296 (nL x) = x := by
  unfold nL
  rw [val_limbs]
  exact Nat.mod_eq_of_lt h
theorem nL_of (l : List Nat) (n : Nat) (hk : l.length = 16) (h : ∀ x ∈ l, x < 4294967296) (hv : valB 4294967296 l = n) : l = nL n := limbs_eq (by decide) l 16 n hk h hv
theorem limbs_take (B : Nat) : ∀ (j k x : Nat), j ≤ k → (limbs B k x).take j = limbs B j x
  | 0, _, _, _ => by rw [List.take_zero]; rfl
  | j + 1, 0, _, h => by omega
  | j + 1, k + 1, x, h => by rw [limbs, limbs, List.take_succ_cons, limbs_take B j k _ (by omega)]
theorem half_len (x : Nat) : ((nL x).take 8).length = 8 := by rw [List.length_take, nL_len]; rfl
theorem half_lt (x : Nat) : ∀ y ∈ (nL x).take 8, y < 4294967296 := fun y hy => nL_lt x y (List.mem_of_mem_take hy)
theorem half_val (x : Nat) (h : x < mid) : valB 4294967296 ((nL x).take 8) = x := by
  unfold nL
  rw [limbs_take _ _ _ _ (by decide), val_limbs]
  exact Nat.mod_eq_of_lt h
def numV (x : Nat) : Value := aggN .u32 (nL x)
def NP (x : Nat) (w : World) (e : Ending) (w' : World) : Prop := e = .returned (numV x) ∧ Below w.heap.size w w'
theorem sumN_any (x y : Nat) (hx : x < big) (hy : y < big) (w : World) : Calls Tryz.prog 73 #[numV x, numV y] w (NP ((x + y) % big) w) := by
  refine (sum_any (nL x) (nL y) (nL_len x) (nL_len y) (nL_lt x) (nL_lt y) w).mono ?_
  rintro e w' ⟨rfl, hb⟩
  refine ⟨?_, hb⟩
  rw [nL_of (addL (nL x) (nL y) 0) ((x + y) % big) (by rw [addL_len _ _ _ (by rw [nL_len, nL_len]), nL_len]) (addL_lt _ _ _) (by
    rw [addL_val _ _ _ (by rw [nL_len, nL_len]), nL_len, nL_val x hx, nL_val y hy, Nat.add_zero]; rfl)]
  rfl
theorem sub_parts {s x y u : Nat} (hs : s < big) (hx : x < big) (hy : y < big) (hu : u ≤ 1) (h : s + y + 0 = x + big * u) : s = (x + big - y) % big ∧ decide (u = 1) = decide (x < y) := by
  obtain rfl | rfl : u = 0 ∨ u = 1 := by omega
  · rw [Nat.mul_zero] at h
    refine ⟨?_, by rw [decide_eq_decide]; omega⟩
    rw [show x + big - y = s + big by omega, Nat.add_mod_right, Nat.mod_eq_of_lt hs]
  · rw [Nat.mul_one] at h
    refine ⟨?_, by rw [decide_eq_decide]; omega⟩
    rw [show x + big - y = s by omega, Nat.mod_eq_of_lt hs]
def DP (x : Nat) (b : Bool) (w : World) (e : Ending) (w' : World) : Prop := e = .returned (.tuple #[numV x, .bool b]) ∧ Below w.heap.size w w'
theorem diffN_any (x y : Nat) (hx : x < big) (hy : y < big) (w : World) : Calls Tryz.prog 111 #[numV x, numV y] w (DP ((x + big - y) % big) (decide (x < y)) w) := by
  refine (diff_any (nL x) (nL y) (nL_len x) (nL_len y) (nL_lt x) (nL_lt y) w).mono ?_
  rintro e w' ⟨rfl, hb⟩
  refine ⟨?_, hb⟩
  have hv := subL_full (nL x) (nL y) 0 (by rw [nL_len, nL_len]) (nL_lt x) (nL_lt y) (by omega)
  rw [nL_val x hx, nL_val y hy, nL_len] at hv
  have hb2 := valB_lt (B := 4294967296) (by decide) _ (subL_lt (nL x) (nL y) 0)
  rw [subL_len _ _ _ (by rw [nL_len, nL_len]), nL_len] at hb2
  obtain ⟨e1, e2⟩ := sub_parts hb2 hx hy (subU_le _ _ 0 (by omega)) hv
  rw [e2, nL_of (subL (nL x) (nL y) 0) ((x + big - y) % big) (by rw [subL_len _ _ _ (by rw [nL_len, nL_len]), nL_len]) (subL_lt _ _ _) e1]
  rfl
theorem prodN_any (x y : Nat) (hx : x < mid) (hy : y < mid) (w : World) : Calls Tryz.prog 72 #[numV x, numV y] w (NP (x * y) w) := by
  refine (product_any (nL x) (nL y) (nL_len x) (nL_len y) (nL_lt x) (nL_lt y) w).mono ?_
  rintro e w' ⟨rfl, hb⟩
  refine ⟨?_, hb⟩
  rw [nL_of (mulL ((nL x).take 8) ((nL y).take 8) (List.replicate 16 0)) (x * y) (by rw [mulL_len _ _ _ (by rw [half_len]; simp), List.length_replicate])
    (mulL_lt _ _ _ (half_lt x) (half_lt y) (fun z hz => by rw [List.eq_of_mem_replicate hz]; decide))
    (by rw [mulL_val _ _ _ (by rw [half_len, half_len, List.length_replicate]; omega) (fun j _ => zeros_getD 16 j), zeros_val, Nat.zero_add, half_val x hx, half_val y hy])]
  rfl
theorem nL_o : nL oN = [1559614445, 1477600026, 2734136534, 350157278, 0, 0, 0, 268435456, 0, 0, 0, 0, 0, 0, 0, 0] := by decide +kernel
end Go.Proofs.YtgnblaaldpniiaaGreatDoor.Sc
end
