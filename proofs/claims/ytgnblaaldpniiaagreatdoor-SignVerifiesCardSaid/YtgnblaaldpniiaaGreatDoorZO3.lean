/- Walks of package scalar: products.
Package scalar: numbers of sixteen words; sums, differences, products by numbers; the order.
Package scalar: numbers in blocks, as one state of the memory; laws of the walk over it. -/
import Derived.Test.YtgnblaaldpniiaaGreatDoorZO2
import Derived.Test.YtgnblaaldpniiaaGreatDoorZK1
import Derived.Great.Ranges
section
set_option linter.unusedSimpArgs false
set_option linter.unusedVariables false
set_option maxRecDepth 100000
namespace Go.Proofs.YtgnblaaldpniiaaGreatDoor.Sc
open Go.RowKit Go.Lib
def macL : Nat → List Nat → List Nat → Nat → List Nat
  | x, y :: ys, v :: vs, c => (x * y + v + c) % 4294967296 :: macL x ys vs ((x * y + v + c) / 4294967296)
  | _, [], _ :: vs, c => c :: vs
  | _, _, [], _ => []
def mulL : List Nat → List Nat → List Nat → List Nat
  | [], _, ws => ws
  | x :: xs, ys, ws => (macL x ys ws 0).headD 0 :: mulL xs ys (macL x ys ws 0).tail
theorem zeroW : ∀ w, (zeroValue 87).run Tryz.prog w = .ok (aggN .u32 (List.replicate 16 0)) w :=
  (zero_of_info (n := 16) (by kernel_rfl)).1
theorem macL_len : ∀ (x : Nat) (ys ws : List Nat) (c : Nat), (macL x ys ws c).length = ws.length
  | _, _ :: ys, _ :: vs, c => by rw [macL, List.length_cons, List.length_cons, macL_len _ ys vs]
  | _, [], _ :: vs, c => rfl
  | _, [], [], _ => rfl
  | _, _ :: _, [], _ => rfl
theorem macL_lt : ∀ (x : Nat) (ys ws : List Nat) (c : Nat), x < 4294967296 → (∀ y ∈ ys, y < 4294967296) → (∀ y ∈ ws, y < 4294967296) → c < 4294967296 → ∀ z ∈ macL x ys ws c, z < 4294967296
  | x, y :: ys, v :: vs, c, hx, hy, hw, hc, z, hz => by
    rw [macL, List.mem_cons] at hz
    have hy0 := hy y (by simp)
    have hv0 := hw v (by simp)
    rcases hz with rfl | hz
    · omega
    · have hp : x * y ≤ 4294967295 * 4294967295 := Nat.mul_le_mul (by omega) (by omega)
      exact macL_lt x ys vs _ hx (fun y h => hy y (by simp [h])) (fun y h => hw y (by simp [h])) (by omega) z hz
  | _, [], v :: vs, c, _, _, hw, hc, z, hz => by
    rw [macL, List.mem_cons] at hz
    rcases hz with rfl | hz
    · exact hc
    · exact hw z (by simp [hz])
  | _, [], [], _, _, _, _, _, z, hz => by simp [macL] at hz
  | _, _ :: _, [], _, _, _, _, _, z, hz => by simp [macL] at hz
set_option maxHeartbeats 1000000 in
theorem product_any (a b : List Nat) (ha : a.length = 16) (hb : b.length = 16) (hal : ∀ x ∈ a, x < 4294967296) (hbl : ∀ x ∈ b, x < 4294967296) (w : World) :
    Calls Tryz.prog 72 #[aggN .u32 a, aggN .u32 b] w (NumPost (mulL (a.take 8) (b.take 8) (List.replicate 16 0)) w) := by
  obtain ⟨Z, hZ, hz⟩ := zeroN
  obtain ⟨z16, hz16⟩ : ∃ z, List.replicate 16 0 = z := ⟨_, rfl⟩
  have hzl : z16.length = 16 := by rw [← hz16]; rfl
  have hzz : ∀ x ∈ z16, x < 4294967296 := by rw [← hz16]; intro x hx; rw [List.eq_of_mem_replicate hx]; decide
  have hZz : Z = (numC .u32 z16).toArray := by
    have h0 := zeroW w
    have h1 := hz w
    rw [h0] at h1
    injection h1 with h1 _
    injection h1 with h1
    rw [← h1, hz16]
  rw [hz16]
  obtain ⟨p, hp⟩ : ∃ p, a.take 8 = p := ⟨_, rfl⟩
  obtain ⟨q, hq⟩ : ∃ q, b.take 8 = q := ⟨_, rfl⟩
  rw [hp, hq]
  have hpl : p.length = 8 := by rw [← hp, List.length_take, ha]; rfl
  have hql : q.length = 8 := by rw [← hq, List.length_take, hb]; rfl
  have hpW : ∀ x ∈ p, x < 4294967296 := fun x hx => hal x (List.mem_of_mem_take (hp ▸ hx))
  have hqW : ∀ x ∈ q, x < 4294967296 := fun x hx => hbl x (List.mem_of_mem_take (hq ▸ hx))
  have hpg : ∀ i, i < 8 → p.getD i 0 = a.getD i 0 := fun i hi => by rw [← hp]; simp [hi]
  have hqg : ∀ i, i < 8 → q.getD i 0 = b.getD i 0 := fun i hi => by rw [← hq]; simp [hi]
  obtain ⟨M, hM⟩ : ∃ M, mulL p q z16 = M := ⟨_, rfl⟩
  replace hp := Kept.mk hp
  replace hq := Kept.mk hq
  replace hpl := Kept.mk hpl
  replace hql := Kept.mk hql
  replace hpW := Kept.mk hpW
  replace hqW := Kept.mk hqW
  replace hpg := Kept.mk hpg
  replace hqg := Kept.mk hqg
  rw [hM]
  replace hZz := Kept.mk hZz
  replace hM := Kept.mk hM
  replace hz16 := Kept.mk hz16
  replace hzl := Kept.mk hzl
  replace hzz := Kept.mk hzz
  replace hZ := Kept.mk hZ
  replace ha := Kept.mk ha
  replace hb := Kept.mk hb
  replace hal := Kept.mk hal
  replace hbl := Kept.mk hbl
  obtain ⟨A, hA⟩ : ∃ A, (numC .u32 a).toArray = A := ⟨_, rfl⟩
  obtain ⟨B, hB⟩ : ∃ B, (numC .u32 b).toArray = B := ⟨_, rfl⟩
  unfold aggN
  rw [hA, hB]
  go_enter Tryz.func72, Tryz.ntmps72
  go_wp2
  have h1 : Arr ((((w.alloc (.cells A 87)).alloc (.cells B 87)).alloc (.cells Z 87)).alloc (.cells Z 87)) w.heap.size 87 .u32 a := by
    have h := Arr.new w 87 .u32 a
    rw [hA] at h
    exact ((h.from ((Below.refl _ _).alloc (Nat.le_refl _) _)).from ((Below.refl _ _).alloc (Nat.le_refl _) _)).from ((Below.refl _ _).alloc (Nat.le_refl _) _)
  have h2 : Arr ((((w.alloc (.cells A 87)).alloc (.cells B 87)).alloc (.cells Z 87)).alloc (.cells Z 87)) (w.heap.size + 1) 87 .u32 b := by
    have h := Arr.new (w.alloc (.cells A 87)) 87 .u32 b
    rw [hB, World.size_alloc] at h
    exact (h.from ((Below.refl _ _).alloc (Nat.le_refl _) _)).from ((Below.refl _ _).alloc (Nat.le_refl _) _)
  have h3 : ((((w.alloc (.cells A 87)).alloc (.cells B 87)).alloc (.cells Z 87)).alloc (.cells Z 87)).heap[w.heap.size + 2]? = some (.cells Z 87 (0, 0)) := by
    have h := heap_alloc_new ((w.alloc (.cells A 87)).alloc (.cells B 87)) (.cells Z 87)
    rw [← h]
    simpa using (Below.alloc (Below.refl _ (((w.alloc (.cells A 87)).alloc (.cells B 87)).alloc (.cells Z 87))) (Nat.le_refl _) (.cells Z 87)).block (w.heap.size + 2) (by simp)
  have h5 : Arr ((((w.alloc (.cells A 87)).alloc (.cells B 87)).alloc (.cells Z 87)).alloc (.cells Z 87)) (w.heap.size + 3) 87 .u32 z16 := by
    have h := Arr.new (((w.alloc (.cells A 87)).alloc (.cells B 87)).alloc (.cells Z 87)) 87 .u32 z16
    rw [← hZz.out] at h
    simpa using h
  have h4 : Below w.heap.size w ((((w.alloc (.cells A 87)).alloc (.cells B 87)).alloc (.cells Z 87)).alloc (.cells Z 87)) :=
    ((((Below.refl _ _).alloc (Nat.le_refl _) _).alloc (by simp) _).alloc (by simp; omega) _).alloc (by simp; omega) _
  replace hA := Kept.mk hA
  replace hB := Kept.mk hB
  generalize (((w.alloc (.cells A 87)).alloc (.cells B 87)).alloc (.cells Z 87)).alloc (.cells Z 87) = w0 at h1 h2 h3 h4 h5 ⊢
  obtain ⟨n, hn⟩ : ∃ n, w.heap.size = n := ⟨_, rfl⟩
  rw [hn] at h1 h2 h3 h5 ⊢
  replace h1 := Kept.mk h1
  replace h2 := Kept.mk h2
  replace h3 := Kept.mk h3
  replace h4 := Kept.mk h4
  replace h5 := Kept.mk h5
  replace hn := Kept.mk hn
  go_loopw [10] (fun v10 wr => ∃ (i : Nat) (d r : List Nat), i ≤ 8 ∧ v10 = .int .i64 (i : Int) ∧ Kept (d.length = i) ∧ Kept (r.length = 16 - i) ∧ Kept (∀ x ∈ d ++ r, x < 4294967296) ∧ Kept (Arr wr n 87 .u32 a) ∧ Kept (Arr wr (n + 1) 87 .u32 b) ∧
    Kept (wr.heap[n + 2]? = some (.cells Z 87 (0, 0))) ∧ Kept (Arr wr (n + 3) 87 .u32 (d ++ r)) ∧ Kept (Below w.heap.size w wr) ∧ Kept (d ++ mulL (p.drop i) q r = M)) (fun v10 _ => 8 - (RowKit.intOf v10).toNat)
  case atStart => exact ⟨0, [], z16, by omega, rfl, ⟨rfl⟩, hzl, hzz, h1, h2, h3, h5, h4, hM⟩
  case round =>
    clear h1 h2 h3 h4 h5
    obtain ⟨i, d, r, hi, rfl, HD, HRl, HRW, H1, H2, H3, H5, H4, HE⟩ := hrel
    obtain ⟨wo, rfl⟩ : ∃ wo : World, wo = wr := ⟨_, rfl⟩
    by_cases hlt : i < 8
    · obtain ⟨x, hx⟩ : ∃ x, a.getD i 0 = x := ⟨_, rfl⟩
      have hda := drop_getD p i (by rw [hpl.out]; exact hlt)
      rw [hpg.out i hlt, hx] at hda
      have hxl : x < 4294967296 := hx ▸ getD_ltN hal.out i (by rw [ha.out]; omega)
      replace hx := Kept.mk hx
      replace hda := Kept.mk hda
      have hlti : (i : Int) < 8 := by omega
      go_wp2
      go_loopw [7, 13] (fun v7 v13 wr => ∃ (j c : Nat) (e : List Nat), j ≤ 8 ∧ c < 4294967296 ∧ v7 = .int .u64 (c : Int) ∧ v13 = .int .i64 (j : Int) ∧ Kept (e.length = j) ∧ Kept (Arr wr n 87 .u32 a) ∧ Kept (Arr wr (n + 1) 87 .u32 b) ∧
        Kept (wr.heap[n + 2]? = some (.cells Z 87 (0, 0))) ∧ Kept (Arr wr (n + 3) 87 .u32 (d ++ e ++ r.drop j)) ∧ Kept (Below w.heap.size w wr) ∧ Kept (e ++ macL x (q.drop j) (r.drop j) c = macL x q r 0)) (fun _ v13 _ => 8 - (RowKit.intOf v13).toNat)
      case atStart => exact ⟨0, 0, [], by omega, by omega, rfl, rfl, ⟨rfl⟩, H1, H2, H3, ⟨by rw [List.append_nil]; exact H5.out⟩, H4, ⟨rfl⟩⟩
      case round =>
        clear H1 H2 H3 H4 H5
        obtain ⟨j, c, e, hj, hc, rfl, rfl, HEl, H1, H2, H3, H5, H4, HI⟩ := hrel
        by_cases hjt : j < 8
        · obtain ⟨y, hy⟩ : ∃ y, b.getD j 0 = y := ⟨_, rfl⟩
          obtain ⟨v, hv⟩ : ∃ v, r.getD j 0 = v := ⟨_, rfl⟩
          have hdb := drop_getD q j (by rw [hql.out]; exact hjt)
          have hdr := drop_getD r j (by rw [HRl.out]; omega)
          rw [hqg.out j hjt, hy] at hdb
          rw [hv] at hdr
          have hyl : y < 4294967296 := hy ▸ getD_ltN hbl.out j (by rw [hb.out]; omega)
          have hvl : v < 4294967296 := hv ▸ getD_ltN (fun x hx => HRW.out x (List.mem_append_right _ hx)) j (by rw [HRl.out]; omega)
          have hdel : (d ++ e).length = i + j := by rw [List.length_append, HD.out, HEl.out]
          have hx := hx.out
          have c1 : ∀ u : Held (From wr.drew), u.w.cell? ⟨n, i, none⟩ = some (.int .u32 (x : Int)) := fun u => hx ▸ (H1.out.from u.h.of_drew).cell i (by rw [ha.out]; omega)
          have c2 : ∀ u : Held (From wr.drew), u.w.cell? ⟨n + 1, j, none⟩ = some (.int .u32 (y : Int)) := fun u => hy ▸ (H2.out.from u.h.of_drew).cell j (by rw [hb.out]; omega)
          have c3 : ∀ u : Held (From wr.drew), u.w.cell? ⟨n + 3, i + j, none⟩ = some (.int .u32 (v : Int)) := fun u => (H5.out.from u.h.of_drew).cellMid hdr hdel
          obtain ⟨pp, hpp⟩ : ∃ pp, x * y = pp := ⟨_, rfl⟩
          have hppl : pp ≤ 4294967295 * 4294967295 := hpp ▸ Nat.mul_le_mul (by omega) (by omega)
          have k1 : IntKind.u64.wrap ((x : Int) * (y : Int)) = (pp : Int) := by
            rw [← hpp, ← Int.natCast_mul, hpp]
            simp [IntKind.wrap, IntKind.signed, IntKind.bits]; omega
          have k2 : IntKind.i64.wrap ((i : Int) + (j : Int)) = (i : Int) + (j : Int) := by simp [IntKind.wrap, IntKind.signed, IntKind.bits]; omega
          have k3 : ((i : Int) + (j : Int)).toNat = i + j := by omega
          replace hx := Kept.mk hx
          replace hy := Kept.mk hy
          replace hv := Kept.mk hv
          replace hpp := Kept.mk hpp
          replace hda := Kept.mk hda
          replace hdb := Kept.mk hdb
          replace hdr := Kept.mk hdr
          replace hdel := Kept.mk hdel
          go_wp2
          refine wp_region_from (by kernel_rfl) (by kernel_rfl) ?_
          repeat (go_big_quiet_step (fail))
          refine wpQuiet_nil ?_
          intro w5 hw5
          have b5 := hw5.of_drew
          have H15 := H1.out.from b5
          have H25 := H2.out.from b5
          have H55 := H5.out.from b5
          have f5 := H55.frozen (i + j)
          have c5 := H55.cellMid hdr.out hdel.out
          have h35 := (b5.block (n + 2) (Array.getElem?_eq_some_iff.1 H3.out).1).trans H3.out
          replace b5 := H4.out.trans (b5.mono H4.out.size)
          replace H15 := Kept.mk H15
          replace H25 := Kept.mk H25
          replace H55 := Kept.mk H55
          replace b5 := Kept.mk b5
          replace h35 := Kept.mk h35
          clear c1 c2 c3
          go_wp2
          go_roundw
          case rel => exact ⟨j + 1, (pp + v + c) / 4294967296, e ++ [(pp + v + c) % 4294967296], by omega, by omega, val_eq (by omega), val_eq (by omega), ⟨by rw [List.length_append, HEl.out]; rfl⟩, ⟨H15.out.other (by omega) _ _⟩, ⟨H25.out.other (by omega) _ _⟩,
            ⟨(Below.heap_setCell w5 ⟨n + 3, i + j, none⟩ _ (n + 2) (by simp)).trans h35.out⟩, ⟨by have h := H55.out.step hdr.out hdel.out ((pp + v + c) % 4294967296) (v := (↑pp + ↑v + ↑c) % 4294967296) (by omega); rw [← List.append_assoc]; exact h⟩, ⟨b5.out.setCell (by show w.heap.size ≤ n + 3; rw [hn.out]; omega) _⟩, ⟨by
              have h := HI.out
              rw [hdb.out, hdr.out, macL, hpp.out] at h
              rw [List.append_assoc]
              exact h⟩⟩
          case measure => simp [RowKit.intOf]; omega
        · obtain rfl : j = 8 := by omega
          obtain ⟨v, hv⟩ : ∃ v, r.getD 8 0 = v := ⟨_, rfl⟩
          have hdr := drop_getD r 8 (by rw [HRl.out]; omega)
          rw [hv] at hdr
          have hdel : (d ++ e).length = i + 8 := by rw [List.length_append, HD.out, HEl.out]
          have hmac : e ++ c :: r.drop 9 = macL x q r 0 := by
            have h := HI.out
            rw [List.drop_eq_nil_of_le (show q.length ≤ 8 by rw [hql.out]; omega), hdr] at h
            exact h
          have f5 := H5.out.frozen (i + 8)
          have c5 := H5.out.cellMid hdr hdel
          have k4 : IntKind.i64.wrap ((i : Int) + 8) = (i : Int) + 8 := by simp [IntKind.wrap, IntKind.signed, IntKind.bits]; omega
          have k5 : ((i : Int) + 8).toNat = i + 8 := by omega
          have hcW : (c : Int) % 4294967296 = (c : Int) := by omega
          replace hv := Kept.mk hv
          replace hdr := Kept.mk hdr
          replace hdel := Kept.mk hdel
          replace hmac := Kept.mk hmac
          go_wp2
          have hml : (macL x q r 0).length = 16 - i := by rw [macL_len, HRl.out]
          have hmlt : ∀ z ∈ macL x q r 0, z < 4294967296 := macL_lt x q r 0 hxl hqW.out (fun z hz => HRW.out z (List.mem_append_right _ hz)) (by omega)
          have hstep := H5.out.step hdr.out hdel.out c (v := (c : Int)) rfl
          have hEq : d ++ e ++ [c] ++ r.drop 9 = d ++ macL x q r 0 := by rw [← hmac.out]; simp
          rw [hEq] at hstep
          have hME := HE.out
          rw [hda.out, mulL] at hME
          obtain ⟨h0, qs, hqq⟩ : ∃ h0 qs, macL x q r 0 = h0 :: qs := by
            match hm : macL x q r 0 with
            | [] => rw [hm] at hml; simp at hml; omega
            | h0 :: qs => exact ⟨h0, qs, rfl⟩
          rw [hqq] at hml hmlt hstep hME
          replace hml := Kept.mk hml
          replace hmlt := Kept.mk hmlt
          replace hstep := Kept.mk hstep
          replace hME := Kept.mk hME
          replace hqq := Kept.mk hqq
          replace hEq := Kept.mk hEq
          go_roundw
          case rel => exact ⟨i + 1, d ++ [h0], qs, by omega, val_eq (by omega), ⟨by rw [List.length_append, HD.out]; rfl⟩, ⟨by have h := hml.out; rw [List.length_cons] at h; omega⟩,
            ⟨fun z hz => by
              rw [List.append_assoc] at hz
              rcases List.mem_append.1 hz with hz | hz
              · exact HRW.out z (List.mem_append_left _ hz)
              · exact hmlt.out z hz⟩, ⟨H1.out.other (by omega) _ _⟩, ⟨H2.out.other (by omega) _ _⟩,
            ⟨(Below.heap_setCell wr ⟨n + 3, i + 8, none⟩ _ (n + 2) (by simp)).trans H3.out⟩, ⟨by have h := hstep.out; rw [List.append_assoc]; exact h⟩, ⟨H4.out.setCell (by show w.heap.size ≤ n + 3; rw [hn.out]; omega) _⟩,
            ⟨by have h := hME.out; rw [List.append_assoc]; exact h⟩⟩
          case measure => simp [RowKit.intOf]; omega
    · obtain rfl : i = 8 := by omega
      have hdr : d ++ r = M := by
        have h := HE.out
        rw [List.drop_eq_nil_of_le (by rw [hpl.out]; omega)] at h
        exact h
      have hMl : M.length = 16 := by rw [← hdr, List.length_append, HD.out, HRl.out]
      have hMW : ∀ x ∈ M, x < 4294967296 := hdr ▸ HRW.out
      have hA8 : Arr wo (n + 3) 87 .u32 M := hdr ▸ H5.out
      replace hdr := Kept.mk hdr
      replace hMl := Kept.mk hMl
      replace hMW := Kept.mk hMW
      replace hA8 := Kept.mk hA8
      clear HE H5
      go_wp2_with (first
        | (refine wpList_load_row rfl 87 (.tmp 5) rfl (n + 3) rfl 87 (numC .u32 M).toArray (0, 0) _ hA8.out.blk Tryz.underlying87 rfl ?_ ?_; (rw [infoN, List.size_toArray, numC_length, hMl.out]))
        | (refine wpList_store_row rfl 87 (.tmp 4) (.tmp 49) rfl (n + 2) (numC .u32 M).toArray rfl rfl 87 Z H3.out ?_ ?_ (numC_one _ _) ?_; (rw [infoN, List.size_toArray, numC_length, hMl.out]); (rw [hZ.out, List.size_toArray, numC_length, hMl.out])))
      exact bodyPost_ret (results_cell_row (p := 4) (ty := 87) Tryz.results72 _ _ (n + 2) 87 (numC .u32 M).toArray (0, 0) _ rfl (setRow_heap _ _ _ _ _ _ H3.out) Tryz.underlying87 rfl (by rw [infoN, List.size_toArray, numC_length, hMl.out])) rfl
        ⟨rfl, below_setRow H4.out (by rw [hn.out]; omega) _⟩
end Go.Proofs.YtgnblaaldpniiaaGreatDoor.Sc
end
section
set_option linter.unusedSimpArgs false
set_option linter.unusedVariables false
set_option maxRecDepth 100000
namespace Go.Proofs.YtgnblaaldpniiaaGreatDoor.Sc
open Go.RowKit Go.Lib
theorem addL_len : ∀ (xs ys : List Nat) (c : Nat), xs.length = ys.length → (addL xs ys c).length = xs.length
  | [], _, _, _ => by rw [addL_nil]
  | x :: xs, [], _, h => by simp at h
  | x :: xs, y :: ys, c, h => by rw [addL, List.length_cons, List.length_cons, addL_len xs ys _ (by simpa using h)]
theorem addL_lt : ∀ (xs ys : List Nat) (c : Nat), ∀ z ∈ addL xs ys c, z < 4294967296
  | [], _, _, z, h => by rw [addL_nil] at h; simp at h
  | x :: xs, [], _, z, h => by simp [addL] at h
  | x :: xs, y :: ys, c, z, h => by
    rw [addL, List.mem_cons] at h
    rcases h with rfl | h
    · exact Nat.mod_lt _ (by decide)
    · exact addL_lt xs ys _ z h
theorem addL_val : ∀ (xs ys : List Nat) (c : Nat), xs.length = ys.length → valB 4294967296 (addL xs ys c) = (valB 4294967296 xs + valB 4294967296 ys + c) % 4294967296 ^ xs.length
  | [], [], _, _ => by rw [List.length_nil, Nat.pow_zero, Nat.mod_one]; rfl
  | [], y :: ys, _, h => by simp at h
  | x :: xs, [], _, h => by simp at h
  | x :: xs, y :: ys, c, h => by
    rw [addL, valB, addL_val xs ys _ (by simpa using h), List.length_cons, Nat.pow_succ, Nat.mul_comm (4294967296 ^ xs.length), Nat.mod_mul, valB, valB]
    have e1 : (x + 4294967296 * valB 4294967296 xs + (y + 4294967296 * valB 4294967296 ys) + c) % 4294967296 = (x + y + c) % 4294967296 := by omega
    have e2 : (x + 4294967296 * valB 4294967296 xs + (y + 4294967296 * valB 4294967296 ys) + c) / 4294967296 = valB 4294967296 xs + valB 4294967296 ys + (x + y + c) / 4294967296 := by omega
    rw [e1, e2]
theorem subL_len : ∀ (xs ys : List Nat) (c : Nat), xs.length = ys.length → (subL xs ys c).length = xs.length
  | [], _, _, _ => by rw [subL_nil]
  | x :: xs, [], _, h => by simp at h
  | x :: xs, y :: ys, c, h => by rw [subL, List.length_cons, List.length_cons, subL_len xs ys _ (by simpa using h)]
theorem subL_lt : ∀ (xs ys : List Nat) (c : Nat), ∀ z ∈ subL xs ys c, z < 4294967296
  | [], _, _, z, h => by rw [subL_nil] at h; simp at h
  | x :: xs, [], _, z, h => by simp [subL] at h
  | x :: xs, y :: ys, c, z, h => by
    rw [subL, List.mem_cons] at h
    rcases h with rfl | h
    · exact Nat.mod_lt _ (by decide)
    · exact subL_lt xs ys _ z h
theorem macL_val : ∀ (x : Nat) (ys ws : List Nat) (c : Nat), ys.length < ws.length → ws.getD ys.length 0 = 0 → valB 4294967296 (macL x ys ws c) = valB 4294967296 ws + x * valB 4294967296 ys + c
  | x, [], [], _, h, _ => by simp at h
  | x, [], v :: vs, c, _, h => by
    have : v = 0 := by simpa using h
    subst this
    simp [macL, valB]; omega
  | x, y :: ys, [], _, h, _ => by simp at h
  | x, y :: ys, v :: vs, c, h, h0 => by
    rw [macL, valB, macL_val x ys vs _ (by simpa using h) (by simpa using h0), valB, valB, Nat.mul_add x y]
    have e : x * (4294967296 * valB 4294967296 ys) = 4294967296 * (x * valB 4294967296 ys) := Nat.mul_left_comm _ _ _
    rw [e]
    generalize x * valB 4294967296 ys = p
    generalize x * y = q
    omega
theorem macL_beyond : ∀ (x : Nat) (ys ws : List Nat) (c j : Nat), ys.length < j → (macL x ys ws c).getD j 0 = ws.getD j 0
  | x, [], [], _, _, _ => rfl
  | x, [], v :: vs, c, j, h => by
    obtain ⟨j, rfl⟩ : ∃ i, j = i + 1 := ⟨j - 1, by simp at h; omega⟩
    simp [macL]
  | x, y :: ys, [], _, _, _ => rfl
  | x, y :: ys, v :: vs, c, j, h => by
    obtain ⟨j, rfl⟩ : ∃ i, j = i + 1 := ⟨j - 1, by simp at h; omega⟩
    rw [macL]
    have := macL_beyond x ys vs ((x * y + v + c) / 4294967296) j (by simpa using h)
    simpa using this
theorem mulL_val : ∀ (xs ys ws : List Nat), xs.length + ys.length ≤ ws.length → (∀ j, ys.length ≤ j → ws.getD j 0 = 0) → valB 4294967296 (mulL xs ys ws) = valB 4294967296 ws + valB 4294967296 xs * valB 4294967296 ys
  | [], ys, ws, _, _ => by simp [mulL, valB]
  | x :: xs, ys, ws, h, h0 => by
    simp only [List.length_cons] at h
    have hm := macL_val x ys ws 0 (by omega) (h0 _ (Nat.le_refl _))
    have hl := macL_len x ys ws 0
    have hb := macL_beyond x ys ws 0
    rw [mulL]
    match hq : macL x ys ws 0 with
    | [] => rw [hq] at hl; simp at hl; omega
    | q :: qs =>
      rw [hq] at hm hl hb
      show valB 4294967296 (q :: mulL xs ys qs) = _
      have hz : ∀ j, ys.length ≤ j → qs.getD j 0 = 0 := fun j hj => by
        have := hb (j + 1) (by omega)
        rw [h0 (j + 1) (by omega)] at this
        simpa using this
      rw [valB, mulL_val xs ys qs (by simp at hl; omega) hz, valB, Nat.add_mul, Nat.mul_assoc]
      rw [valB] at hm
      generalize valB 4294967296 xs * valB 4294967296 ys = p at hm ⊢
      generalize x * valB 4294967296 ys = r at hm ⊢
      omega
theorem mulL_len : ∀ (xs ys ws : List Nat), xs.length ≤ ws.length → (mulL xs ys ws).length = ws.length
  | [], _, _, _ => rfl
  | x :: xs, ys, ws, h => by
    have hl := macL_len x ys ws 0
    rw [List.length_cons] at h
    rw [mulL, List.length_cons, mulL_len xs ys _ (by rw [List.length_tail]; omega), List.length_tail]
    omega
theorem mulL_lt : ∀ (xs ys ws : List Nat), (∀ x ∈ xs, x < 4294967296) → (∀ x ∈ ys, x < 4294967296) → (∀ x ∈ ws, x < 4294967296) → ∀ z ∈ mulL xs ys ws, z < 4294967296
  | [], _, ws, _, _, hw, z, hz => hw z hz
  | x :: xs, ys, ws, hx, hy, hw, z, hz => by
    have hm := macL_lt x ys ws 0 (hx x (by simp)) hy hw (by decide)
    rw [mulL, List.mem_cons] at hz
    rcases hz with rfl | hz
    · match hq : macL x ys ws 0 with
      | [] => decide
      | q :: qs => rw [hq] at hm; exact hm q (by simp)
    · exact mulL_lt xs ys _ (fun z hz => hx z (by simp [hz])) hy (fun z hz => hm z (List.mem_of_mem_tail hz)) z hz
theorem valB_split (l : List Nat) : ∀ k, k ≤ l.length → valB 4294967296 l = valB 4294967296 (l.take k) + 4294967296 ^ k * valB 4294967296 (l.drop k) := by
  intro k
  induction k generalizing l with
  | zero => intro _; simp [valB]
  | succ k ih =>
    intro h
    cases l with
    | nil => simp at h
    | cons x r =>
      rw [List.take_succ_cons, List.drop_succ_cons, valB, valB, ih r (by simpa using h), Nat.mul_add, Nat.pow_succ, Nat.mul_comm (4294967296 ^ k) 4294967296, Nat.mul_assoc]
      omega
theorem zeros_val : ∀ k, valB 4294967296 (List.replicate k 0) = 0
  | 0 => rfl
  | k + 1 => by rw [List.replicate_succ, valB, zeros_val k]
theorem zeros_getD (k j : Nat) : (List.replicate k 0).getD j 0 = 0 := by
  by_cases h : j < k
  · simp [h]
  · rw [List.getD_eq_getElem?_getD, List.getElem?_eq_none (by simp; omega)]; rfl
def big : Nat := 4294967296 ^ 16
def mid : Nat := 4294967296 ^ 8
theorem big_pos : 0 < big := by decide +kernel
theorem mid_big : mid * mid = big := by decide +kernel
theorem subL_full : ∀ (xs ys : List Nat) (c : Nat), xs.length = ys.length → (∀ x ∈ xs, x < 4294967296) → (∀ x ∈ ys, x < 4294967296) → c ≤ 1 →
    valB 4294967296 (subL xs ys c) + valB 4294967296 ys + c = valB 4294967296 xs + 4294967296 ^ xs.length * subU xs ys c
  | [], [], c, _, _, _, _ => by simp [valB, subL, subU]
  | [], y :: ys, _, h, _, _, _ => by simp at h
  | x :: xs, [], _, h, _, _, _ => by simp at h
  | x :: xs, y :: ys, c, h, hx, hy, hc => by
    have h1 := hx x (by simp)
    have h2 := hy y (by simp)
    have ih := subL_full xs ys (if x < y + c then 1 else 0) (by simpa using h) (fun z hz => hx z (by simp [hz])) (fun z hz => hy z (by simp [hz])) (by split <;> omega)
    rw [subL, subU, List.length_cons, Nat.pow_succ, Nat.mul_comm (4294967296 ^ xs.length) 4294967296, Nat.mul_assoc]
    simp only [valB]
    generalize 4294967296 ^ xs.length * subU xs ys (if x < y + c then 1 else 0) = p at ih ⊢
    by_cases hb : x < y + c
    · rw [if_pos hb] at ih ⊢
      omega
    · rw [if_neg hb] at ih ⊢
      omega
def nL (x : Nat) : List Nat := limbs 4294967296 16 x
theorem nL_len (x : Nat) : (nL x).length = 16 := limbs_len _ _ _
theorem nL_lt (x : Nat) : ∀ y ∈ nL x, y < 4294967296 := limbs_lt (by decide) _ _
theorem nL_val (x : Nat) (h : x < big) : valB 4294967296 (nL x) = x := by
  unfold nL
  rw [val_limbs]
  exact Nat.mod_eq_of_lt h
theorem nL_of (l : List Nat) (n : Nat) (hk : l.length = 16) (h : ∀ x ∈ l, x < 4294967296) (hv : valB 4294967296 l = n) : l = nL n := limbs_eq (by decide) l 16 n hk h hv
theorem limbs_take (B : Nat) : ∀ (j k x : Nat), j ≤ k → (limbs B k x).take j = limbs B j x
  | 0, _, _, _ => by rw [List.take_zero]; rfl
  | j + 1, 0, _, h => by omega
  | j + 1, k + 1, x, h => by rw [limbs, limbs, List.take_succ_cons, limbs_take B j k _ (by omega)]
theorem half_len (x : Nat) : ((nL x).take 8).length = 8 := by rw [List.length_take, nL_len]; rfl
theorem half_lt (x : Nat) : ∀ y ∈ (nL x).take 8, y < 4294967296 := fun y hy => nL_lt x y (List.mem_of_mem_take hy)
theorem half_val (x : Nat) (h : x < mid) : valB 4294967296 ((nL x).take 8) = x := by
  unfold nL
  rw [limbs_take _ _ _ _ (by decide), val_limbs]
  exact Nat.mod_eq_of_lt h
def numV (x : Nat) : Value := aggN .u32 (nL x)
def NP (x : Nat) (w : World) (e : Ending) (w' : World) : Prop := e = .returned (numV x) ∧ Below w.heap.size w w'
theorem sumN_any (x y : Nat) (hx : x < big) (hy : y < big) (w : World) : Calls Tryz.prog 73 #[numV x, numV y] w (NP ((x + y) % big) w) := by
  refine (sum_any (nL x) (nL y) (nL_len x) (nL_len y) (nL_lt x) (nL_lt y) w).mono ?_
  rintro e w' ⟨rfl, hb⟩
  refine ⟨?_, hb⟩
  rw [nL_of (addL (nL x) (nL y) 0) ((x + y) % big) (by rw [addL_len _ _ _ (by rw [nL_len, nL_len]), nL_len]) (addL_lt _ _ _) (by
    rw [addL_val _ _ _ (by rw [nL_len, nL_len]), nL_len, nL_val x hx, nL_val y hy, Nat.add_zero]; rfl)]
  rfl
theorem sub_parts {s x y u : Nat} (hs : s < big) (hx : x < big) (hy : y < big) (hu : u ≤ 1) (h : s + y + 0 = x + big * u) : s = (x + big - y) % big ∧ decide (u = 1) = decide (x < y) := by
  obtain rfl | rfl : u = 0 ∨ u = 1 := by omega
  · rw [Nat.mul_zero] at h
    refine ⟨?_, by rw [decide_eq_decide]; omega⟩
    rw [show x + big - y = s + big by omega, Nat.add_mod_right, Nat.mod_eq_of_lt hs]
  · rw [Nat.mul_one] at h
    refine ⟨?_, by rw [decide_eq_decide]; omega⟩
    rw [show x + big - y = s by omega, Nat.mod_eq_of_lt hs]
def DP (x : Nat) (b : Bool) (w : World) (e : Ending) (w' : World) : Prop := e = .returned (.tuple #[numV x, .bool b]) ∧ Below w.heap.size w w'
theorem diffN_any (x y : Nat) (hx : x < big) (hy : y < big) (w : World) : Calls Tryz.prog 111 #[numV x, numV y] w (DP ((x + big - y) % big) (decide (x < y)) w) := by
  refine (diff_any (nL x) (nL y) (nL_len x) (nL_len y) (nL_lt x) (nL_lt y) w).mono ?_
  rintro e w' ⟨rfl, hb⟩
  refine ⟨?_, hb⟩
  have hv := subL_full (nL x) (nL y) 0 (by rw [nL_len, nL_len]) (nL_lt x) (nL_lt y) (by omega)
  rw [nL_val x hx, nL_val y hy, nL_len] at hv
  have hb2 := valB_lt (B := 4294967296) (by decide) _ (subL_lt (nL x) (nL y) 0)
  rw [subL_len _ _ _ (by rw [nL_len, nL_len]), nL_len] at hb2
  obtain ⟨e1, e2⟩ := sub_parts hb2 hx hy (subU_le _ _ 0 (by omega)) hv
  rw [e2, nL_of (subL (nL x) (nL y) 0) ((x + big - y) % big) (by rw [subL_len _ _ _ (by rw [nL_len, nL_len]), nL_len]) (subL_lt _ _ _) e1]
  rfl
theorem prodN_any (x y : Nat) (hx : x < mid) (hy : y < mid) (w : World) : Calls Tryz.prog 72 #[numV x, numV y] w (NP (x * y) w) := by
  refine (product_any (nL x) (nL y) (nL_len x) (nL_len y) (nL_lt x) (nL_lt y) w).mono ?_
  rintro e w' ⟨rfl, hb⟩
  refine ⟨?_, hb⟩
  rw [nL_of (mulL ((nL x).take 8) ((nL y).take 8) (List.replicate 16 0)) (x * y) (by rw [mulL_len _ _ _ (by rw [half_len]; simp), List.length_replicate])
    (mulL_lt _ _ _ (half_lt x) (half_lt y) (fun z hz => by rw [List.eq_of_mem_replicate hz]; decide))
    (by rw [mulL_val _ _ _ (by rw [half_len, half_len, List.length_replicate]; omega) (fun j _ => zeros_getD 16 j), zeros_val, Nat.zero_add, half_val x hx, half_val y hy])]
  rfl
theorem nL_o : nL oN = [1559614445, 1477600026, 2734136534, 350157278, 0, 0, 0, 268435456, 0, 0, 0, 0, 0, 0, 0, 0] := by decide +kernel
end Go.Proofs.YtgnblaaldpniiaaGreatDoor.Sc
end
section
set_option linter.unusedSimpArgs false
set_option linter.unusedVariables false
set_option maxRecDepth 100000
namespace Go.Proofs.YtgnblaaldpniiaaGreatDoor.Sc
open Go.RowKit Go.Lib
def numA (x : Nat) : Array Value := (numC .u32 (nL x)).toArray
theorem numV_eq (x : Nat) : numV x = .agg (numA x) := rfl
theorem numA_size (x : Nat) : (numA x).size = 16 := by rw [numA, List.size_toArray, numC_length, nL_len]
theorem numA_one (x : Nat) : (numA x).all (·.oneCell') = true := numC_one _ _
theorem numA_info (x : Nat) : (Tryz.prog.info? 87).map (·.size) = some (numA x).size := by rw [infoN, numA_size]
theorem zero_num : ∀ w, (zeroValue 87).run Tryz.prog w = .ok (.agg (numA 0)) w := by
  have h : (numA 0) = (numC .u32 (List.replicate 16 0)).toArray := rfl
  rw [h]
  exact (zero_of_info (n := 16) (by kernel_rfl)).1
def NumAt (w : World) (g : Nat) (x : Nat) : Prop := w.heap[g]? = some (.cells (numA x) 87 (0, 0))
theorem NumAt.lt {w : World} {g x : Nat} (h : NumAt w g x) : g < w.heap.size := (Array.getElem?_eq_some_iff.1 h).1
structure Mem (w0 w : World) (L : List (Nat × Nat)) : Prop where
  below : Below w0.heap.size w0 w
  holds : ∀ g x, (g, x) ∈ L → NumAt w g x
  ours : ∀ g x, (g, x) ∈ L → w0.heap.size ≤ g
  apart : (L.map (·.1)).Nodup
section
variable {w0 w w' : World} {L : List (Nat × Nat)} {g x y : Nat}
theorem Mem.start (w : World) : Mem w w [] := ⟨Below.refl _ _, by simp, by simp, by simp⟩
theorem Mem.grow (H : Mem w0 w L) (hb : Below w.heap.size w w') : Mem w0 w' L :=
  ⟨H.below.trans (hb.mono H.below.size), fun g x h => (hb.block g (H.holds g x h).lt).trans (H.holds g x h), H.ours, H.apart⟩
theorem Mem.new (H : Mem w0 w L) (x : Nat) : Mem w0 (w.alloc (.cells (numA x) 87)) ((w.heap.size, x) :: L) := by
  have H2 := H.grow ((Below.refl _ w).alloc (Nat.le_refl _) (.cells (numA x) 87))
  refine ⟨H2.below, fun g y h => ?_, fun g y h => ?_, ?_⟩
  · rcases List.mem_cons.1 h with h | h
    · injection h with h1 h2; subst h1; subst h2; exact heap_alloc_new w _
    · exact H2.holds g y h
  · rcases List.mem_cons.1 h with h | h
    · injection h with h1 h2; subst h1; exact H.below.size
    · exact H.ours g y h
  · rw [List.map_cons, List.nodup_cons]
    refine ⟨fun h => ?_, H.apart⟩
    obtain ⟨⟨g, y⟩, hm, he⟩ := List.mem_map.1 h
    have := (H.holds g y hm).lt
    simp only at he
    omega
theorem Mem.extra (H : Mem w0 w L) (h : From w.drew w') (hF : Fresh w 87 (numA 0) g w') : Mem w0 w' ((g, 0) :: L) := by
  have H2 := H.grow h.of_drew
  refine ⟨H2.below, fun g' y h => ?_, fun g' y h => ?_, ?_⟩
  · rcases List.mem_cons.1 h with h | h
    · injection h with h1 h2; subst h1; subst h2; exact hF.1
    · exact H2.holds g' y h
  · rcases List.mem_cons.1 h with h | h
    · injection h with h1 h2; subst h1; exact Nat.le_trans H.below.size hF.2
    · exact H.ours g' y h
  · rw [List.map_cons, List.nodup_cons]
    refine ⟨fun h => ?_, H.apart⟩
    obtain ⟨⟨g', y⟩, hm, he⟩ := List.mem_map.1 h
    have h3 := (H.holds g' y hm).lt
    have h4 := hF.2
    simp only at he
    omega
def putN (g y : Nat) (L : List (Nat × Nat)) : List (Nat × Nat) := L.map fun p => if p.1 = g then (g, y) else p
theorem setRow_other (w : World) (g g' : Nat) (cs : Array Value) (h : g' ≠ g) : (w.setRow g cs).heap[g']? = w.heap[g']? := by
  show (w.heap.modify g _)[g']? = _
  rw [Array.getElem?_modify, if_neg (Ne.symm h)]
theorem Mem.put (H : Mem w0 w L) (h : (g, x) ∈ L) (y : Nat) : Mem w0 (w.setRow g (numA y)) (putN g y L) := by
  have hk : (putN g y L).map (·.1) = L.map (·.1) := by
    unfold putN
    rw [List.map_map]
    refine List.map_congr_left fun p _ => ?_
    simp only [Function.comp]
    split
    · rename_i e; exact e.symm
    · rfl
  refine ⟨below_setRow H.below (H.ours g x h) _, fun g' z h' => ?_, fun g' z h' => ?_, by rw [hk]; exact H.apart⟩
  · unfold putN at h'
    obtain ⟨⟨g2, z2⟩, hm, he⟩ := List.mem_map.1 h'
    by_cases e : g2 = g
    · rw [if_pos e] at he
      injection he with e1 e2
      subst e1; subst e2
      exact setRow_heap _ _ _ _ _ _ (H.holds g x h)
    · rw [if_neg e] at he
      injection he with e1 e2
      subst e1; subst e2
      exact (setRow_other w g g2 _ e).trans (H.holds g2 z2 hm)
  · have : g' ∈ L.map (·.1) := by rw [← hk]; exact List.mem_map.2 ⟨(g', z), h', rfl⟩
    obtain ⟨⟨g2, z2⟩, hm, he⟩ := List.mem_map.1 this
    simp only at he
    subst he
    exact H.ours g2 z2 hm
end
section
variable {ops : Array Oper} {rest : List Oper} {o : Oper} {a : Act} {w0 w : World} {Q : Exit → Act → World → Prop} {L : List (Nat × Nat)}
theorem mem_box (hg : o.guard = none) (x : Operand) (ho : o.op = .box 87 x) (y : Nat) (hx : a.eval x = .agg (numA y)) (H : Mem w0 w L)
    (h : ∀ g w', Mem w0 w' ((g, y) :: L) → wpList Tryz.prog ops Q rest (a.put o.dst (.pointer (some ⟨g, 0, none⟩))) w') : wpList Tryz.prog ops Q (o :: rest) a w :=
  Great.wpList_boxTo hg 87 x ho o.dst rfl w.heap.size rfl (numA y) (by rw [hx]; rfl) (h _ _ (H.new y))
theorem mem_alloc (hg : o.guard = none) (ho : o.op = .alloc 87) (H : Mem w0 w L)
    (h : ∀ g w', Mem w0 w' ((g, 0) :: L) → wpList Tryz.prog ops Q rest (a.put o.dst (.pointer (some ⟨g, 0, none⟩))) w') : wpList Tryz.prog ops Q (o :: rest) a w := by
  refine wpList_plain hg fun K hK => ?_
  unfold Oper.wp execOp
  simp only [ho, Instr.alloc, Sem.run_bind, zero_num, newVar, newRow, run_newObj_alloc, Sem.run_pure, Result.andThen_ok]
  exact hK _ _ (h _ _ (H.new 0))
theorem mem_load (hg : o.guard = none) (x : Operand) (ho : o.op = .load 87 x) (g y : Nat) (hx : a.eval x = .pointer (some ⟨g, 0, none⟩)) (H : Mem w0 w L) (hm : (g, y) ∈ L)
    (h : wpList Tryz.prog ops Q rest (a.put o.dst (.agg (numA y))) w) : wpList Tryz.prog ops Q (o :: rest) a w :=
  wpList_load_row hg 87 x ho g hx 87 (numA y) (0, 0) _ (H.holds g y hm) Tryz.underlying87 rfl (numA_info y) h
theorem mem_store (hg : o.guard = none) (x v : Operand) (ho : o.op = .store 87 x v) (g old y : Nat) (hx : a.eval x = .pointer (some ⟨g, 0, none⟩)) (hv : a.eval v = .agg (numA y)) (H : Mem w0 w L) (hm : (g, old) ∈ L)
    (h : ∀ w', Mem w0 w' (putN g y L) → wpList Tryz.prog ops Q rest (a.put o.dst undef) w') : wpList Tryz.prog ops Q (o :: rest) a w :=
  wpList_store_row hg 87 x v ho g (numA y) hx hv 87 (numA old) (H.holds g old hm) (numA_info y) (by rw [numA_size, numA_size]) (numA_one y) (h _ (H.put hm y))
theorem putN_none {g y : Nat} : ∀ (L : List (Nat × Nat)), g ∉ L.map (·.1) → putN g y L = L
  | [], _ => rfl
  | p :: r, h => by
    rw [List.map_cons, List.mem_cons, not_or] at h
    have := putN_none (y := y) r h.2
    unfold putN at this ⊢
    rw [List.map_cons, this, if_neg (Ne.symm h.1)]
theorem putN_mid {g y old : Nat} : ∀ (A B : List (Nat × Nat)), ((A ++ (g, old) :: B).map (·.1)).Nodup → putN g y (A ++ (g, old) :: B) = A ++ (g, y) :: B
  | [], B, h => by
    rw [List.nil_append, List.map_cons, List.nodup_cons] at h
    have := putN_none (y := y) B h.1
    unfold putN at this ⊢
    rw [List.nil_append, List.map_cons, this, if_pos rfl, List.nil_append]
  | p :: A, B, h => by
    rw [List.cons_append, List.map_cons, List.nodup_cons] at h
    have := putN_mid (y := y) A B h.2
    have hne : p.1 ≠ g := fun e => h.1 (List.mem_map.2 ⟨(g, old), by simp, e.symm⟩)
    unfold putN at this ⊢
    rw [List.cons_append, List.map_cons, this, if_neg hne, List.cons_append]
theorem mem_store_mid (hg : o.guard = none) (x v : Operand) (ho : o.op = .store 87 x v) (g old y : Nat) (hx : a.eval x = .pointer (some ⟨g, 0, none⟩)) (hv : a.eval v = .agg (numA y)) (A B : List (Nat × Nat)) (H : Mem w0 w (A ++ (g, old) :: B))
    (h : ∀ w', Mem w0 w' (A ++ (g, y) :: B) → wpList Tryz.prog ops Q rest (a.put o.dst undef) w') : wpList Tryz.prog ops Q (o :: rest) a w :=
  mem_store hg x v ho g old y hx hv H (by simp) fun w' H' => h w' (putN_mid A B H.apart ▸ H')
theorem mem_store0 (hg : o.guard = none) (x v : Operand) (ho : o.op = .store 87 x v) (g old y : Nat) (hx : a.eval x = .pointer (some ⟨g, 0, none⟩)) (hv : a.eval v = .agg (numA y)) (B : List (Nat × Nat)) (H : Mem w0 w ((g, old) :: B))
    (h : ∀ w', Mem w0 w' ((g, y) :: B) → wpList Tryz.prog ops Q rest (a.put o.dst undef) w') : wpList Tryz.prog ops Q (o :: rest) a w := mem_store_mid hg x v ho g old y hx hv [] B H h
theorem mem_store1 (hg : o.guard = none) (x v : Operand) (ho : o.op = .store 87 x v) (g old y : Nat) (hx : a.eval x = .pointer (some ⟨g, 0, none⟩)) (hv : a.eval v = .agg (numA y)) (p : Nat × Nat) (B : List (Nat × Nat)) (H : Mem w0 w (p :: (g, old) :: B))
    (h : ∀ w', Mem w0 w' (p :: (g, y) :: B) → wpList Tryz.prog ops Q rest (a.put o.dst undef) w') : wpList Tryz.prog ops Q (o :: rest) a w := mem_store_mid hg x v ho g old y hx hv [p] B H h
theorem mem_store2 (hg : o.guard = none) (x v : Operand) (ho : o.op = .store 87 x v) (g old y : Nat) (hx : a.eval x = .pointer (some ⟨g, 0, none⟩)) (hv : a.eval v = .agg (numA y)) (p q : Nat × Nat) (B : List (Nat × Nat)) (H : Mem w0 w (p :: q :: (g, old) :: B))
    (h : ∀ w', Mem w0 w' (p :: q :: (g, y) :: B) → wpList Tryz.prog ops Q rest (a.put o.dst undef) w') : wpList Tryz.prog ops Q (o :: rest) a w := mem_store_mid hg x v ho g old y hx hv [p, q] B H h
theorem mem_call {f : FuncId} {args : Array Value} {v : Value} {Q : Ending → World → Prop} (H : Mem w0 w L) (c : Calls Tryz.prog f args w fun e w' => e = .returned v ∧ Below w.heap.size w w')
    (h : ∀ w', Mem w0 w' L → Q (.returned v) w') : Calls Tryz.prog f args w Q :=
  c.mono fun _ w' ⟨he, hb⟩ => he ▸ h w' (H.grow hb)
theorem mem_from {w' : World} (H : Mem w0 w L) (h : From w.drew w') : Mem w0 w' L := H.grow h.of_drew
theorem mem_quiet_load {K : Act → Prop} (x : Operand) (ho : o.op = .load 87 x) (g y : Nat) (hx : a.eval x = .pointer (some ⟨g, 0, none⟩)) (H : Mem w0 w L) (hm : (g, y) ∈ L)
    (h : K (a.put o.dst (.agg (numA y)))) : o.quiet Tryz.prog a (fun w' => ∃ u : Held (From w.drew), w' = u.w) K :=
  quiet_load_row 87 x ho g hx 87 (numA y) _ (fun _ ⟨u, e⟩ => ⟨(0, 0), e ▸ (mem_from H u.h).holds g y hm⟩) Tryz.underlying87 rfl (numA_info y) h
theorem mem_quiet_load_u {K : Act → Prop} (x : Operand) (ho : o.op = .load 87 x) (g y : Nat) (hx : a.eval x = .pointer (some ⟨g, 0, none⟩)) (H : Mem w0 w L) (hm : (g, y) ∈ L)
    (h : K (a.put o.dst (.agg (numA y)))) : o.quiet Tryz.prog a (fun w' => ∃ u : Held (From w), w' = u.w) K :=
  quiet_load_row 87 x ho g hx 87 (numA y) _ (fun _ ⟨u, e⟩ => ⟨(0, 0), e ▸ (H.grow u.h.below).holds g y hm⟩) Tryz.underlying87 rfl (numA_info y) h
theorem mem_ret {fn : Func} {p : Tmp} {x : Nat} {g : Nat} (hr : fn.results = #[.cell p 87]) (a : Act) (hp : a.tmps.getD p undef = .pointer (some ⟨g, 0, none⟩)) (hd : a.defers = []) (H : Mem w0 w L) (hm : (g, x) ∈ L) :
    bodyPost Tryz.prog fn (NP x w0) .ret a w :=
  bodyPost_ret (results_cell_row hr _ _ g 87 (numA x) (0, 0) _ hp (H.holds g x hm) Tryz.underlying87 rfl (numA_info x)) hd ⟨rfl, H.below⟩
end
section
variable {ops : Array Oper} {rest : List Oper} {o : Oper} {a : Act} {w0 w : World} {Q : Exit → Act → World → Prop} {L : List (Nat × Nat)}
theorem built_few (ps : List (Nat × Value)) (P : Program) (t : TypeId) (c : Array Value) (h : P.built t ps = some c) (parts : Array (Nat × Operand)) (a : Act) (e : (parts.map fun (i, x) => (i, a.eval x)).toList = ps) :
    (P.built t (parts.map fun (i, x) => (i, a.eval x)).toList).isSome = true ∧ (P.built t (parts.map fun (i, x) => (i, a.eval x)).toList).getD #[] = c := by
  rw [e, h]; exact ⟨rfl, rfl⟩
theorem mem_build (hg : o.guard = none) (parts : Array (Nat × Operand)) (ho : o.op = .build 87 parts) (ps : List (Nat × Value)) (e : (parts.map fun (i, x) => (i, a.eval x)).toList = ps) (x : Nat) (hb : Tryz.prog.built 87 ps = some (numA x))
    (h : wpList Tryz.prog ops Q rest (a.put o.dst (.agg (numA x))) w) : wpList Tryz.prog ops Q (o :: rest) a w := by
  obtain ⟨h1, h2⟩ := built_few ps _ _ _ hb parts a e
  exact wpList_build hg 87 parts ho h1 (by rw [h2]; exact h)
end
theorem built_order : Tryz.prog.built 87 [(0, .int .u32 1559614445), (1, .int .u32 1477600026), (2, .int .u32 2734136534), (3, .int .u32 350157278), (4, .int .u32 0), (5, .int .u32 0), (6, .int .u32 0), (7, .int .u32 268435456)] = some (numA oN) := by
  unfold numA
  rw [nL_o]
  kernel_rfl
theorem nL_lo (x : Nat) (h : x < 4294967296) : nL x = [x, 0, 0, 0, 0, 0, 0, 0, 0, 0, 0, 0, 0, 0, 0, 0] := by
  refine (nL_of _ x rfl (fun y hy => ?_) ?_).symm
  · simp at hy
    omega
  · simp [valB]
theorem nL_lo2 (x y : Nat) (h : x < 4294967296) (h' : y < 4294967296) : nL (x + 4294967296 * y) = [x, y, 0, 0, 0, 0, 0, 0, 0, 0, 0, 0, 0, 0, 0, 0] := by
  refine (nL_of _ _ rfl (fun z hz => ?_) ?_).symm
  · simp at hz
    omega
  · simp [valB]
theorem built_one (x : Nat) (h : x < 4294967296) : Tryz.prog.built 87 [(0, .int .u32 (x : Int))] = some (numA x) := by
  unfold numA
  rw [nL_lo x h]
  rfl
theorem built_two (x y : Nat) (h : x < 4294967296) (h' : y < 4294967296) : Tryz.prog.built 87 [(0, .int .u32 (x : Int)), (1, .int .u32 (y : Int))] = some (numA (x + 4294967296 * y)) := by
  unfold numA
  rw [nL_lo2 x y h h']
  rfl
end Go.Proofs.YtgnblaaldpniiaaGreatDoor.Sc
end
