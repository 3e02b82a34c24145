/- Walks of package scalar: products. -/
import Derived.Test.YthlkpdfdbdfbjaaP2
set_option linter.unusedSimpArgs false
set_option linter.unusedVariables false
namespace Go.Proofs.Ythlkpdfdbdfbjaa
open Go.RowKit Go.Lib
/-- A row of a product goes onto words. -/
def macL : Nat → List Nat → List Nat → Nat → List Nat
  | x, y :: ys, v :: vs, c => (x * y + v + c) % 4294967296 :: macL x ys vs ((x * y + v + c) / 4294967296)
  | _, [], _ :: vs, c => c :: vs
  | _, _, [], _ => []
def mulL : List Nat → List Nat → List Nat → List Nat
  | [], _, ws => ws
  | x :: xs, ys, ws => (macL x ys ws 0).headD 0 :: mulL xs ys (macL x ys ws 0).tail
theorem zeroW : ∀ w, (zeroValue 41).run Try.prog w = .ok (aggN .u32 (List.replicate 16 0)) w :=
  (zero_of_info (n := 16) (by kernel_rfl)).1
theorem macL_len : ∀ (x : Nat) (ys ws : List Nat) (c : Nat), (macL x ys ws c).length = ws.length
  | _, _ :: ys, _ :: vs, c => by rw [macL, List.length_cons, List.length_cons, macL_len _ ys vs]
  | _, [], _ :: vs, c => rfl
  | _, [], [], _ => rfl
  | _, _ :: _, [], _ => rfl
theorem macL_lt : ∀ (x : Nat) (ys ws : List Nat) (c : Nat), x < 4294967296 → (∀ y ∈ ys, y < 4294967296) → (∀ y ∈ ws, y < 4294967296) → c < 4294967296 → ∀ z ∈ macL x ys ws c, z < 4294967296
  | x, y :: ys, v :: vs, c, hx, hy, hw, hc, z, hz => by
    rw [macL, List.mem_cons] at hz
    have hy0 := hy y (by simp)
    have hv0 := hw v (by simp)
    rcases hz with rfl | hz
    · omega
    · have hp : x * y ≤ 4294967295 * 4294967295 := Nat.mul_le_mul (by omega) (by omega)
      exact macL_lt x ys vs _ hx (fun y h => hy y (by simp [h])) (fun y h => hw y (by simp [h])) (by omega) z hz
  | _, [], v :: vs, c, _, _, hw, hc, z, hz => by
    rw [macL, List.mem_cons] at hz
    rcases hz with rfl | hz
    · exact hc
    · exact hw z (by simp [hz])
  | _, [], [], _, _, _, _, _, z, hz => by simp [macL] at hz
  | _, _ :: _, [], _, _, _, _, _, z, hz => by simp [macL] at hz
set_option maxHeartbeats 1000000 in
theorem product_any (a b : List Nat) (ha : a.length = 16) (hb : b.length = 16) (hal : ∀ x ∈ a, x < 4294967296) (hbl : ∀ x ∈ b, x < 4294967296) (w : World) :
    Calls Try.prog 29 #[aggN .u32 a, aggN .u32 b] w (NumPost (mulL (a.take 8) (b.take 8) (List.replicate 16 0)) w) := by
  obtain ⟨Z, hZ, hz⟩ := zeroN
  obtain ⟨z16, hz16⟩ : ∃ z, List.replicate 16 0 = z := ⟨_, rfl⟩
  have hzl : z16.length = 16 := by rw [← hz16]; rfl
  have hzz : ∀ x ∈ z16, x < 4294967296 := by rw [← hz16]; intro x hx; rw [List.eq_of_mem_replicate hx]; decide
  have hZz : Z = (numC .u32 z16).toArray := by
    have h0 := zeroW w
    have h1 := hz w
    rw [h0] at h1
    injection h1 with h1 _
    injection h1 with h1
    rw [← h1, hz16]
  rw [hz16]
  obtain ⟨p, hp⟩ : ∃ p, a.take 8 = p := ⟨_, rfl⟩
  obtain ⟨q, hq⟩ : ∃ q, b.take 8 = q := ⟨_, rfl⟩
  rw [hp, hq]
  have hpl : p.length = 8 := by rw [← hp, List.length_take, ha]; rfl
  have hql : q.length = 8 := by rw [← hq, List.length_take, hb]; rfl
  have hpW : ∀ x ∈ p, x < 4294967296 := fun x hx => hal x (List.mem_of_mem_take (hp ▸ hx))
  have hqW : ∀ x ∈ q, x < 4294967296 := fun x hx => hbl x (List.mem_of_mem_take (hq ▸ hx))
  have hpg : ∀ i, i < 8 → p.getD i 0 = a.getD i 0 := fun i hi => by rw [← hp]; simp [hi]
  have hqg : ∀ i, i < 8 → q.getD i 0 = b.getD i 0 := fun i hi => by rw [← hq]; simp [hi]
  obtain ⟨M, hM⟩ : ∃ M, mulL p q z16 = M := ⟨_, rfl⟩
  replace hp := Kept.mk hp
  replace hq := Kept.mk hq
  replace hpl := Kept.mk hpl
  replace hql := Kept.mk hql
  replace hpW := Kept.mk hpW
  replace hqW := Kept.mk hqW
  replace hpg := Kept.mk hpg
  replace hqg := Kept.mk hqg
  rw [hM]
  replace hZz := Kept.mk hZz
  replace hM := Kept.mk hM
  replace hz16 := Kept.mk hz16
  replace hzl := Kept.mk hzl
  replace hzz := Kept.mk hzz
  replace hZ := Kept.mk hZ
  replace ha := Kept.mk ha
  replace hb := Kept.mk hb
  replace hal := Kept.mk hal
  replace hbl := Kept.mk hbl
  obtain ⟨A, hA⟩ : ∃ A, (numC .u32 a).toArray = A := ⟨_, rfl⟩
  obtain ⟨B, hB⟩ : ∃ B, (numC .u32 b).toArray = B := ⟨_, rfl⟩
  unfold aggN
  rw [hA, hB]
  go_enter Try.func29, Try.ntmps29
  go_wp2
  have h1 : Arr ((((w.alloc (.cells A 41)).alloc (.cells B 41)).alloc (.cells Z 41)).alloc (.cells Z 41)) w.heap.size 41 .u32 a := by
    have h := Arr.new w 41 .u32 a
    rw [hA] at h
    exact ((h.from ((Below.refl _ _).alloc (Nat.le_refl _) _)).from ((Below.refl _ _).alloc (Nat.le_refl _) _)).from ((Below.refl _ _).alloc (Nat.le_refl _) _)
  have h2 : Arr ((((w.alloc (.cells A 41)).alloc (.cells B 41)).alloc (.cells Z 41)).alloc (.cells Z 41)) (w.heap.size + 1) 41 .u32 b := by
    have h := Arr.new (w.alloc (.cells A 41)) 41 .u32 b
    rw [hB, World.size_alloc] at h
    exact (h.from ((Below.refl _ _).alloc (Nat.le_refl _) _)).from ((Below.refl _ _).alloc (Nat.le_refl _) _)
  have h3 : ((((w.alloc (.cells A 41)).alloc (.cells B 41)).alloc (.cells Z 41)).alloc (.cells Z 41)).heap[w.heap.size + 2]? = some (.cells Z 41 (0, 0)) := by
    have h := heap_alloc_new ((w.alloc (.cells A 41)).alloc (.cells B 41)) (.cells Z 41)
    rw [← h]
    simpa using (Below.alloc (Below.refl _ (((w.alloc (.cells A 41)).alloc (.cells B 41)).alloc (.cells Z 41))) (Nat.le_refl _) (.cells Z 41)).block (w.heap.size + 2) (by simp)
  have h5 : Arr ((((w.alloc (.cells A 41)).alloc (.cells B 41)).alloc (.cells Z 41)).alloc (.cells Z 41)) (w.heap.size + 3) 41 .u32 z16 := by
    have h := Arr.new (((w.alloc (.cells A 41)).alloc (.cells B 41)).alloc (.cells Z 41)) 41 .u32 z16
    rw [← hZz.out] at h
    simpa using h
  have h4 : Below w.heap.size w ((((w.alloc (.cells A 41)).alloc (.cells B 41)).alloc (.cells Z 41)).alloc (.cells Z 41)) :=
    ((((Below.refl _ _).alloc (Nat.le_refl _) _).alloc (by simp) _).alloc (by simp; omega) _).alloc (by simp; omega) _
  replace hA := Kept.mk hA
  replace hB := Kept.mk hB
  generalize (((w.alloc (.cells A 41)).alloc (.cells B 41)).alloc (.cells Z 41)).alloc (.cells Z 41) = w0 at h1 h2 h3 h4 h5 ⊢
  obtain ⟨n, hn⟩ : ∃ n, w.heap.size = n := ⟨_, rfl⟩
  rw [hn] at h1 h2 h3 h5 ⊢
  replace h1 := Kept.mk h1
  replace h2 := Kept.mk h2
  replace h3 := Kept.mk h3
  replace h4 := Kept.mk h4
  replace h5 := Kept.mk h5
  replace hn := Kept.mk hn
  go_loopw [10] (fun v10 wr => ∃ (i : Nat) (d r : List Nat), i ≤ 8 ∧ v10 = .int .i64 (i : Int) ∧ Kept (d.length = i) ∧ Kept (r.length = 16 - i) ∧ Kept (∀ x ∈ d ++ r, x < 4294967296) ∧ Kept (Arr wr n 41 .u32 a) ∧ Kept (Arr wr (n + 1) 41 .u32 b) ∧
    Kept (wr.heap[n + 2]? = some (.cells Z 41 (0, 0))) ∧ Kept (Arr wr (n + 3) 41 .u32 (d ++ r)) ∧ Kept (Below w.heap.size w wr) ∧ Kept (d ++ mulL (p.drop i) q r = M)) (fun v10 _ => 8 - (intOf v10).toNat)
  case atStart => exact ⟨0, [], z16, by omega, rfl, ⟨rfl⟩, hzl, hzz, h1, h2, h3, h5, h4, hM⟩
  case round =>
    clear h1 h2 h3 h4 h5
    obtain ⟨i, d, r, hi, rfl, HD, HRl, HRW, H1, H2, H3, H5, H4, HE⟩ := hrel
    obtain ⟨wo, rfl⟩ : ∃ wo : World, wo = wr := ⟨_, rfl⟩
    by_cases hlt : i < 8
    · obtain ⟨x, hx⟩ : ∃ x, a.getD i 0 = x := ⟨_, rfl⟩
      have hda := drop_getD p i (by rw [hpl.out]; exact hlt)
      rw [hpg.out i hlt, hx] at hda
      have hxl : x < 4294967296 := hx ▸ getD_ltN hal.out i (by rw [ha.out]; omega)
      replace hx := Kept.mk hx
      replace hda := Kept.mk hda
      have hlti : (i : Int) < 8 := by omega
      go_wp2
      go_loopw [7, 13] (fun v7 v13 wr => ∃ (j c : Nat) (e : List Nat), j ≤ 8 ∧ c < 4294967296 ∧ v7 = .int .u64 (c : Int) ∧ v13 = .int .i64 (j : Int) ∧ Kept (e.length = j) ∧ Kept (Arr wr n 41 .u32 a) ∧ Kept (Arr wr (n + 1) 41 .u32 b) ∧
        Kept (wr.heap[n + 2]? = some (.cells Z 41 (0, 0))) ∧ Kept (Arr wr (n + 3) 41 .u32 (d ++ e ++ r.drop j)) ∧ Kept (Below w.heap.size w wr) ∧ Kept (e ++ macL x (q.drop j) (r.drop j) c = macL x q r 0)) (fun _ v13 _ => 8 - (intOf v13).toNat)
      case atStart => exact ⟨0, 0, [], by omega, by omega, rfl, rfl, ⟨rfl⟩, H1, H2, H3, ⟨by rw [List.append_nil]; exact H5.out⟩, H4, ⟨rfl⟩⟩
      case round =>
        clear H1 H2 H3 H4 H5
        obtain ⟨j, c, e, hj, hc, rfl, rfl, HEl, H1, H2, H3, H5, H4, HI⟩ := hrel
        by_cases hjt : j < 8
        · obtain ⟨y, hy⟩ : ∃ y, b.getD j 0 = y := ⟨_, rfl⟩
          obtain ⟨v, hv⟩ : ∃ v, r.getD j 0 = v := ⟨_, rfl⟩
          have hdb := drop_getD q j (by rw [hql.out]; exact hjt)
          have hdr := drop_getD r j (by rw [HRl.out]; omega)
          rw [hqg.out j hjt, hy] at hdb
          rw [hv] at hdr
          have hyl : y < 4294967296 := hy ▸ getD_ltN hbl.out j (by rw [hb.out]; omega)
          have hvl : v < 4294967296 := hv ▸ getD_ltN (fun x hx => HRW.out x (List.mem_append_right _ hx)) j (by rw [HRl.out]; omega)
          have hdel : (d ++ e).length = i + j := by rw [List.length_append, HD.out, HEl.out]
          have hx := hx.out
          have c1 : ∀ u : Held (From wr.drew), u.w.cell? ⟨n, i, none⟩ = some (.int .u32 (x : Int)) := fun u => hx ▸ (H1.out.from u.h.of_drew).cell i (by rw [ha.out]; omega)
          have c2 : ∀ u : Held (From wr.drew), u.w.cell? ⟨n + 1, j, none⟩ = some (.int .u32 (y : Int)) := fun u => hy ▸ (H2.out.from u.h.of_drew).cell j (by rw [hb.out]; omega)
          have c3 : ∀ u : Held (From wr.drew), u.w.cell? ⟨n + 3, i + j, none⟩ = some (.int .u32 (v : Int)) := fun u => (H5.out.from u.h.of_drew).cellMid hdr hdel
          obtain ⟨pp, hpp⟩ : ∃ pp, x * y = pp := ⟨_, rfl⟩
          have hppl : pp ≤ 4294967295 * 4294967295 := hpp ▸ Nat.mul_le_mul (by omega) (by omega)
          have k1 : IntKind.u64.wrap ((x : Int) * (y : Int)) = (pp : Int) := by
            rw [← hpp, ← Int.natCast_mul, hpp]
            simp [IntKind.wrap, IntKind.signed, IntKind.bits]; omega
          have k2 : IntKind.i64.wrap ((i : Int) + (j : Int)) = (i : Int) + (j : Int) := by simp [IntKind.wrap, IntKind.signed, IntKind.bits]; omega
          have k3 : ((i : Int) + (j : Int)).toNat = i + j := by omega
          replace hx := Kept.mk hx
          replace hy := Kept.mk hy
          replace hv := Kept.mk hv
          replace hpp := Kept.mk hpp
          replace hda := Kept.mk hda
          replace hdb := Kept.mk hdb
          replace hdr := Kept.mk hdr
          replace hdel := Kept.mk hdel
          go_wp2
          refine wp_region_from (by kernel_rfl) (by kernel_rfl) ?_
          repeat (go_big_quiet_step (fail))
          refine wpQuiet_nil ?_
          intro w5 hw5
          have b5 := hw5.of_drew
          have H15 := H1.out.from b5
          have H25 := H2.out.from b5
          have H55 := H5.out.from b5
          have f5 := H55.frozen (i + j)
          have c5 := H55.cellMid hdr.out hdel.out
          have h35 := (b5.block (n + 2) (Array.getElem?_eq_some_iff.1 H3.out).1).trans H3.out
          replace b5 := H4.out.trans (b5.mono H4.out.size)
          replace H15 := Kept.mk H15
          replace H25 := Kept.mk H25
          replace H55 := Kept.mk H55
          replace b5 := Kept.mk b5
          replace h35 := Kept.mk h35
          clear c1 c2 c3
          go_wp2
          go_roundw
          case rel => exact ⟨j + 1, (pp + v + c) / 4294967296, e ++ [(pp + v + c) % 4294967296], by omega, by omega, val_eq (by omega), val_eq (by omega), ⟨by rw [List.length_append, HEl.out]; rfl⟩, ⟨H15.out.other (by omega) _ _⟩, ⟨H25.out.other (by omega) _ _⟩,
            ⟨(Below.heap_setCell w5 ⟨n + 3, i + j, none⟩ _ (n + 2) (by simp)).trans h35.out⟩, ⟨by have h := H55.out.step hdr.out hdel.out ((pp + v + c) % 4294967296) (v := (↑pp + ↑v + ↑c) % 4294967296) (by omega); rw [← List.append_assoc]; exact h⟩, ⟨b5.out.setCell (by show w.heap.size ≤ n + 3; rw [hn.out]; omega) _⟩, ⟨by
              have h := HI.out
              rw [hdb.out, hdr.out, macL, hpp.out] at h
              rw [List.append_assoc]
              exact h⟩⟩
          case measure => simp [intOf]; omega
        · obtain rfl : j = 8 := by omega
          obtain ⟨v, hv⟩ : ∃ v, r.getD 8 0 = v := ⟨_, rfl⟩
          have hdr := drop_getD r 8 (by rw [HRl.out]; omega)
          rw [hv] at hdr
          have hdel : (d ++ e).length = i + 8 := by rw [List.length_append, HD.out, HEl.out]
          have hmac : e ++ c :: r.drop 9 = macL x q r 0 := by
            have h := HI.out
            rw [List.drop_eq_nil_of_le (show q.length ≤ 8 by rw [hql.out]; omega), hdr] at h
            exact h
          have f5 := H5.out.frozen (i + 8)
          have c5 := H5.out.cellMid hdr hdel
          have k4 : IntKind.i64.wrap ((i : Int) + 8) = (i : Int) + 8 := by simp [IntKind.wrap, IntKind.signed, IntKind.bits]; omega
          have k5 : ((i : Int) + 8).toNat = i + 8 := by omega
          have hcW : (c : Int) % 4294967296 = (c : Int) := by omega
          replace hv := Kept.mk hv
          replace hdr := Kept.mk hdr
          replace hdel := Kept.mk hdel
          replace hmac := Kept.mk hmac
          go_wp2
          have hml : (macL x q r 0).length = 16 - i := by rw [macL_len, HRl.out]
          have hmlt : ∀ z ∈ macL x q r 0, z < 4294967296 := macL_lt x q r 0 hxl hqW.out (fun z hz => HRW.out z (List.mem_append_right _ hz)) (by omega)
          have hstep := H5.out.step hdr.out hdel.out c (v := (c : Int)) rfl
          have hEq : d ++ e ++ [c] ++ r.drop 9 = d ++ macL x q r 0 := by rw [← hmac.out]; simp
          rw [hEq] at hstep
          have hME := HE.out
          rw [hda.out, mulL] at hME
          obtain ⟨h0, qs, hqq⟩ : ∃ h0 qs, macL x q r 0 = h0 :: qs := by
            match hm : macL x q r 0 with
            | [] => rw [hm] at hml; simp at hml; omega
            | h0 :: qs => exact ⟨h0, qs, rfl⟩
          rw [hqq] at hml hmlt hstep hME
          replace hml := Kept.mk hml
          replace hmlt := Kept.mk hmlt
          replace hstep := Kept.mk hstep
          replace hME := Kept.mk hME
          replace hqq := Kept.mk hqq
          replace hEq := Kept.mk hEq
          go_roundw
          case rel => exact ⟨i + 1, d ++ [h0], qs, by omega, val_eq (by omega), ⟨by rw [List.length_append, HD.out]; rfl⟩, ⟨by have h := hml.out; rw [List.length_cons] at h; omega⟩,
            ⟨fun z hz => by
              rw [List.append_assoc] at hz
              rcases List.mem_append.1 hz with hz | hz
              · exact HRW.out z (List.mem_append_left _ hz)
              · exact hmlt.out z hz⟩, ⟨H1.out.other (by omega) _ _⟩, ⟨H2.out.other (by omega) _ _⟩,
            ⟨(Below.heap_setCell wr ⟨n + 3, i + 8, none⟩ _ (n + 2) (by simp)).trans H3.out⟩, ⟨by have h := hstep.out; rw [List.append_assoc]; exact h⟩, ⟨H4.out.setCell (by show w.heap.size ≤ n + 3; rw [hn.out]; omega) _⟩,
            ⟨by have h := hME.out; rw [List.append_assoc]; exact h⟩⟩
          case measure => simp [intOf]; omega
    · obtain rfl : i = 8 := by omega
      have hdr : d ++ r = M := by
        have h := HE.out
        rw [List.drop_eq_nil_of_le (by rw [hpl.out]; omega)] at h
        exact h
      have hMl : M.length = 16 := by rw [← hdr, List.length_append, HD.out, HRl.out]
      have hMW : ∀ x ∈ M, x < 4294967296 := hdr ▸ HRW.out
      have hA8 : Arr wo (n + 3) 41 .u32 M := hdr ▸ H5.out
      replace hdr := Kept.mk hdr
      replace hMl := Kept.mk hMl
      replace hMW := Kept.mk hMW
      replace hA8 := Kept.mk hA8
      clear HE H5
      go_wp2_with (first
        | (refine wpList_load_row rfl 41 (.tmp 5) rfl (n + 3) rfl 41 (numC .u32 M).toArray (0, 0) _ hA8.out.blk Try.underlying41 rfl ?_ ?_; (rw [infoN, List.size_toArray, numC_length, hMl.out]))
        | (refine wpList_store_row rfl 41 (.tmp 4) (.tmp 49) rfl (n + 2) (numC .u32 M).toArray rfl rfl 41 Z H3.out ?_ ?_ (numC_one _ _) ?_; (rw [infoN, List.size_toArray, numC_length, hMl.out]); (rw [hZ.out, List.size_toArray, numC_length, hMl.out])))
      exact bodyPost_ret (results_cell_row (p := 4) (ty := 41) Try.results29 _ _ (n + 2) 41 (numC .u32 M).toArray (0, 0) _ rfl (setRow_heap _ _ _ _ _ _ H3.out) Try.underlying41 rfl (by rw [infoN, List.size_toArray, numC_length, hMl.out])) rfl
        ⟨rfl, below_setRow H4.out (by rw [hn.out]; omega) _⟩
end Go.Proofs.Ythlkpdfdbdfbjaa
