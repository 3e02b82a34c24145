/- Walks of package field: products.
Walks of package field: what is above 2^256 is folded down. -/
import Derived.Test.YtgnblaaldpniiaaGreatDoorZA1
import Derived.Deep.LoopGhost
section
set_option maxRecDepth 100000
set_option linter.unusedVariables false
set_option linter.unusedSimpArgs false
namespace Go.Proofs.YtgnblaaldpniiaaGreatDoor
open Go.RowKit Go.Lib
def macL : Nat → List Nat → List Nat → Nat → List Nat
  | x, y :: ys, v :: vs, c => (x * y + v + c) % 4294967296 :: macL x ys vs ((x * y + v + c) / 4294967296)
  | _, [], _ :: vs, c => c :: vs
  | _, _, [], _ => []
def mulL : List Nat → List Nat → List Nat → List Nat
  | [], _, ws => ws
  | x :: xs, ys, ws => (macL x ys ws 0).headD 0 :: mulL xs ys (macL x ys ws 0).tail
theorem infoW : (Tryz.prog.info? 86).map (·.size) = some 16 := by kernel_rfl
theorem zeroW : ∀ w, (zeroValue 86).run Tryz.prog w = .ok (aggN .u32 (List.replicate 16 0)) w :=
  (zero_of_info (n := 16) (by kernel_rfl)).1
theorem macL_len : ∀ (x : Nat) (ys ws : List Nat) (c : Nat), (macL x ys ws c).length = ws.length
  | _, _ :: ys, _ :: vs, c => by rw [macL, List.length_cons, List.length_cons, macL_len _ ys vs]
  | _, [], _ :: vs, c => rfl
  | _, [], [], _ => rfl
  | _, _ :: _, [], _ => rfl
theorem macL_lt : ∀ (x : Nat) (ys ws : List Nat) (c : Nat), x < 4294967296 → (∀ y ∈ ys, y < 4294967296) → (∀ y ∈ ws, y < 4294967296) → c < 4294967296 → ∀ z ∈ macL x ys ws c, z < 4294967296
  | x, y :: ys, v :: vs, c, hx, hy, hw, hc, z, hz => by
    rw [macL, List.mem_cons] at hz
    have hy0 := hy y (by simp)
    have hv0 := hw v (by simp)
    rcases hz with rfl | hz
    · omega
    · have hp : x * y ≤ 4294967295 * 4294967295 := Nat.mul_le_mul (by omega) (by omega)
      exact macL_lt x ys vs _ hx (fun y h => hy y (by simp [h])) (fun y h => hw y (by simp [h])) (by omega) z hz
  | _, [], v :: vs, c, _, _, hw, hc, z, hz => by
    rw [macL, List.mem_cons] at hz
    rcases hz with rfl | hz
    · exact hc
    · exact hw z (by simp [hz])
  | _, [], [], _, _, _, _, _, z, hz => by simp [macL] at hz
  | _, _ :: _, [], _, _, _, _, _, z, hz => by simp [macL] at hz
def FoldC (F : List Nat → List Nat) : Prop := ∀ (l : List Nat) (w : World), l.length = 16 → (∀ x ∈ l, x < 4294967296) → Calls Tryz.prog 132 #[aggN .u32 l] w (NumPost (F l) w)
set_option maxHeartbeats 1000000 in
theorem product_of (F : List Nat → List Nat) (hF : FoldC F) (hFl : ∀ l, l.length = 16 → (F l).length = 8) (a b : List Nat) (ha : a.length = 8) (hb : b.length = 8) (hal : ∀ x ∈ a, x < 4294967296) (hbl : ∀ x ∈ b, x < 4294967296) (w : World) :
    Calls Tryz.prog 122 #[aggN .u32 a, aggN .u32 b] w (NumPost (F (mulL a b (List.replicate 16 0))) w) := by
  obtain ⟨Z, hZ, hz⟩ := zeroN
  obtain ⟨z16, hz16⟩ : ∃ z, List.replicate 16 0 = z := ⟨_, rfl⟩
  have hzl : z16.length = 16 := by rw [← hz16]; rfl
  have hzz : ∀ x ∈ z16, x < 4294967296 := by rw [← hz16]; intro x hx; rw [List.eq_of_mem_replicate hx]; decide
  have hzw := zeroW
  rw [hz16] at hzw ⊢
  obtain ⟨ZW, hZW⟩ : ∃ A, (numC .u32 z16).toArray = A := ⟨_, rfl⟩
  unfold aggN at hzw
  rw [hZW] at hzw
  obtain ⟨M, hM⟩ : ∃ M, mulL a b z16 = M := ⟨_, rfl⟩
  rw [hM]
  replace hF := Kept.mk hF
  replace hFl := Kept.mk hFl
  replace hM := Kept.mk hM
  replace hz16 := Kept.mk hz16
  replace hzl := Kept.mk hzl
  replace hzz := Kept.mk hzz
  replace hZ := Kept.mk hZ
  replace ha := Kept.mk ha
  replace hb := Kept.mk hb
  replace hal := Kept.mk hal
  replace hbl := Kept.mk hbl
  obtain ⟨A, hA⟩ : ∃ A, (numC .u32 a).toArray = A := ⟨_, rfl⟩
  obtain ⟨B, hB⟩ : ∃ B, (numC .u32 b).toArray = B := ⟨_, rfl⟩
  unfold aggN
  rw [hA, hB]
  go_enter Tryz.func122, Tryz.ntmps122
  go_wp2
  have h1 : Arr ((((w.alloc (.cells A 118)).alloc (.cells B 118)).alloc (.cells Z 118)).alloc (.cells ZW 86)) w.heap.size 118 .u32 a := by
    have h := Arr.new w 118 .u32 a
    rw [hA] at h
    exact ((h.from ((Below.refl _ _).alloc (Nat.le_refl _) _)).from ((Below.refl _ _).alloc (Nat.le_refl _) _)).from ((Below.refl _ _).alloc (Nat.le_refl _) _)
  have h2 : Arr ((((w.alloc (.cells A 118)).alloc (.cells B 118)).alloc (.cells Z 118)).alloc (.cells ZW 86)) (w.heap.size + 1) 118 .u32 b := by
    have h := Arr.new (w.alloc (.cells A 118)) 118 .u32 b
    rw [hB, World.size_alloc] at h
    exact (h.from ((Below.refl _ _).alloc (Nat.le_refl _) _)).from ((Below.refl _ _).alloc (Nat.le_refl _) _)
  have h3 : ((((w.alloc (.cells A 118)).alloc (.cells B 118)).alloc (.cells Z 118)).alloc (.cells ZW 86)).heap[w.heap.size + 2]? = some (.cells Z 118 (0, 0)) := by
    have h := heap_alloc_new ((w.alloc (.cells A 118)).alloc (.cells B 118)) (.cells Z 118)
    rw [← h]
    simpa using (Below.alloc (Below.refl _ (((w.alloc (.cells A 118)).alloc (.cells B 118)).alloc (.cells Z 118))) (Nat.le_refl _) (.cells ZW 86)).block (w.heap.size + 2) (by simp)
  have h5 : Arr ((((w.alloc (.cells A 118)).alloc (.cells B 118)).alloc (.cells Z 118)).alloc (.cells ZW 86)) (w.heap.size + 3) 86 .u32 z16 := by
    have h := Arr.new (((w.alloc (.cells A 118)).alloc (.cells B 118)).alloc (.cells Z 118)) 86 .u32 z16
    rw [hZW] at h
    simpa using h
  have h4 : Below w.heap.size w ((((w.alloc (.cells A 118)).alloc (.cells B 118)).alloc (.cells Z 118)).alloc (.cells ZW 86)) :=
    ((((Below.refl _ _).alloc (Nat.le_refl _) _).alloc (by simp) _).alloc (by simp; omega) _).alloc (by simp; omega) _
  replace hA := Kept.mk hA
  replace hB := Kept.mk hB
  replace hZW := Kept.mk hZW
  generalize (((w.alloc (.cells A 118)).alloc (.cells B 118)).alloc (.cells Z 118)).alloc (.cells ZW 86) = w0 at h1 h2 h3 h4 h5 ⊢
  obtain ⟨n, hn⟩ : ∃ n, w.heap.size = n := ⟨_, rfl⟩
  rw [hn] at h1 h2 h3 h5 ⊢
  replace h1 := Kept.mk h1
  replace h2 := Kept.mk h2
  replace h3 := Kept.mk h3
  replace h4 := Kept.mk h4
  replace h5 := Kept.mk h5
  replace hn := Kept.mk hn
  go_loopw [10] (fun v10 wr => ∃ (i : Nat) (d r : List Nat), i ≤ 8 ∧ v10 = .int .i64 (i : Int) ∧ Kept (d.length = i) ∧ Kept (r.length = 16 - i) ∧ Kept (∀ x ∈ d ++ r, x < 4294967296) ∧ Kept (Arr wr n 118 .u32 a) ∧ Kept (Arr wr (n + 1) 118 .u32 b) ∧
    Kept (wr.heap[n + 2]? = some (.cells Z 118 (0, 0))) ∧ Kept (Arr wr (n + 3) 86 .u32 (d ++ r)) ∧ Kept (Below w.heap.size w wr) ∧ Kept (d ++ mulL (a.drop i) b r = M)) (fun v10 _ => 8 - (RowKit.intOf v10).toNat)
  case atStart => exact ⟨0, [], z16, by omega, rfl, ⟨rfl⟩, hzl, hzz, h1, h2, h3, h5, h4, hM⟩
  case round =>
    clear h1 h2 h3 h4 h5
    obtain ⟨i, d, r, hi, rfl, HD, HRl, HRW, H1, H2, H3, H5, H4, HE⟩ := hrel
    obtain ⟨wo, rfl⟩ : ∃ wo : World, wo = wr := ⟨_, rfl⟩
    by_cases hlt : i < 8
    · obtain ⟨x, hx⟩ : ∃ x, a.getD i 0 = x := ⟨_, rfl⟩
      have hda := drop_getD a i (by rw [ha.out]; exact hlt)
      rw [hx] at hda
      have hxl : x < 4294967296 := hx ▸ getD_ltN hal.out i (by rw [ha.out]; exact hlt)
      replace hx := Kept.mk hx
      replace hda := Kept.mk hda
      have hlti : (i : Int) < 8 := by omega
      go_wp2
      go_loopw [7, 13] (fun v7 v13 wr => ∃ (j c : Nat) (e : List Nat), j ≤ 8 ∧ c < 4294967296 ∧ v7 = .int .u64 (c : Int) ∧ v13 = .int .i64 (j : Int) ∧ Kept (e.length = j) ∧ Kept (Arr wr n 118 .u32 a) ∧ Kept (Arr wr (n + 1) 118 .u32 b) ∧
        Kept (wr.heap[n + 2]? = some (.cells Z 118 (0, 0))) ∧ Kept (Arr wr (n + 3) 86 .u32 (d ++ e ++ r.drop j)) ∧ Kept (Below w.heap.size w wr) ∧ Kept (e ++ macL x (b.drop j) (r.drop j) c = macL x b r 0)) (fun _ v13 _ => 8 - (RowKit.intOf v13).toNat)
      case atStart => exact ⟨0, 0, [], by omega, by omega, rfl, rfl, ⟨rfl⟩, H1, H2, H3, ⟨by rw [List.append_nil]; exact H5.out⟩, H4, ⟨rfl⟩⟩
      case round =>
        clear H1 H2 H3 H4 H5
        obtain ⟨j, c, e, hj, hc, rfl, rfl, HEl, H1, H2, H3, H5, H4, HI⟩ := hrel
        by_cases hjt : j < 8
        · obtain ⟨y, hy⟩ : ∃ y, b.getD j 0 = y := ⟨_, rfl⟩
          obtain ⟨v, hv⟩ : ∃ v, r.getD j 0 = v := ⟨_, rfl⟩
          have hdb := drop_getD b j (by rw [hb.out]; exact hjt)
          have hdr := drop_getD r j (by rw [HRl.out]; omega)
          rw [hy] at hdb
          rw [hv] at hdr
          have hyl : y < 4294967296 := hy ▸ getD_ltN hbl.out j (by rw [hb.out]; exact hjt)
          have hvl : v < 4294967296 := hv ▸ getD_ltN (fun x hx => HRW.out x (List.mem_append_right _ hx)) j (by rw [HRl.out]; omega)
          have hdel : (d ++ e).length = i + j := by rw [List.length_append, HD.out, HEl.out]
          have hx := hx.out
          have c1 : ∀ u : Held (From wr.drew), u.w.cell? ⟨n, i, none⟩ = some (.int .u32 (x : Int)) := fun u => hx ▸ (H1.out.from u.h.of_drew).cell i (by rw [ha.out]; exact hlt)
          have c2 : ∀ u : Held (From wr.drew), u.w.cell? ⟨n + 1, j, none⟩ = some (.int .u32 (y : Int)) := fun u => hy ▸ (H2.out.from u.h.of_drew).cell j (by rw [hb.out]; exact hjt)
          have c3 : ∀ u : Held (From wr.drew), u.w.cell? ⟨n + 3, i + j, none⟩ = some (.int .u32 (v : Int)) := fun u => (H5.out.from u.h.of_drew).cellMid hdr hdel
          obtain ⟨p, hp⟩ : ∃ p, x * y = p := ⟨_, rfl⟩
          have hpl : p ≤ 4294967295 * 4294967295 := hp ▸ Nat.mul_le_mul (by omega) (by omega)
          have k1 : IntKind.u64.wrap ((x : Int) * (y : Int)) = (p : Int) := by
            rw [← hp, ← Int.natCast_mul, hp]
            simp [IntKind.wrap, IntKind.signed, IntKind.bits]; omega
          have k2 : IntKind.i64.wrap ((i : Int) + (j : Int)) = (i : Int) + (j : Int) := by simp [IntKind.wrap, IntKind.signed, IntKind.bits]; omega
          have k3 : ((i : Int) + (j : Int)).toNat = i + j := by omega
          replace hx := Kept.mk hx
          replace hy := Kept.mk hy
          replace hv := Kept.mk hv
          replace hp := Kept.mk hp
          replace hda := Kept.mk hda
          replace hdb := Kept.mk hdb
          replace hdr := Kept.mk hdr
          replace hdel := Kept.mk hdel
          go_wp2
          refine wp_region_from (by kernel_rfl) (by kernel_rfl) ?_
          repeat (go_big_quiet_step (fail))
          refine wpQuiet_nil ?_
          intro w5 hw5
          have b5 := hw5.of_drew
          have H15 := H1.out.from b5
          have H25 := H2.out.from b5
          have H55 := H5.out.from b5
          have f5 := H55.frozen (i + j)
          have c5 := H55.cellMid hdr.out hdel.out
          have h35 := (b5.block (n + 2) (Array.getElem?_eq_some_iff.1 H3.out).1).trans H3.out
          replace b5 := H4.out.trans (b5.mono H4.out.size)
          replace H15 := Kept.mk H15
          replace H25 := Kept.mk H25
          replace H55 := Kept.mk H55
          replace b5 := Kept.mk b5
          replace h35 := Kept.mk h35
          clear c1 c2 c3
          go_wp2
          go_roundw
          case rel => exact ⟨j + 1, (p + v + c) / 4294967296, e ++ [(p + v + c) % 4294967296], by omega, by omega, val_eq (by omega), val_eq (by omega), ⟨by rw [List.length_append, HEl.out]; rfl⟩, ⟨H15.out.other (by omega) _ _⟩, ⟨H25.out.other (by omega) _ _⟩,
            ⟨(Below.heap_setCell w5 ⟨n + 3, i + j, none⟩ _ (n + 2) (by simp)).trans h35.out⟩, ⟨by have h := H55.out.step hdr.out hdel.out ((p + v + c) % 4294967296) (v := (↑p + ↑v + ↑c) % 4294967296) (by omega); rw [← List.append_assoc]; exact h⟩, ⟨b5.out.setCell (by show w.heap.size ≤ n + 3; rw [hn.out]; omega) _⟩, ⟨by
              have h := HI.out
              rw [hdb.out, hdr.out, macL, hp.out] at h
              rw [List.append_assoc]
              exact h⟩⟩
          case measure => simp [RowKit.intOf]; omega
        · obtain rfl : j = 8 := by omega
          obtain ⟨v, hv⟩ : ∃ v, r.getD 8 0 = v := ⟨_, rfl⟩
          have hdr := drop_getD r 8 (by rw [HRl.out]; omega)
          rw [hv] at hdr
          have hdel : (d ++ e).length = i + 8 := by rw [List.length_append, HD.out, HEl.out]
          have hmac : e ++ c :: r.drop 9 = macL x b r 0 := by
            have h := HI.out
            rw [List.drop_eq_nil_of_le (show b.length ≤ 8 by rw [hb.out]; omega), hdr] at h
            exact h
          have f5 := H5.out.frozen (i + 8)
          have c5 := H5.out.cellMid hdr hdel
          have k4 : IntKind.i64.wrap ((i : Int) + 8) = (i : Int) + 8 := by simp [IntKind.wrap, IntKind.signed, IntKind.bits]; omega
          have k5 : ((i : Int) + 8).toNat = i + 8 := by omega
          have hcW : (c : Int) % 4294967296 = (c : Int) := by omega
          replace hv := Kept.mk hv
          replace hdr := Kept.mk hdr
          replace hdel := Kept.mk hdel
          replace hmac := Kept.mk hmac
          go_wp2
          have hml : (macL x b r 0).length = 16 - i := by rw [macL_len, HRl.out]
          have hmlt : ∀ z ∈ macL x b r 0, z < 4294967296 := macL_lt x b r 0 hxl hbl.out (fun z hz => HRW.out z (List.mem_append_right _ hz)) (by omega)
          have hstep := H5.out.step hdr.out hdel.out c (v := (c : Int)) rfl
          have hEq : d ++ e ++ [c] ++ r.drop 9 = d ++ macL x b r 0 := by rw [← hmac.out]; simp
          rw [hEq] at hstep
          have hME := HE.out
          rw [hda.out, mulL] at hME
          obtain ⟨q, qs, hq⟩ : ∃ q qs, macL x b r 0 = q :: qs := by
            match hm : macL x b r 0 with
            | [] => rw [hm] at hml; simp at hml; omega
            | q :: qs => exact ⟨q, qs, rfl⟩
          rw [hq] at hml hmlt hstep hME
          replace hml := Kept.mk hml
          replace hmlt := Kept.mk hmlt
          replace hstep := Kept.mk hstep
          replace hME := Kept.mk hME
          replace hq := Kept.mk hq
          replace hEq := Kept.mk hEq
          go_roundw
          case rel => exact ⟨i + 1, d ++ [q], qs, by omega, val_eq (by omega), ⟨by rw [List.length_append, HD.out]; rfl⟩, ⟨by have h := hml.out; rw [List.length_cons] at h; omega⟩,
            ⟨fun z hz => by
              rw [List.append_assoc] at hz
              rcases List.mem_append.1 hz with hz | hz
              · exact HRW.out z (List.mem_append_left _ hz)
              · exact hmlt.out z hz⟩, ⟨H1.out.other (by omega) _ _⟩, ⟨H2.out.other (by omega) _ _⟩,
            ⟨(Below.heap_setCell wr ⟨n + 3, i + 8, none⟩ _ (n + 2) (by simp)).trans H3.out⟩, ⟨by have h := hstep.out; rw [List.append_assoc]; exact h⟩, ⟨H4.out.setCell (by show w.heap.size ≤ n + 3; rw [hn.out]; omega) _⟩,
            ⟨by have h := hME.out; rw [List.append_assoc]; exact h⟩⟩
          case measure => simp [RowKit.intOf]; omega
    · obtain rfl : i = 8 := by omega
      have hdr : d ++ r = M := by
        have h := HE.out
        rw [List.drop_eq_nil_of_le (by rw [ha.out]; omega)] at h
        exact h
      have hMl : M.length = 16 := by rw [← hdr, List.length_append, HD.out, HRl.out]
      have hMW : ∀ x ∈ M, x < 4294967296 := hdr ▸ HRW.out
      have hA8 : Arr wo (n + 3) 86 .u32 M := hdr ▸ H5.out
      replace hdr := Kept.mk hdr
      replace hMl := Kept.mk hMl
      replace hMW := Kept.mk hMW
      replace hA8 := Kept.mk hA8
      clear HE H5
      go_wp2_with (first
        | (refine wpList_load_row rfl 86 (.tmp 5) rfl (n + 3) rfl 86 (numC .u32 M).toArray (0, 0) _ hA8.out.blk Tryz.underlying86 rfl ?_ ?_; (rw [infoW, List.size_toArray, numC_length, hMl.out]))
        | (go_at_call 132; refine (hF.out M _ hMl.out hMW.out).mono ?_; rintro e w1 ⟨rfl, hb1⟩; replace hb1 := Kept.mk hb1; unfold aggN)
        | (refine wpList_store_row rfl 118 (.tmp 4) (.tmp 50) rfl (n + 2) (numC .u32 (F M)).toArray rfl rfl 118 Z ((hb1.out.block (n + 2) (Array.getElem?_eq_some_iff.1 H3.out).1).trans H3.out) ?_ ?_ (numC_one _ _) ?_; (rw [infoN, List.size_toArray, numC_length, hFl.out M hMl.out]); (rw [hZ.out, List.size_toArray, numC_length, hFl.out M hMl.out])))
      exact bodyPost_ret (results_cell_row (p := 4) (ty := 118) Tryz.results122 _ _ (n + 2) 118 (numC .u32 (F M)).toArray (0, 0) _ rfl (setRow_heap _ _ _ _ _ _ ((hb1.out.block (n + 2) (Array.getElem?_eq_some_iff.1 H3.out).1).trans H3.out)) Tryz.underlying118 rfl (by rw [infoN, List.size_toArray, numC_length, hFl.out M hMl.out])) rfl
        ⟨rfl, below_setRow (H4.out.trans (hb1.out.mono H4.out.size)) (by rw [hn.out]; omega) _⟩
end Go.Proofs.YtgnblaaldpniiaaGreatDoor
end
section
set_option maxRecDepth 100000
set_option linter.unusedVariables false
set_option linter.unusedSimpArgs false
namespace Go.Proofs.YtgnblaaldpniiaaGreatDoor
open Go.RowKit Go.Lib
def foldA : List Nat → List Nat → Nat → List Nat
  | x :: xs, y :: ys, c => (x + 38 * y + c) % 4294967296 :: foldA xs ys ((x + 38 * y + c) / 4294967296)
  | _, _, _ => []
def foldK : List Nat → List Nat → Nat → Nat
  | x :: xs, y :: ys, c => foldK xs ys ((x + 38 * y + c) / 4294967296)
  | _, _, c => c
def carA : List Nat → Nat → List Nat
  | x :: xs, c => (x + c) % 4294967296 :: carA xs ((x + c) / 4294967296)
  | [], _ => []
def carK : List Nat → Nat → Nat
  | x :: xs, c => carK xs ((x + c) / 4294967296)
  | [], c => c
def passL : Nat → List Nat → Nat → List Nat
  | 0, l, _ => l
  | f + 1, l, c => if c = 0 then l else passL f (carA l (38 * c)) (carK l (38 * c))
def passC : Nat → List Nat → Nat → Nat
  | 0, _, c => c
  | f + 1, l, c => if c = 0 then 0 else passC f (carA l (38 * c)) (carK l (38 * c))
theorem foldA_nil (xs : List Nat) (c : Nat) : foldA xs [] c = [] := by cases xs <;> rfl
theorem foldK_nil (xs : List Nat) (c : Nat) : foldK xs [] c = c := by cases xs <;> rfl
def foldedL (l : List Nat) : List Nat := passL 2 (foldA l (l.drop 8) 0) (foldK l (l.drop 8) 0)
theorem carA_len : ∀ (l : List Nat) (c : Nat), (carA l c).length = l.length
  | [], _ => rfl
  | x :: xs, c => by rw [carA, List.length_cons, List.length_cons, carA_len xs]
theorem carA_lt : ∀ (l : List Nat) (c : Nat), ∀ x ∈ carA l c, x < 4294967296
  | [], _, x, h => by simp [carA] at h
  | y :: ys, c, x, h => by
    rw [carA, List.mem_cons] at h
    rcases h with rfl | h
    · exact Nat.mod_lt _ (by decide)
    · exact carA_lt ys _ x h
theorem carK_le : ∀ (l : List Nat) (c : Nat), (∀ x ∈ l, x < 4294967296) → c ≤ 1444 → l ≠ [] → carK l c ≤ 1
  | [], _, _, _, h => absurd rfl h
  | [x], c, hx, hc, _ => by
    have := hx x (by simp)
    rw [carK, carK]; omega
  | x :: y :: ys, c, hx, hc, _ => by
    have := hx x (by simp)
    rw [carK]
    exact carK_le (y :: ys) _ (fun z hz => hx z (by simp at hz ⊢; right; exact hz)) (by omega) (by simp)
theorem foldA_len : ∀ (l h : List Nat) (c : Nat), h.length ≤ l.length → (foldA l h c).length = h.length
  | _, [], _, _ => by rw [foldA_nil]
  | [], y :: ys, _, h => by simp at h
  | x :: xs, y :: ys, c, h => by rw [foldA, List.length_cons, List.length_cons, foldA_len xs ys _ (by simpa using h)]
theorem foldA_lt : ∀ (l h : List Nat) (c : Nat), ∀ x ∈ foldA l h c, x < 4294967296
  | _, [], _, x, h => by rw [foldA_nil] at h; simp at h
  | [], y :: ys, _, x, h => by simp [foldA] at h
  | x :: xs, y :: ys, c, z, h => by
    rw [foldA, List.mem_cons] at h
    rcases h with rfl | h
    · exact Nat.mod_lt _ (by decide)
    · exact foldA_lt xs ys _ z h
theorem foldK_le : ∀ (l h : List Nat) (c : Nat), (∀ x ∈ l, x < 4294967296) → (∀ x ∈ h, x < 4294967296) → c ≤ 38 → foldK l h c ≤ 38
  | _, [], _, _, _, hc => by rw [foldK_nil]; exact hc
  | [], y :: ys, _, _, _, hc => hc
  | x :: xs, y :: ys, c, hx, hy, hc => by
    have h1 := hx x (by simp)
    have h2 := hy y (by simp)
    rw [foldK]
    exact foldK_le xs ys _ (fun z hz => hx z (by simp [hz])) (fun z hz => hy z (by simp [hz])) (by omega)
theorem passL_len : ∀ (f : Nat) (l : List Nat) (c : Nat), (passL f l c).length = l.length
  | 0, _, _ => rfl
  | f + 1, l, c => by
    rw [passL]
    split
    · rfl
    · rw [passL_len f, carA_len]
theorem foldedL_len (l : List Nat) (h : l.length = 16) : (foldedL l).length = 8 := by
  unfold foldedL
  rw [passL_len, foldA_len _ _ _ (by simp), List.length_drop, h]
set_option maxHeartbeats 2000000 in
theorem folded_of (l : List Nat) (hl : l.length = 16) (hlW : ∀ x ∈ l, x < 4294967296) (hfin : passC 2 (foldA l (l.drop 8) 0) (foldK l (l.drop 8) 0) = 0) (w : World) :
    Calls Tryz.prog 132 #[aggN .u32 l] w (NumPost (foldedL l) w) := by
  obtain ⟨z8, hz8⟩ : ∃ z, List.replicate 8 0 = z := ⟨_, rfl⟩
  have hzl : z8.length = 8 := by rw [← hz8]; rfl
  have hz : ∀ w, (zeroValue 118).run Tryz.prog w = .ok (aggN .u32 z8) w := by rw [← hz8]; exact (zero_of_info (n := 8) (by kernel_rfl)).1
  obtain ⟨Z, hZ⟩ : ∃ A, (numC .u32 z8).toArray = A := ⟨_, rfl⟩
  unfold aggN at hz
  rw [hZ] at hz
  have hZl : Z.size = 8 := by rw [← hZ, List.size_toArray, numC_length, hzl]
  replace hz8 := Kept.mk hz8
  replace hzl := Kept.mk hzl
  replace hZl := Kept.mk hZl
  replace hl := Kept.mk hl
  replace hlW := Kept.mk hlW
  replace hfin := Kept.mk hfin
  obtain ⟨A, hA⟩ : ∃ A, (numC .u32 l).toArray = A := ⟨_, rfl⟩
  unfold aggN
  rw [hA]
  go_enter Tryz.func132, Tryz.ntmps132
  go_wp2
  have h1 : Arr (((w.alloc (.cells A 86)).alloc (.cells Z 118)).alloc (.cells Z 118)) w.heap.size 86 .u32 l := by
    have h := Arr.new w 86 .u32 l
    rw [hA] at h
    exact (h.from ((Below.refl _ _).alloc (Nat.le_refl _) _)).from ((Below.refl _ _).alloc (Nat.le_refl _) _)
  have h3 : (((w.alloc (.cells A 86)).alloc (.cells Z 118)).alloc (.cells Z 118)).heap[w.heap.size + 1]? = some (.cells Z 118 (0, 0)) := by
    have h := heap_alloc_new (w.alloc (.cells A 86)) (.cells Z 118)
    rw [World.size_alloc] at h
    rw [← h]
    exact (Below.alloc (Below.refl _ ((w.alloc (.cells A 86)).alloc (.cells Z 118))) (Nat.le_refl _) (.cells Z 118)).block (w.heap.size + 1) (by simp)
  have h5 : Arr (((w.alloc (.cells A 86)).alloc (.cells Z 118)).alloc (.cells Z 118)) (w.heap.size + 2) 118 .u32 z8 := by
    have h := Arr.new ((w.alloc (.cells A 86)).alloc (.cells Z 118)) 118 .u32 z8
    rw [hZ] at h
    simpa using h
  have h4 : Below w.heap.size w (((w.alloc (.cells A 86)).alloc (.cells Z 118)).alloc (.cells Z 118)) :=
    (((Below.refl _ _).alloc (Nat.le_refl _) _).alloc (by simp) _).alloc (by simp; omega) _
  replace hA := Kept.mk hA
  replace hZ := Kept.mk hZ
  generalize ((w.alloc (.cells A 86)).alloc (.cells Z 118)).alloc (.cells Z 118) = w0 at h1 h3 h4 h5 ⊢
  obtain ⟨n, hn⟩ : ∃ n, w.heap.size = n := ⟨_, rfl⟩
  rw [hn] at h1 h3 h5 ⊢
  replace h1 := Kept.mk h1
  replace h3 := Kept.mk h3
  replace h4 := Kept.mk h4
  replace h5 := Kept.mk h5
  replace hn := Kept.mk hn
  go_loopw [4, 9] (fun v4 v9 wr => ∃ (i c : Nat) (d : List Nat), i ≤ 8 ∧ c ≤ 38 ∧ v4 = .int .u64 (c : Int) ∧ v9 = .int .i64 (i : Int) ∧ Kept (d.length = i) ∧ Kept (Arr wr n 86 .u32 l) ∧
    Kept (wr.heap[n + 1]? = some (.cells Z 118 (0, 0))) ∧ Kept (Arr wr (n + 2) 118 .u32 (d ++ z8.drop i)) ∧ Kept (Below w.heap.size w wr) ∧ Kept (d ++ foldA (l.drop i) (l.drop (8 + i)) c = foldA l (l.drop 8) 0) ∧ Kept (foldK (l.drop i) (l.drop (8 + i)) c = foldK l (l.drop 8) 0)) (fun _ v9 _ => 8 - (RowKit.intOf v9).toNat)
  case atStart => exact ⟨0, 0, [], by omega, by omega, rfl, rfl, ⟨rfl⟩, h1, h3, h5, h4, ⟨rfl⟩, ⟨rfl⟩⟩
  case round =>
    clear h1 h3 h4 h5
    obtain ⟨i, c, d, hi, hc, rfl, rfl, HD, H1, H3, H5, H4, HE, HK⟩ := hrel
    by_cases hlt : i < 8
    · obtain ⟨x, hx⟩ : ∃ x, l.getD i 0 = x := ⟨_, rfl⟩
      obtain ⟨y, hy⟩ : ∃ y, l.getD (8 + i) 0 = y := ⟨_, rfl⟩
      have hda := drop_getD l i (by rw [hl.out]; omega)
      have hdb := drop_getD l (8 + i) (by rw [hl.out]; omega)
      have hdz := drop_getD z8 i (by rw [hzl.out]; omega)
      rw [hx] at hda
      rw [hy] at hdb
      have hxl : x < 4294967296 := hx ▸ getD_ltN hlW.out i (by rw [hl.out]; omega)
      have hyl : y < 4294967296 := hy ▸ getD_ltN hlW.out (8 + i) (by rw [hl.out]; omega)
      have c1 : ∀ u : Held (From wr.drew), u.w.cell? ⟨n, i, none⟩ = some (.int .u32 (x : Int)) := fun u => hx ▸ (H1.out.from u.h.of_drew).cell i (by rw [hl.out]; omega)
      have c2 : ∀ u : Held (From wr.drew), u.w.cell? ⟨n, i + 8, none⟩ = some (.int .u32 (y : Int)) := fun u => by rw [Nat.add_comm i 8, ← hy]; exact (H1.out.from u.h.of_drew).cell (8 + i) (by rw [hl.out]; omega)
      have k2 : IntKind.i64.wrap ((i : Int) + 8) = (i : Int) + 8 := by simp [IntKind.wrap, IntKind.signed, IntKind.bits]; omega
      have k3 : ((i : Int) + 8).toNat = i + 8 := by omega
      have k1 : IntKind.u64.wrap (38 * (y : Int)) = 38 * (y : Int) := by simp [IntKind.wrap, IntKind.signed, IntKind.bits]; omega
      replace hx := Kept.mk hx
      replace hy := Kept.mk hy
      replace hda := Kept.mk hda
      replace hdb := Kept.mk hdb
      replace hdz := Kept.mk hdz
      go_wp2
      refine wp_region_from (by kernel_rfl) (by kernel_rfl) ?_
      repeat (go_big_quiet_step (fail))
      refine wpQuiet_nil ?_
      intro w5 hw5
      have b5 := hw5.of_drew
      have H15 := H1.out.from b5
      have H55 := H5.out.from b5
      have f5 := H55.frozen i
      have c5 := H55.cellMid hdz.out HD.out
      have h35 := (b5.block (n + 1) (Array.getElem?_eq_some_iff.1 H3.out).1).trans H3.out
      replace b5 := H4.out.trans (b5.mono H4.out.size)
      replace H15 := Kept.mk H15
      replace H55 := Kept.mk H55
      replace b5 := Kept.mk b5
      replace h35 := Kept.mk h35
      clear c1 c2
      go_wp2
      go_roundw
      case rel => exact ⟨i + 1, (x + 38 * y + c) / 4294967296, d ++ [(x + 38 * y + c) % 4294967296], by omega, by omega, val_eq (by omega), val_eq (by omega), ⟨by rw [List.length_append, HD.out]; rfl⟩, ⟨H15.out.other (by omega) _ _⟩,
            ⟨(Below.heap_setCell w5 ⟨n + 2, i, none⟩ _ (n + 1) (by simp)).trans h35.out⟩, ⟨H55.out.step hdz.out HD.out ((x + 38 * y + c) % 4294967296) (by omega)⟩, ⟨b5.out.setCell (by show w.heap.size ≤ n + 2; rw [hn.out]; omega) _⟩,
            ⟨by
              have h := HE.out
              rw [hda.out, hdb.out, foldA] at h
              rw [List.append_assoc]
              exact h⟩, ⟨by
              have h := HK.out
              rw [hda.out, hdb.out, foldK] at h
              exact h⟩⟩
      case measure => simp [RowKit.intOf]; omega
    · obtain rfl : i = 8 := by omega
      have hdE : d = foldA l (l.drop 8) 0 := by
        have h := HE.out
        rw [List.drop_eq_nil_of_le (show l.length ≤ 8 + 8 by rw [hl.out]; omega), foldA_nil, List.append_nil] at h
        exact h
      have hcE : c = foldK l (l.drop 8) 0 := by
        have h := HK.out
        rw [List.drop_eq_nil_of_le (show l.length ≤ 8 + 8 by rw [hl.out]; omega), foldK_nil] at h
        exact h
      have hfin2 := hfin.out
      rw [← hdE, ← hcE] at hfin2
      have hres : foldedL l = passL 2 d c := by rw [hdE, hcE]; rfl
      have hdW : ∀ x ∈ d, x < 4294967296 := hdE ▸ foldA_lt _ _ _
      have H8 : Arr wr (n + 2) 118 .u32 d := by
        have h := H5.out
        rw [List.drop_eq_nil_of_le (show z8.length ≤ 8 by rw [hzl.out]; omega), List.append_nil] at h
        exact h
      obtain ⟨M, hM⟩ : ∃ M, passL 2 d c = M := ⟨_, rfl⟩
      rw [hM] at hres
      replace hfin2 := Kept.mk hfin2
      replace hres := Kept.mk hres
      replace hdW := Kept.mk hdW
      replace hdE := Kept.mk hdE
      replace hcE := Kept.mk hcE
      replace H8 := Kept.mk H8
      replace hM := Kept.mk hM
      clear HE HK H5
      go_wp2
      go_loopg [4] 2 (fun k v4 wr => ∃ (c : Nat) (d : List Nat), c ≤ 38 ∧ v4 = .int .u64 (c : Int) ∧ Kept (d.length = 8) ∧ Kept (∀ x ∈ d, x < 4294967296) ∧ Kept (Arr wr (n + 2) 118 .u32 d) ∧
        Kept (wr.heap[n + 1]? = some (.cells Z 118 (0, 0))) ∧ Kept (Below w.heap.size w wr) ∧ Kept (passC k d c = 0) ∧ Kept (passL k d c = M))
      case atStart => exact ⟨c, d, hc, rfl, HD, hdW, H8, H3, H4, hfin2, hM⟩
      case round =>
        clear HD hdW H8 H3 H4 hfin2 hM hdE hcE H1
        rename_i c0 d0 _ _ _
        obtain ⟨c, d, hc, rfl, HD, HW, H8, H3, H4, HF, HM⟩ := hrel
        by_cases hc0 : c = 0
        · subst hc0
          rw [show ((0 : Nat) : Int) = 0 from rfl]
          have hdM : d = M := by
            have h := HM.out
            cases gk with
            | zero => exact h
            | succ f => rw [passL, if_pos rfl] at h; exact h
          replace hdM := Kept.mk hdM
          go_wp2_with (first
            | (refine wpList_load_row rfl 118 (.tmp 3) rfl (n + 2) rfl 118 (numC .u32 d).toArray (0, 0) _ H8.out.blk Tryz.underlying118 rfl ?_ ?_; (rw [infoN, List.size_toArray, numC_length, HD.out]))
            | (refine wpList_store_row rfl 118 (.tmp 2) (.tmp 52) rfl (n + 1) (numC .u32 d).toArray rfl rfl 118 Z H3.out ?_ ?_ (numC_one _ _) ?_; (rw [infoN, List.size_toArray, numC_length, HD.out]); (rw [hZl.out, List.size_toArray, numC_length, HD.out])))
          exact bodyPost_ret (results_cell_row (p := 2) (ty := 118) Tryz.results132 _ _ (n + 1) 118 (numC .u32 d).toArray (0, 0) _ rfl (setRow_heap _ _ _ _ _ _ H3.out) Tryz.underlying118 rfl (by rw [infoN, List.size_toArray, numC_length, HD.out])) rfl
            ⟨by rw [hres.out, ← hdM.out]; rfl, below_setRow H4.out (by rw [hn.out]; omega) _⟩
        · obtain ⟨f, rfl⟩ : ∃ f, gk = f + 1 := by
            cases gk with
            | zero => exact absurd HF.out hc0
            | succ f => exact ⟨f, rfl⟩
          have hF2 := HF.out
          have hM2 := HM.out
          rw [passC, if_neg hc0] at hF2
          rw [passL, if_neg hc0] at hM2
          have hcI : ((c : Int) == 0) = false := by simp; omega
          have hcN : ((c : Int) != 0) = true := by simp; omega
          have k1 : IntKind.u64.wrap ((c : Int) * 38) = (c : Int) * 38 := by simp [IntKind.wrap, IntKind.signed, IntKind.bits]; omega
          replace hF2 := Kept.mk hF2
          replace hM2 := Kept.mk hM2
          go_wp2
          clear k1 hcI hcN
          obtain ⟨wo, rfl⟩ : ∃ wo : World, wo = wr := ⟨_, rfl⟩
          go_loopw [4, 36] (fun v4 v36 wr => ∃ (i k : Nat) (e : List Nat), i ≤ 8 ∧ k ≤ 1444 ∧ v4 = .int .u64 (k : Int) ∧ v36 = .int .i64 (i : Int) ∧ Kept (e.length = i) ∧
            Kept (wr.heap[n + 1]? = some (.cells Z 118 (0, 0))) ∧ Kept (Arr wr (n + 2) 118 .u32 (e ++ d.drop i)) ∧ Kept (Below w.heap.size w wr) ∧ Kept (e ++ carA (d.drop i) k = carA d (38 * c)) ∧ Kept (carK (d.drop i) k = carK d (38 * c))) (fun _ v36 _ => 8 - (RowKit.intOf v36).toNat)
          case atStart => exact ⟨0, 38 * c, [], by omega, by omega, val_eq (by omega), rfl, ⟨rfl⟩, H3, H8, H4, ⟨rfl⟩, ⟨rfl⟩⟩
          case round =>
            clear H8 H3 H4
            obtain ⟨i, k, e, hi, hk, rfl, rfl, HEl, H3, H8, H4, HE, HK⟩ := hrel
            by_cases hlt : i < 8
            · obtain ⟨x, hx⟩ : ∃ x, d.getD i 0 = x := ⟨_, rfl⟩
              have hdd := drop_getD d i (by rw [HD.out]; omega)
              rw [hx] at hdd
              have hxl : x < 4294967296 := hx ▸ getD_ltN HW.out i (by rw [HD.out]; omega)
              have c1 := H8.out.cellMid hdd HEl.out
              have f1 := H8.out.frozen i
              replace hx := Kept.mk hx
              replace hdd := Kept.mk hdd
              go_wp2
              go_roundw
              case rel => exact ⟨i + 1, (x + k) / 4294967296, e ++ [(x + k) % 4294967296], by omega, by omega, val_eq (by omega), val_eq (by omega), ⟨by rw [List.length_append, HEl.out]; rfl⟩,
                ⟨(Below.heap_setCell wr ⟨n + 2, i, none⟩ _ (n + 1) (by simp)).trans H3.out⟩, ⟨H8.out.step hdd.out HEl.out ((x + k) % 4294967296) (by omega)⟩, ⟨H4.out.setCell (by show w.heap.size ≤ n + 2; rw [hn.out]; omega) _⟩,
                ⟨by
                  have h := HE.out
                  rw [hdd.out, carA] at h
                  rw [List.append_assoc]
                  exact h⟩, ⟨by
                  have h := HK.out
                  rw [hdd.out, carK] at h
                  exact h⟩⟩
              case measure => simp [RowKit.intOf]; omega
            · obtain rfl : i = 8 := by omega
              have hn8 : d.drop 8 = [] := List.drop_eq_nil_of_le (by rw [HD.out]; omega)
              have hE := HE.out
              have hK := HK.out
              have hA := H8.out
              rw [hn8, carA, List.append_nil] at hE
              rw [hn8, carK] at hK
              rw [hn8, List.append_nil] at hA
              have hk1 : k ≤ 1 := by rw [hK]; exact carK_le d (38 * c) HW.out (by omega) (fun h => by have := HD.out; rw [h] at this; simp at this)
              have hF3 := hF2.out
              have hM3 := hM2.out
              rw [← hE, ← hK] at hF3 hM3
              have hW2 : ∀ x ∈ e, x < 4294967296 := hE ▸ carA_lt d (38 * c)
              replace hE := Kept.mk hE
              replace hK := Kept.mk hK
              replace hA := Kept.mk hA
              replace hF3 := Kept.mk hF3
              replace hM3 := Kept.mk hM3
              replace hW2 := Kept.mk hW2
              go_wp2
              go_roundg f
              case rel => exact ⟨k, e, by omega, rfl, HEl, hW2, hA, H3, H4, hF3, hM3⟩
              case measure => omega
end Go.Proofs.YtgnblaaldpniiaaGreatDoor
end
