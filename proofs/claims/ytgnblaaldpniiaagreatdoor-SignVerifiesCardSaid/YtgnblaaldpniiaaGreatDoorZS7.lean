/- Walks of the document's answer for package sha2: a block.
Walks of the document's answer for package sha2: a kind's constants. -/
import Derived.Test.YtgnblaaldpniiaaGreatDoorZS6
import Derived.Test.YtgnblaaldpniiaaGreatDoorZS5
import Derived.Deep.RegionLawGrows
import Derived.Deep.RegionHeldLaw
section
set_option maxRecDepth 100000
set_option linter.unusedVariables false
set_option linter.unusedSimpArgs false
namespace Go.Proofs.YtgnblaaldpniiaaGreatDoor.Sh
open Go.RowKit Go.Lib

set_option maxRecDepth 100000 in
set_option maxHeartbeats 3200000 in
theorem block1_any (gK gs capK cs B : Nat) (H v0 : Value) (ks sl ws : List Nat) (w : World) (hks : ks.length = 80) (hsl : sl.length = 8) (hws : ws.length = 16)
    (hkW : ∀ x ∈ ks, x < 18446744073709551616) (hsW : ∀ x ∈ sl, x < 18446744073709551616) (hwW : ∀ x ∈ ws, x < 18446744073709551616)
    (hRK : RowAt w gK ks) (hRs : RowAt w gs sl) (hO : w.ownsRow B 77 1 v0 16 (u64C ws)) (hB : B ≤ w.heap.size) (hgK : gK < B) (hgs : gs < B) :
    Calls Tryz.prog 57 #[.agg (kindC true (.slice (some ⟨gK, 0, none⟩) 80 capK) H), .slice (some ⟨gs, 0, none⟩) 8 cs, v0] w (BlockPost true B ks sl ws w) := by
  obtain ⟨i0, hi, hz0, hz1, hz2⟩ := info_parts infoU64
  obtain ⟨tot, htot⟩ : ∃ t, schN true (80 - 16) ws = t := ⟨_, rfl⟩
  have HKW := Lib.hid hkW
  have HSW := Lib.hid hsW
  have HRK := Lib.hid hRK
  have HRs := Lib.hid hRs
  have HO := Lib.hid hO
  have HWS := Lib.hid hws
  have HWW := Lib.hid hwW
  have HKS := Lib.hid hks
  have HSL := Lib.hid hsl
  have HTOT := Kept.mk htot
  clear hkW hsW hRK hRs hO hws hwW hks hsl htot
  obtain ⟨kv, hkv⟩ : ∃ kv, Value.agg (kindC true (.slice (some ⟨gK, 0, none⟩) 80 capK) H) = kv := ⟨_, rfl⟩
  rw [kindC1] at hkv ⊢
  replace hkv := Kept.mk hkv
  go_enter Tryz.func57, Tryz.ntmps57
  go_wp2
  rw [hkv.out]
  clear hkv
  have k0 : KAt true (.slice (some ⟨gK, 0, none⟩) 80 capK) H (w.alloc (.cells #[.int .i64 64, .int .i64 28, .int .i64 34, .int .i64 39, .int .i64 14, .int .i64 18, .int .i64 41, .int .i64 1, .int .i64 8, .int .i64 7, .int .i64 19, .int .i64 61, .int .i64 6, (.slice (some ⟨gK, 0, none⟩) 80 capK), H] 75)) w.heap.size := by
    refine ⟨(0, 0), ?_⟩; rw [kindC1]; exact heap_alloc_new w _
  have o0 := HO.out.alloc (.cells #[.int .i64 64, .int .i64 28, .int .i64 34, .int .i64 39, .int .i64 14, .int .i64 18, .int .i64 41, .int .i64 1, .int .i64 8, .int .i64 7, .int .i64 19, .int .i64 61, .int .i64 6, (.slice (some ⟨gK, 0, none⟩) 80 capK), H] 75)
  have b0 : Below B w (w.alloc (.cells #[.int .i64 64, .int .i64 28, .int .i64 34, .int .i64 39, .int .i64 14, .int .i64 18, .int .i64 41, .int .i64 1, .int .i64 8, .int .i64 7, .int .i64 19, .int .i64 61, .int .i64 6, (.slice (some ⟨gK, 0, none⟩) 80 capK), H] 75)) := (Below.refl _ _).alloc hB _
  generalize w.alloc (.cells #[.int .i64 64, .int .i64 28, .int .i64 34, .int .i64 39, .int .i64 14, .int .i64 18, .int .i64 41, .int .i64 1, .int .i64 8, .int .i64 7, .int .i64 19, .int .i64 61, .int .i64 6, (.slice (some ⟨gK, 0, none⟩) 80 capK), H] 75) = w0 at k0 o0 b0 ⊢
  have K0 := Lib.hid k0
  have O0 := Lib.hid o0
  have B0 := Lib.hid b0
  clear k0 o0 b0 HO
  go_loopw [2, 7] (fun wv tv wr => ∃ (t : Nat) (l : List Nat), 16 ≤ t ∧ t ≤ 80 ∧ tv = .int .i64 t ∧ l.length = t ∧ Hid (wr.ownsRow B 77 1 wv t (u64C l)) ∧ Hid (KAt true (.slice (some ⟨gK, 0, none⟩) 80 capK) H wr w.heap.size) ∧ Hid (Below B w wr) ∧ Hid (∀ x ∈ l, x < 18446744073709551616) ∧ Kept (schN true (80 - t) l = tot)) (fun _ tv _ => 80 - (RowKit.intOf tv).toNat)
  case atStart => exact ⟨16, ws, by omega, by omega, rfl, HWS.out, O0.out, K0.out, B0.out, HWW.out, HTOT⟩
  case round =>
    obtain ⟨t, l, ht1, ht2, rfl, hl, HO, HKK, HB, HW, HD⟩ := hrel
    clear K0 O0 B0
    obtain ⟨g, cap, rfl, hBg, hgl⟩ := own_pos HO.out (by omega)
    by_cases hlt : t < 80
    · have c13 : wr.cell? ⟨w.heap.size, 13, none⟩ = some (.slice (some ⟨gK, 0, none⟩) 80 capK) := by obtain ⟨fr, e⟩ := HKK.out; rw [kindC1] at e; rw [cell_of_row _ _ _ _ _ _ e]; rfl
      obtain ⟨x2, hx2⟩ : ∃ x, l.getD (t - 2) 0 = x := ⟨_, rfl⟩
      obtain ⟨x7, hx7⟩ : ∃ x, l.getD (t - 7) 0 = x := ⟨_, rfl⟩
      obtain ⟨x15, hx15⟩ : ∃ x, l.getD (t - 15) 0 = x := ⟨_, rfl⟩
      obtain ⟨x16, hx16⟩ : ∃ x, l.getD (t - 16) 0 = x := ⟨_, rfl⟩
      obtain ⟨a2, ha2⟩ : ∃ x, cD true x2 = x := ⟨_, rfl⟩
      obtain ⟨s1, hs1⟩ : ∃ x, (a2 + x7) % 18446744073709551616 = x := ⟨_, rfl⟩
      obtain ⟨a15, ha15⟩ : ∃ x, cC true x15 = x := ⟨_, rfl⟩
      obtain ⟨s2, hs2⟩ : ∃ x, (s1 + a15) % 18446744073709551616 = x := ⟨_, rfl⟩
      obtain ⟨s3, hs3⟩ : ∃ x, (s2 + x16) % 18446744073709551616 = x := ⟨_, rfl⟩
      obtain ⟨y, hy⟩ : ∃ x, wordN true s3 = x := ⟨_, rfl⟩
      have hyl : y < 18446744073709551616 := by rw [← hy]; exact wordN_lt _ _
      have hnx : nextW true l = y := by
        unfold nextW; rw [hl, hx2, hx7, hx15, hx16, ha2, hs1, ha15, hs2, hs3, hy]
      have l2 : x2 < 18446744073709551616 := by rw [← hx2]; exact getD_lt HW.out (by decide) _
      have l15 : x15 < 18446744073709551616 := by rw [← hx15]; exact getD_lt HW.out (by decide) _
      have k1 : IntKind.u64.wrap ((a2 : Int) + (x7 : Int)) = (s1 : Int) := by rw [wrap_add, hs1]
      have k2 : IntKind.u64.wrap ((s1 : Int) + (a15 : Int)) = (s2 : Int) := by rw [wrap_add, hs2]
      have k3 : IntKind.u64.wrap ((s2 : Int) + (x16 : Int)) = (s3 : Int) := by rw [wrap_add, hs3]
      have c1 := fun w => two1_any (.slice (some ⟨gK, 0, none⟩) 80 capK) H x2 19 61 6 a2 l2 (by omega) (by omega) (by omega) ha2 w
      have c2 := fun w => two1_any (.slice (some ⟨gK, 0, none⟩) 80 capK) H x15 1 8 7 a15 l15 (by omega) (by omega) (by omega) ha15 w
      have c3 := fun w => word1v_any (.slice (some ⟨gK, 0, none⟩) 80 capK) H s3 y (by omega) hy w
      have C1 := Lib.hid c1
      have C2 := Lib.hid c2
      have C3 := Lib.hid c3
      have hA : ∀ u : Held (From wr.drew), KAt true (.slice (some ⟨gK, 0, none⟩) 80 capK) H u.w w.heap.size := fun u => HKK.out.below u.h.of_drew HKK.out.lt
      have hR : ∀ u : Held (From wr.drew), u.w.ownsRow B 77 1 (.slice (some ⟨g, 0, none⟩) t cap) t (u64C l) := fun u => ownsRow_below HO.out u.h.of_drew
      have d7 : ∀ u : Held (From wr.drew), u.w.cell? ⟨w.heap.size, 7, none⟩ = some (.int .i64 1) := fun u => by obtain ⟨fr, e⟩ := hA u; rw [kindC1] at e; rw [cell_of_row _ _ _ _ _ _ e]; rfl
      have d8 : ∀ u : Held (From wr.drew), u.w.cell? ⟨w.heap.size, 8, none⟩ = some (.int .i64 8) := fun u => by obtain ⟨fr, e⟩ := hA u; rw [kindC1] at e; rw [cell_of_row _ _ _ _ _ _ e]; rfl
      have d9 : ∀ u : Held (From wr.drew), u.w.cell? ⟨w.heap.size, 9, none⟩ = some (.int .i64 7) := fun u => by obtain ⟨fr, e⟩ := hA u; rw [kindC1] at e; rw [cell_of_row _ _ _ _ _ _ e]; rfl
      have d10 : ∀ u : Held (From wr.drew), u.w.cell? ⟨w.heap.size, 10, none⟩ = some (.int .i64 19) := fun u => by obtain ⟨fr, e⟩ := hA u; rw [kindC1] at e; rw [cell_of_row _ _ _ _ _ _ e]; rfl
      have d11 : ∀ u : Held (From wr.drew), u.w.cell? ⟨w.heap.size, 11, none⟩ = some (.int .i64 61) := fun u => by obtain ⟨fr, e⟩ := hA u; rw [kindC1] at e; rw [cell_of_row _ _ _ _ _ _ e]; rfl
      have d12 : ∀ u : Held (From wr.drew), u.w.cell? ⟨w.heap.size, 12, none⟩ = some (.int .i64 6) := fun u => by obtain ⟨fr, e⟩ := hA u; rw [kindC1] at e; rw [cell_of_row _ _ _ _ _ _ e]; rfl
      have e2 : ∀ u : Held (From wr.drew), u.w.cell? ⟨g, t - 2, none⟩ = some (.int .u64 (x2 : Nat)) := fun u => by rw [u64C_cell (hR u) (t - 2) (by omega) hl.symm, hx2]
      have e7 : ∀ u : Held (From wr.drew), u.w.cell? ⟨g, t - 7, none⟩ = some (.int .u64 (x7 : Nat)) := fun u => by rw [u64C_cell (hR u) (t - 7) (by omega) hl.symm, hx7]
      have e15 : ∀ u : Held (From wr.drew), u.w.cell? ⟨g, t - 15, none⟩ = some (.int .u64 (x15 : Nat)) := fun u => by rw [u64C_cell (hR u) (t - 15) (by omega) hl.symm, hx15]
      have e16 : ∀ u : Held (From wr.drew), u.w.cell? ⟨g, t - 16, none⟩ = some (.int .u64 (x16 : Nat)) := fun u => by rw [u64C_cell (hR u) (t - 16) (by omega) hl.symm, hx16]
      have hG : ∀ w', (∃ u : Held (From wr.drew), w' = u.w) → ∃ fr, w'.heap[w.heap.size]? = some (.cells (kindC true (.slice (some ⟨gK, 0, none⟩) 80 capK) H) 75 fr) := fun w' ⟨u, e⟩ => by rw [e]; exact hA u
      replace hG := Kept.mk hG
      replace hl := Lib.hid hl
      clear c1 c2 c3 hA hR hx2 hx7 hx15 hx16 ha2 hs1 ha15 hs2 hs3 hy l2 l15
      replace hnx := Lib.hid hnx
      replace hyl := Lib.hid hyl
      go_wp2
      refine wp_region_from_tailP 34 0 _ (.tmp 2) rfl rfl rfl (by kernel_rfl) (by kernel_rfl) (fun _ _ _ h => h) ?_
      simp only [List.take_succ_cons, List.take_zero, List.drop_succ_cons, List.drop_zero, List.eraseIdx_cons_zero, Act.put, Act.eval, List.setIfInBounds_toArray, List.set_cons_succ, List.set_cons_zero, Array.getD_eq_getD_getElem?, List.getElem?_toArray, List.getElem?_cons_succ, List.getElem?_cons_zero, Option.getD_some]
      repeat (first | (go_big_quiet_want; (refine quiet_load_row 75 (.tmp 3) rfl w.heap.size rfl 75 _ _ hG.out Tryz.underlying75 rfl (by kernel_rfl) ?_); simp only [Act.put, List.setIfInBounds_toArray, List.set_cons_succ, List.set_cons_zero]; go_big_quiet_on) | go_big_quiet_step ((first
        | (go_at_call_of 91 (Value.int .u64 (x2 : Nat)); exact held_call _ (C1.out _))
        | (go_at_call_of 91 (Value.int .u64 (x15 : Nat)); exact held_call _ (C2.out _))
        | (go_at_call 90; exact held_call _ (C3.out _)))))
      refine wpQuiet_nil ?_
      intro w5 hw5
      have O5 := ownsRow_below HO.out hw5.of_drew
      have K5 := Lib.hid (HKK.out.below hw5.of_drew HKK.out.lt)
      have B5 := Lib.hid (HB.out.trans (hw5.of_drew.mono (Nat.le_trans hB HB.out.size)))
      have hz5 : B ≤ w5.heap.size := Nat.le_trans hB B5.out.size
      clear d7 d8 d9 d10 d11 d12 e2 e7 e15 e16 c13 C1 C2 C3 k1 k2 k3 hw5
      go_wp2_with (at_builtin; refine wpList_append_own _ rfl _ _ 73 rfl B 77 i0 (.int .u64 0) 1 8 Tryz.underlying73 hi hz0 hz1 hz2 rfl (by decide) _ _ _ rfl (O5.alloc _) ⟨w5.heap.size, 0, none⟩ 1 1 [.int .u64 (y : Nat)] rfl rfl ?c1 ?c2 ?c3 ?c4 ?c5 ?_)
      case c1 => exact row_new w5 [_] 77
      case c2 => intro u hu; simp at hu; subst hu; rfl
      case c3 => unfold maxLen; omega
      case c4 => omega
      case c5 => rw [World.size_alloc]; omega
      intro v' w7 ho7 hgr _
      have ho8 : w7.ownsRow B 77 1 v' (t + 1) (u64C (l ++ [y])) := by
        rw [u64C_append]; exact ho7
      have hb7 := Lib.hid ((B5.out.alloc hz5 _).grown hgr (by rw [World.size_alloc]; omega) fun k hk => (O5.lt k hk).1)
      have hk7 : KAt true (.slice (some ⟨gK, 0, none⟩) 80 capK) H w7 w.heap.size := by
        have ka : KAt true (.slice (some ⟨gK, 0, none⟩) 80 capK) H (w5.alloc (.cells #[.int .u64 (y : Nat)] 77)) w.heap.size := K5.out.below (Below.alloc (Below.refl w5.heap.size _) (Nat.le_refl _) _) K5.out.lt
        exact ka.grown hgr (own_ne O5 K5.out)
      replace ho8 := Lib.hid ho8
      replace hk7 := Lib.hid hk7
      clear ho7 hgr O5 K5 B5
      go_wp2
      go_roundw
      case rel => exact ⟨t + 1, l ++ [y], by omega, by omega, by go_num, by rw [List.length_append, hl.out]; rfl, ho8, hk7, hb7, (by
        intro z hz
        rcases List.mem_append.1 hz with hz | hz
        · exact HW.out z hz
        · simp at hz; subst hz; exact hyl.out), ⟨by
        have h := HD.out
        rw [show 80 - t = (80 - (t + 1)) + 1 by omega, schN, hnx.out] at h
        exact h⟩⟩
      case measure => simp [RowKit.intOf]; omega
    · obtain rfl : t = 80 := by omega
      have hlT : l = tot := by have h := HD.out; rw [Nat.sub_self, schN] at h; exact h
      subst hlT
      have c13 : wr.cell? ⟨w.heap.size, 13, none⟩ = some (.slice (some ⟨gK, 0, none⟩) 80 capK) := by obtain ⟨fr, e⟩ := HKK.out; rw [kindC1] at e; rw [cell_of_row _ _ _ _ _ _ e]; rfl
      have hzB : B ≤ wr.heap.size := Nat.le_trans hB HB.out.size
      obtain ⟨s0, s1, s2, s3, s4, s5, s6, s7, rfl⟩ : ∃ s0 s1 s2 s3 s4 s5 s6 s7, sl = [s0, s1, s2, s3, s4, s5, s6, s7] := by
        match sl, HSL.out with
        | [s0, s1, s2, s3, s4, s5, s6, s7], _ => exact ⟨s0, s1, s2, s3, s4, s5, s6, s7, rfl⟩
      have RS := HRs.out.below HB.out hgs
      have u0 : wr.cell? ⟨gs, 0, none⟩ = some (.int .u64 (s0 : Nat)) := RS.2 0 (by show 0 < 8; omega)
      have u1 : wr.cell? ⟨gs, 1, none⟩ = some (.int .u64 (s1 : Nat)) := RS.2 1 (by show 1 < 8; omega)
      have u2 : wr.cell? ⟨gs, 2, none⟩ = some (.int .u64 (s2 : Nat)) := RS.2 2 (by show 2 < 8; omega)
      have u3 : wr.cell? ⟨gs, 3, none⟩ = some (.int .u64 (s3 : Nat)) := RS.2 3 (by show 3 < 8; omega)
      have u4 : wr.cell? ⟨gs, 4, none⟩ = some (.int .u64 (s4 : Nat)) := RS.2 4 (by show 4 < 8; omega)
      have u5 : wr.cell? ⟨gs, 5, none⟩ = some (.int .u64 (s5 : Nat)) := RS.2 5 (by show 5 < 8; omega)
      have u6 : wr.cell? ⟨gs, 6, none⟩ = some (.int .u64 (s6 : Nat)) := RS.2 6 (by show 6 < 8; omega)
      have u7 : wr.cell? ⟨gs, 7, none⟩ = some (.int .u64 (s7 : Nat)) := RS.2 7 (by show 7 < 8; omega)
      replace RS := Lib.hid RS
      replace hl := Lib.hid hl
      clear HD
      rw [show ((80 : Nat) : Int) = 80 from rfl]
      have BK0 := BlkAt.mk HO.out HKK.out HB.out hB (HRK.out.below HB.out hgK) RS.out
      replace BK0 := Lib.hid BK0
      clear RS
      go_wp2
      go_quiet (fail)
      revert nq
      intro n1
      go_wp2
      go_quiet (fail)
      go_wp2
      obtain ⟨SS, hSS⟩ : ∃ SS : S8, (⟨s0, s1, s2, s3, s4, s5, s6, s7⟩ : S8) = SS := ⟨_, rfl⟩
      have hok : SS.ok := by
        have hs := HSW.out
        rw [← hSS]
        exact ⟨hs s0 (by simp), hs s1 (by simp), hs s2 (by simp), hs s3 (by simp), hs s4 (by simp), hs s5 (by simp), hs s6 (by simp), hs s7 (by simp)⟩
      have HSS := Kept.mk hSS
      have HOK := Kept.mk hok
      have BQ := (BK0.out.drewN n1).drewN nq
      generalize (wr.drewN n1).drewN nq = wq at BQ ⊢
      replace BQ := Lib.hid BQ
      have h01 : s0 = SS.a ∧ s1 = SS.b ∧ s2 = SS.c ∧ s3 = SS.d ∧ s4 = SS.e ∧ s5 = SS.f ∧ s6 = SS.g ∧ s7 = SS.h := by rw [← hSS]; exact ⟨rfl, rfl, rfl, rfl, rfl, rfl, rfl, rfl⟩
      have H01 := Kept.mk h01
      clear u0 u1 u2 u3 u4 u5 u6 u7 BK0 hSS hok h01 HO HKK HB c13
      go_loopw [8, 9, 10, 11, 12, 13, 14, 15, 16] (fun v8 v9 v10 v11 v12 v13 v14 v15 tv wr => ∃ (t : Nat) (s : S8), t ≤ 80 ∧ tv = .int .i64 t ∧ v8 = .int .u64 (s.a : Nat) ∧ v9 = .int .u64 (s.b : Nat) ∧ v10 = .int .u64 (s.c : Nat) ∧ v11 = .int .u64 (s.d : Nat) ∧ v12 = .int .u64 (s.e : Nat) ∧ v13 = .int .u64 (s.f : Nat) ∧ v14 = .int .u64 (s.g : Nat) ∧ v15 = .int .u64 (s.h : Nat) ∧ Hid (BlkAt true (.slice (some ⟨gK, 0, none⟩) 80 capK) H B gK gs g 80 cap ks [s0, s1, s2, s3, s4, s5, s6, s7] l w wr) ∧ Kept s.ok ∧ Kept (roundsN true ks l (80 - t) t s = roundsN true ks l 80 0 SS)) (fun _ _ _ _ _ _ _ _ tv _ => 80 - (RowKit.intOf tv).toNat)
      case atStart => obtain ⟨rfl, rfl, rfl, rfl, rfl, rfl, rfl, rfl⟩ := H01.out; exact ⟨0, SS, by omega, rfl, rfl, rfl, rfl, rfl, rfl, rfl, rfl, rfl, BQ.out, HOK, ⟨rfl⟩⟩
      case round =>
        obtain ⟨t, s, ht, rfl, rfl, rfl, rfl, rfl, rfl, rfl, rfl, rfl, BQ, HS, HR⟩ := hrel
        have c13 : wr.cell? ⟨w.heap.size, 13, none⟩ = some (.slice (some ⟨gK, 0, none⟩) 80 capK) := by obtain ⟨fr, e⟩ := BQ.out.k; rw [kindC1] at e; rw [cell_of_row _ _ _ _ _ _ e]; rfl
        by_cases hlt : t < 80
        · as_aux_lemma =>
          obtain ⟨a, b, c, d, e, f, gg, hh⟩ := s
          dsimp only
          have HL : l.length = 80 := hl.out
          obtain ⟨kt, hkt⟩ : ∃ x, ks.getD t 0 = x := ⟨_, rfl⟩
          obtain ⟨wt, hwt⟩ : ∃ x, l.getD t 0 = x := ⟨_, rfl⟩
          obtain ⟨oa, ob, oc, od, oe, of, og, oh⟩ := HS.out
          dsimp only at oa ob oc od oe of og oh
          obtain ⟨x1, hx1⟩ : ∃ z, cB true e = z := ⟨_, rfl⟩
          obtain ⟨q1, hq1⟩ : ∃ z, (hh + x1) % 18446744073709551616 = z := ⟨_, rfl⟩
          have iq1 : IntKind.u64.wrap ((hh : Nat) + (x1 : Nat) : Int) = (q1 : Nat) := by rw [wrap_add, hq1]
          obtain ⟨p1, hp1⟩ : ∃ z, e &&& f = z := ⟨_, rfl⟩
          have lp1 : p1 < 18446744073709551616 := by rw [← hp1]; exact and_lt64 _ _ oe
          have ip1 : bits .and .u64 (e : Nat) (f : Nat) = (p1 : Nat) := by rw [and_u64 _ _ oe of, hp1]
          obtain ⟨ne, hne⟩ : ∃ z, 18446744073709551615 - e = z := ⟨_, rfl⟩
          have lne : ne < 18446744073709551616 := by rw [← hne]; omega
          have ine : bits .xor .u64 IntKind.u64.max (e : Nat) = (ne : Nat) := by rw [not_u64 _ oe, hne]
          have jne : bits .xor .u64 (if IntKind.u64.signed = true then -1 else IntKind.u64.max) (e : Nat) = (ne : Nat) := ine
          obtain ⟨p2, hp2⟩ : ∃ z, ne &&& gg = z := ⟨_, rfl⟩
          have lp2 : p2 < 18446744073709551616 := by rw [← hp2]; exact and_lt64 _ _ lne
          have ip2 : bits .and .u64 (ne : Nat) (gg : Nat) = (p2 : Nat) := by rw [and_u64 _ _ lne og, hp2]
          obtain ⟨p3, hp3⟩ : ∃ z, p1 ^^^ p2 = z := ⟨_, rfl⟩
          have lp3 : p3 < 18446744073709551616 := by rw [← hp3]; exact xor_lt64 _ _ lp1 lp2
          have ip3 : bits .xor .u64 (p1 : Nat) (p2 : Nat) = (p3 : Nat) := by rw [xor_u64 _ _ lp1 lp2, hp3]
          obtain ⟨q2, hq2⟩ : ∃ z, (q1 + p3) % 18446744073709551616 = z := ⟨_, rfl⟩
          have iq2 : IntKind.u64.wrap ((q1 : Nat) + (p3 : Nat) : Int) = (q2 : Nat) := by rw [wrap_add, hq2]
          obtain ⟨q3, hq3⟩ : ∃ z, (q2 + kt) % 18446744073709551616 = z := ⟨_, rfl⟩
          have iq3 : IntKind.u64.wrap ((q2 : Nat) + (kt : Nat) : Int) = (q3 : Nat) := by rw [wrap_add, hq3]
          obtain ⟨q4, hq4⟩ : ∃ z, (q3 + wt) % 18446744073709551616 = z := ⟨_, rfl⟩
          have iq4 : IntKind.u64.wrap ((q3 : Nat) + (wt : Nat) : Int) = (q4 : Nat) := by rw [wrap_add, hq4]
          obtain ⟨t1, ht1⟩ : ∃ z, wordN true q4 = z := ⟨_, rfl⟩
          obtain ⟨y1, hy1⟩ : ∃ z, cA true a = z := ⟨_, rfl⟩
          obtain ⟨m1, hm1⟩ : ∃ z, a &&& b = z := ⟨_, rfl⟩
          have lm1 : m1 < 18446744073709551616 := by rw [← hm1]; exact and_lt64 _ _ oa
          have im1 : bits .and .u64 (a : Nat) (b : Nat) = (m1 : Nat) := by rw [and_u64 _ _ oa ob, hm1]
          obtain ⟨m2, hm2⟩ : ∃ z, a &&& c = z := ⟨_, rfl⟩
          have lm2 : m2 < 18446744073709551616 := by rw [← hm2]; exact and_lt64 _ _ oa
          have im2 : bits .and .u64 (a : Nat) (c : Nat) = (m2 : Nat) := by rw [and_u64 _ _ oa oc, hm2]
          obtain ⟨m3, hm3⟩ : ∃ z, m1 ^^^ m2 = z := ⟨_, rfl⟩
          have lm3 : m3 < 18446744073709551616 := by rw [← hm3]; exact xor_lt64 _ _ lm1 lm2
          have im3 : bits .xor .u64 (m1 : Nat) (m2 : Nat) = (m3 : Nat) := by rw [xor_u64 _ _ lm1 lm2, hm3]
          obtain ⟨m4, hm4⟩ : ∃ z, b &&& c = z := ⟨_, rfl⟩
          have lm4 : m4 < 18446744073709551616 := by rw [← hm4]; exact and_lt64 _ _ ob
          have im4 : bits .and .u64 (b : Nat) (c : Nat) = (m4 : Nat) := by rw [and_u64 _ _ ob oc, hm4]
          obtain ⟨m5, hm5⟩ : ∃ z, m3 ^^^ m4 = z := ⟨_, rfl⟩
          have lm5 : m5 < 18446744073709551616 := by rw [← hm5]; exact xor_lt64 _ _ lm3 lm4
          have im5 : bits .xor .u64 (m3 : Nat) (m4 : Nat) = (m5 : Nat) := by rw [xor_u64 _ _ lm3 lm4, hm5]
          obtain ⟨z1, hz1⟩ : ∃ z, (y1 + m5) % 18446744073709551616 = z := ⟨_, rfl⟩
          have iz1 : IntKind.u64.wrap ((y1 : Nat) + (m5 : Nat) : Int) = (z1 : Nat) := by rw [wrap_add, hz1]
          obtain ⟨t2, ht2⟩ : ∃ z, wordN true z1 = z := ⟨_, rfl⟩
          obtain ⟨e1, he1⟩ : ∃ z, (d + t1) % 18446744073709551616 = z := ⟨_, rfl⟩
          have ie1 : IntKind.u64.wrap ((d : Nat) + (t1 : Nat) : Int) = (e1 : Nat) := by rw [wrap_add, he1]
          obtain ⟨ee, hee⟩ : ∃ z, wordN true e1 = z := ⟨_, rfl⟩
          obtain ⟨a1, ha1⟩ : ∃ z, (t1 + t2) % 18446744073709551616 = z := ⟨_, rfl⟩
          have ia1 : IntKind.u64.wrap ((t1 : Nat) + (t2 : Nat) : Int) = (a1 : Nat) := by rw [wrap_add, ha1]
          obtain ⟨aa, haa⟩ : ∃ z, wordN true a1 = z := ⟨_, rfl⟩
          have lee : ee < 18446744073709551616 := by rw [← hee]; exact wordN_lt _ _
          have laa : aa < 18446744073709551616 := by rw [← haa]; exact wordN_lt _ _
          have hround : roundN true kt wt ⟨a, b, c, d, e, f, gg, hh⟩ = ⟨aa, a, b, c, ee, e, f, gg⟩ := by
            unfold roundN oneN twoS chN majN; dsimp only; rw [hx1, hq1, hp1, hne, hp2, hp3, hq2, hq3, hq4, ht1, hy1, hm1, hm2, hm3, hm4, hm5, hz1, ht2, he1, hee, ha1, haa]
          replace hround := Kept.mk hround
          have CB := Lib.hid (fun w => three1_any (.slice (some ⟨gK, 0, none⟩) 80 capK) H e 14 18 41 x1 oe (by omega) (by omega) (by omega) hx1 w)
          have CA := Lib.hid (fun w => three1_any (.slice (some ⟨gK, 0, none⟩) 80 capK) H a 28 34 39 y1 oa (by omega) (by omega) (by omega) hy1 w)
          have W1 := Lib.hid (fun w => word1v_any (.slice (some ⟨gK, 0, none⟩) 80 capK) H q4 t1 (by rw [← hq4]; exact Nat.mod_lt _ (by decide)) ht1 w)
          have W2 := Lib.hid (fun w => word1v_any (.slice (some ⟨gK, 0, none⟩) 80 capK) H z1 t2 (by rw [← hz1]; exact Nat.mod_lt _ (by decide)) ht2 w)
          have W3 := Lib.hid (fun w => word1v_any (.slice (some ⟨gK, 0, none⟩) 80 capK) H e1 ee (by rw [← he1]; exact Nat.mod_lt _ (by decide)) hee w)
          have W4 := Lib.hid (fun w => word1v_any (.slice (some ⟨gK, 0, none⟩) 80 capK) H a1 aa (by rw [← ha1]; exact Nat.mod_lt _ (by decide)) haa w)
          clear hx1 hq1 hp1 hne hp2 hp3 hq2 hq3 hq4 ht1 hy1 hm1 hm2 hm3 hm4 hm5 hz1 ht2 he1 hee ha1 haa lp1 lne lp2 lp3 lm1 lm2 lm3 lm4 lm5
          have hok2 : Kept (S8.ok ⟨aa, a, b, c, ee, e, f, gg⟩) := ⟨⟨laa, oa, ob, oc, lee, oe, of, og⟩⟩
          have hA : ∀ u : Held (From wr.drew), BlkAt true (.slice (some ⟨gK, 0, none⟩) 80 capK) H B gK gs g 80 cap ks [s0, s1, s2, s3, s4, s5, s6, s7] l w u.w := fun u => BQ.out.grow u.h.of_drew
          have d4 : ∀ u : Held (From wr.drew), u.w.cell? ⟨w.heap.size, 4, none⟩ = some (.int .i64 14) := fun u => by obtain ⟨fr, e⟩ := (hA u).k; rw [kindC1] at e; rw [cell_of_row _ _ _ _ _ _ e]; rfl
          have d5 : ∀ u : Held (From wr.drew), u.w.cell? ⟨w.heap.size, 5, none⟩ = some (.int .i64 18) := fun u => by obtain ⟨fr, e⟩ := (hA u).k; rw [kindC1] at e; rw [cell_of_row _ _ _ _ _ _ e]; rfl
          have d6 : ∀ u : Held (From wr.drew), u.w.cell? ⟨w.heap.size, 6, none⟩ = some (.int .i64 41) := fun u => by obtain ⟨fr, e⟩ := (hA u).k; rw [kindC1] at e; rw [cell_of_row _ _ _ _ _ _ e]; rfl
          have d13 : ∀ u : Held (From wr.drew), u.w.cell? ⟨w.heap.size, 13, none⟩ = some ((.slice (some ⟨gK, 0, none⟩) 80 capK)) := fun u => by obtain ⟨fr, e⟩ := (hA u).k; rw [kindC1] at e; rw [cell_of_row _ _ _ _ _ _ e]; rfl
          have e1 : ∀ u : Held (From wr.drew), u.w.cell? ⟨gK, t, none⟩ = some (.int .u64 (kt : Nat)) := fun u => by rw [(hA u).rk.2 t (by rw [HKS.out]; exact hlt), hkt]
          have e2 : ∀ u : Held (From wr.drew), u.w.cell? ⟨g, t, none⟩ = some (.int .u64 (wt : Nat)) := fun u => by rw [u64C_cell (hA u).own t (by omega) HL.symm, hwt]
          have hG : ∀ w', (∃ u : Held (From wr.drew), w' = u.w) → ∃ fr, w'.heap[w.heap.size]? = some (.cells (kindC true (.slice (some ⟨gK, 0, none⟩) 80 capK) H) 75 fr) := fun w' ⟨u, e⟩ => by rw [e]; exact (hA u).k
          replace hG := Kept.mk hG
          replace hkt := Kept.mk hkt
          replace hwt := Kept.mk hwt
          clear hA HL oa ob oc od oe of og oh lee laa
          go_wp2
          refine wp_region_from (by kernel_rfl) (by kernel_rfl) ?_
          repeat (first | (go_big_quiet_want; (refine quiet_load_row 75 (.tmp 3) rfl w.heap.size rfl 75 _ _ hG.out Tryz.underlying75 rfl (by kernel_rfl) ?_); simp only [Act.put, List.setIfInBounds_toArray, List.set_cons_succ, List.set_cons_zero]; go_big_quiet_on) | go_big_quiet_step ((first
            | (go_at_call 92; exact held_call _ (CB.out _))
            | (go_at_call 90; exact held_call _ (W1.out _)))))
          refine wpQuiet_nil ?_
          intro w5 hw5
          have BQ5 := BQ.out.grow hw5.of_drew
          clear e1 e2 d4 d5 d6 d13 hG CB W1 c13 iq1 ip1 ine jne ip2 ip3 iq2 iq3 iq4 hw5
          have hA : ∀ u : Held (From w5.drew), BlkAt true (.slice (some ⟨gK, 0, none⟩) 80 capK) H B gK gs g 80 cap ks [s0, s1, s2, s3, s4, s5, s6, s7] l w u.w := fun u => BQ5.grow u.h.of_drew
          have d1 : ∀ u : Held (From w5.drew), u.w.cell? ⟨w.heap.size, 1, none⟩ = some (.int .i64 28) := fun u => by obtain ⟨fr, e⟩ := (hA u).k; rw [kindC1] at e; rw [cell_of_row _ _ _ _ _ _ e]; rfl
          have d2 : ∀ u : Held (From w5.drew), u.w.cell? ⟨w.heap.size, 2, none⟩ = some (.int .i64 34) := fun u => by obtain ⟨fr, e⟩ := (hA u).k; rw [kindC1] at e; rw [cell_of_row _ _ _ _ _ _ e]; rfl
          have d3 : ∀ u : Held (From w5.drew), u.w.cell? ⟨w.heap.size, 3, none⟩ = some (.int .i64 39) := fun u => by obtain ⟨fr, e⟩ := (hA u).k; rw [kindC1] at e; rw [cell_of_row _ _ _ _ _ _ e]; rfl
          have hG : ∀ w', (∃ u : Held (From w5.drew), w' = u.w) → ∃ fr, w'.heap[w.heap.size]? = some (.cells (kindC true (.slice (some ⟨gK, 0, none⟩) 80 capK) H) 75 fr) := fun w' ⟨u, e⟩ => by rw [e]; exact (hA u).k
          replace hG := Kept.mk hG
          replace BQ5 := Lib.hid BQ5
          clear hA
          go_wp2
          refine wp_region_from (by kernel_rfl) (by kernel_rfl) ?_
          repeat (first | (go_big_quiet_want; (refine quiet_load_row 75 (.tmp 3) rfl w.heap.size rfl 75 _ _ hG.out Tryz.underlying75 rfl (by kernel_rfl) ?_); simp only [Act.put, List.setIfInBounds_toArray, List.set_cons_succ, List.set_cons_zero]; go_big_quiet_on) | go_big_quiet_step ((first
            | (go_at_call 92; exact held_call _ (CA.out _))
            | (go_at_call 90; exact held_call _ (W2.out _)))))
          refine wpQuiet_nil ?_
          intro w6 hw6
          have BQ6 := BQ5.out.grow hw6.of_drew
          clear d1 d2 d3 hG CA W2 im1 im2 im3 im4 im5 iz1 hw6 BQ5
          obtain ⟨fr6, hk6⟩ := BQ6.k
          replace BQ6 := Lib.hid BQ6
          replace hk6 := Lib.hid hk6
          go_wp2_with (first
            | (refine wpList_load_row rfl 75 (.tmp 3) rfl w.heap.size rfl 75 (kindC true (.slice (some ⟨gK, 0, none⟩) 80 capK) H) _ _ hk6.out Tryz.underlying75 rfl (by kernel_rfl) ?_)
            | (refine wpList_load_row rfl 75 (.tmp 3) rfl w.heap.size rfl 75 (kindC true (.slice (some ⟨gK, 0, none⟩) 80 capK) H) _ _ hk7.out Tryz.underlying75 rfl (by kernel_rfl) ?_)
            | (go_at_call_of 90 (Value.int .u64 (e1 : Nat)); refine (W3.out _).mono ?_; rintro e7 w7 ⟨rfl, hb7⟩; have BQ7 := BQ6.out.grow hb7; obtain ⟨fr7, hk7⟩ := BQ7.k; replace BQ7 := Lib.hid BQ7; replace hk7 := Lib.hid hk7; clear hb7 BQ6 hk6)
            | (go_at_call_of 90 (Value.int .u64 (a1 : Nat)); refine (W4.out _).mono ?_; rintro e8 w8 ⟨rfl, hb8⟩; have BQ8 := Lib.hid (BQ7.out.grow hb8); clear hb8))
          go_roundw
          case rel => exact ⟨t + 1, ⟨aa, a, b, c, ee, e, f, gg⟩, by omega, by go_num, rfl, rfl, rfl, rfl, rfl, rfl, rfl, rfl, BQ8.out, hok2, ⟨by
            have h := HR.out
            rw [show 80 - t = (80 - (t + 1)) + 1 by omega, roundsN, hkt.out, hwt.out, hround.out] at h
            exact h⟩⟩
          case measure => simp [RowKit.intOf]; omega
        · obtain rfl : t = 80 := by omega
          have hS : s = roundsN true ks l 80 0 SS := by have h := HR.out; rw [Nat.sub_self, roundsN] at h; exact h
          obtain ⟨a, b, c, d, e, f, gg, hh⟩ := s
          dsimp only
          have hml : [a, b, c, d, e, f, gg, hh] = (roundsN true ks l 80 0 (S8.of [s0, s1, s2, s3, s4, s5, s6, s7])).list := by
            have h1 : S8.of [s0, s1, s2, s3, s4, s5, s6, s7] = SS := HSS.out
            rw [h1, ← hS]; rfl
          have hbl : blockN true ks [s0, s1, s2, s3, s4, s5, s6, s7] ws = sumN true [s0, s1, s2, s3, s4, s5, s6, s7] 8 0 [a, b, c, d, e, f, gg, hh] := by
            unfold blockN; rw [HKS.out, HTOT.out, ← hml]
          have hbl := Kept.mk hbl
          clear hml hS HR HOK HS
          rw [show ((80 : Nat) : Int) = 80 from rfl]
          go_wp2
          have hbw : Below wr.heap.size wr (wr.alloc (.cells #[.int .u64 (a : Nat), .int .u64 (b : Nat), .int .u64 (c : Nat), .int .u64 (d : Nat), .int .u64 (e : Nat), .int .u64 (f : Nat), .int .u64 (gg : Nat), .int .u64 (hh : Nat)] 77)) := Below.alloc (Below.refl wr.heap.size _) (Nat.le_refl _) _
          have SM : SumAt true (.slice (some ⟨gK, 0, none⟩) 80 capK) H B gs wr.heap.size [s0, s1, s2, s3, s4, s5, s6, s7] [a, b, c, d, e, f, gg, hh] w (wr.alloc (.cells #[.int .u64 (a : Nat), .int .u64 (b : Nat), .int .u64 (c : Nat), .int .u64 (d : Nat), .int .u64 (e : Nat), .int .u64 (f : Nat), .int .u64 (gg : Nat), .int .u64 (hh : Nat)] 77)) :=
            ⟨BQ.out.k.below hbw BQ.out.k.lt, BQ.out.below.trans (hbw.mono (Nat.le_trans hB BQ.out.below.size)), hB, BQ.out.rs.below hbw BQ.out.rs.1, hgs, BQ.out.k.lt, heap_alloc_new wr _⟩
          have hgv : w.heap.size ≤ wr.heap.size := Nat.le_of_lt BQ.out.k.lt
          clear hbw BQ c13
          generalize wr.alloc (.cells #[.int .u64 (a : Nat), .int .u64 (b : Nat), .int .u64 (c : Nat), .int .u64 (d : Nat), .int .u64 (e : Nat), .int .u64 (f : Nat), .int .u64 (gg : Nat), .int .u64 (hh : Nat)] 77) = wo at SM ⊢
          generalize wr.heap.size = gV at SM hgv ⊢
          have hl8 : [s0, s1, s2, s3, s4, s5, s6, s7].length = 8 := rfl
          have hm8 : [a, b, c, d, e, f, gg, hh].length = 8 := rfl
          generalize hsx : [s0, s1, s2, s3, s4, s5, s6, s7] = sx at SM hbl hl8 ⊢
          generalize [a, b, c, d, e, f, gg, hh] = mx at SM hbl hm8
          replace hsx := Kept.mk hsx
          replace hl8 := Kept.mk hl8
          replace hm8 := Kept.mk hm8
          replace SM := Kept.mk SM
          go_loopw [20] (fun v wr => ∃ (i : Nat) (l2 : List Nat), i ≤ 8 ∧ v = .int .i64 i ∧ Kept (l2.length = 8) ∧ Kept (SumAt true (.slice (some ⟨gK, 0, none⟩) 80 capK) H B gs gV sx l2 w wr) ∧ Kept (sumN true sx (8 - i) i l2 = sumN true sx 8 0 mx)) (fun v _ => 8 - (RowKit.intOf v).toNat)
          case atStart => exact ⟨0, mx, by omega, rfl, hm8, SM, ⟨rfl⟩⟩
          case round =>
            clear SM
            obtain ⟨i, l2, hi, rfl, hl2, SM, HR⟩ := hrel
            by_cases hlt : i < 8
            · as_aux_lemma =>
              obtain ⟨x, hx⟩ : ∃ x, l2.getD i 0 = x := ⟨_, rfl⟩
              obtain ⟨si, hsi⟩ : ∃ x, sx.getD i 0 = x := ⟨_, rfl⟩
              obtain ⟨z1, hz1⟩ : ∃ z, (x + si) % 18446744073709551616 = z := ⟨_, rfl⟩
              obtain ⟨y, hy⟩ : ∃ z, wordN true z1 = z := ⟨_, rfl⟩
              have hadd : addN true x si = y := by unfold addN; rw [hz1, hy]
              have k1 : IntKind.u64.wrap ((x : Nat) + (si : Nat) : Int) = (z1 : Nat) := by rw [wrap_add, hz1]
              have W1 := Lib.hid (fun w => word1v_any (.slice (some ⟨gK, 0, none⟩) 80 capK) H z1 y (by rw [← hz1]; exact Nat.mod_lt _ (by decide)) hy w)
              have hA : ∀ u : Held (From wr.drew), SumAt true (.slice (some ⟨gK, 0, none⟩) 80 capK) H B gs gV sx l2 w u.w := fun u => SM.out.grow u.h.of_drew
              have e1 : ∀ u : Held (From wr.drew), u.w.cell? ⟨gV, i, none⟩ = some (.int .u64 (x : Nat)) := fun u => by rw [(hA u).cell i (by rw [hl2.out]; exact hlt), hx]
              have e2 : ∀ u : Held (From wr.drew), u.w.cell? ⟨gs, i, none⟩ = some (.int .u64 (si : Nat)) := fun u => by rw [(hA u).rs.2 i (by rw [hl8.out]; exact hlt), hsi]
              have hG : ∀ w', (∃ u : Held (From wr.drew), w' = u.w) → ∃ fr, w'.heap[w.heap.size]? = some (.cells (kindC true (.slice (some ⟨gK, 0, none⟩) 80 capK) H) 75 fr) := fun w' ⟨u, e⟩ => by rw [e]; exact (hA u).k
              replace hG := Kept.mk hG
              replace hx := Kept.mk hx
              replace hsi := Kept.mk hsi
              replace hadd := Kept.mk hadd
              clear hA hz1 hy
              go_wp2
              refine wp_region_from_tail 14 (by kernel_rfl) (by kernel_rfl) ?_
              simp only [List.take_succ_cons, List.take_zero, List.drop_succ_cons, List.drop_zero]
              repeat (first | (go_big_quiet_want; (refine quiet_load_row 75 (.tmp 3) rfl w.heap.size rfl 75 _ _ hG.out Tryz.underlying75 rfl (by kernel_rfl) ?_); simp only [Act.put, List.setIfInBounds_toArray, List.set_cons_succ, List.set_cons_zero]; go_big_quiet_on) | go_big_quiet_step ((go_at_call 90; exact held_call _ (W1.out _))))
              refine wpQuiet_nil ?_
              intro w5 hw5
              have S5 := SM.out.grow hw5.of_drew
              have fc : w5.cell? ⟨gV, i, none⟩ = some (.int .u64 (x : Nat)) := by rw [S5.cell i (by rw [hl2.out]; exact hlt), hx.out]
              have ff := S5.fr i
              have S6 := Kept.mk (S5.set i y)
              clear e1 e2 hG W1 hw5 S5
              go_wp2
              go_roundw
              case rel => exact ⟨i + 1, l2.set i y, by omega, by go_num, ⟨by rw [List.length_set]; exact hl2.out⟩, S6, ⟨by
                have h := HR.out
                rw [show 8 - i = (8 - (i + 1)) + 1 by omega, sumN, hx.out, hsi.out, hadd.out] at h
                exact h⟩⟩
              case measure => simp [RowKit.intOf]; omega
            · obtain rfl : i = 8 := by omega
              have hL : blockN true ks sx ws = l2 := by rw [hbl.out, ← HR.out]; rfl
              replace hL := Kept.mk hL
              go_wp2
              exact bodyPost_ret (v := .slice (some ⟨gV, 0, none⟩) 8 8) (by simp [results, Tryz.results57, go_sem]) rfl ⟨gV, 8, hgv, rfl, by rw [hsx.out, hL.out]; exact ⟨SM.out.lt, fun t ht => SM.out.cell t ht⟩, SM.out.below⟩
end Go.Proofs.YtgnblaaldpniiaaGreatDoor.Sh
end
section
set_option maxRecDepth 100000
set_option linter.unusedVariables false
set_option linter.unusedSimpArgs false
namespace Go.Proofs.YtgnblaaldpniiaaGreatDoor.Sh
open Go.RowKit Go.Lib
theorem plN_prefix : ∀ (k n : Nat), ∃ t, plN (n + k) = plN n ++ t
  | 0, n => ⟨[], by simp⟩
  | k + 1, n => by
    obtain ⟨t, ht⟩ := plN_prefix k n
    rw [← Nat.add_assoc, plN, ht]
    split
    · exact ⟨t ++ [n + k], by rw [List.append_assoc]⟩
    · exact ⟨t, rfl⟩
theorem plN_same (N : Nat) : ∀ n, n ≤ N → (plN n).length = (plN N).length → plN n = plN N := by
  intro n hn h
  obtain ⟨t, ht⟩ := plN_prefix (N - n) n
  rw [show n + (N - n) = N by omega] at ht
  rw [ht, List.length_append] at h
  rw [ht, List.eq_nil_of_length_eq_zero (show t.length = 0 by omega), List.append_nil]
def constR (o : Bool) (p n : Nat) : Nat := rootN n p / 2 ^ (64 - wd o)
def constK (o : Bool) (ps : List Nat) : List Nat := ps.map (constR o 3)
def constH (o : Bool) (ps : List Nat) : List Nat := (ps.take 8).map (constR o 2)
theorem own_other {w w' : World} {B : Nat} {e : TypeId} {v u : Value} {n : Nat} {xs : List Value} (h : w.ownsRow B e 1 v n xs) (hg : w.grownBy w' u.ownBlock) (hne : v.ownBlock = none ∨ u.ownBlock = none ∨ v.ownBlock ≠ u.ownBlock) : w'.ownsRow B e 1 v n xs := by
  refine ⟨h.1, ?_⟩
  rcases h.2 with hn | ⟨g, cap, cur, rfl, hB, hgg, rest⟩
  · exact Or.inl hn
  · refine Or.inr ⟨g, cap, cur, rfl, hB, (hg.block g (Array.getElem?_eq_some_iff.1 hgg).1 ?_).trans hgg, rest⟩
    rcases hne with h | h | h
    · cases h
    · rw [h]; intro e; cases e
    · exact h
theorem step_app2 {P : Program} {ops : Array Oper} {o : Oper} {a : Act} {w : World} {K : Act → World → Prop} {Q : Exit → Act → World → Prop} {E : Prop} (hgd : o.guard = none) (s x : Operand) (t : TypeId)
    (ho : o.op = .call { callee := .builtin .append, args := #[s, x], argTypes := #[t, t] })
    (base : Nat) (e : TypeId) (i : TypeInfo) (z : Value) (bytes : Nat) (ht : P.underlying t = some (.slice e)) (hi : P.info? e = some i) (hz : i.zero = some z)
    (hsize : i.size = 1) (hby : i.bytes = bytes) (hzs : z.cells.size = 1)
    (v : Value) (n : Nat) (xs : List Value) (hs : a.eval s = v) (hown : w.ownsRow base e 1 v n xs)
    (ad : Addr) (m c : Nat) (news : List Value) (hx : a.eval x = .slice (some ad) m c) (hl : news.length = m * 1) (hm : 0 < m) (hnews : ∀ j u, news[j]? = some u → w.cell? (ad.add j) = some u) (h1 : ∀ u ∈ news, u.oneCell' = true)
    (h63 : n + m ≤ maxLen) (hbytes : (n + m) * bytes ≤ 140737488355328) (hbase : base ≤ w.heap.size)
    (h : ∀ g cap w', w'.ownsRow base e 1 (.slice (some ⟨g, 0, none⟩) (n + m) cap) (n + m) (xs ++ news) → w.grownBy w' v.ownBlock → w'.ownsRow base e 1 v n xs → (v.ownBlock = some g ∨ w.heap.size ≤ g) → K (a.put o.dst (.slice (some ⟨g, 0, none⟩) (n + m) cap)) w') :
    if Region.wanted o (yielded ops a.tmps) = true then Oper.wp P o a w K Q else E := by
  rcases hown.2 with ⟨rfl, rfl⟩ | ⟨g0, cap0, cur, rfl, hB, hg0, _⟩
  · have hxs : xs = [] := List.eq_nil_of_length_eq_zero (by have := hown.1; simpa using this)
    subst hxs
    refine step_append_grows hgd s x t ho e i z 1 bytes ht hi hz hsize hby hzs (by omega) none 0 0 [] hs (fun _ => ⟨rfl, rfl⟩) rfl (fun b hb => by cases hb) ad m c news hx hl hnews h1 (by omega) h63 hbytes fun v' w' h2 h3 => ?_
    obtain ⟨g, cap, rfl, hg, _⟩ := own_pos h2 (by omega)
    exact h g cap w' (ownsRow_mono h2 hbase) h3 (World.ownsRow_nil _ _ _ _) (Or.inr hg)
  · by_cases hr : n + m ≤ cap0
    · exact step_fits hgd s x t ho base e i 1 ht hi hsize g0 n cap0 xs hs hown ad m c news hx hl hnews h1 hr fun w' h2 h3 => h g0 cap0 w' h2 h3 (ownsRow_less h2 hown.1) (Or.inl rfl)
    · refine step_append_grows hgd s x t ho e i z 1 bytes ht hi hz hsize hby hzs (by omega) (some ⟨g0, 0, none⟩) n cap0 xs hs (fun e => by cases e) hown.1 (fun b hb j u hj => by injection hb with hb; subst hb; exact hown.cells rfl j u hj) ad m c news hx hl hnews h1 (by omega) h63 hbytes fun v' w' h2 h3 => ?_
      obtain ⟨g, cap, rfl, hg, _⟩ := own_pos h2 (by omega)
      exact h g cap w' (ownsRow_mono h2 hbase) (grownBy_more h3) (own_other hown (u := .slice none 0 0) h3 (Or.inr (Or.inl rfl))) (Or.inr hg)
structure OS (w : World) (gp : Nat) (ps : List Nat) (vK vH : Value) (nK nH : Nat) (xK xH : List Value) (w' : World) : Prop where
  below : Below w.heap.size w w'
  primes : ∀ j, (h : j < ps.length) → w'.cell? ⟨gp, j, none⟩ = some (.int .i64 (ps[j] : Nat))
  gpl : gp < w'.heap.size
  gpb : w.heap.size + 2 ≤ gp
  big : w.heap.size + 2 ≤ w'.heap.size
  ownK : w'.ownsRow (w.heap.size + 2) 77 1 vK nK xK
  ownH : w'.ownsRow (w.heap.size + 2) 77 1 vH nH xH
  neK : vK.ownBlock ≠ some gp
  neH : vH.ownBlock ≠ some gp
  ne : vK.ownBlock = none ∨ vH.ownBlock = none ∨ vK.ownBlock ≠ vH.ownBlock
  res : ∃ R : Array Value, R.size = 15 ∧ w'.heap[w.heap.size]? = some (.cells R 75 (0, 0))
theorem OS.step {w w1 w2 : World} {gp : Nat} {ps : List Nat} {vK vH : Value} {nK nH : Nat} {xK xH : List Value} (h : OS w gp ps vK vH nK nH xK xH w1) (hb : Below w1.heap.size w1 w2) : OS w gp ps vK vH nK nH xK xH w2 :=
  ⟨h.below.trans (hb.mono (by have := h.big; omega)), fun j hj => (hb.cell (p := ⟨gp, j, none⟩) h.gpl).trans (h.primes j hj), Nat.lt_of_lt_of_le h.gpl hb.size, h.gpb, Nat.le_trans h.big hb.size, ownsRow_below h.ownK hb, ownsRow_below h.ownH hb, h.neK, h.neH, h.ne, by obtain ⟨R, hR, hr⟩ := h.res; exact ⟨R, hR, (hb.block _ (by have := h.big; omega)).trans hr⟩⟩
theorem own_setCell {w : World} {B b j : Nat} {e : TypeId} {v u : Value} {n : Nat} {xs : List Value} (h : w.ownsRow B e 1 v n xs) (hb : b < B) : (w.setCell ⟨b, j, none⟩ u).ownsRow B e 1 v n xs := ownsRow_setCell_below h hb u
theorem OS.set {w w1 : World} {gp : Nat} {ps : List Nat} {vK vH : Value} {nK nH : Nat} {xK xH : List Value} (h : OS w gp ps vK vH nK nH xK xH w1) (j : Nat) (u : Value) : OS w gp ps vK vH nK nH xK xH (w1.setCell ⟨w.heap.size + 1, j, none⟩ u) :=
  have hz : (w1.setCell ⟨w.heap.size + 1, j, none⟩ u).heap.size = w1.heap.size := by simp [World.setCell]
  ⟨h.below.setCell (by show w.heap.size ≤ w.heap.size + 1; omega) u, fun k hk => (World.cell?_of_block (w := w1) (heap_setCell_other w1 ⟨w.heap.size + 1, j, none⟩ gp u (by have := h.gpb; show gp ≠ w.heap.size + 1; omega))).trans (h.primes k hk), by rw [hz]; exact h.gpl, h.gpb, by rw [hz]; exact h.big, own_setCell h.ownK (by omega), own_setCell h.ownH (by omega), h.neK, h.neH, h.ne, by obtain ⟨R, hR, hr⟩ := h.res; exact ⟨R, hR, (heap_setCell_other w1 ⟨w.heap.size + 1, j, none⟩ w.heap.size u (by show w.heap.size ≠ w.heap.size + 1; omega)).trans hr⟩⟩
theorem OS.grow {w w1 w2 : World} {gp : Nat} {ps : List Nat} {vK vH v : Value} {nK nH : Nat} {xK xH : List Value} (h : OS w gp ps vK vH nK nH xK xH w1) (hg : w1.grownBy w2 v.ownBlock) (hv : v.ownBlock ≠ some gp) (hbl : ∀ k, v.ownBlock = some k → w.heap.size + 2 ≤ k) (oK : w2.ownsRow (w.heap.size + 2) 77 1 vK nK xK) (oH : w2.ownsRow (w.heap.size + 2) 77 1 vH nH xH) : OS w gp ps vK vH nK nH xK xH w2 :=
  ⟨h.below.grown hg (by have := h.big; omega) (fun k hk => by have := hbl k hk; omega), fun j hj => (World.cell?_of_block (w := w1) (hg.block gp h.gpl (fun e => hv e.symm))).trans (h.primes j hj), Nat.lt_of_lt_of_le h.gpl hg.size, h.gpb, Nat.le_trans h.big hg.size, oK, oH, h.neK, h.neH, h.ne, by obtain ⟨R, hR, hr⟩ := h.res; exact ⟨R, hR, (hg.block _ (by have := h.big; omega) (fun e => by have := hbl _ e.symm; omega)).trans hr⟩⟩
theorem OS.swap {w w1 : World} {gp : Nat} {ps : List Nat} {vK vH : Value} {nK nH : Nat} {xK xH : List Value} (h : OS w gp ps vK vH nK nH xK xH w1) : OS w gp ps vH vK nH nK xH xK w1 :=
  ⟨h.below, h.primes, h.gpl, h.gpb, h.big, h.ownH, h.ownK, h.neH, h.neK, h.ne.elim (fun e => Or.inr (Or.inl e)) (fun e => e.elim (fun e => Or.inl e) (fun e => Or.inr (Or.inr (Ne.symm e)))), h.res⟩
theorem own_blk {w : World} {B : Nat} {e : TypeId} {v : Value} {n : Nat} {xs : List Value} (h : w.ownsRow B e 1 v n xs) : ∀ k, v.ownBlock = some k → B ≤ k ∧ k < w.heap.size := by
  intro k hk
  rcases h.2 with ⟨rfl, _⟩ | ⟨g, cap, cur, rfl, hB, hg, _⟩
  · cases hk
  · obtain rfl : g = k := by injection hk
    exact ⟨hB, (Array.getElem?_eq_some_iff.1 hg).1⟩
abbrev SE (w : World) (gp : Nat) (ps : List Nat) (vK vH : Value) (nK nH : Nat) (xK xH : List Value) (i p : Nat) (W : Int) (w' : World) : Prop :=
  w'.cell? ⟨gp, i, none⟩ = some (.int .i64 (p : Nat)) ∧ w'.cell? ⟨w.heap.size + 1, 0, none⟩ = some (.int .i64 W) ∧ Hid (OS w gp ps vK vH nK nH xK xH w')
theorem SE.step {w w1 w2 : World} {gp : Nat} {ps : List Nat} {vK vH : Value} {nK nH : Nat} {xK xH : List Value} {i p : Nat} {W : Int} (h : SE w gp ps vK vH nK nH xK xH i p W w1) (hb : Below w1.heap.size w1 w2) : SE w gp ps vK vH nK nH xK xH i p W w2 :=
  ⟨(hb.cell (p := ⟨gp, i, none⟩) h.2.2.out.gpl).trans h.1, (hb.cell (p := ⟨w.heap.size + 1, 0, none⟩) (by have := h.2.2.out.big; show w.heap.size + 1 < _; omega)).trans h.2.1, h.2.2.out.step hb⟩
theorem SE.own {w w1 : World} {gp : Nat} {ps : List Nat} {vK vH : Value} {nK nH : Nat} {xK xH : List Value} {i p : Nat} {W : Int} (h : SE w gp ps vK vH nK nH xK xH i p W w1) : w1.ownsRow (w.heap.size + 2) 77 1 vK nK xK := h.2.2.out.ownK
theorem SE.big {w w1 : World} {gp : Nat} {ps : List Nat} {vK vH : Value} {nK nH : Nat} {xK xH : List Value} {i p : Nat} {W : Int} (h : SE w gp ps vK vH nK nH xK xH i p W w1) : w.heap.size + 2 ≤ w1.heap.size := h.2.2.out.big
theorem SE.set {w w1 : World} {gp : Nat} {ps : List Nat} {vK vH : Value} {nK nH : Nat} {xK xH : List Value} {i p j : Nat} {W : Int} {u : Value} {T : TypeId} {cs : Array Value} (h : SE w gp ps vK vH nK nH xK xH i p W w1) (hh : w1.heap[w.heap.size + 1]? = some (.cells cs T (0, 0))) (hj : j ≠ 0) : SE w gp ps vK vH nK nH xK xH i p W (w1.setCell ⟨w.heap.size + 1, j, none⟩ u) := by
  have hs := h.2.2.out
  refine ⟨(World.cell?_of_block (w := w1) (heap_setCell_other w1 ⟨w.heap.size + 1, j, none⟩ gp u (by have := hs.gpb; show gp ≠ w.heap.size + 1; omega))).trans h.1, ?_, hs.set j u⟩
  have h1 := heap_setCell_same w1 (w.heap.size + 1) j cs T u hh
  rw [cell_of_row _ _ 0 _ _ _ h1, Array.getElem?_setIfInBounds_ne hj, ← cell_of_row w1 _ 0 _ _ _ hh]
  exact h.2.1
end Go.Proofs.YtgnblaaldpniiaaGreatDoor.Sh
end
