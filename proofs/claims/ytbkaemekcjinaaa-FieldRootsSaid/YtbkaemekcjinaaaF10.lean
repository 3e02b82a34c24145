/- Package field: the bytes of a number. -/
import Derived.Test.YtbkaemekcjinaaaF9
set_option linter.unusedSimpArgs false
set_option linter.unusedVariables false
namespace Go.Proofs.Ytbkaemekcjinaaa
open Go.RowKit
def b4 (y : Nat) : List UInt8 := [UInt8.ofNat y, UInt8.ofNat (y / 256), UInt8.ofNat (y / 65536), UInt8.ofNat (y / 16777216)]
/-- The bytes of a number. -/
def leB (x : Nat) : List UInt8 := (nL x).flatMap b4
theorem flat_len : ∀ (ws : List Nat), (ws.flatMap b4).length = 4 * ws.length
  | [] => rfl
  | y :: r => by rw [List.flatMap_cons, List.length_append, flat_len r, List.length_cons]; simp [b4]; omega
theorem flat_val : ∀ (ws : List Nat), (∀ x ∈ ws, x < 4294967296) → numB (ws.flatMap b4) = valB 4294967296 ws
  | [], _ => rfl
  | y :: r, h => by
    have ih := flat_val r fun z hz => h z (by simp [hz])
    have hy := h y (by simp)
    rw [List.flatMap_cons, valB, ← ih]
    simp [b4, numB, valB]
    omega
theorem leB_len (x : Nat) : (leB x).length = 32 := by unfold leB; rw [flat_len, nL_len]
theorem numB_leB (x : Nat) (h : x < big) : numB (leB x) = x := by unfold leB; rw [flat_val _ (nL_lt x), nL_val x h]
theorem bytes_of (l : List UInt8) : (limbs 256 l.length (numB l)).map UInt8.ofNat = l := by
  unfold numB
  have h := limbs_val (B := 256) (by decide) (l.map (·.toNat)) (fun x hx => by obtain ⟨b, _, rfl⟩ := List.mem_map.1 hx; exact b.toNat_lt)
  rw [List.length_map] at h
  rw [h, List.map_map]
  conv => rhs; rw [← List.map_id l]
  refine List.map_congr_left fun b _ => ?_
  simp
theorem leB_numB (l : List UInt8) (h : l.length = 32) (hb : numB l < big) : leB (numB l) = l := by
  rw [← bytes_of (leB (numB l)), leB_len, numB_leB _ hb, ← h, bytes_of]
theorem numB_lt (l : List UInt8) (h : l.length = 32) : numB l < big := by
  have h2 := valB_lt (B := 256) (by decide) (l.map (·.toNat)) (fun x hx => by obtain ⟨b, _, rfl⟩ := List.mem_map.1 hx; exact b.toNat_lt)
  rw [List.length_map, h, show (256 : Nat) ^ 32 = big by decide +kernel] at h2
  exact h2
theorem leB_inj {x y : Nat} (hx : x < big) (hy : y < big) (h : leB x = leB y) : x = y := by rw [← numB_leB x hx, ← numB_leB y hy, h]
def BytesPost (x : Nat) (w : World) (e : Ending) (w' : World) : Prop := e = .returned (.string (S (leB x))) ∧ Below w.heap.size w w'
theorem byte0 (y : Nat) : (y : Int) % 256 = ((UInt8.ofNat y).toNat : Int) := by simp
theorem byte1 (y : Nat) : (y : Int) / 256 % 256 = ((UInt8.ofNat (y / 256)).toNat : Int) := by simp
theorem byte2 (y : Nat) : (y : Int) / 65536 % 256 = ((UInt8.ofNat (y / 65536)).toNat : Int) := by simp
theorem byte3 (y : Nat) (h : y < 4294967296) : (y : Int) / 16777216 = ((UInt8.ofNat (y / 16777216)).toNat : Int) := by simp; omega
theorem b4_cells (y : Nat) : Lib.byteCells (b4 y) = [Value.int .u8 ((UInt8.ofNat y).toNat : Nat), Value.int .u8 ((UInt8.ofNat (y / 256)).toNat : Nat), Value.int .u8 ((UInt8.ofNat (y / 65536)).toNat : Nat), Value.int .u8 ((UInt8.ofNat (y / 16777216)).toNat : Nat)] := rfl
set_option maxHeartbeats 1000000 in
theorem bytes_any (x : Nat) (wS : World) : Calls Try.prog 28 #[numV x] wS (BytesPost x wS) := by
  obtain ⟨i0, hi0, hz0, hz1, hz2⟩ := info_parts info5
  obtain ⟨a, ha⟩ : ∃ a, nL x = a := ⟨_, rfl⟩
  have hal : a.length = 8 := by rw [← ha, nL_len]
  have haW : ∀ x ∈ a, x < 4294967296 := ha ▸ nL_lt x
  obtain ⟨tot, htot⟩ : ∃ t, leB x = t := ⟨_, rfl⟩
  have htt : a.flatMap b4 = tot := by rw [← htot, ← ha]; rfl
  unfold BytesPost
  rw [htot]
  obtain ⟨A, hA⟩ : ∃ A, (numC .u32 a).toArray = A := ⟨_, rfl⟩
  unfold numV aggN
  rw [ha, hA]
  replace ha := Kept.mk ha
  replace hal := Kept.mk hal
  replace haW := Kept.mk haW
  replace htt := Kept.mk htt
  replace htot := Kept.mk htot
  go_enter Try.func28, Try.ntmps28
  go_wp2_with (refine wpList_make_own _ rfl _ _ 58 rfl (wS.heap.size + 1) 5 i0 (.int .u8 0) 1 Try.underlying58 hi0 hz0 hz1 .i64 .i64 32 32 rfl rfl rfl (by rw [hz2]; omega) (by unfold maxLen; omega) (by simp) ?_; intro w1 ho1 hg1)
  have h1 : Arr w1 wS.heap.size 35 .u32 a := by
    have h := Arr.new wS 35 .u32 a
    rw [hA] at h
    exact h.of_heap (hg1.block _ (by simp) (by intro e; cases e))
  have h4 : Below wS.heap.size wS w1 := ((Below.refl _ _).alloc (Nat.le_refl _) _).grown hg1 (by simp) (fun _ e => by cases e)
  have hsz1 : wS.heap.size + 1 ≤ w1.heap.size := by have := hg1.size; simpa using this
  replace hA := Kept.mk hA
  clear hg1
  obtain ⟨n, hn⟩ : ∃ n, wS.heap.size = n := ⟨_, rfl⟩
  rw [World.size_alloc] at ho1
  rw [hn] at h1 ho1 hsz1 ⊢
  generalize Value.slice (some ⟨n + 1, 0, none⟩) 0 32 = v0 at ho1 ⊢
  replace h1 := Kept.mk h1
  replace h4 := Kept.mk h4
  replace ho1 := Kept.mk ho1
  replace hn := Kept.mk hn
  go_loopw [3, 6] (fun v3 v6 wr => ∃ (i : Nat) (acc : List UInt8), i ≤ 8 ∧ v6 = .int .i64 (i : Int) ∧ Kept (acc.length = 4 * i) ∧ Kept (wr.ownsRow (n + 1) 5 1 v3 acc.length (Lib.byteCells acc)) ∧ n + 1 ≤ wr.heap.size ∧ Kept (Arr wr n 35 .u32 a) ∧ Kept (Below wS.heap.size wS wr) ∧ Kept (acc ++ (a.drop i).flatMap b4 = tot)) (fun _ v6 _ => 8 - (RowKit.intOf v6).toNat)
  case atStart => exact ⟨0, [], by omega, rfl, ⟨rfl⟩, ho1, hsz1, h1, h4, htt⟩
  case round =>
    clear h1 h4 ho1 hsz1
    obtain ⟨i, acc, hi, rfl, hacl, HO, hsz, H1, H4, HT⟩ := hrel
    obtain ⟨AA, cap, rfl⟩ := own_form HO.out
    have hle : acc.length ≤ 32 := by have := hacl.out; omega
    by_cases hlt : i < 8
    · obtain ⟨y, hy⟩ : ∃ y, a.getD i 0 = y := ⟨_, rfl⟩
      have hda := drop_getD a i (by rw [hal.out]; exact hlt)
      rw [hy] at hda
      have hyl : y < 4294967296 := hy ▸ getD_ltN haW.out i (by rw [hal.out]; exact hlt)
      have c1 : ∀ u : Held (From wr.drew), u.w.cell? ⟨n, i, none⟩ = some (.int .u32 (y : Int)) := fun u => hy ▸ (H1.out.from u.h.of_drew).cell i (by rw [hal.out]; exact hlt)
      have hlti : (i : Int) < 8 := by omega
      replace hy := Kept.mk hy
      replace hda := Kept.mk hda
      go_wp2
      refine wp_region_from_tailP 20 0 _ (.tmp 3) rfl rfl rfl (by kernel_rfl) (by kernel_rfl) (fun _ _ _ h => h) ?_
      simp only [List.take_succ_cons, List.take_zero, List.drop_succ_cons, List.drop_zero, List.eraseIdx_cons_zero, Act.put, Act.eval, List.setIfInBounds_toArray, List.set_cons_succ, List.set_cons_zero, Array.getD_eq_getD_getElem?, List.getElem?_toArray, List.getElem?_cons_succ, List.getElem?_cons_zero, Option.getD_some]
      repeat (go_big_quiet_step (fail))
      refine wpQuiet_nil ?_
      intro w5 hw5
      rw [byte0, byte1, byte2, byte3 y hyl]
      have H15 := H1.out.from hw5.of_drew
      have b5 := H4.out.trans (hw5.of_drew.mono H4.out.size)
      have o5 := ownsRow_below HO.out hw5.of_drew
      have s5 : n + 1 ≤ w5.heap.size := Nat.le_trans hsz hw5.of_drew.size
      replace H15 := Kept.mk H15
      replace b5 := Kept.mk b5
      replace o5 := Kept.mk o5
      have hb4 := Kept.mk (b4_cells y)
      obtain ⟨e0, he0⟩ : ∃ e, (UInt8.ofNat y).toNat = e := ⟨_, rfl⟩
      obtain ⟨e1, he1⟩ : ∃ e, (UInt8.ofNat (y / 256)).toNat = e := ⟨_, rfl⟩
      obtain ⟨e2, he2⟩ : ∃ e, (UInt8.ofNat (y / 65536)).toNat = e := ⟨_, rfl⟩
      obtain ⟨e3, he3⟩ : ∃ e, (UInt8.ofNat (y / 16777216)).toNat = e := ⟨_, rfl⟩
      rw [he0, he1, he2, he3] at hb4 ⊢
      replace he0 := Kept.mk he0
      replace he1 := Kept.mk he1
      replace he2 := Kept.mk he2
      replace he3 := Kept.mk he3
      clear c1 hw5 HO H1 H4
      go_wp2_with (at_builtin; refine wpList_append_own _ rfl _ _ 58 rfl (n + 1) 5 i0 (.int .u8 0) 1 1 Try.underlying58 hi0 hz0 hz1 hz2 rfl (by decide) _ _ _ rfl (o5.out.alloc _) ⟨w5.heap.size, 0, none⟩ 4 4 [.int .u8 (e0 : Int), .int .u8 (e1 : Int), .int .u8 (e2 : Int), .int .u8 (e3 : Int)] rfl rfl ?c1 ?c2 ?c3 ?c4 ?c5 ?_)
      case c1 => exact row_new w5 [_, _, _, _] 5
      case c2 => intro u hu; simp at hu; rcases hu with rfl | rfl | rfl | rfl <;> rfl
      case c3 => unfold maxLen; omega
      case c4 => omega
      case c5 => rw [World.size_alloc]; omega
      intro v' w7 ho7 hgr _
      have hown := o5.out
      have hAA : ∀ g, (Value.slice AA acc.length cap).ownBlock = some g → n + 1 ≤ g := fun g hg => (hown.lt g hg).1
      have H17 : Arr w7 n 35 .u32 a := (H15.out.from ((Below.refl _ _).alloc (Nat.le_refl _) _)).of_heap (hgr.block n (by rw [World.size_alloc]; omega) (fun e => by have := hAA n e.symm; omega))
      have b7 : Below wS.heap.size wS w7 := (b5.out.alloc (by rw [hn.out]; omega) _).grown hgr (by rw [World.size_alloc, hn.out]; omega) (fun g hg => by have := hAA g hg; rw [hn.out]; omega)
      have s7 : n + 1 ≤ w7.heap.size := by have := hgr.size; rw [World.size_alloc] at this; omega
      have ho8 : w7.ownsRow (n + 1) 5 1 v' (acc ++ b4 y).length (Lib.byteCells (acc ++ b4 y)) := by
        rw [Lib.byteCells_append, List.length_append, hb4.out]; exact ho7
      clear ho7 hgr hown hAA
      replace H17 := Kept.mk H17
      replace b7 := Kept.mk b7
      replace ho8 := Kept.mk ho8
      go_wp2
      go_roundw
      case rel => exact ⟨i + 1, acc ++ b4 y, by omega, val_eq (by omega), ⟨by have := hacl.out; rw [List.length_append]; simp [b4]; omega⟩, ho8, s7, H17, b7, ⟨by have h := HT.out; rw [hda.out, List.flatMap_cons] at h; rw [List.append_assoc]; exact h⟩⟩
      case measure => simp [RowKit.intOf]; omega
    · obtain rfl : i = 8 := by omega
      have hd : acc = tot := by have h := HT.out; rw [List.drop_eq_nil_of_le (by rw [hal.out]; omega), List.flatMap_nil, List.append_nil] at h; exact h
      have hcv := conv_own HO.out
      rw [hd] at hcv
      have Hd := Kept.mk hd
      clear hd HT
      rw [show acc.length = tot.length by rw [Hd.out]]
      go_wp2
      go_ret
      exact ⟨rfl, H4.out⟩
end Go.Proofs.Ytbkaemekcjinaaa
