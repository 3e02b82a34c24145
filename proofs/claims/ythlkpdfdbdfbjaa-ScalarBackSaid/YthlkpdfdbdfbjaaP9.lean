/- Package scalar: the bytes of a number. -/
import Derived.Test.YthlkpdfdbdfbjaaP8
set_option linter.unusedSimpArgs false
set_option linter.unusedVariables false
namespace Go.Proofs.Ythlkpdfdbdfbjaa
open Go.RowKit
def b4 (y : Nat) : List UInt8 := [UInt8.ofNat y, UInt8.ofNat (y / 256), UInt8.ofNat (y / 65536), UInt8.ofNat (y / 16777216)]
/-- The 32 bytes of a number. -/
def leB (x : Nat) : List UInt8 := ((nL x).take 8).flatMap b4
theorem flat_len : ∀ (ws : List Nat), (ws.flatMap b4).length = 4 * ws.length
  | [] => rfl
  | y :: r => by rw [List.flatMap_cons, List.length_append, flat_len r, List.length_cons]; simp [b4]; omega
theorem flat_val : ∀ (ws : List Nat), (∀ x ∈ ws, x < 4294967296) → numB (ws.flatMap b4) = valB 4294967296 ws
  | [], _ => rfl
  | y :: r, h => by
    have ih := flat_val r fun z hz => h z (by simp [hz])
    have hy := h y (by simp)
    rw [List.flatMap_cons, valB, ← ih]
    simp [b4, numB, digs, valB]
    omega
theorem leB_len (x : Nat) : (leB x).length = 32 := by unfold leB; rw [flat_len, half_len]
theorem leB_num (x : Nat) (h : x < mid) : numB (leB x) = x := by unfold leB; rw [flat_val _ (half_lt x), half_val x h]
theorem o_mid : oN < mid := by decide +kernel
theorem leB_scB (x : Nat) : leB (x % oN) = scB x := by
  have hx : x % oN < oN := Nat.mod_lt _ o_pos
  have e := limbs_val (B := 256) (by decide) (digs (leB (x % oN))) (digs_lt _)
  rw [digs_len, leB_len] at e
  have h2 := leB_num (x % oN) (Nat.lt_trans hx o_mid)
  unfold numB at h2
  rw [h2] at e
  rw [← back_lt (leB (x % oN)), ← e]
  rfl
theorem byte0 (y : Nat) : (y : Int) % 256 = ((UInt8.ofNat y).toNat : Int) := by simp
theorem byte1 (y : Nat) : (y : Int) / 256 % 256 = ((UInt8.ofNat (y / 256)).toNat : Int) := by simp
theorem byte2 (y : Nat) : (y : Int) / 65536 % 256 = ((UInt8.ofNat (y / 65536)).toNat : Int) := by simp
theorem byte3 (y : Nat) (h : y < 4294967296) : (y : Int) / 16777216 = ((UInt8.ofNat (y / 16777216)).toNat : Int) := by simp; omega
theorem b4_cells (y : Nat) : Lib.byteCells (b4 y) = [Value.int .u8 ((UInt8.ofNat y).toNat : Nat), Value.int .u8 ((UInt8.ofNat (y / 256)).toNat : Nat), Value.int .u8 ((UInt8.ofNat (y / 65536)).toNat : Nat), Value.int .u8 ((UInt8.ofNat (y / 16777216)).toNat : Nat)] := rfl
set_option maxHeartbeats 1000000 in
theorem bytes_any (x : Nat) (wS : World) : Calls Try.prog 25 #[numV x] wS fun e w' => e = .returned (.string (S (leB x))) ∧ Below wS.heap.size wS w' := by
  obtain ⟨i0, hi0, hz0, hz1, hz2⟩ := info_parts info5
  obtain ⟨a, ha⟩ : ∃ a, nL x = a := ⟨_, rfl⟩
  have hal : a.length = 16 := by rw [← ha, nL_len]
  have haW : ∀ x ∈ a, x < 4294967296 := ha ▸ nL_lt x
  obtain ⟨tot, htot⟩ : ∃ t, leB x = t := ⟨_, rfl⟩
  have htt : (a.take 8).flatMap b4 = tot := by rw [← htot, ← ha]; rfl
  rw [htot]
  obtain ⟨p, hp⟩ : ∃ p, a.take 8 = p := ⟨_, rfl⟩
  have hpl : p.length = 8 := by rw [← hp, List.length_take, hal]; rfl
  have hpg : ∀ i, i < 8 → p.getD i 0 = a.getD i 0 := fun i hi => by rw [← hp]; simp [hi]
  rw [hp] at htt
  obtain ⟨A, hA⟩ : ∃ A, (numC .u32 a).toArray = A := ⟨_, rfl⟩
  unfold numV aggN
  rw [ha, hA]
  replace ha := Kept.mk ha
  replace hal := Kept.mk hal
  replace haW := Kept.mk haW
  replace htt := Kept.mk htt
  replace htot := Kept.mk htot
  replace hp := Kept.mk hp
  replace hpl := Kept.mk hpl
  replace hpg := Kept.mk hpg
  go_enter Try.func25, Try.ntmps25
  go_wp2_with (refine wpList_make_own _ rfl _ _ 31 rfl (wS.heap.size + 1) 5 i0 (.int .u8 0) 1 Try.underlying31 hi0 hz0 hz1 .i64 .i64 32 32 rfl rfl rfl (by rw [hz2]; omega) (by unfold maxLen; omega) (by simp) ?_; intro w1 ho1 hg1)
  have h1 : Arr w1 wS.heap.size 41 .u32 a := by
    have h := Arr.new wS 41 .u32 a
    rw [hA] at h
    exact h.of_heap (hg1.block _ (by simp) (by intro e; cases e))
  have h4 : Below wS.heap.size wS w1 := ((Below.refl _ _).alloc (Nat.le_refl _) _).grown hg1 (by simp) (fun _ e => by cases e)
  have hsz1 : wS.heap.size + 1 ≤ w1.heap.size := by have := hg1.size; simpa using this
  replace hA := Kept.mk hA
  clear hg1
  obtain ⟨n, hn⟩ : ∃ n, wS.heap.size = n := ⟨_, rfl⟩
  rw [World.size_alloc] at ho1
  rw [hn] at h1 ho1 hsz1 ⊢
  generalize Value.slice (some ⟨n + 1, 0, none⟩) 0 32 = v0 at ho1 ⊢
  replace h1 := Kept.mk h1
  replace h4 := Kept.mk h4
  replace ho1 := Kept.mk ho1
  replace hn := Kept.mk hn
  go_loopw [3, 9] (fun v3 v9 wr => ∃ (i : Nat) (acc : List UInt8), i ≤ 8 ∧ v9 = .int .i64 (i : Int) ∧ Kept (acc.length = 4 * i) ∧ Kept (wr.ownsRow (n + 1) 5 1 v3 acc.length (Lib.byteCells acc)) ∧ n + 1 ≤ wr.heap.size ∧ Kept (Arr wr n 41 .u32 a) ∧ Kept (Below wS.heap.size wS wr) ∧ Kept (acc ++ (p.drop i).flatMap b4 = tot)) (fun _ v9 _ => 8 - (RowKit.intOf v9).toNat)
  case atStart => exact ⟨0, [], by omega, rfl, ⟨rfl⟩, ho1, hsz1, h1, h4, htt⟩
  case round =>
    clear h1 h4 ho1 hsz1
    obtain ⟨i, acc, hi, rfl, hacl, HO, hsz, H1, H4, HT⟩ := hrel
    obtain ⟨AA, cap, rfl⟩ := own_form HO.out
    have hle : acc.length ≤ 32 := by have := hacl.out; omega
    by_cases hlt : i < 8
    · obtain ⟨y, hy⟩ : ∃ y, a.getD i 0 = y := ⟨_, rfl⟩
      have hda := drop_getD p i (by rw [hpl.out]; exact hlt)
      rw [hpg.out i hlt, hy] at hda
      have hyl : y < 4294967296 := hy ▸ getD_ltN haW.out i (by rw [hal.out]; omega)
      have c1 : wr.cell? ⟨n, i, none⟩ = some (.int .u32 (y : Int)) := hy ▸ H1.out.cell i (by rw [hal.out]; omega)
      have hlti : (i : Int) < 8 := by omega
      replace hy := Kept.mk hy
      replace hda := Kept.mk hda
      have hb4 : Lib.byteCells (b4 y) = [.int .u8 ((y : Int) % 256), .int .u8 ((y : Int) / 256 % 256), .int .u8 ((y : Int) / 65536 % 256), .int .u8 ((y : Int) / 16777216)] := by
        rw [byte0, byte1, byte2, byte3 y hyl]; rfl
      replace hb4 := Kept.mk hb4
      go_wp2_with (at_builtin; refine wpList_append_own _ rfl _ _ 31 rfl (n + 1) 5 i0 (.int .u8 0) 1 1 Try.underlying31 hi0 hz0 hz1 hz2 rfl (by decide) _ _ _ rfl (HO.out.alloc _) ⟨wr.heap.size, 0, none⟩ 4 4 [.int .u8 ((y : Int) % 256), .int .u8 ((y : Int) / 256 % 256), .int .u8 ((y : Int) / 65536 % 256), .int .u8 ((y : Int) / 16777216)] rfl rfl ?c1 ?c2 ?c3 ?c4 ?c5 ?_)
      case c1 => exact row_new wr [_, _, _, _] 5
      case c2 => intro u hu; simp at hu; rcases hu with rfl | rfl | rfl | rfl <;> rfl
      case c3 => unfold maxLen; omega
      case c4 => omega
      case c5 => rw [World.size_alloc]; omega
      intro v' w7 ho7 hgr _
      have hown := HO.out
      have hAA : ∀ g, (Value.slice AA acc.length cap).ownBlock = some g → n + 1 ≤ g := fun g hg => (hown.lt g hg).1
      have H17 : Arr w7 n 41 .u32 a := (H1.out.from ((Below.refl _ _).alloc (Nat.le_refl _) _)).of_heap (hgr.block n (by rw [World.size_alloc]; omega) (fun e => by have := hAA n e.symm; omega))
      have b7 : Below wS.heap.size wS w7 := (H4.out.alloc (by rw [hn.out]; omega) _).grown hgr (by rw [World.size_alloc, hn.out]; omega) (fun g hg => by have := hAA g hg; rw [hn.out]; omega)
      have s7 : n + 1 ≤ w7.heap.size := by have := hgr.size; rw [World.size_alloc] at this; omega
      have ho8 : w7.ownsRow (n + 1) 5 1 v' (acc ++ b4 y).length (Lib.byteCells (acc ++ b4 y)) := by
        rw [Lib.byteCells_append, List.length_append, hb4.out]; exact ho7
      clear ho7 hgr hown hAA
      replace H17 := Kept.mk H17
      replace b7 := Kept.mk b7
      replace ho8 := Kept.mk ho8
      go_wp2
      go_roundw
      case rel => exact ⟨i + 1, acc ++ b4 y, by omega, val_eq (by omega), ⟨by have := hacl.out; rw [List.length_append]; simp [b4]; omega⟩, ho8, s7, H17, b7, ⟨by have h := HT.out; rw [hda.out, List.flatMap_cons] at h; rw [List.append_assoc]; exact h⟩⟩
      case measure => first | (simp [RowKit.intOf]; done) | (simp [RowKit.intOf]; omega)
    · obtain rfl : i = 8 := by omega
      have hd : acc = tot := by have h := HT.out; rw [List.drop_eq_nil_of_le (by rw [hpl.out]; omega), List.flatMap_nil, List.append_nil] at h; exact h
      have hcv := conv_own HO.out
      rw [hd] at hcv
      have Hd := Kept.mk hd
      clear hd HT
      rw [show acc.length = tot.length by rw [Hd.out]]
      go_wp2
      go_ret
      exact ⟨rfl, H4.out⟩
end Go.Proofs.Ythlkpdfdbdfbjaa
