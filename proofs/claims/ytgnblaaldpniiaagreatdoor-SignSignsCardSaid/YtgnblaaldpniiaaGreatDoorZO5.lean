/- Package scalar: the number of bytes.
Package scalar: the bytes of a number.
Package scalar: its calls. -/
import Derived.Test.YtgnblaaldpniiaaGreatDoorZO4
import Derived.Test.YtgnblaaldpniiaaGreatDoorZO2
section
set_option linter.unusedSimpArgs false
set_option linter.unusedVariables false
set_option maxRecDepth 100000
namespace Go.Proofs.YtgnblaaldpniiaaGreatDoor.Sc
open Go.RowKit
theorem Mem.setw {w0 w : World} {L : List (Nat × Nat)} {g x : Nat} (H : Mem w0 w ((g, x) :: L)) (i v y : Nat) (hy : (nL x).set i v = nL y) (u : Int) (hu : u = (v : Int)) : Mem w0 (w.setCell ⟨g, i, none⟩ (.int .u32 u)) ((g, y) :: L) := by
  subst hu
  have hn := (List.nodup_cons.1 (show (g :: L.map (·.1)).Nodup from H.apart)).1
  have h0 : Arr w g 87 .u32 (nL x) := ⟨H.holds g x (.head _)⟩
  refine ⟨H.below.setCell (H.ours g x (.head _)) _, fun g' z h => ?_, fun g' z h => ?_, H.apart⟩
  · rcases List.mem_cons.1 h with h | h
    · injection h with h1 h2; subst h1; subst h2
      have h3 := h0.set i v
      rw [hy] at h3
      exact h3.blk
    · exact (Below.heap_setCell w ⟨g, i, none⟩ _ g' (fun e => hn (List.mem_map.2 ⟨(g', z), h, e⟩))).trans (H.holds g' z (List.mem_cons_of_mem _ h))
  · rcases List.mem_cons.1 h with h | h
    · injection h with h1 h2; subst h1; exact H.ours _ x (.head _)
    · exact H.ours g' z (List.mem_cons_of_mem _ h)
theorem Mem.frozen {w0 w : World} {L : List (Nat × Nat)} {g x : Nat} (H : Mem w0 w L) (hm : (g, x) ∈ L) (i : Nat) : w.frozen? ⟨g, i, none⟩ = false := frozen_of_row w g i _ _ (H.holds g x hm)
theorem limbs_set : ∀ (m k x c : Nat), k < m → x / 4294967296 ^ k % 4294967296 + c < 4294967296 → (limbs 4294967296 m x).set k (x / 4294967296 ^ k % 4294967296 + c) = limbs 4294967296 m (x + c * 4294967296 ^ k)
  | 0, _, _, _, h, _ => by omega
  | m + 1, 0, x, c, _, hc => by
    rw [Nat.pow_zero, Nat.div_one] at hc ⊢
    rw [Nat.mul_one, limbs, limbs, List.set_cons_zero]
    rw [show (x + c) % 4294967296 = x % 4294967296 + c by omega, show (x + c) / 4294967296 = x / 4294967296 by omega]
  | m + 1, k + 1, x, c, h, hc => by
    have e : x / 4294967296 ^ (k + 1) = x / 4294967296 / 4294967296 ^ k := by rw [Nat.div_div_eq_div_mul, Nat.pow_succ, Nat.mul_comm]
    rw [e] at hc ⊢
    rw [limbs, limbs, List.set_cons_succ, limbs_set m k _ c (by omega) hc]
    rw [Nat.pow_succ, Nat.mul_comm (4294967296 ^ k), Nat.mul_left_comm, Nat.add_mul_mod_self_left, Nat.add_mul_div_left _ _ (by decide)]
theorem numB_take (l : List UInt8) (i : Nat) (h : i < l.length) : numB (l.take (i + 1)) = numB (l.take i) + (l.getD i 0).toNat * 256 ^ i := by
  have e : l.take (i + 1) = l.take i ++ [l.getD i 0] := by
    rw [List.take_add_one]
    simp [h]
  have hl : (digs (l.take i)).length = i := by rw [digs_len, List.length_take]; omega
  unfold numB
  rw [e, show digs (l.take i ++ [l.getD i 0]) = digs (l.take i) ++ [(l.getD i 0).toNat] by simp [digs], val_app, hl]
  simp [valB]
  rw [Nat.mul_comm]
theorem numB_lt (l : List UInt8) : numB l < 256 ^ l.length := by
  have h := valB_lt (B := 256) (by decide) (digs l) (digs_lt l)
  rw [digs_len] at h
  exact h
theorem or_at (wd b r : Nat) (hb : b < 256) (hr : r < 4) (hw : wd < 256 ^ r) : bits .or .u32 (wd : Int) ((b : Int) % 4294967296 * 2 ^ (r * 8) % 4294967296) = ((wd + b * 256 ^ r : Nat) : Int) ∧ wd + b * 256 ^ r < 4294967296 := by
  obtain rfl | rfl | rfl | rfl : r = 0 ∨ r = 1 ∨ r = 2 ∨ r = 3 := by omega
  · have e : (2 : Int) ^ (0 * 8) = 1 := by decide
    rw [e, show (b : Int) % 4294967296 * 1 % 4294967296 = ((b * 2 ^ 0 : Nat) : Int) by omega, bits_or_u32 wd (b * 2 ^ 0) (by omega) (by omega), or_shift wd b 0 (by omega)]
    refine ⟨rfl, by omega⟩
  · have e : (2 : Int) ^ (1 * 8) = 256 := by decide
    rw [e, show (b : Int) % 4294967296 * 256 % 4294967296 = ((b * 2 ^ 8 : Nat) : Int) by omega, bits_or_u32 wd (b * 2 ^ 8) (by omega) (by omega), or_shift wd b 8 (by omega)]
    refine ⟨rfl, by omega⟩
  · have e : (2 : Int) ^ (2 * 8) = 65536 := by decide
    rw [e, show (b : Int) % 4294967296 * 65536 % 4294967296 = ((b * 2 ^ 16 : Nat) : Int) by omega, bits_or_u32 wd (b * 2 ^ 16) (by omega) (by omega), or_shift wd b 16 (by omega)]
    refine ⟨rfl, by omega⟩
  · have e : (2 : Int) ^ (3 * 8) = 16777216 := by decide
    rw [e, show (b : Int) % 4294967296 * 16777216 % 4294967296 = ((b * 2 ^ 24 : Nat) : Int) by omega, bits_or_u32 wd (b * 2 ^ 24) (by omega) (by omega), or_shift wd b 24 (by omega)]
    refine ⟨rfl, by omega⟩
theorem pow_at (i : Nat) : 256 ^ i = 4294967296 ^ (i / 4) * 256 ^ (i % 4) := by
  rw [show (4294967296 : Nat) = 256 ^ 4 by decide, ← Nat.pow_mul, ← Nat.pow_add]
  congr 1
  omega
theorem parse_step (l : List UInt8) (i : Nat) (hi : i < l.length) (hl : l.length ≤ 64) (b x wd : Nat) (hb : (l.getD i 0).toNat = b) (hx : numB (l.take i) = x) (hwd : x / 4294967296 ^ (i / 4) % 4294967296 = wd) :
    bits .or .u32 (wd : Int) ((b : Int) % 4294967296 * 2 ^ (i % 4 * 8) % 4294967296) = ((wd + b * 256 ^ (i % 4) : Nat) : Int) ∧ (nL x).set (i / 4) (wd + b * 256 ^ (i % 4)) = nL (numB (l.take (i + 1))) := by
  have hb2 : b < 256 := hb ▸ (l.getD i 0).toNat_lt
  have hxl : x < 4294967296 ^ (i / 4) * 256 ^ (i % 4) := by
    rw [← pow_at, ← hx]
    have h := numB_lt (l.take i)
    rw [List.length_take, Nat.min_eq_left (Nat.le_of_lt hi)] at h
    exact h
  have hw : wd < 256 ^ (i % 4) := by
    rw [← hwd]
    exact Nat.lt_of_le_of_lt (Nat.mod_le _ _) (Nat.div_lt_of_lt_mul hxl)
  obtain ⟨h1, h2⟩ := or_at wd b (i % 4) hb2 (Nat.mod_lt _ (by decide)) hw
  refine ⟨h1, ?_⟩
  unfold nL
  have h3 := limbs_set 16 (i / 4) x (b * 256 ^ (i % 4)) (by omega) (by rw [hwd]; exact h2)
  rw [hwd] at h3
  rw [h3, numB_take l i hi, hx, hb, pow_at i, Nat.mul_assoc, Nat.mul_comm (256 ^ (i % 4))]
set_option maxHeartbeats 1000000 in
theorem parse_any (l : List UInt8) (hl : l.length ≤ 64) (wS : World) : Calls Tryz.prog 69 #[.string (S l)] wS (NP (numB l) wS) := by
  have H := Mem.start wS
  have hsz : (S l).size = l.length := S_size l
  replace hsz := Kept.mk hsz
  go_enter Tryz.func69, Tryz.ntmps69
  go_wp2_with (first
    | (refine mem_box rfl _ rfl _ rfl (by assumption) ?_; intro g w H; try simp only [Act.put, yI, yC, yZ])
    | (refine mem_alloc rfl rfl (by assumption) ?_; intro g w H; try simp only [Act.put, yI, yC, yZ]))
  rename_i gr _ _ _ _
  go_loopw [7] (fun v7 wr => ∃ (i : Nat), i ≤ l.length ∧ v7 = .int .i64 (i : Int) ∧ Mem wS wr [(g, numB (l.take i)), (gr, 0)]) (fun v7 _ => l.length - (RowKit.intOf v7).toNat)
  case atStart => exact ⟨0, by omega, rfl, H⟩
  case round =>
    clear H
    obtain ⟨i, hi, rfl, H⟩ := hrel
    by_cases hlt : i < l.length
    · have hlI : (i : Int) < ((S l).size : Int) := by rw [hsz.out]; omega
      have hs0 : i < (S l).size := by rw [hsz.out]; exact hlt
      obtain ⟨b, hb⟩ : ∃ b, l.getD i 0 = b := ⟨_, rfl⟩
      have g0 : (S l)[i] = b := by rw [byte_at, hb]
      obtain ⟨x, hx⟩ : ∃ x, numB (l.take i) = x := ⟨_, rfl⟩
      rw [hx] at H
      obtain ⟨wd, hwd⟩ : ∃ y, x / 4294967296 ^ (i / 4) % 4294967296 = y := ⟨_, rfl⟩
      have c1 : ∀ u : Held (From wr.drew), u.w.cell? ⟨g, i / 4, none⟩ = some (.int .u32 (wd : Int)) := fun u => hwd ▸ (mem_from H u.h).word (.head _) (i / 4) (by omega)
      go_wp2
      refine wp_region_from_tail 14 (by kernel_rfl) (by kernel_rfl) ?_
      simp only [List.take_succ_cons, List.take_zero, List.drop_succ_cons, List.drop_zero]
      repeat (go_big_quiet_step (fail))
      obtain ⟨hor, hset⟩ := parse_step l i hlt hl b.toNat x wd (by rw [hb]) hx hwd
      rw [hor]
      refine wpQuiet_nil ?_
      intro w5 hw5
      have H := mem_from H hw5
      have c5 := H.word (.head _) (i / 4) (by omega)
      have f5 := H.frozen (.head _) (i / 4)
      rw [hwd] at c5
      replace hset := Kept.mk hset
      replace hx := Kept.mk hx
      replace hwd := Kept.mk hwd
      clear hw5 c1 hor
      go_wp2
      go_roundw
      case rel => exact ⟨i + 1, by omega, val_eq (by omega), H.setw (i / 4) _ _ hset.out _ rfl⟩
      case measure => first | (simp [RowKit.intOf]; done) | (simp [RowKit.intOf]; omega)
    · obtain rfl : i = l.length := by omega
      have hlI : ¬ ((l.length : Nat) : Int) < ((S l).size : Int) := by rw [hsz.out]; omega
      rw [List.take_of_length_le (Nat.le_refl _)] at H
      go_wp2_with (first
        | (refine mem_load rfl _ rfl _ _ rfl (by assumption) (by (repeat (first | exact .head _ | refine .tail _ ?_))) ?_; try simp only [Act.put, yI, yC, yZ])
        | (refine mem_store1 rfl _ _ rfl _ _ _ rfl rfl _ _ (by assumption) ?_; intro w H; try simp only [Act.put, yI, yC, yZ]))
      exact mem_ret Tryz.results69 _ rfl rfl (by assumption) (by (repeat (first | exact .head _ | refine .tail _ ?_)))
end Go.Proofs.YtgnblaaldpniiaaGreatDoor.Sc
end
section
set_option linter.unusedSimpArgs false
set_option linter.unusedVariables false
set_option maxRecDepth 100000
namespace Go.Proofs.YtgnblaaldpniiaaGreatDoor.Sc
open Go.RowKit
def b4 (y : Nat) : List UInt8 := [UInt8.ofNat y, UInt8.ofNat (y / 256), UInt8.ofNat (y / 65536), UInt8.ofNat (y / 16777216)]
def leB (x : Nat) : List UInt8 := ((nL x).take 8).flatMap b4
theorem flat_len : ∀ (ws : List Nat), (ws.flatMap b4).length = 4 * ws.length
  | [] => rfl
  | y :: r => by rw [List.flatMap_cons, List.length_append, flat_len r, List.length_cons]; simp [b4]; omega
theorem flat_val : ∀ (ws : List Nat), (∀ x ∈ ws, x < 4294967296) → numB (ws.flatMap b4) = valB 4294967296 ws
  | [], _ => rfl
  | y :: r, h => by
    have ih := flat_val r fun z hz => h z (by simp [hz])
    have hy := h y (by simp)
    rw [List.flatMap_cons, valB, ← ih]
    simp [b4, numB, digs, valB]
    omega
theorem leB_len (x : Nat) : (leB x).length = 32 := by unfold leB; rw [flat_len, half_len]
theorem leB_num (x : Nat) (h : x < mid) : numB (leB x) = x := by unfold leB; rw [flat_val _ (half_lt x), half_val x h]
theorem o_mid : oN < mid := by decide +kernel
theorem leB_scB (x : Nat) : leB (x % oN) = scB x := by
  have hx : x % oN < oN := Nat.mod_lt _ o_pos
  have e := limbs_val (B := 256) (by decide) (digs (leB (x % oN))) (digs_lt _)
  rw [digs_len, leB_len] at e
  have h2 := leB_num (x % oN) (Nat.lt_trans hx o_mid)
  unfold numB at h2
  rw [h2] at e
  rw [← back_lt (leB (x % oN)), ← e]
  rfl
theorem byte0 (y : Nat) : (y : Int) % 256 = ((UInt8.ofNat y).toNat : Int) := by simp
theorem byte1 (y : Nat) : (y : Int) / 256 % 256 = ((UInt8.ofNat (y / 256)).toNat : Int) := by simp
theorem byte2 (y : Nat) : (y : Int) / 65536 % 256 = ((UInt8.ofNat (y / 65536)).toNat : Int) := by simp
theorem byte3 (y : Nat) (h : y < 4294967296) : (y : Int) / 16777216 = ((UInt8.ofNat (y / 16777216)).toNat : Int) := by simp; omega
theorem b4_cells (y : Nat) : Lib.byteCells (b4 y) = [Value.int .u8 ((UInt8.ofNat y).toNat : Nat), Value.int .u8 ((UInt8.ofNat (y / 256)).toNat : Nat), Value.int .u8 ((UInt8.ofNat (y / 65536)).toNat : Nat), Value.int .u8 ((UInt8.ofNat (y / 16777216)).toNat : Nat)] := rfl
set_option maxHeartbeats 1000000 in
theorem bytes_any (x : Nat) (wS : World) : Calls Tryz.prog 71 #[numV x] wS fun e w' => e = .returned (.string (S (leB x))) ∧ Below wS.heap.size wS w' := by
  obtain ⟨i0, hi0, hz0, hz1, hz2⟩ := info_parts info5
  obtain ⟨a, ha⟩ : ∃ a, nL x = a := ⟨_, rfl⟩
  have hal : a.length = 16 := by rw [← ha, nL_len]
  have haW : ∀ x ∈ a, x < 4294967296 := ha ▸ nL_lt x
  obtain ⟨tot, htot⟩ : ∃ t, leB x = t := ⟨_, rfl⟩
  have htt : (a.take 8).flatMap b4 = tot := by rw [← htot, ← ha]; rfl
  rw [htot]
  obtain ⟨p, hp⟩ : ∃ p, a.take 8 = p := ⟨_, rfl⟩
  have hpl : p.length = 8 := by rw [← hp, List.length_take, hal]; rfl
  have hpg : ∀ i, i < 8 → p.getD i 0 = a.getD i 0 := fun i hi => by rw [← hp]; simp [hi]
  rw [hp] at htt
  obtain ⟨A, hA⟩ : ∃ A, (numC .u32 a).toArray = A := ⟨_, rfl⟩
  unfold numV aggN
  rw [ha, hA]
  replace ha := Kept.mk ha
  replace hal := Kept.mk hal
  replace haW := Kept.mk haW
  replace htt := Kept.mk htt
  replace htot := Kept.mk htot
  replace hp := Kept.mk hp
  replace hpl := Kept.mk hpl
  replace hpg := Kept.mk hpg
  go_enter Tryz.func71, Tryz.ntmps71
  go_wp2_with (refine wpList_make_own _ rfl _ _ 37 rfl (wS.heap.size + 1) 5 i0 (.int .u8 0) 1 Tryz.underlying37 hi0 hz0 hz1 .i64 .i64 32 32 rfl rfl rfl (by rw [hz2]; omega) (by unfold maxLen; omega) (by simp) ?_; intro w1 ho1 hg1)
  have h1 : Arr w1 wS.heap.size 87 .u32 a := by
    have h := Arr.new wS 87 .u32 a
    rw [hA] at h
    exact h.of_heap (hg1.block _ (by simp) (by intro e; cases e))
  have h4 : Below wS.heap.size wS w1 := ((Below.refl _ _).alloc (Nat.le_refl _) _).grown hg1 (by simp) (fun _ e => by cases e)
  have hsz1 : wS.heap.size + 1 ≤ w1.heap.size := by have := hg1.size; simpa using this
  replace hA := Kept.mk hA
  clear hg1
  obtain ⟨n, hn⟩ : ∃ n, wS.heap.size = n := ⟨_, rfl⟩
  rw [World.size_alloc] at ho1
  rw [hn] at h1 ho1 hsz1 ⊢
  generalize Value.slice (some ⟨n + 1, 0, none⟩) 0 32 = v0 at ho1 ⊢
  replace h1 := Kept.mk h1
  replace h4 := Kept.mk h4
  replace ho1 := Kept.mk ho1
  replace hn := Kept.mk hn
  go_loopw [3, 9] (fun v3 v9 wr => ∃ (i : Nat) (acc : List UInt8), i ≤ 8 ∧ v9 = .int .i64 (i : Int) ∧ Kept (acc.length = 4 * i) ∧ Kept (wr.ownsRow (n + 1) 5 1 v3 acc.length (Lib.byteCells acc)) ∧ n + 1 ≤ wr.heap.size ∧ Kept (Arr wr n 87 .u32 a) ∧ Kept (Below wS.heap.size wS wr) ∧ Kept (acc ++ (p.drop i).flatMap b4 = tot)) (fun _ v9 _ => 8 - (RowKit.intOf v9).toNat)
  case atStart => exact ⟨0, [], by omega, rfl, ⟨rfl⟩, ho1, hsz1, h1, h4, htt⟩
  case round =>
    clear h1 h4 ho1 hsz1
    obtain ⟨i, acc, hi, rfl, hacl, HO, hsz, H1, H4, HT⟩ := hrel
    obtain ⟨AA, cap, rfl⟩ := own_form HO.out
    have hle : acc.length ≤ 32 := by have := hacl.out; omega
    by_cases hlt : i < 8
    · obtain ⟨y, hy⟩ : ∃ y, a.getD i 0 = y := ⟨_, rfl⟩
      have hda := drop_getD p i (by rw [hpl.out]; exact hlt)
      rw [hpg.out i hlt, hy] at hda
      have hyl : y < 4294967296 := hy ▸ getD_ltN haW.out i (by rw [hal.out]; omega)
      have c1 : wr.cell? ⟨n, i, none⟩ = some (.int .u32 (y : Int)) := hy ▸ H1.out.cell i (by rw [hal.out]; omega)
      have hlti : (i : Int) < 8 := by omega
      replace hy := Kept.mk hy
      replace hda := Kept.mk hda
      have hb4 : Lib.byteCells (b4 y) = [.int .u8 ((y : Int) % 256), .int .u8 ((y : Int) / 256 % 256), .int .u8 ((y : Int) / 65536 % 256), .int .u8 ((y : Int) / 16777216)] := by
        rw [byte0, byte1, byte2, byte3 y hyl]; rfl
      replace hb4 := Kept.mk hb4
      go_wp2_with (at_builtin; refine wpList_append_own _ rfl _ _ 37 rfl (n + 1) 5 i0 (.int .u8 0) 1 1 Tryz.underlying37 hi0 hz0 hz1 hz2 rfl (by decide) _ _ _ rfl (HO.out.alloc _) ⟨wr.heap.size, 0, none⟩ 4 4 [.int .u8 ((y : Int) % 256), .int .u8 ((y : Int) / 256 % 256), .int .u8 ((y : Int) / 65536 % 256), .int .u8 ((y : Int) / 16777216)] rfl rfl ?c1 ?c2 ?c3 ?c4 ?c5 ?_)
      case c1 => exact row_new wr [_, _, _, _] 5
      case c2 => intro u hu; simp at hu; rcases hu with rfl | rfl | rfl | rfl <;> rfl
      case c3 => unfold maxLen; omega
      case c4 => omega
      case c5 => rw [World.size_alloc]; omega
      intro v' w7 ho7 hgr _
      have hown := HO.out
      have hAA : ∀ g, (Value.slice AA acc.length cap).ownBlock = some g → n + 1 ≤ g := fun g hg => (hown.lt g hg).1
      have H17 : Arr w7 n 87 .u32 a := (H1.out.from ((Below.refl _ _).alloc (Nat.le_refl _) _)).of_heap (hgr.block n (by rw [World.size_alloc]; omega) (fun e => by have := hAA n e.symm; omega))
      have b7 : Below wS.heap.size wS w7 := (H4.out.alloc (by rw [hn.out]; omega) _).grown hgr (by rw [World.size_alloc, hn.out]; omega) (fun g hg => by have := hAA g hg; rw [hn.out]; omega)
      have s7 : n + 1 ≤ w7.heap.size := by have := hgr.size; rw [World.size_alloc] at this; omega
      have ho8 : w7.ownsRow (n + 1) 5 1 v' (acc ++ b4 y).length (Lib.byteCells (acc ++ b4 y)) := by
        rw [Lib.byteCells_append, List.length_append, hb4.out]; exact ho7
      clear ho7 hgr hown hAA
      replace H17 := Kept.mk H17
      replace b7 := Kept.mk b7
      replace ho8 := Kept.mk ho8
      go_wp2
      go_roundw
      case rel => exact ⟨i + 1, acc ++ b4 y, by omega, val_eq (by omega), ⟨by have := hacl.out; rw [List.length_append]; simp [b4]; omega⟩, ho8, s7, H17, b7, ⟨by have h := HT.out; rw [hda.out, List.flatMap_cons] at h; rw [List.append_assoc]; exact h⟩⟩
      case measure => first | (simp [RowKit.intOf]; done) | (simp [RowKit.intOf]; omega)
    · obtain rfl : i = 8 := by omega
      have hd : acc = tot := by have h := HT.out; rw [List.drop_eq_nil_of_le (by rw [hpl.out]; omega), List.flatMap_nil, List.append_nil] at h; exact h
      have hcv := conv_own HO.out
      rw [hd] at hcv
      have Hd := Kept.mk hd
      clear hd HT
      rw [show acc.length = tot.length by rw [Hd.out]]
      go_wp2
      go_ret
      exact ⟨rfl, H4.out⟩
end Go.Proofs.YtgnblaaldpniiaaGreatDoor.Sc
end
section
set_option linter.unusedSimpArgs false
set_option linter.unusedVariables false
set_option maxRecDepth 100000
namespace Go.Proofs.YtgnblaaldpniiaaGreatDoor.Sc
open Go.RowKit
theorem pow_512 : 256 ^ 64 = big := by decide +kernel
theorem pow_256 : 256 ^ 32 = mid := by decide +kernel
theorem numB_big (l : List UInt8) (h : l.length ≤ 64) : numB l < big := by
  refine Nat.lt_of_lt_of_le (numB_lt l) ?_
  rw [← pow_512]
  exact Nat.pow_le_pow_right (by decide) h
theorem numB_mid (l : List UInt8) (h : l.length = 32) : numB l < mid := by
  have h2 := numB_lt l
  rw [h, pow_256] at h2
  exact h2
theorem mid_two : mid + mid < big := by decide +kernel
theorem Reduce_ok (l : List UInt8) (hl : l.length ≤ 64) (wS : World) : Calls Tryz.prog 40 #[.string (S l)] wS (StrPost (scB (numB l)) 0 wS) := by
  have H := Mem.start wS
  have hsz : ¬ (64 : Int) < ((S l).size : Int) := by rw [S_size]; omega
  have cP := Kept.mk fun w => parse_any l hl w
  have cR := Kept.mk fun w => reduced_any (numB l) (numB_big l hl) w
  have cB := Kept.mk fun w => bytes_any (numB l % oN) w
  rw [leB_scB] at cB
  unfold StrPost
  generalize scB (numB l) = r at cB ⊢
  clear hl
  go_enter Tryz.func40, Tryz.ntmps40
  go_wp2_with (first
    | (go_at_call 69; refine mem_call (by assumption) (cP.out _) ?_; intro w H)
    | (go_at_call 70; refine mem_call (by assumption) (cR.out _) ?_; intro w H)
    | (go_at_call 71; refine mem_call (by assumption) (cB.out _) ?_; intro w H))
  go_ret2
  exact ⟨rfl, H.below⟩
theorem Reduce_bad (l : List UInt8) (hl : 64 < l.length) (wS : World) : Calls Tryz.prog 40 #[.string (S l)] wS (StrPost [] 50 wS) := by
  have H := Mem.start wS
  have hsz : (64 : Int) < ((S l).size : Int) := by rw [S_size]; omega
  clear hl
  unfold StrPost
  go_enter Tryz.func40, Tryz.ntmps40
  go_wp2_with (first
    | (refine mem_box rfl _ rfl _ rfl (by assumption) ?_; intro g w H; try simp only [Act.put, yI, yC, yZ]))
  go_ret2
  exact ⟨rfl, H.below⟩
theorem is_eq (l : List UInt8) : ((S (scB (numB l))).toList == (S l).toList) = isSc l := by
  rw [S_beq]
  by_cases hi : isSc l = true
  · rw [hi, decide_eq_true]
    exact scB_self l hi
  · rw [Bool.not_eq_true] at hi
    rw [hi, decide_eq_false]
    intro e
    rw [← e, scB_is] at hi
    cases hi
theorem is_nil (l : List UInt8) (h : 64 < l.length) : ((S []).toList == (S l).toList) = false := by
  rw [S_beq]
  refine decide_eq_false fun e => ?_
  rw [← e] at h
  simp at h
theorem Is_any (l : List UInt8) (wS : World) : Calls Tryz.prog 24 #[.string (S l)] wS fun e w' => e = .returned (.bool (isSc l)) ∧ Below wS.heap.size wS w' := by
  have H := Mem.start wS
  by_cases hl : l.length ≤ 64
  · have cR := Kept.mk fun w => Reduce_ok l hl w
    have hs := is_eq l
    generalize isSc l = b at hs ⊢
    unfold StrPost at cR
    generalize scB (numB l) = r at hs cR
    clear hl
    go_enter Tryz.func24, Tryz.ntmps24
    go_wp2_with (first
      | (go_at_call 40; refine mem_call (by assumption) (cR.out _) ?_; intro w H))
    go_ret
    exact ⟨rfl, H.below⟩
  · have cR := Kept.mk fun w => Reduce_bad l (by omega) w
    have e : isSc l = false := by unfold isSc; simp; omega
    have hs := is_nil l (by omega)
    rw [e]
    unfold StrPost at cR
    clear hl e
    generalize ([] : List UInt8) = r at hs cR
    go_enter Tryz.func24, Tryz.ntmps24
    go_wp2_with (first
      | (refine mem_box rfl _ rfl _ rfl (by assumption) ?_; intro g w H; try simp only [Act.put, yI, yC, yZ])
      | (refine mem_alloc rfl rfl (by assumption) ?_; intro g w H; try simp only [Act.put, yI, yC, yZ])
      | (go_at_call 40; refine mem_call (by assumption) (cR.out _) ?_; intro w H))
    go_ret
    exact ⟨rfl, H.below⟩
set_option maxHeartbeats 1000000 in
theorem Add_ok (l m : List UInt8) (hl : l.length = 32) (hm : m.length = 32) (wS : World) : Calls Tryz.prog 42 #[.string (S l), .string (S m)] wS (StrPost (scB (numB l + numB m)) 0 wS) := by
  have H := Mem.start wS
  have hsl : (S l).size = 32 := by rw [S_size, hl]
  have hsm : (S m).size = 32 := by rw [S_size, hm]
  have c1 := Kept.mk fun w => parse_any l (by omega) w
  have c2 := Kept.mk fun w => parse_any m (by omega) w
  have hx := numB_mid l hl
  have hy := numB_mid m hm
  have hb := mid_two
  have cS := Kept.mk fun w => sumN_any (numB l) (numB m) (by omega) (by omega) w
  rw [Nat.mod_eq_of_lt (by omega : numB l + numB m < big)] at cS
  have cR := Kept.mk fun w => reduced_any (numB l + numB m) (by omega) w
  clear hb
  have cB := Kept.mk fun w => bytes_any ((numB l + numB m) % oN) w
  rw [leB_scB] at cB
  unfold StrPost
  generalize scB (numB l + numB m) = r at cB ⊢
  clear hl hm hx hy
  go_enter Tryz.func42, Tryz.ntmps42
  go_wp2_with (first
    | (go_at_call_of 69 (Value.string (S l)); refine mem_call (by assumption) (c1.out _) ?_; intro w H)
    | (go_at_call_of 69 (Value.string (S m)); refine mem_call (by assumption) (c2.out _) ?_; intro w H)
    | (go_at_call 73; refine mem_call (by assumption) (cS.out _) ?_; intro w H)
    | (go_at_call 70; refine mem_call (by assumption) (cR.out _) ?_; intro w H)
    | (go_at_call 71; refine mem_call (by assumption) (cB.out _) ?_; intro w H))
  go_ret2
  exact ⟨rfl, H.below⟩
set_option maxHeartbeats 1000000 in
theorem Mul_ok (l m : List UInt8) (hl : l.length = 32) (hm : m.length = 32) (wS : World) : Calls Tryz.prog 41 #[.string (S l), .string (S m)] wS (StrPost (scB (numB l * numB m)) 0 wS) := by
  have H := Mem.start wS
  have hsl : (S l).size = 32 := by rw [S_size, hl]
  have hsm : (S m).size = 32 := by rw [S_size, hm]
  have c1 := Kept.mk fun w => parse_any l (by omega) w
  have c2 := Kept.mk fun w => parse_any m (by omega) w
  have hx := numB_mid l hl
  have hy := numB_mid m hm
  have hb : numB l * numB m < big := by rw [← mid_big]; exact Nat.mul_lt_mul'' hx hy
  have cS := Kept.mk fun w => prodN_any (numB l) (numB m) hx hy w
  have cR := Kept.mk fun w => reduced_any (numB l * numB m) hb w
  clear hb
  have cB := Kept.mk fun w => bytes_any ((numB l * numB m) % oN) w
  rw [leB_scB] at cB
  unfold StrPost
  generalize scB (numB l * numB m) = r at cB ⊢
  clear hl hm hx hy
  go_enter Tryz.func41, Tryz.ntmps41
  go_wp2_with (first
    | (go_at_call_of 69 (Value.string (S l)); refine mem_call (by assumption) (c1.out _) ?_; intro w H)
    | (go_at_call_of 69 (Value.string (S m)); refine mem_call (by assumption) (c2.out _) ?_; intro w H)
    | (go_at_call 72; refine mem_call (by assumption) (cS.out _) ?_; intro w H)
    | (go_at_call 70; refine mem_call (by assumption) (cR.out _) ?_; intro w H)
    | (go_at_call 71; refine mem_call (by assumption) (cB.out _) ?_; intro w H))
  go_ret2
  exact ⟨rfl, H.below⟩
end Go.Proofs.YtgnblaaldpniiaaGreatDoor.Sc
end
