/- Package scalar: the number of bytes. -/
import Derived.Test.YthlkpdfdbdfbjaaP7
import Derived.Test.YthlkpdfdbdfbjaaO11
set_option linter.unusedSimpArgs false
set_option linter.unusedVariables false
namespace Go.Proofs.Ythlkpdfdbdfbjaa
open Go.RowKit
theorem Mem.setw {w0 w : World} {L : List (Nat × Nat)} {g x : Nat} (H : Mem w0 w ((g, x) :: L)) (i v y : Nat) (hy : (nL x).set i v = nL y) (u : Int) (hu : u = (v : Int)) : Mem w0 (w.setCell ⟨g, i, none⟩ (.int .u32 u)) ((g, y) :: L) := by
  subst hu
  have hn := (List.nodup_cons.1 (show (g :: L.map (·.1)).Nodup from H.apart)).1
  have h0 : Arr w g 41 .u32 (nL x) := ⟨H.holds g x (.head _)⟩
  refine ⟨H.below.setCell (H.ours g x (.head _)) _, fun g' z h => ?_, fun g' z h => ?_, H.apart⟩
  · rcases List.mem_cons.1 h with h | h
    · injection h with h1 h2; subst h1; subst h2
      have h3 := h0.set i v
      rw [hy] at h3
      exact h3.blk
    · exact (Below.heap_setCell w ⟨g, i, none⟩ _ g' (fun e => hn (List.mem_map.2 ⟨(g', z), h, e⟩))).trans (H.holds g' z (List.mem_cons_of_mem _ h))
  · rcases List.mem_cons.1 h with h | h
    · injection h with h1 h2; subst h1; exact H.ours _ x (.head _)
    · exact H.ours g' z (List.mem_cons_of_mem _ h)
theorem Mem.frozen {w0 w : World} {L : List (Nat × Nat)} {g x : Nat} (H : Mem w0 w L) (hm : (g, x) ∈ L) (i : Nat) : w.frozen? ⟨g, i, none⟩ = false := frozen_of_row w g i _ _ (H.holds g x hm)
theorem limbs_set : ∀ (m k x c : Nat), k < m → x / 4294967296 ^ k % 4294967296 + c < 4294967296 → (limbs 4294967296 m x).set k (x / 4294967296 ^ k % 4294967296 + c) = limbs 4294967296 m (x + c * 4294967296 ^ k)
  | 0, _, _, _, h, _ => by omega
  | m + 1, 0, x, c, _, hc => by
    rw [Nat.pow_zero, Nat.div_one] at hc ⊢
    rw [Nat.mul_one, limbs, limbs, List.set_cons_zero]
    rw [show (x + c) % 4294967296 = x % 4294967296 + c by omega, show (x + c) / 4294967296 = x / 4294967296 by omega]
  | m + 1, k + 1, x, c, h, hc => by
    have e : x / 4294967296 ^ (k + 1) = x / 4294967296 / 4294967296 ^ k := by rw [Nat.div_div_eq_div_mul, Nat.pow_succ, Nat.mul_comm]
    rw [e] at hc ⊢
    rw [limbs, limbs, List.set_cons_succ, limbs_set m k _ c (by omega) hc]
    rw [Nat.pow_succ, Nat.mul_comm (4294967296 ^ k), Nat.mul_left_comm, Nat.add_mul_mod_self_left, Nat.add_mul_div_left _ _ (by decide)]
theorem numB_take (l : List UInt8) (i : Nat) (h : i < l.length) : numB (l.take (i + 1)) = numB (l.take i) + (l.getD i 0).toNat * 256 ^ i := by
  have e : l.take (i + 1) = l.take i ++ [l.getD i 0] := by
    rw [List.take_add_one]
    simp [h]
  have hl : (digs (l.take i)).length = i := by rw [digs_len, List.length_take]; omega
  unfold numB
  rw [e, show digs (l.take i ++ [l.getD i 0]) = digs (l.take i) ++ [(l.getD i 0).toNat] by simp [digs], val_app, hl]
  simp [valB]
  rw [Nat.mul_comm]
theorem numB_lt (l : List UInt8) : numB l < 256 ^ l.length := by
  have h := valB_lt (B := 256) (by decide) (digs l) (digs_lt l)
  rw [digs_len] at h
  exact h
theorem or_at (wd b r : Nat) (hb : b < 256) (hr : r < 4) (hw : wd < 256 ^ r) : bits .or .u32 (wd : Int) ((b : Int) % 4294967296 * 2 ^ (r * 8) % 4294967296) = ((wd + b * 256 ^ r : Nat) : Int) ∧ wd + b * 256 ^ r < 4294967296 := by
  obtain rfl | rfl | rfl | rfl : r = 0 ∨ r = 1 ∨ r = 2 ∨ r = 3 := by omega
  · have e : (2 : Int) ^ (0 * 8) = 1 := by decide
    rw [e, show (b : Int) % 4294967296 * 1 % 4294967296 = ((b * 2 ^ 0 : Nat) : Int) by omega, bits_or_u32 wd (b * 2 ^ 0) (by omega) (by omega), or_shift wd b 0 (by omega)]
    refine ⟨rfl, by omega⟩
  · have e : (2 : Int) ^ (1 * 8) = 256 := by decide
    rw [e, show (b : Int) % 4294967296 * 256 % 4294967296 = ((b * 2 ^ 8 : Nat) : Int) by omega, bits_or_u32 wd (b * 2 ^ 8) (by omega) (by omega), or_shift wd b 8 (by omega)]
    refine ⟨rfl, by omega⟩
  · have e : (2 : Int) ^ (2 * 8) = 65536 := by decide
    rw [e, show (b : Int) % 4294967296 * 65536 % 4294967296 = ((b * 2 ^ 16 : Nat) : Int) by omega, bits_or_u32 wd (b * 2 ^ 16) (by omega) (by omega), or_shift wd b 16 (by omega)]
    refine ⟨rfl, by omega⟩
  · have e : (2 : Int) ^ (3 * 8) = 16777216 := by decide
    rw [e, show (b : Int) % 4294967296 * 16777216 % 4294967296 = ((b * 2 ^ 24 : Nat) : Int) by omega, bits_or_u32 wd (b * 2 ^ 24) (by omega) (by omega), or_shift wd b 24 (by omega)]
    refine ⟨rfl, by omega⟩
theorem pow_at (i : Nat) : 256 ^ i = 4294967296 ^ (i / 4) * 256 ^ (i % 4) := by
  rw [show (4294967296 : Nat) = 256 ^ 4 by decide, ← Nat.pow_mul, ← Nat.pow_add]
  congr 1
  omega
theorem parse_step (l : List UInt8) (i : Nat) (hi : i < l.length) (hl : l.length ≤ 64) (b x wd : Nat) (hb : (l.getD i 0).toNat = b) (hx : numB (l.take i) = x) (hwd : x / 4294967296 ^ (i / 4) % 4294967296 = wd) :
    bits .or .u32 (wd : Int) ((b : Int) % 4294967296 * 2 ^ (i % 4 * 8) % 4294967296) = ((wd + b * 256 ^ (i % 4) : Nat) : Int) ∧ (nL x).set (i / 4) (wd + b * 256 ^ (i % 4)) = nL (numB (l.take (i + 1))) := by
  have hb2 : b < 256 := hb ▸ (l.getD i 0).toNat_lt
  have hxl : x < 4294967296 ^ (i / 4) * 256 ^ (i % 4) := by
    rw [← pow_at, ← hx]
    have h := numB_lt (l.take i)
    rw [List.length_take, Nat.min_eq_left (Nat.le_of_lt hi)] at h
    exact h
  have hw : wd < 256 ^ (i % 4) := by
    rw [← hwd]
    exact Nat.lt_of_le_of_lt (Nat.mod_le _ _) (Nat.div_lt_of_lt_mul hxl)
  obtain ⟨h1, h2⟩ := or_at wd b (i % 4) hb2 (Nat.mod_lt _ (by decide)) hw
  refine ⟨h1, ?_⟩
  unfold nL
  have h3 := limbs_set 16 (i / 4) x (b * 256 ^ (i % 4)) (by omega) (by rw [hwd]; exact h2)
  rw [hwd] at h3
  rw [h3, numB_take l i hi, hx, hb, pow_at i, Nat.mul_assoc, Nat.mul_comm (256 ^ (i % 4))]
set_option maxHeartbeats 1000000 in
theorem parse_any (l : List UInt8) (hl : l.length ≤ 64) (wS : World) : Calls Try.prog 23 #[.string (S l)] wS (NP (numB l) wS) := by
  have H := Mem.start wS
  have hsz : (S l).size = l.length := S_size l
  replace hsz := Kept.mk hsz
  go_enter Try.func23, Try.ntmps23
  go_wp2_with (first
    | (refine mem_box rfl _ rfl _ rfl (by assumption) ?_; intro g w H; try simp only [Act.put, List.setIfInBounds_toArray, List.set_cons_succ, List.set_cons_zero])
    | (refine mem_alloc rfl rfl (by assumption) ?_; intro g w H; try simp only [Act.put, List.setIfInBounds_toArray, List.set_cons_succ, List.set_cons_zero])
    | (refine mem_load rfl _ rfl _ _ rfl (by assumption) (by (first | exact .head _ | exact .tail _ (.head _) | exact .tail _ (.tail _ (.head _)) | exact .tail _ (.tail _ (.tail _ (.head _))) | exact .tail _ (.tail _ (.tail _ (.tail _ (.head _)))))) ?_; try simp only [Act.put, List.setIfInBounds_toArray, List.set_cons_succ, List.set_cons_zero])
    | (refine mem_store0 rfl _ _ rfl _ _ _ rfl rfl _ (by assumption) ?_; intro w H; try simp only [Act.put, List.setIfInBounds_toArray, List.set_cons_succ, List.set_cons_zero])
    | (refine mem_store1 rfl _ _ rfl _ _ _ rfl rfl _ _ (by assumption) ?_; intro w H; try simp only [Act.put, List.setIfInBounds_toArray, List.set_cons_succ, List.set_cons_zero])
    | (refine mem_store2 rfl _ _ rfl _ _ _ rfl rfl _ _ _ (by assumption) ?_; intro w H; try simp only [Act.put, List.setIfInBounds_toArray, List.set_cons_succ, List.set_cons_zero])
    | (refine mem_store3 rfl _ _ rfl _ _ _ rfl rfl _ _ _ _ (by assumption) ?_; intro w H; try simp only [Act.put, List.setIfInBounds_toArray, List.set_cons_succ, List.set_cons_zero]))
  rename_i gr _ _ _ _
  go_loopw [7] (fun v7 wr => ∃ (i : Nat), i ≤ l.length ∧ v7 = .int .i64 (i : Int) ∧ Mem wS wr [(g, numB (l.take i)), (gr, 0)]) (fun v7 _ => l.length - (RowKit.intOf v7).toNat)
  case atStart => exact ⟨0, by omega, rfl, H⟩
  case round =>
    clear H
    obtain ⟨i, hi, rfl, H⟩ := hrel
    by_cases hlt : i < l.length
    · have hlI : (i : Int) < ((S l).size : Int) := by rw [hsz.out]; omega
      have hs0 : i < (S l).size := by rw [hsz.out]; exact hlt
      obtain ⟨b, hb⟩ : ∃ b, l.getD i 0 = b := ⟨_, rfl⟩
      have g0 : (S l)[i] = b := by rw [byte_at, hb]
      obtain ⟨x, hx⟩ : ∃ x, numB (l.take i) = x := ⟨_, rfl⟩
      rw [hx] at H
      obtain ⟨wd, hwd⟩ : ∃ y, x / 4294967296 ^ (i / 4) % 4294967296 = y := ⟨_, rfl⟩
      have c1 : ∀ u : Held (From wr.drew), u.w.cell? ⟨g, i / 4, none⟩ = some (.int .u32 (wd : Int)) := fun u => hwd ▸ (mem_from H u.h).word (.head _) (i / 4) (by omega)
      go_wp2
      refine wp_region_from_tail 14 (by kernel_rfl) (by kernel_rfl) ?_
      simp only [List.take_succ_cons, List.take_zero, List.drop_succ_cons, List.drop_zero]
      repeat (go_big_quiet_step (fail))
      obtain ⟨hor, hset⟩ := parse_step l i hlt hl b.toNat x wd (by rw [hb]) hx hwd
      rw [hor]
      refine wpQuiet_nil ?_
      intro w5 hw5
      have H := mem_from H hw5
      have c5 := H.word (.head _) (i / 4) (by omega)
      have f5 := H.frozen (.head _) (i / 4)
      rw [hwd] at c5
      replace hset := Kept.mk hset
      replace hx := Kept.mk hx
      replace hwd := Kept.mk hwd
      clear hw5 c1 hor
      go_wp2
      go_roundw
      case rel => exact ⟨i + 1, by omega, val_eq (by omega), H.setw (i / 4) _ _ hset.out _ rfl⟩
      case measure => first | (simp [RowKit.intOf]; done) | (simp [RowKit.intOf]; omega)
    · obtain rfl : i = l.length := by omega
      have hlI : ¬ ((l.length : Nat) : Int) < ((S l).size : Int) := by rw [hsz.out]; omega
      rw [List.take_of_length_le (Nat.le_refl _)] at H
      go_wp2_with (first
        | (refine mem_box rfl _ rfl _ rfl (by assumption) ?_; intro g w H; try simp only [Act.put, List.setIfInBounds_toArray, List.set_cons_succ, List.set_cons_zero])
        | (refine mem_alloc rfl rfl (by assumption) ?_; intro g w H; try simp only [Act.put, List.setIfInBounds_toArray, List.set_cons_succ, List.set_cons_zero])
        | (refine mem_load rfl _ rfl _ _ rfl (by assumption) (by (first | exact .head _ | exact .tail _ (.head _) | exact .tail _ (.tail _ (.head _)) | exact .tail _ (.tail _ (.tail _ (.head _))) | exact .tail _ (.tail _ (.tail _ (.tail _ (.head _)))))) ?_; try simp only [Act.put, List.setIfInBounds_toArray, List.set_cons_succ, List.set_cons_zero])
        | (refine mem_store0 rfl _ _ rfl _ _ _ rfl rfl _ (by assumption) ?_; intro w H; try simp only [Act.put, List.setIfInBounds_toArray, List.set_cons_succ, List.set_cons_zero])
        | (refine mem_store1 rfl _ _ rfl _ _ _ rfl rfl _ _ (by assumption) ?_; intro w H; try simp only [Act.put, List.setIfInBounds_toArray, List.set_cons_succ, List.set_cons_zero])
        | (refine mem_store2 rfl _ _ rfl _ _ _ rfl rfl _ _ _ (by assumption) ?_; intro w H; try simp only [Act.put, List.setIfInBounds_toArray, List.set_cons_succ, List.set_cons_zero])
        | (refine mem_store3 rfl _ _ rfl _ _ _ rfl rfl _ _ _ _ (by assumption) ?_; intro w H; try simp only [Act.put, List.setIfInBounds_toArray, List.set_cons_succ, List.set_cons_zero]))
      exact mem_ret Try.results23 _ rfl rfl (by assumption) (by (first | exact .head _ | exact .tail _ (.head _) | exact .tail _ (.tail _ (.head _)) | exact .tail _ (.tail _ (.tail _ (.head _))) | exact .tail _ (.tail _ (.tail _ (.tail _ (.head _))))))
end Go.Proofs.Ythlkpdfdbdfbjaa
