/- The law package's small numbers and wider ones for package scalar. -/
import Derived.Test.YthlkpdfdbdfbjaaP11
set_option linter.unusedSimpArgs false
set_option linter.unusedVariables false
namespace Go.Proofs.Ythlkpdfdbdfbjaa
open Go.RowKit
set_option maxHeartbeats 1000000 in
theorem small_any (a b c d : Nat) (ha : a < 256) (hb : b < 256) (hc : c < 256) (hd : d < 256) (g k : Nat) (wS : World) (hA : AtS wS g [a, b, c, d]) :
    Calls Try.prog 21 #[.slice (some ⟨g, 0, none⟩) 4 k] wS fun e w' => e = .returned (.string (S (scB (d + 256 * (c + 256 * (b + 256 * a)))))) ∧ Below wS.heap.size wS w' := by
  have H := SM.start wS
  have cM := Kept.mk fun g w h => Mod_any [d, c, b, a] 4 rfl (by omega) (fun x hx => by simp at hx; omega) g 4 w h
  have e : valB 256 [d, c, b, a] = d + 256 * (c + 256 * (b + 256 * a)) := by simp [valB]
  rw [e] at cM
  generalize scB (d + 256 * (c + 256 * (b + 256 * a))) = r at cM ⊢
  have c0 : ∀ u : Held (From wS.drew), u.w.cell? ⟨g, 0, none⟩ = some (.int .i64 (a : Int)) := fun u => (hA.from u.h.of_drew).cell 0 (by show 0 < 4; decide)
  have c1 : ∀ u : Held (From wS.drew), u.w.cell? ⟨g, 1, none⟩ = some (.int .i64 (b : Int)) := fun u => (hA.from u.h.of_drew).cell 1 (by show 1 < 4; decide)
  have c2 : ∀ u : Held (From wS.drew), u.w.cell? ⟨g, 2, none⟩ = some (.int .i64 (c : Int)) := fun u => (hA.from u.h.of_drew).cell 2 (by show 2 < 4; decide)
  have c3 : ∀ u : Held (From wS.drew), u.w.cell? ⟨g, 3, none⟩ = some (.int .i64 (d : Int)) := fun u => (hA.from u.h.of_drew).cell 3 (by show 3 < 4; decide)
  replace hA := Kept.mk hA
  clear e ha hb hc hd
  go_enter Try.func21, Try.ntmps21
  go_wp2
  refine wp_region_from_tail 12 (by kernel_rfl) (by kernel_rfl) ?_
  simp only [List.take_succ_cons, List.take_zero, List.drop_succ_cons, List.drop_zero]
  repeat (go_big_quiet_step (fail))
  refine wpQuiet_nil ?_
  intro w5 hw5
  have H := H.from hw5
  have H := H.new [d, c, b, a]
  clear c0 c1 c2 c3 hw5
  go_wp2_with (go_at_call 26; refine s_call H (cM.out _ _ (H.holds _ [d, c, b, a] (.head _))) ?_; intro w H)
  go_ret
  exact ⟨rfl, H.below⟩
def wdL (n : Nat) : List Nat := limbs 256 8 n
theorem limb_at : ∀ (k i x : Nat), i < k → (limbs 256 k x).getD i 0 = x / 256 ^ i % 256
  | 0, _, _, h => by omega
  | k + 1, 0, x, _ => by rw [limbs]; simp
  | k + 1, i + 1, x, h => by
    rw [limbs]
    show (limbs 256 k (x / 256)).getD i 0 = _
    rw [limb_at k i _ (by omega), Nat.pow_succ, Nat.mul_comm (256 ^ i), Nat.div_div_eq_div_mul]
theorem bits_and_u64 (a b : Nat) (ha : a < 18446744073709551616) (hb : b < 18446744073709551616) : bits .and .u64 (a : Int) (b : Int) = ((a &&& b : Nat) : Int) := by
  have hx : a &&& b < 2 ^ 64 := Nat.and_lt_two_pow a (by omega)
  have h1 : (BitVec.ofInt 64 (a : Int)).toNat = a := by
    rw [BitVec.ofInt_natCast, BitVec.toNat_ofNat]; exact Nat.mod_eq_of_lt (by omega)
  have h2 : (BitVec.ofInt 64 (b : Int)).toNat = b := by
    rw [BitVec.ofInt_natCast, BitVec.toNat_ofNat]; exact Nat.mod_eq_of_lt (by omega)
  show IntKind.u64.wrap ((BitVec.ofInt 64 (a : Int) &&& BitVec.ofInt 64 (b : Int)).toNat : Int) = _
  rw [BitVec.toNat_and, h1, h2]
  simp [IntKind.wrap, IntKind.signed, IntKind.bits]
  omega
theorem byte_of (n i : Nat) (hn : n < 18446744073709551616) : bits .and .u64 ((n : Int) / 2 ^ (8 * i)) 255 = ((n / 256 ^ i % 256 : Nat) : Int) := by
  have e : (2 : Int) ^ (8 * i) = ((256 ^ i : Nat) : Int) := by
    rw [show (256 : Nat) = 2 ^ 8 from rfl, ← Nat.pow_mul, Int.natCast_pow]
    rfl
  rw [e, ← Int.natCast_ediv, show (255 : Int) = ((255 : Nat) : Int) from rfl, bits_and_u64 _ _ (Nat.lt_of_le_of_lt (Nat.div_le_self _ _) hn) (by decide)]
  rw [show (255 : Nat) = 2 ^ 8 - 1 from rfl, Nat.and_two_pow_sub_one_eq_mod]
set_option maxHeartbeats 1000000 in
theorem wider_any (n : Nat) (hn : n < 18446744073709551616) (wS : World) : Calls Try.prog 22 #[.int .u64 (n : Int)] wS fun e w' => e = .returned (.string (S (scB n))) ∧ Below wS.heap.size wS w' := by
  obtain ⟨i0, hi0, hz0, hz1, hz2⟩ := info_parts infoI
  have er := Kept.mk (empty_row wS wS.heap.size 3 (Nat.le_refl _))
  have hll : (wdL n).length = 8 := limbs_len _ _ _
  have hlW : ∀ x ∈ wdL n, x < 256 := limbs_lt (by decide) _ _
  have hlv : valB 256 (wdL n) = n := by unfold wdL; rw [val_limbs, Nat.mod_eq_of_lt (by omega)]
  have hlg : ∀ i, i < 8 → (wdL n).getD i 0 = n / 256 ^ i % 256 := fun i hi => limb_at 8 i n hi
  have cM := Kept.mk fun g k w h => Mod_any (wdL n) 8 hll (by omega) hlW g k w h
  rw [hlv] at cM
  generalize scB n = r at cM ⊢
  generalize wdL n = l at cM hll hlg hlW
  replace hll := Kept.mk hll
  replace hlg := Kept.mk hlg
  replace hlW := Kept.mk hlW
  clear hlv
  go_enter Try.func22, Try.ntmps22
  go_wp2
  go_loopw [3, 4] (fun v3 v4 wr => ∃ (i g c : Nat), i ≤ 8 ∧ v3 = .slice (some ⟨g, 0, none⟩) i c ∧ v4 = .int .i64 (i : Int) ∧ Kept (wr.ownsRow wS.heap.size 3 1 (.slice (some ⟨g, 0, none⟩) i c) i (numC .i64 (l.take i))) ∧ Kept (Below wS.heap.size wS wr)) (fun _ v4 _ => 8 - (RowKit.intOf v4).toNat)
  case atStart => exact ⟨0, _, 0, by omega, rfl, rfl, er, ⟨(Below.refl _ _).alloc (Nat.le_refl _) _⟩⟩
  case round =>
    obtain ⟨i, g, c, hi, rfl, rfl, HO, HB⟩ := hrel
    clear er
    have hbw := HB.out.size
    by_cases hlt : i < 8
    · have hlI : (i : Int) < 8 := by omega
      obtain ⟨b, hb⟩ : ∃ b, n / 256 ^ i % 256 = b := ⟨_, rfl⟩
      have hbl : b < 256 := hb ▸ Nat.mod_lt _ (by decide)
      have kd := byte_of n i hn
      rw [hb] at kd
      have kb : wrap64 (b : Int) = (b : Int) := by simp [wrap64]; omega
      have hnx : l.take (i + 1) = l.take i ++ [b] := by
        rw [List.take_add_one, ← hb, ← hlg.out i hlt]
        have := hll.out
        simp [show i < l.length by omega]
      replace hnx := Kept.mk hnx
      replace hb := Kept.mk hb
      go_wp2_with (at_builtin; refine wpList_append_own _ rfl _ _ 35 rfl wS.heap.size 3 i0 (.int .i64 0) 1 8 Try.underlying35 hi0 hz0 hz1 hz2 rfl (by decide) _ _ _ rfl (HO.out.alloc _) ⟨wr.heap.size, 0, none⟩ 1 1 [.int .i64 (b : Int)] rfl rfl ?c1 ?c2 ?c3 ?c4 ?c5 ?_)
      case c1 => exact row_new wr [_] 3
      case c2 => intro u hu; simp at hu; subst hu; rfl
      case c3 => unfold maxLen; omega
      case c4 => omega
      case c5 => rw [World.size_alloc]; omega
      intro v' w2 ho2 hgr _
      have ho3 : w2.ownsRow wS.heap.size 3 1 v' (i + 1) (numC .i64 (l.take (i + 1))) := by
        rw [hnx.out, numC, List.map_append]; exact ho2
      have hb2 := Kept.mk ((HB.out.alloc hbw _).grown hgr (by rw [World.size_alloc]; omega) fun g hg => (HO.out.lt g hg).1)
      obtain ⟨g2, c2, rfl, _, _⟩ := own_pos2 ho3 (by omega)
      clear ho2 hgr HO kd kb
      replace ho3 := Kept.mk ho3
      go_wp2
      go_roundw
      case rel => exact ⟨i + 1, g2, c2, by omega, rfl, val_eq (by omega), ho3, hb2⟩
      case measure => first | (simp [RowKit.intOf]; done) | (simp [RowKit.intOf]; omega)
    · obtain rfl : i = 8 := by omega
      have hfin : l.take 8 = l := List.take_of_length_le (by rw [hll.out]; exact Nat.le_refl _)
      have hA := HO.out
      rw [hfin] at hA
      obtain ⟨h1, h2, h3⟩ := AtS.own hA
      have H := (SM.start wS).more (g := g) (x := l) HB.out h2 h1
      clear hA hfin HO h1 h2 h3
      go_wp2_with (go_at_call 26; refine s_call H (cM.out _ _ _ (H.holds _ l (.head _))) ?_; intro w H)
      go_ret
      exact ⟨rfl, H.below⟩
end Go.Proofs.Ythlkpdfdbdfbjaa
