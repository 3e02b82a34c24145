/- The document's answer for package curve: a point so many times. -/
import Derived.Test.YtockcnglennihaaD2
set_option linter.unusedSimpArgs false
set_option linter.unusedVariables false
set_option maxRecDepth 100000
namespace Go.Proofs.Ytockcnglennihaa
open Go.RowKit
structure T3.Ok (t : T3) : Prop where
  x : t.x < pF
  y : t.y < pF
  z : t.z < pF
def tC (t : T3) : List Value := ptC t.x t.y t.z
theorem tadd_ok (p q : T3) : (tadd p q).Ok := ⟨ml_lt _ _, ml_lt _ _, ml_lt _ _⟩
theorem tone_ok {P : Pt} (hP : OnC P) : (tone P).Ok := ⟨hP.xl, hP.yl, show 1 < pF by decide +kernel⟩
theorem lad_ok {t : T3} (ht : t.Ok) : ∀ k s, (lad k s t).Ok
  | 0, _ => tone_ok pzero_on
  | k + 1, s => by
    rw [lad]
    cases s % 2 == 1
    · exact tadd_ok _ _
    · exact tadd_ok _ _
theorem Plus_T (p q : T3) (hp : p.Ok) (hq : q.Ok) (w : World) : Calls Try.prog 34 #[.agg (ptC p.x p.y p.z).toArray, .agg (ptC q.x q.y q.z).toArray, .agg (ptC dF 0 0).toArray] w (RetV (.agg (ptC (tadd p q).x (tadd p q).y (tadd p q).z).toArray) w) :=
  Plus_pt _ _ _ _ _ _ hp.x hp.y hp.z hq.x hq.y hq.z (by decide +kernel) w
theorem digit_at : ∀ (l : List UInt8) (m : Nat), m < l.length → (l.getD m 0).toNat = numB l / 256 ^ m % 256
  | [], m, h => by simp at h
  | b :: r, 0, _ => by
    have := b.toNat_lt
    show b.toNat = (b.toNat + 256 * numB r) / 1 % 256
    omega
  | b :: r, m + 1, h => by
    have hb := b.toNat_lt
    show (r.getD m 0).toNat = _
    rw [digit_at r m (by simpa using h)]
    have e : numB (b :: r) = b.toNat + 256 * numB r := rfl
    rw [e, Nat.pow_succ, Nat.mul_comm (256 ^ m), ← Nat.div_div_eq_div_mul, show (b.toNat + 256 * numB r) / 256 = numB r by omega]
theorem bit_at (l : List UInt8) (i : Nat) (h : i / 8 < l.length) : (l.getD (i / 8) 0).toNat / 2 ^ (i % 8) % 2 = numB l / 2 ^ i % 2 := by
  rw [digit_at l (i / 8) h]
  have e : (2 : Nat) ^ i = 256 ^ (i / 8) * 2 ^ (i % 8) := by
    rw [show (256 : Nat) = 2 ^ 8 from rfl, ← Nat.pow_mul, ← Nat.pow_add]
    congr 1
    omega
  rw [e, ← Nat.div_div_eq_div_mul]
  generalize numB l / 256 ^ (i / 8) = t
  have hr : i % 8 < 8 := Nat.mod_lt _ (by decide)
  generalize i % 8 = r at hr ⊢
  obtain rfl | rfl | rfl | rfl | rfl | rfl | rfl | rfl : r = 0 ∨ r = 1 ∨ r = 2 ∨ r = 3 ∨ r = 4 ∨ r = 5 ∨ r = 6 ∨ r = 7 := by omega
  all_goals omega
theorem bits_and_u8 (a : Nat) (ha : a < 256) : bits .and .u8 (a : Int) 1 = ((a % 2 : Nat) : Int) := by
  have hx : a &&& 1 < 2 ^ 8 := Nat.and_lt_two_pow a (by omega)
  have h1 : (BitVec.ofInt 8 (a : Int)).toNat = a := by
    rw [BitVec.ofInt_natCast, BitVec.toNat_ofNat]; exact Nat.mod_eq_of_lt (by omega)
  have h2 : (BitVec.ofInt 8 1).toNat = 1 := rfl
  show IntKind.u8.wrap ((BitVec.ofInt 8 (a : Int) &&& BitVec.ofInt 8 1).toNat : Int) = _
  rw [BitVec.toNat_and, h1, h2, Nat.and_one_is_mod]
  simp [IntKind.wrap, IntKind.signed, IntKind.bits]
  omega
theorem bit_int (l : List UInt8) (i : Nat) (h : i / 8 < l.length) (b : UInt8) (hb : l.getD (i / 8) 0 = b) (t : Nat) (ht : numB l / 2 ^ i % 2 = t) : bits .and .u8 ((b.toNat : Int) / 2 ^ (i % 8)) 1 = (t : Int) := by
  have e : (2 : Int) ^ (i % 8) = ((2 ^ (i % 8) : Nat) : Int) := by rw [Int.natCast_pow]; rfl
  rw [e, ← Int.natCast_ediv, bits_and_u8 _ (Nat.lt_of_le_of_lt (Nat.div_le_self _ _) b.toNat_lt), ← hb, bit_at l i h, ht]
set_option maxHeartbeats 4000000 in
theorem Many_any (l : List UInt8) (hl : l.length = 32) (p : T3) (hp : p.Ok) (wS : World) : Calls Try.prog 44 #[.string (S l), .agg (ptC p.x p.y p.z).toArray] wS (RetV (.agg (ptC (lad 256 (numB l) p).x (lad 256 (numB l) p).y (lad 256 (numB l) p).z).toArray) wS) := by
  have H := RMem.start wS
  have hsz : (S l).size = 32 := by rw [S_size, hl]
  have s0 := Kept.mk fun w => small_at 0 (by omega) 0 rfl w
  have s1 := Kept.mk fun w => small_at 1 (by omega) 1 rfl w
  have cD := Kept.mk fun w => D_any w
  have cA := Kept.mk fun w => At_any 0 1 w
  have hstart : ptC (lad 0 (numB l / 2 ^ 256) p).x (lad 0 (numB l / 2 ^ 256) p).y (lad 0 (numB l / 2 ^ 256) p).z = ptC 0 1 1 := rfl
  replace hsz := Kept.mk hsz
  replace hstart := Kept.mk hstart
  go_enter Try.func44, Try.ntmps44
  go_wp2_with (first
    | (refine p_boxP rfl _ rfl _ _ _ rfl (by assumption) ?_; intro g w H; try simp only [Act.put, List.setIfInBounds_toArray, List.set_cons_succ, List.set_cons_zero])
    | (refine p_boxN rfl _ rfl _ rfl (by assumption) ?_; intro g w H; try simp only [Act.put, List.setIfInBounds_toArray, List.set_cons_succ, List.set_cons_zero])
    | (refine p_allocN rfl rfl (by assumption) ?_; intro g w H; try simp only [Act.put, List.setIfInBounds_toArray, List.set_cons_succ, List.set_cons_zero])
    | (refine p_allocP rfl rfl (by assumption) ?_; intro g w H; try simp only [Act.put, List.setIfInBounds_toArray, List.set_cons_succ, List.set_cons_zero])
    | (refine p_loadN rfl _ rfl _ _ rfl (by assumption) (by (repeat (first | exact .head _ | refine .tail _ ?_))) ?_; try simp only [Act.put, List.setIfInBounds_toArray, List.set_cons_succ, List.set_cons_zero])
    | (refine p_loadP rfl _ rfl _ _ _ _ rfl (by assumption) (by (repeat (first | exact .head _ | refine .tail _ ?_))) ?_; try simp only [Act.put, List.setIfInBounds_toArray, List.set_cons_succ, List.set_cons_zero])
    | (refine p_part0 rfl _ rfl _ _ _ _ rfl (by assumption) (by (repeat (first | exact .head _ | refine .tail _ ?_))) ?_; try simp only [Act.put, List.setIfInBounds_toArray, List.set_cons_succ, List.set_cons_zero])
    | (refine p_part1 rfl _ rfl _ _ _ _ rfl (by assumption) (by (repeat (first | exact .head _ | refine .tail _ ?_))) ?_; try simp only [Act.put, List.setIfInBounds_toArray, List.set_cons_succ, List.set_cons_zero])
    | (refine p_part2 rfl _ rfl _ _ _ _ rfl (by assumption) (by (repeat (first | exact .head _ | refine .tail _ ?_))) ?_; try simp only [Act.put, List.setIfInBounds_toArray, List.set_cons_succ, List.set_cons_zero])
    | (refine p_storeN0 rfl _ _ rfl _ _ _ rfl rfl _ (by assumption) ?_; intro w H; try simp only [Act.put, List.setIfInBounds_toArray, List.set_cons_succ, List.set_cons_zero])
    | (refine p_storeN1 rfl _ _ rfl _ _ _ rfl rfl _ _ (by assumption) ?_; intro w H; try simp only [Act.put, List.setIfInBounds_toArray, List.set_cons_succ, List.set_cons_zero])
    | (refine p_storeP0 rfl _ _ rfl _ _ _ _ _ _ _ rfl rfl _ (by assumption) ?_; intro w H; try simp only [Act.put, List.setIfInBounds_toArray, List.set_cons_succ, List.set_cons_zero])
    | (refine p_build1 rfl _ rfl _ (by rw [Array.toList_map]; rfl) ?_; try simp only [Act.put, List.setIfInBounds_toArray, List.set_cons_succ, List.set_cons_zero])
    | (go_at_call 39; with_reducible refine r_call (by assumption) (s0.out _) ?_; intro w H)
    | (go_at_call 39; with_reducible refine r_call (by assumption) (s1.out _) ?_; intro w H)
    | (go_at_call 35; with_reducible refine r_call (by assumption) (cD.out _) ?_; intro w H)
    | (go_at_call 37; with_reducible refine r_call (by assumption) (cA.out _) ?_; intro w H))
  rename_i gp _ _ gr _ _ _ _ gd _ _ _ _ _ _ _ _ _ _ _ _ _ _
  go_loopw [7] (fun v7 wr => ∃ (j : Nat), j ≤ 256 ∧ v7 = .int .i64 ((j : Int) - 1) ∧ RMem wS wr [(g, 48, ptC (lad (256 - j) (numB l / 2 ^ j) p).x (lad (256 - j) (numB l / 2 ^ j) p).y (lad (256 - j) (numB l / 2 ^ j) p).z), (gd, 48, ptC dF 0 0), (gr, 48, ptC 0 0 0), (gp, 48, ptC p.x p.y p.z)]) (fun v7 _ => (RowKit.intOf v7 + 1).toNat)
  case atStart => exact ⟨256, by omega, rfl, by rw [show 256 - 256 = 0 from rfl, hstart.out]; exact H⟩
  case round =>
    clear H
    obtain ⟨j, hj, rfl, H⟩ := hrel
    by_cases hlt : j = 0
    · subst hlt
      rw [Nat.pow_zero, Nat.div_one, Nat.sub_zero] at H
      obtain ⟨t, ht⟩ : ∃ t, lad 256 (numB l) p = t := ⟨_, rfl⟩
      rw [ht] at H
      replace ht := Kept.mk ht
      go_wp2_with (first
        | (refine p_boxP rfl _ rfl _ _ _ rfl (by assumption) ?_; intro g w H; try simp only [Act.put, List.setIfInBounds_toArray, List.set_cons_succ, List.set_cons_zero])
        | (refine p_boxN rfl _ rfl _ rfl (by assumption) ?_; intro g w H; try simp only [Act.put, List.setIfInBounds_toArray, List.set_cons_succ, List.set_cons_zero])
        | (refine p_allocN rfl rfl (by assumption) ?_; intro g w H; try simp only [Act.put, List.setIfInBounds_toArray, List.set_cons_succ, List.set_cons_zero])
        | (refine p_allocP rfl rfl (by assumption) ?_; intro g w H; try simp only [Act.put, List.setIfInBounds_toArray, List.set_cons_succ, List.set_cons_zero])
        | (refine p_loadN rfl _ rfl _ _ rfl (by assumption) (by (repeat (first | exact .head _ | refine .tail _ ?_))) ?_; try simp only [Act.put, List.setIfInBounds_toArray, List.set_cons_succ, List.set_cons_zero])
        | (refine p_loadP rfl _ rfl _ _ _ _ rfl (by assumption) (by (repeat (first | exact .head _ | refine .tail _ ?_))) ?_; try simp only [Act.put, List.setIfInBounds_toArray, List.set_cons_succ, List.set_cons_zero])
        | (refine p_part0 rfl _ rfl _ _ _ _ rfl (by assumption) (by (repeat (first | exact .head _ | refine .tail _ ?_))) ?_; try simp only [Act.put, List.setIfInBounds_toArray, List.set_cons_succ, List.set_cons_zero])
        | (refine p_part1 rfl _ rfl _ _ _ _ rfl (by assumption) (by (repeat (first | exact .head _ | refine .tail _ ?_))) ?_; try simp only [Act.put, List.setIfInBounds_toArray, List.set_cons_succ, List.set_cons_zero])
        | (refine p_part2 rfl _ rfl _ _ _ _ rfl (by assumption) (by (repeat (first | exact .head _ | refine .tail _ ?_))) ?_; try simp only [Act.put, List.setIfInBounds_toArray, List.set_cons_succ, List.set_cons_zero])
        | (refine p_storeN0 rfl _ _ rfl _ _ _ rfl rfl _ (by assumption) ?_; intro w H; try simp only [Act.put, List.setIfInBounds_toArray, List.set_cons_succ, List.set_cons_zero])
        | (refine p_storeN1 rfl _ _ rfl _ _ _ rfl rfl _ _ (by assumption) ?_; intro w H; try simp only [Act.put, List.setIfInBounds_toArray, List.set_cons_succ, List.set_cons_zero])
        | (refine p_storeP0 rfl _ _ rfl _ _ _ _ _ _ _ rfl rfl _ (by assumption) ?_; intro w H; try simp only [Act.put, List.setIfInBounds_toArray, List.set_cons_succ, List.set_cons_zero])
        | (refine p_storeP_fin rfl _ _ rfl _ _ _ _ _ _ _ rfl rfl (by assumption) (by (repeat (first | exact .head _ | refine .tail _ ?_))) ?_; intro w H; try simp only [Act.put, List.setIfInBounds_toArray, List.set_cons_succ, List.set_cons_zero]))
      have ht := ht.out
      subst ht
      exact p_retP Try.results44 _ rfl rfl H (.head _)
    · obtain ⟨i, rfl⟩ : ∃ i, j = i + 1 := ⟨j - 1, by omega⟩
      have ek : 256 - i = (256 - (i + 1)) + 1 := by omega
      have en : numB l / 2 ^ i / 2 = numB l / 2 ^ (i + 1) := by rw [Nat.div_div_eq_div_mul, Nat.pow_succ]
      have hlad : lad (256 - i) (numB l / 2 ^ i) p = bif numB l / 2 ^ i % 2 == 1 then tadd (tadd (lad (256 - (i + 1)) (numB l / 2 ^ (i + 1)) p) (lad (256 - (i + 1)) (numB l / 2 ^ (i + 1)) p)) p else tadd (lad (256 - (i + 1)) (numB l / 2 ^ (i + 1)) p) (lad (256 - (i + 1)) (numB l / 2 ^ (i + 1)) p) := by
        rw [ek, lad, en]
      have hok := lad_ok hp (256 - (i + 1)) (numB l / 2 ^ (i + 1))
      rw [show ((i + 1 : Nat) : Int) - 1 = (i : Int) by omega]
      generalize lad (256 - (i + 1)) (numB l / 2 ^ (i + 1)) p = h at H hlad hok
      have c1 := Kept.mk fun w => Plus_T h h hok hok w
      have c2 := Kept.mk fun w => Plus_T (tadd h h) p (tadd_ok _ _) hp w
      generalize tadd h h = h2 at c1 c2 hlad
      have hi8 : i / 8 < 32 := by omega
      have hs0 : i / 8 < (S l).size := by rw [hsz.out]; exact hi8
      obtain ⟨b, hb⟩ : ∃ b, l.getD (i / 8) 0 = b := ⟨_, rfl⟩
      have g0 : (S l)[i / 8] = b := by rw [byte_at, hb]
      obtain ⟨t, ht⟩ : ∃ t, numB l / 2 ^ i % 2 = t := ⟨_, rfl⟩
      have kd := bit_int l i (by omega) b hb t ht
      have h0 : (0 : Int) ≤ (i : Int) := by omega
      have h1 : (i : Int) < 256 := by omega
      have k1 : IntKind.i64.wrap ((i : Int) - 1) = (i : Int) - 1 := by simp [IntKind.wrap, IntKind.signed, IntKind.bits]; omega
      rw [ht] at hlad
      by_cases hbit : t = 1
      · subst hbit
        have hlad : lad (256 - i) (numB l / 2 ^ i) p = tadd h2 p := hlad
        generalize tadd h2 p = h3 at c2 hlad
        rw [show ((1 : Nat) : Int) = 1 from rfl] at kd
        replace hlad := Kept.mk hlad
        replace hb := Kept.mk hb
        replace ht := Kept.mk ht
        clear hok ek en
        go_wp2_with (first
          | (refine p_boxP rfl _ rfl _ _ _ rfl (by assumption) ?_; intro g w H; try simp only [Act.put, List.setIfInBounds_toArray, List.set_cons_succ, List.set_cons_zero])
          | (refine p_boxN rfl _ rfl _ rfl (by assumption) ?_; intro g w H; try simp only [Act.put, List.setIfInBounds_toArray, List.set_cons_succ, List.set_cons_zero])
          | (refine p_allocN rfl rfl (by assumption) ?_; intro g w H; try simp only [Act.put, List.setIfInBounds_toArray, List.set_cons_succ, List.set_cons_zero])
          | (refine p_allocP rfl rfl (by assumption) ?_; intro g w H; try simp only [Act.put, List.setIfInBounds_toArray, List.set_cons_succ, List.set_cons_zero])
          | (refine p_loadN rfl _ rfl _ _ rfl (by assumption) (by (repeat (first | exact .head _ | refine .tail _ ?_))) ?_; try simp only [Act.put, List.setIfInBounds_toArray, List.set_cons_succ, List.set_cons_zero])
          | (refine p_loadP rfl _ rfl _ _ _ _ rfl (by assumption) (by (repeat (first | exact .head _ | refine .tail _ ?_))) ?_; try simp only [Act.put, List.setIfInBounds_toArray, List.set_cons_succ, List.set_cons_zero])
          | (refine p_part0 rfl _ rfl _ _ _ _ rfl (by assumption) (by (repeat (first | exact .head _ | refine .tail _ ?_))) ?_; try simp only [Act.put, List.setIfInBounds_toArray, List.set_cons_succ, List.set_cons_zero])
          | (refine p_part1 rfl _ rfl _ _ _ _ rfl (by assumption) (by (repeat (first | exact .head _ | refine .tail _ ?_))) ?_; try simp only [Act.put, List.setIfInBounds_toArray, List.set_cons_succ, List.set_cons_zero])
          | (refine p_part2 rfl _ rfl _ _ _ _ rfl (by assumption) (by (repeat (first | exact .head _ | refine .tail _ ?_))) ?_; try simp only [Act.put, List.setIfInBounds_toArray, List.set_cons_succ, List.set_cons_zero])
          | (refine p_storeN0 rfl _ _ rfl _ _ _ rfl rfl _ (by assumption) ?_; intro w H; try simp only [Act.put, List.setIfInBounds_toArray, List.set_cons_succ, List.set_cons_zero])
          | (refine p_storeN1 rfl _ _ rfl _ _ _ rfl rfl _ _ (by assumption) ?_; intro w H; try simp only [Act.put, List.setIfInBounds_toArray, List.set_cons_succ, List.set_cons_zero])
          | (refine p_storeP0 rfl _ _ rfl _ _ _ _ _ _ _ rfl rfl _ (by assumption) ?_; intro w H; try simp only [Act.put, List.setIfInBounds_toArray, List.set_cons_succ, List.set_cons_zero])
          | (go_at_call 34; with_reducible refine r_call (by assumption) (c1.out _) ?_; intro w H)
          | (go_at_call 34; with_reducible refine r_call (by assumption) (c2.out _) ?_; intro w H))
        go_roundw
        case rel => exact ⟨i, by omega, val_eq (by omega), by rw [hlad.out]; exact H⟩
        case measure => first | (simp [RowKit.intOf]; done) | (simp [RowKit.intOf]; omega)
      · have hlad : lad (256 - i) (numB l / 2 ^ i) p = h2 := by
          rw [hlad, show (t == 1) = false by simp [hbit]]
          rfl
        have ht0 : t = 0 := by omega
        subst ht0
        rw [show ((0 : Nat) : Int) = 0 from rfl] at kd
        replace hlad := Kept.mk hlad
        replace hb := Kept.mk hb
        replace ht := Kept.mk ht
        clear hok ek en c2
        go_wp2_with (first
          | (refine p_boxP rfl _ rfl _ _ _ rfl (by assumption) ?_; intro g w H; try simp only [Act.put, List.setIfInBounds_toArray, List.set_cons_succ, List.set_cons_zero])
          | (refine p_boxN rfl _ rfl _ rfl (by assumption) ?_; intro g w H; try simp only [Act.put, List.setIfInBounds_toArray, List.set_cons_succ, List.set_cons_zero])
          | (refine p_allocN rfl rfl (by assumption) ?_; intro g w H; try simp only [Act.put, List.setIfInBounds_toArray, List.set_cons_succ, List.set_cons_zero])
          | (refine p_allocP rfl rfl (by assumption) ?_; intro g w H; try simp only [Act.put, List.setIfInBounds_toArray, List.set_cons_succ, List.set_cons_zero])
          | (refine p_loadN rfl _ rfl _ _ rfl (by assumption) (by (repeat (first | exact .head _ | refine .tail _ ?_))) ?_; try simp only [Act.put, List.setIfInBounds_toArray, List.set_cons_succ, List.set_cons_zero])
          | (refine p_loadP rfl _ rfl _ _ _ _ rfl (by assumption) (by (repeat (first | exact .head _ | refine .tail _ ?_))) ?_; try simp only [Act.put, List.setIfInBounds_toArray, List.set_cons_succ, List.set_cons_zero])
          | (refine p_part0 rfl _ rfl _ _ _ _ rfl (by assumption) (by (repeat (first | exact .head _ | refine .tail _ ?_))) ?_; try simp only [Act.put, List.setIfInBounds_toArray, List.set_cons_succ, List.set_cons_zero])
          | (refine p_part1 rfl _ rfl _ _ _ _ rfl (by assumption) (by (repeat (first | exact .head _ | refine .tail _ ?_))) ?_; try simp only [Act.put, List.setIfInBounds_toArray, List.set_cons_succ, List.set_cons_zero])
          | (refine p_part2 rfl _ rfl _ _ _ _ rfl (by assumption) (by (repeat (first | exact .head _ | refine .tail _ ?_))) ?_; try simp only [Act.put, List.setIfInBounds_toArray, List.set_cons_succ, List.set_cons_zero])
          | (refine p_storeN0 rfl _ _ rfl _ _ _ rfl rfl _ (by assumption) ?_; intro w H; try simp only [Act.put, List.setIfInBounds_toArray, List.set_cons_succ, List.set_cons_zero])
          | (refine p_storeN1 rfl _ _ rfl _ _ _ rfl rfl _ _ (by assumption) ?_; intro w H; try simp only [Act.put, List.setIfInBounds_toArray, List.set_cons_succ, List.set_cons_zero])
          | (refine p_storeP0 rfl _ _ rfl _ _ _ _ _ _ _ rfl rfl _ (by assumption) ?_; intro w H; try simp only [Act.put, List.setIfInBounds_toArray, List.set_cons_succ, List.set_cons_zero])
          | (go_at_call 34; with_reducible refine r_call (by assumption) (c1.out _) ?_; intro w H))
        go_roundw
        case rel => exact ⟨i, by omega, val_eq (by omega), by rw [hlad.out]; exact H⟩
        case measure => first | (simp [RowKit.intOf]; done) | (simp [RowKit.intOf]; omega)
end Go.Proofs.Ytockcnglennihaa
