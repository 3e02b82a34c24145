/- Walks of the document's answer for package field: differences.
Walks of the document's answer for package field: digits that are too great, modulo p.
Walks of the document's answer for package field: sums and differences modulo p.
Walks of the document's answer for package field: the bytes of a number.
The law package's own calls: small numbers' elements; the calls that the document fixes.
Package field: squares, roots, inverses, modulo the prime. No walk. -/
import Derived.Test.YtgnblaaldpniiaaGreatDoorZA6
import Derived.Deep.LoopGhost
import Derived.Test.YtgnblaaldpniiaaGreatDoorZA5
import Derived.Deep.OwnRows
section
set_option linter.unusedSimpArgs false
set_option linter.unusedVariables false
set_option maxRecDepth 100000
namespace Go.Proofs.YtgnblaaldpniiaaGreatDoor
open Go.RowKit
def lessL : List Nat → List Nat → Nat → List Nat
  | x :: xs, y :: ys, c => (if x < y + c then x + 65536 - y - c else x - y - c) :: lessL xs ys (if x < y + c then 1 else 0)
  | _, _, _ => []
theorem lessL_nil (ys : List Nat) (c : Nat) : lessL [] ys c = [] := by cases ys <;> rfl
theorem lessL_len : ∀ (xs ys : List Nat) (c : Nat), xs.length = ys.length → (lessL xs ys c).length = xs.length
  | [], _, _, _ => by rw [lessL_nil]
  | x :: xs, [], _, h => by simp at h
  | x :: xs, y :: ys, c, h => by rw [lessL, List.length_cons, List.length_cons, lessL_len xs ys _ (by simpa using h)]
theorem lessL_lt : ∀ (xs ys : List Nat) (c : Nat), (∀ x ∈ xs, x < 65536) → ∀ z ∈ lessL xs ys c, z < 65536
  | [], _, _, _, z, h => by rw [lessL_nil] at h; simp at h
  | x :: xs, [], _, _, z, h => by simp [lessL] at h
  | x :: xs, y :: ys, c, hx, z, h => by
    rw [lessL, List.mem_cons] at h
    have := hx x (by simp)
    rcases h with rfl | h
    · split <;> omega
    · exact lessL_lt xs ys _ (fun q hq => hx q (by simp [hq])) z h
theorem lessL_val : ∀ (xs ys : List Nat) (c : Nat), xs.length = ys.length → (∀ x ∈ xs, x < 65536) → (∀ x ∈ ys, x < 65536) → c ≤ 1 → valB 65536 ys + c ≤ valB 65536 xs →
    valB 65536 (lessL xs ys c) + valB 65536 ys + c = valB 65536 xs
  | [], [], c, _, _, _, _, hle => by simp [valB, lessL] at hle ⊢; omega
  | [], y :: ys, _, h, _, _, _, _ => by simp at h
  | x :: xs, [], _, h, _, _, _, _ => by simp at h
  | x :: xs, y :: ys, c, h, hx, hy, hc, hle => by
    have h1 := hx x (by simp)
    have h2 := hy y (by simp)
    simp only [valB] at hle
    by_cases hb : x < y + c
    · have ih := lessL_val xs ys 1 (by simpa using h) (fun z hz => hx z (by simp [hz])) (fun z hz => hy z (by simp [hz])) (by omega) (by omega)
      rw [lessL, if_pos hb, if_pos hb]
      simp only [valB]
      omega
    · have ih := lessL_val xs ys 0 (by simpa using h) (fun z hz => hx z (by simp [hz])) (fun z hz => hy z (by simp [hz])) (by omega) (by omega)
      rw [lessL, if_neg hb, if_neg hb]
      simp only [valB]
      omega
theorem step_set {d l r : List Nat} {i x : Nat} (hd : d.length = i) (hl : l = x :: r) (v : Nat) : (d ++ l).set i v = (d ++ [v]) ++ r := by
  rw [hl, ← hd, set_mid]
theorem step_get {d l r : List Nat} {i x : Nat} (hd : d.length = i) (hl : l = x :: r) : (d ++ l).getD i 0 = x := by
  rw [hl, ← hd]; simp
set_option maxHeartbeats 1000000 in
theorem lessL_any (a b : List Nat) (hal : a.length = 16) (hbl : b.length = 16) (haW : ∀ x ∈ a, x < 65536) (hbW : ∀ x ∈ b, x < 65536) (wS : World) : Calls Tryz.prog 67 #[arrV a, arrV b] wS (AP (lessL a b 0) wS) := by
  have H := AMem.start wS
  have hll := Kept.mk (And.intro hal hbl)
  have hres : (lessL a b 0).length = 16 := by rw [lessL_len a b 0 (by rw [hal, hbl]), hal]
  obtain ⟨R, hR⟩ : ∃ R, lessL a b 0 = R := ⟨_, rfl⟩
  rw [hR] at hres ⊢
  replace hR := Kept.mk hR
  replace haW := Kept.mk haW
  replace hbW := Kept.mk hbW
  unfold arrV
  go_enter Tryz.func67, Tryz.ntmps67
  go_wp2_with (first
    | (refine a_box rfl _ rfl _ rfl (by assumption) (by first | assumption | exact limbs_len _ _ _ | exact z16_len) ?_; intro g w H; try simp only [Act.put, yI, yC, yZ])
    | (refine a_alloc rfl rfl (by assumption) ?_; intro g w H; try simp only [Act.put, yI, yC, yZ]))
  clear hal hbl
  rename_i ga _ _ gb _ _ K _
  go_loopw [5, 6] (fun v5 v6 wr => ∃ (i c : Nat) (d : List Nat), i ≤ 16 ∧ c ≤ 1 ∧ v5 = .int .i64 (c : Int) ∧ v6 = .int .i64 (i : Int) ∧ Kept (d.length = i) ∧ AMem wS wr [(g, z16), (gb, b), (ga, d ++ a.drop i)] ∧ Kept (d ++ lessL (a.drop i) (b.drop i) c = R)) (fun _ v6 _ => 16 - (RowKit.intOf v6).toNat)
  case atStart => exact ⟨0, 0, [], by omega, by omega, rfl, rfl, ⟨rfl⟩, H, hR⟩
  case round =>
    clear H
    obtain ⟨i, c, d, hi, hc, rfl, rfl, HD, H, HE⟩ := hrel
    by_cases hlt : i < 16
    · obtain ⟨p, hp⟩ : ∃ p, a.getD i 0 = p := ⟨_, rfl⟩
      obtain ⟨q, hq⟩ : ∃ q, b.getD i 0 = q := ⟨_, rfl⟩
      have hda := drop_getD a i (by rw [hll.out.1]; omega)
      have hdb := drop_getD b i (by rw [hll.out.2]; omega)
      rw [hp] at hda
      rw [hq] at hdb
      have hpl : p < 65536 := hp ▸ getD_ltN haW.out i (by rw [hll.out.1]; omega)
      have hql : q < 65536 := hq ▸ getD_ltN hbW.out i (by rw [hll.out.2]; omega)
      have c1 := H.hcell (.tail _ (.tail _ (.head _))) i p hlt (step_get HD.out hda)
      have c2 := H.hcell (.tail _ (.head _)) i q hlt hq
      have hlti : (i : Int) < 16 := by omega
      have k1 : IntKind.i64.wrap ((p : Int) - (q : Int)) = (p : Int) - (q : Int) := by simp [IntKind.wrap, IntKind.signed, IntKind.bits]; omega
      have k2 : IntKind.i64.wrap ((p : Int) - (q : Int) - (c : Int)) = (p : Int) - (q : Int) - (c : Int) := by simp [IntKind.wrap, IntKind.signed, IntKind.bits]; omega
      replace hp := Kept.mk hp
      replace hq := Kept.mk hq
      replace hda := Kept.mk hda
      replace hdb := Kept.mk hdb
      go_wp2
      refine wp_region_from (by kernel_rfl) (by kernel_rfl) ?_
      repeat (first
        | (go_big_quiet_want; (refine a_quiet_load _ rfl _ _ rfl (by assumption) (by (repeat (first | exact .head _ | refine .tail _ ?_))) ?_); try simp only [Act.put, yI, yC, yZ]; go_big_quiet_on)
        | go_big_quiet_step ((fail)))
      refine wpQuiet_nil ?_
      intro w5 hw5
      have H := H.from hw5
      clear hw5
      clear c1 c2
      have c3 := H.cell (.tail _ (.tail _ (.head _))) i hlt
      have f3 := H.frozen (.tail _ (.tail _ (.head _))) i
      rw [step_get HD.out hda.out] at c3
      by_cases hu : p < q + c
      · have hn : (p : Int) - (q : Int) - (c : Int) < 0 := by omega
        have hE : d ++ [p + 65536 - q - c] ++ lessL (a.drop (i + 1)) (b.drop (i + 1)) 1 = R := by
          have h := HE.out
          rw [hda.out, hdb.out, lessL, if_pos hu, if_pos hu] at h
          rw [List.append_assoc]; exact h
        have Hn := H.cell2 i (p + 65536 - q - c) ((p : Int) - (q : Int) - (c : Int) + 65536) (by omega)
        rw [step_set HD.out hda.out] at Hn
        replace hE := Kept.mk hE
        go_wp2
        go_roundw
        case rel => exact ⟨i + 1, 1, d ++ [p + 65536 - q - c], by omega, by omega, rfl, val_eq (by omega), ⟨by rw [List.length_append, HD.out]; rfl⟩, Hn, hE⟩
        case measure => simp [RowKit.intOf]; omega
      · have hn : ¬ ((p : Int) - (q : Int) - (c : Int) < 0) := by omega
        have hE : d ++ [p - q - c] ++ lessL (a.drop (i + 1)) (b.drop (i + 1)) 0 = R := by
          have h := HE.out
          rw [hda.out, hdb.out, lessL, if_neg hu, if_neg hu] at h
          rw [List.append_assoc]; exact h
        have Hn := H.cell2 i (p - q - c) ((p : Int) - (q : Int) - (c : Int)) (by omega)
        rw [step_set HD.out hda.out] at Hn
        replace hE := Kept.mk hE
        go_wp2
        go_roundw
        case rel => exact ⟨i + 1, 0, d ++ [p - q - c], by omega, by omega, rfl, val_eq (by omega), ⟨by rw [List.length_append, HD.out]; rfl⟩, Hn, hE⟩
        case measure => simp [RowKit.intOf]; omega
    · obtain rfl : i = 16 := by omega
      have hd : d = R := by
        have h := HE.out
        rw [List.drop_eq_nil_of_le (show a.length ≤ 16 by rw [hll.out.1]; omega), lessL_nil, List.append_nil] at h
        exact h
      have hdl : (d ++ a.drop 16).length = 16 := by rw [List.length_append, HD.out, List.length_drop, hll.out.1]
      have hfin : d ++ a.drop 16 = R := by rw [List.drop_eq_nil_of_le (by rw [hll.out.1]; omega), List.append_nil, hd]
      rw [hfin] at H
      clear hdl hfin hd HE
      go_wp2_with (first
        | (refine a_load rfl _ rfl _ _ rfl (by assumption) (by (repeat (first | exact .head _ | refine .tail _ ?_))) ?_; try simp only [Act.put, yI, yC, yZ])
        | (refine a_store0 rfl _ _ rfl _ _ _ rfl rfl _ (by assumption) (by first | assumption | exact limbs_len _ _ _ | exact z16_len) ?_; intro w H; try simp only [Act.put, yI, yC, yZ]))
      exact a_ret Tryz.results67 _ rfl rfl (by assumption) (by (repeat (first | exact .head _ | refine .tail _ ?_))) (rfl)
theorem less_any (x y : Nat) (hx : x < big) (hle : y ≤ x) (wS : World) : Calls Tryz.prog 67 #[arrV (Md x), arrV (Md y)] wS (AP (Md (x - y)) wS) := by
  have h := lessL_any (Md x) (Md y) (Md_len x) (Md_len y) (Md_lt x) (Md_lt y) wS
  have hv := lessL_val (Md x) (Md y) 0 (by rw [Md_len, Md_len]) (Md_lt x) (Md_lt y) (by omega) (by rw [Md_val x hx, Md_val y (by omega)]; exact hle)
  rw [Md_val x hx, Md_val y (by omega)] at hv
  rw [Md_of (lessL (Md x) (Md y) 0) (x - y) (by rw [lessL_len _ _ _ (by rw [Md_len, Md_len]), Md_len]) (lessL_lt _ _ _ (Md_lt x)) (by omega)] at h
  exact h
end Go.Proofs.YtgnblaaldpniiaaGreatDoor
end
section
set_option linter.unusedSimpArgs false
set_option linter.unusedVariables false
set_option maxRecDepth 100000
namespace Go.Proofs.YtgnblaaldpniiaaGreatDoor
open Go.RowKit
def dA : List Nat → Nat → List Nat
  | x :: xs, c => (x + c) % 65536 :: dA xs ((x + c) / 65536)
  | [], _ => []
def dK : List Nat → Nat → Nat
  | x :: xs, c => dK xs ((x + c) / 65536)
  | [], c => c
theorem dA_lt : ∀ (l : List Nat) (c : Nat), ∀ x ∈ dA l c, x < 65536
  | [], _, x, h => by simp [dA] at h
  | y :: ys, c, x, h => by
    rw [dA, List.mem_cons] at h
    rcases h with rfl | h
    · exact Nat.mod_lt _ (by decide)
    · exact dA_lt ys _ x h
theorem d_val : ∀ (xs : List Nat) (c : Nat), valB 65536 (dA xs c) + 65536 ^ xs.length * dK xs c = valB 65536 xs + c
  | [], c => by simp [dA, dK, valB]
  | x :: xs, c => by
    have ih := d_val xs ((x + c) / 65536)
    rw [dA, dK, List.length_cons]
    simp only [valB]
    rw [Nat.pow_succ, Nat.mul_comm (65536 ^ xs.length) 65536, Nat.mul_assoc]
    generalize 65536 ^ xs.length * dK xs ((x + c) / 65536) = p at ih ⊢
    omega
theorem set0_val (l : List Nat) (h : 0 < l.length) (v : Nat) : valB 65536 (l.set 0 (l.getD 0 0 + v)) = valB 65536 l + v := by
  cases l with
  | nil => simp at h
  | cons x r => simp [valB]; omega
theorem set0_lt (l : List Nat) (B v : Nat) (hl : ∀ x ∈ l, x < 65536) (hB : 65536 ≤ B) (hv : v < B) : ∀ x ∈ l.set 0 v, x < B := by
  intro x hx
  rcases List.mem_or_eq_of_mem_set hx with h | rfl
  · exact Nat.lt_of_lt_of_le (hl x h) hB
  · exact hv
theorem p_bigR : pF < big := by decide +kernel
def flag (c : Nat) : Nat := if c = 0 then 0 else 1
set_option maxHeartbeats 2000000 in
theorem mod_any (l : List Nat) (hl : l.length = 16) (hlW : ∀ x ∈ l, x < 281474976710656) (wS : World) : Calls Tryz.prog 65 #[arrV l] wS (AP (Md (valB 65536 l % pF)) wS) := by
  have H := AMem.start wS
  have hll := Kept.mk hl
  replace hlW := Kept.mk hlW
  obtain ⟨V, hV⟩ : ∃ V, valB 65536 l = V := ⟨_, rfl⟩
  rw [hV]
  replace hV := Kept.mk hV
  unfold arrV
  go_enter Tryz.func65, Tryz.ntmps65
  go_wp2_with (first
    | (refine a_box rfl _ rfl _ rfl (by assumption) (by first | assumption | exact limbs_len _ _ _ | exact z16_len) ?_; intro g w H; try simp only [Act.put, yI, yC, yZ])
    | (refine a_alloc rfl rfl (by assumption) ?_; intro g w H; try simp only [Act.put, yI, yC, yZ]))
  clear hl
  rename_i gy _ _ K _
  rename Nat => gr
  go_loopg [3] (2 * V + 1) (fun k v3 wr => ∃ (o : Nat) (y : List Nat), o < 8589934592 ∧ v3 = .int .i64 (o : Int) ∧ Kept (∀ x ∈ y, x < 281474976710656) ∧ AMem wS wr [(gr, z16), (gy, y)] ∧ Kept (valB 65536 y % pF = V % pF) ∧ Kept (o = 0 → ∀ x ∈ y, x < 65536) ∧ Kept (2 * valB 65536 y + flag o = k))
  case atStart => exact ⟨1, l, by omega, rfl, hlW, H, ⟨by rw [hV.out]⟩, ⟨fun h => absurd h (by decide)⟩, ⟨by rw [hV.out]; rfl⟩⟩
  case round =>
    clear H hlW
    obtain ⟨o, y, ho, rfl, HW, H, HV, HZ, HK⟩ := hrel
    have hyl := Kept.mk (H.len gy y (.tail _ (.head _)))
    by_cases ho0 : o = 0
    · subst ho0
      rw [show ((0 : Nat) : Int) = 0 from rfl]
      have hz := HZ.out rfl
      obtain ⟨v, hv⟩ : ∃ v, valB 65536 y = v := ⟨_, rfl⟩
      have hyM : y = Md v := Md_of y v hyl.out hz hv
      have hvb : v < big := by
        have h := valB_lt (B := 65536) (by decide) y hz
        rw [hyl.out, big16, hv] at h
        exact h
      have hvV := HV.out
      rw [hv] at hvV
      have hv3 : v < (2 + 1) * pF := by
        have := big_p
        have h2 : 38 < pF := by decide +kernel
        omega
      subst hyM
      replace hvV := Kept.mk hvV
      clear hz hv HV HZ HK HW hyl
      have hPl := Md_len pF
      go_wp2_with (first
        | (refine a_alloc rfl rfl (by assumption) ?_; intro g w H; try simp only [Act.put, yI, yC, yZ])
        | (refine a_store0 rfl _ _ rfl _ _ _ rfl rfl _ (by assumption) (by first | assumption | exact limbs_len _ _ _ | exact z16_len) ?_; intro w H; try simp only [Act.put, yI, yC, yZ])
        | (go_at_call 68; refine a_call (by assumption) (P_any _) ?_; intro w H))
      clear hPl
      rename Nat => gp
      go_loopg [] 2 (fun k wr => ∃ y, y < big ∧ y < (k + 1) * pF ∧ Kept (y % pF = V % pF) ∧ AMem wS wr [(gp, Md pF), (gr, z16), (gy, Md y)])
      case atStart => exact ⟨v, hvb, hv3, hvV, H⟩
      case round =>
        clear H hvb hv3 hvV
        obtain ⟨y, hyb, hyk, HY, H⟩ := hrel
        by_cases hr : y < pF
        · have hres := HY.out
          rw [Nat.mod_eq_of_lt hr] at hres
          replace hres := Kept.mk hres
          have cB := fun w => Below_any y pF hyb p_bigR w
          rw [decide_eq_true hr] at cB
          replace cB := Kept.mk cB
          have hyl := Md_len y
          clear hyb hyk hr
          go_wp2_with (first
            | (refine a_load rfl _ rfl _ _ rfl (by assumption) (by (repeat (first | exact .head _ | refine .tail _ ?_))) ?_; try simp only [Act.put, yI, yC, yZ])
            | (refine a_store1 rfl _ _ rfl _ _ _ rfl rfl _ _ (by assumption) (by first | assumption | exact limbs_len _ _ _ | exact z16_len) ?_; intro w H; try simp only [Act.put, yI, yC, yZ])
            | (go_at_call 93; refine a_call (by assumption) (cB.out _) ?_; intro w H))
          rw [← hres.out]
          exact a_ret Tryz.results65 _ rfl rfl (by assumption) (by (repeat (first | exact .head _ | refine .tail _ ?_))) (rfl)
        · obtain ⟨k, rfl⟩ : ∃ k, gk = k + 1 := by
            cases gk with
            | zero => rw [Nat.zero_add, Nat.one_mul] at hyk; exact absurd hyk hr
            | succ k => exact ⟨k, rfl⟩
          have cB := fun w => Below_any y pF hyb p_bigR w
          rw [decide_eq_false hr] at cB
          replace cB := Kept.mk cB
          have cL := Kept.mk fun w => less_any y pF hyb (Nat.not_lt.1 hr) w
          have n1 : y - pF < big := by omega
          have n2 : y - pF < (k + 1) * pF := by rw [Nat.add_mul (k + 1), Nat.one_mul] at hyk; omega
          have n3 : (y - pF) % pF = V % pF := by
            have h := HY.out
            rw [← Nat.sub_add_cancel (Nat.not_lt.1 hr), Nat.add_mod_right] at h
            exact h
          replace n3 := Kept.mk n3
          have hyl := Md_len (y - pF)
          clear hyb hyk hr HY
          go_wp2_with (first
            | (refine a_load rfl _ rfl _ _ rfl (by assumption) (by (repeat (first | exact .head _ | refine .tail _ ?_))) ?_; try simp only [Act.put, yI, yC, yZ])
            | (refine a_store2 rfl _ _ rfl _ _ _ rfl rfl _ _ _ (by assumption) (by first | assumption | exact limbs_len _ _ _ | exact z16_len) ?_; intro w H; try simp only [Act.put, yI, yC, yZ])
            | (go_at_call 93; refine a_call (by assumption) (cB.out _) ?_; intro w H)
            | (go_at_call 67; refine a_call (by assumption) (cL.out _) ?_; intro w H))
          go_roundg k
          case rel => exact ⟨y - pF, n1, n2, n3, H⟩
          case measure => omega
    · have hgt : (0 : Int) < (o : Int) := by omega
      have hyW := HW.out
      go_wp2
      clear hgt
      obtain ⟨wo, rfl⟩ : ∃ wo : World, wo = wr := ⟨_, rfl⟩
      go_loopw [3, 4] (fun v3 v4 wr => ∃ (i c : Nat) (d : List Nat), i ≤ 16 ∧ c < 8589934592 ∧ v3 = .int .i64 (c : Int) ∧ v4 = .int .i64 (i : Int) ∧ Kept (d.length = i) ∧ AMem wS wr [(gr, z16), (gy, d ++ y.drop i)] ∧ Kept (d ++ dA (y.drop i) c = dA y 0) ∧ Kept (dK (y.drop i) c = dK y 0)) (fun _ v4 _ => 16 - (RowKit.intOf v4).toNat)
      case atStart => exact ⟨0, 0, [], by omega, by omega, rfl, rfl, ⟨rfl⟩, H, ⟨rfl⟩, ⟨rfl⟩⟩
      case round =>
        clear H hyW
        obtain ⟨i, c, d, hi, hc, rfl, rfl, HD, H, HE, HC⟩ := hrel
        by_cases hlt : i < 16
        · obtain ⟨p, hp⟩ : ∃ p, y.getD i 0 = p := ⟨_, rfl⟩
          have hda := drop_getD y i (by rw [hyl.out]; omega)
          rw [hp] at hda
          have hpl : p < 281474976710656 := hp ▸ getD_ltN HW.out i (by rw [hyl.out]; omega)
          have c1 := H.cell (.tail _ (.head _)) i hlt
          rw [step_get HD.out hda] at c1
          have f1 := H.frozen (.tail _ (.head _)) i
          have hlti : (i : Int) < 16 := by omega
          have Hn := (H.cell1 i (p + c) ((p : Int) + (c : Int)) (by omega)).cell1 i ((p + c) % 65536) (((p : Int) + (c : Int)) % 65536) (by omega)
          rw [List.set_set, step_set HD.out hda] at Hn
          have hE : d ++ [(p + c) % 65536] ++ dA (y.drop (i + 1)) ((p + c) / 65536) = dA y 0 := by
            have h := HE.out
            rw [hda, dA] at h
            rw [List.append_assoc]; exact h
          have hC : dK (y.drop (i + 1)) ((p + c) / 65536) = dK y 0 := by
            have h := HC.out
            rw [hda, dK] at h
            exact h
          replace hE := Kept.mk hE
          replace hC := Kept.mk hC
          replace hp := Kept.mk hp
          replace hda := Kept.mk hda
          go_wp2
          go_roundw
          case rel => exact ⟨i + 1, (p + c) / 65536, d ++ [(p + c) % 65536], by omega, by omega, val_eq (by omega), val_eq (by omega), ⟨by rw [List.length_append, HD.out]; rfl⟩, Hn, hE, hC⟩
          case measure => simp [RowKit.intOf]; omega
        · obtain rfl : i = 16 := by omega
          have hn : y.drop 16 = [] := List.drop_eq_nil_of_le (by rw [hyl.out]; omega)
          have hE := HE.out
          have hC := HC.out
          rw [hn, dA, List.append_nil] at hE
          rw [hn, dK] at hC
          rw [hn, List.append_nil] at H
          have hdW : ∀ x ∈ d, x < 65536 := hE ▸ dA_lt y 0
          have hdl : d.length = 16 := HD.out
          obtain ⟨q, hq⟩ : ∃ q, d.getD 0 0 = q := ⟨_, rfl⟩
          have hql : q < 65536 := hq ▸ getD_ltN hdW 0 (by omega)
          have c1 := H.cell (.tail _ (.head _)) 0 (by omega)
          rw [hq] at c1
          have f1 := H.frozen (.tail _ (.head _)) 0
          have k1 : IntKind.i64.wrap (38 * (c : Int)) = 38 * (c : Int) := by simp [IntKind.wrap, IntKind.signed, IntKind.bits]; omega
          have Hn := H.cell1 0 (q + 38 * c) ((q : Int) + 38 * (c : Int)) (by omega)
          have hval := d_val y 0
          rw [hE.symm, hC.symm, hyl.out, big16] at hval
          have hs0 := set0_val d (by omega) (38 * c)
          rw [hq] at hs0
          have hlt2 := set0_lt d 281474976710656 (q + 38 * c) hdW (by omega) (by omega)
          have hmod : valB 65536 (d.set 0 (q + 38 * c)) % pF = V % pF := by
            rw [hs0, ← HV.out, show valB 65536 y = valB 65536 d + big * c by omega, big_mod]
          have hz : c = 0 → ∀ x ∈ d.set 0 (q + 38 * c), x < 65536 := fun h => by
            rw [h]; exact set0_lt d 65536 (q + 38 * 0) hdW (by omega) (by omega)
          have hmeas : 2 * valB 65536 (d.set 0 (q + 38 * c)) + flag c < gk := by
            rw [hs0, ← HK.out, show valB 65536 y = valB 65536 d + big * c by omega]
            have hb : 38 < big := by decide +kernel
            have hfo : flag o = 1 := if_neg ho0
            rw [hfo]
            by_cases h : c = 0
            · subst h; simp [flag]
            · have hfc : flag c = 1 := if_neg h
              rw [hfc]
              have : 39 * c ≤ big * c := Nat.mul_le_mul_right c hb
              omega
          replace hmod := Kept.mk hmod
          replace hz := Kept.mk hz
          replace hmeas := Kept.mk hmeas
          replace hlt2 := Kept.mk hlt2
          replace hE := Kept.mk hE
          replace hC := Kept.mk hC
          replace hq := Kept.mk hq
          clear hs0 hval hdl hdW hn
          go_wp2
          go_roundg (2 * valB 65536 (d.set 0 (q + 38 * c)) + flag c)
          case rel => exact ⟨c, d.set 0 (q + 38 * c), hc, rfl, hlt2, Hn, hmod, hz, ⟨rfl⟩⟩
          case measure => exact hmeas.out
end Go.Proofs.YtgnblaaldpniiaaGreatDoor
end
section
set_option linter.unusedSimpArgs false
set_option linter.unusedVariables false
set_option maxRecDepth 100000
namespace Go.Proofs.YtgnblaaldpniiaaGreatDoor
open Go.RowKit
def zipA : List Nat → List Nat → List Nat
  | x :: xs, y :: ys => (x + y) :: zipA xs ys
  | _, _ => []
theorem zipA_nil (ys : List Nat) : zipA [] ys = [] := by cases ys <;> rfl
theorem zipA_len : ∀ (xs ys : List Nat), xs.length = ys.length → (zipA xs ys).length = xs.length
  | [], _, _ => by rw [zipA_nil]
  | x :: xs, [], h => by simp at h
  | x :: xs, y :: ys, h => by rw [zipA, List.length_cons, List.length_cons, zipA_len xs ys (by simpa using h)]
theorem zipA_val (B : Nat) : ∀ (xs ys : List Nat), xs.length = ys.length → valB B (zipA xs ys) = valB B xs + valB B ys
  | [], [], _ => rfl
  | [], y :: ys, h => by simp at h
  | x :: xs, [], h => by simp at h
  | x :: xs, y :: ys, h => by
    rw [zipA, valB, zipA_val B xs ys (by simpa using h), valB, valB, Nat.mul_add]
    omega
theorem zipA_lt : ∀ (xs ys : List Nat), (∀ x ∈ xs, x < 65536) → (∀ x ∈ ys, x < 65536) → ∀ z ∈ zipA xs ys, z < 281474976710656
  | [], _, _, _, z, h => by rw [zipA_nil] at h; simp at h
  | x :: xs, [], _, _, z, h => by simp [zipA] at h
  | x :: xs, y :: ys, hx, hy, z, h => by
    rw [zipA, List.mem_cons] at h
    have h1 := hx x (by simp)
    have h2 := hy y (by simp)
    rcases h with rfl | h
    · omega
    · exact zipA_lt xs ys (fun q hq => hx q (by simp [hq])) (fun q hq => hy q (by simp [hq])) z h
set_option maxHeartbeats 1000000 in
theorem Plus_any (x y : Nat) (hx : x < big) (hy : y < big) (wS : World) : Calls Tryz.prog 62 #[arrV (Md x), arrV (Md y)] wS (AP (Md ((x + y) % pF)) wS) := by
  have H := AMem.start wS
  obtain ⟨a, ha⟩ : ∃ a, Md x = a := ⟨_, rfl⟩
  obtain ⟨b, hb⟩ : ∃ b, Md y = b := ⟨_, rfl⟩
  have hal : a.length = 16 := by rw [← ha, Md_len]
  have hbl : b.length = 16 := by rw [← hb, Md_len]
  have haW : ∀ x ∈ a, x < 65536 := ha ▸ Md_lt x
  have hbW : ∀ x ∈ b, x < 65536 := hb ▸ Md_lt y
  have hzl : (zipA a b).length = 16 := by rw [zipA_len a b (by rw [hal, hbl]), hal]
  have cM := fun w => mod_any (zipA a b) hzl (zipA_lt a b haW hbW) w
  rw [zipA_val 65536 a b (by rw [hal, hbl]), ← ha, ← hb, Md_val x hx, Md_val y hy, ha, hb] at cM
  rw [ha, hb]
  obtain ⟨R, hR⟩ : ∃ R, zipA a b = R := ⟨_, rfl⟩
  rw [hR] at cM hzl
  replace cM := Kept.mk cM
  replace hR := Kept.mk hR
  replace haW := Kept.mk haW
  replace hbW := Kept.mk hbW
  replace ha := Kept.mk ha
  replace hb := Kept.mk hb
  have hll := Kept.mk (And.intro hal hbl)
  have hml := Md_len ((x + y) % pF)
  clear hx hy
  unfold arrV
  go_enter Tryz.func62, Tryz.ntmps62
  go_wp2_with (first
    | (refine a_box rfl _ rfl _ rfl (by assumption) (by first | assumption | exact limbs_len _ _ _ | exact z16_len) ?_; intro g w H; try simp only [Act.put, yI, yC, yZ])
    | (refine a_alloc rfl rfl (by assumption) ?_; intro g w H; try simp only [Act.put, yI, yC, yZ]))
  clear hal hbl
  rename_i ga _ _ gb _ _ K _
  rename Nat => gr
  go_loopw [5] (fun v5 wr => ∃ (i : Nat) (d : List Nat), i ≤ 16 ∧ v5 = .int .i64 (i : Int) ∧ Kept (d.length = i) ∧ AMem wS wr [(gr, z16), (gb, b), (ga, d ++ a.drop i)] ∧ Kept (d ++ zipA (a.drop i) (b.drop i) = R)) (fun v5 _ => 16 - (RowKit.intOf v5).toNat)
  case atStart => exact ⟨0, [], by omega, rfl, ⟨rfl⟩, H, hR⟩
  case round =>
    clear H
    obtain ⟨i, d, hi, rfl, HD, H, HE⟩ := hrel
    by_cases hlt : i < 16
    · obtain ⟨p, hp⟩ : ∃ p, a.getD i 0 = p := ⟨_, rfl⟩
      obtain ⟨q, hq⟩ : ∃ q, b.getD i 0 = q := ⟨_, rfl⟩
      have hda := drop_getD a i (by rw [hll.out.1]; omega)
      have hdb := drop_getD b i (by rw [hll.out.2]; omega)
      rw [hp] at hda
      rw [hq] at hdb
      have hpl : p < 65536 := hp ▸ getD_ltN haW.out i (by rw [hll.out.1]; omega)
      have hql : q < 65536 := hq ▸ getD_ltN hbW.out i (by rw [hll.out.2]; omega)
      have c1 := H.hcell (.tail _ (.tail _ (.head _))) i p hlt (step_get HD.out hda)
      have c2 := H.hcell (.tail _ (.head _)) i q hlt hq
      have hlti : (i : Int) < 16 := by omega
      have hE : d ++ [p + q] ++ zipA (a.drop (i + 1)) (b.drop (i + 1)) = R := by
        have h := HE.out
        rw [hda, hdb, zipA] at h
        rw [List.append_assoc]; exact h
      replace hE := Kept.mk hE
      replace hp := Kept.mk hp
      replace hq := Kept.mk hq
      replace hda := Kept.mk hda
      replace hdb := Kept.mk hdb
      go_wp2
      refine wp_region_from_tail 8 (by kernel_rfl) (by kernel_rfl) ?_
      simp only [List.take_succ_cons, List.take_zero, List.drop_succ_cons, List.drop_zero]
      repeat (first
        | (go_big_quiet_want; (refine a_quiet_load _ rfl _ _ rfl (by assumption) (by (repeat (first | exact .head _ | refine .tail _ ?_))) ?_); try simp only [Act.put, yI, yC, yZ]; go_big_quiet_on)
        | go_big_quiet_step ((fail)))
      refine wpQuiet_nil ?_
      intro w5 hw5
      have H := H.from hw5
      clear hw5
      clear c1 c2
      have c3 := H.cell (.tail _ (.tail _ (.head _))) i hlt
      have f3 := H.frozen (.tail _ (.tail _ (.head _))) i
      rw [step_get HD.out hda.out] at c3
      have Hn := H.cell2 i (p + q) ((p : Int) + (q : Int)) (by omega)
      rw [step_set HD.out hda.out] at Hn
      go_wp2
      go_roundw
      case rel => exact ⟨i + 1, d ++ [p + q], by omega, val_eq (by omega), ⟨by rw [List.length_append, HD.out]; rfl⟩, Hn, hE⟩
      case measure => simp [RowKit.intOf]; omega
    · obtain rfl : i = 16 := by omega
      have hfin : d ++ a.drop 16 = R := by
        have h := HE.out
        rw [List.drop_eq_nil_of_le (show a.length ≤ 16 by rw [hll.out.1]; omega), zipA_nil] at h
        rw [List.drop_eq_nil_of_le (show a.length ≤ 16 by rw [hll.out.1]; omega)]
        exact h
      rw [hfin] at H
      clear hfin HE
      go_wp2_with (first
        | (refine a_load rfl _ rfl _ _ rfl (by assumption) (by (repeat (first | exact .head _ | refine .tail _ ?_))) ?_; try simp only [Act.put, yI, yC, yZ])
        | (refine a_store0 rfl _ _ rfl _ _ _ rfl rfl _ (by assumption) (by first | assumption | exact limbs_len _ _ _ | exact z16_len) ?_; intro w H; try simp only [Act.put, yI, yC, yZ])
        | (go_at_call 65; refine a_call (by assumption) (cM.out _) ?_; intro w H))
      exact a_ret Tryz.results62 _ rfl rfl (by assumption) (by (repeat (first | exact .head _ | refine .tail _ ?_))) (rfl)
set_option maxHeartbeats 1000000 in
theorem Minus_any (x y : Nat) (hx : x < big) (hy : y ≤ pF) (wS : World) : Calls Tryz.prog 61 #[arrV (Md x), arrV (Md y)] wS (AP (Md ((x + (pF - y)) % pF)) wS) := by
  have H := AMem.start wS
  have cL := Kept.mk fun w => less_any pF y p_bigR hy w
  have cP := Kept.mk fun w => Plus_any x (pF - y) hx (by have := p_bigR; omega) w
  have h1 := Md_len x
  have h2 := Md_len y
  have h3 := Md_len ((x + (pF - y)) % pF)
  clear hx hy
  unfold arrV
  go_enter Tryz.func61, Tryz.ntmps61
  go_wp2_with (first
    | (refine a_box rfl _ rfl _ rfl (by assumption) (by first | assumption | exact limbs_len _ _ _ | exact z16_len) ?_; intro g w H; try simp only [Act.put, yI, yC, yZ])
    | (refine a_alloc rfl rfl (by assumption) ?_; intro g w H; try simp only [Act.put, yI, yC, yZ]))
  refine wp_region_from_tail 5 (by kernel_rfl) (by kernel_rfl) ?_
  simp only [List.take_succ_cons, List.take_zero, List.drop_succ_cons, List.drop_zero]
  repeat (first
    | (go_big_quiet_want; (refine a_quiet_load _ rfl _ _ rfl (by assumption) (by (repeat (first | exact .head _ | refine .tail _ ?_))) ?_); try simp only [Act.put, yI, yC, yZ]; go_big_quiet_on)
    | go_big_quiet_step (((first | (go_at_call 68; exact held_call _ (P_any _)) | (go_at_call 67; exact held_call _ (cL.out _)) | (go_at_call 62; exact held_call _ (cP.out _))))))
  refine wpQuiet_nil ?_
  intro w5 hw5
  have H := H.from hw5
  clear hw5
  go_wp2_with (first
    | (refine a_store0 rfl _ _ rfl _ _ _ rfl rfl _ (by assumption) (by first | assumption | exact limbs_len _ _ _ | exact z16_len) ?_; intro w H; try simp only [Act.put, yI, yC, yZ]))
  exact a_ret Tryz.results61 _ rfl rfl (by assumption) (by (repeat (first | exact .head _ | refine .tail _ ?_))) (rfl)
end Go.Proofs.YtgnblaaldpniiaaGreatDoor
end
section
set_option linter.unusedSimpArgs false
set_option linter.unusedVariables false
set_option maxRecDepth 100000
namespace Go.Proofs.YtgnblaaldpniiaaGreatDoor
open Go.RowKit
def b2 (y : Nat) : List Nat := [y % 256, y / 256]
theorem flat2_len : ∀ (ws : List Nat), (ws.flatMap b2).length = 2 * ws.length
  | [] => rfl
  | y :: r => by rw [List.flatMap_cons, List.length_append, flat2_len r, List.length_cons]; simp [b2]; omega
theorem flat2_val : ∀ (ws : List Nat), valB 256 (ws.flatMap b2) = valB 65536 ws
  | [] => rfl
  | y :: r => by
    have ih := flat2_val r
    rw [List.flatMap_cons, valB, ← ih]
    simp [b2, valB]
    omega
theorem flat2_lt : ∀ (ws : List Nat), (∀ x ∈ ws, x < 65536) → ∀ x ∈ ws.flatMap b2, x < 256
  | [], _, x, h => by simp at h
  | y :: r, hy, x, h => by
    rw [List.flatMap_cons, List.mem_append] at h
    have h1 := hy y (by simp)
    rcases h with h | h
    · simp [b2] at h
      rcases h with rfl | rfl
      · omega
      · omega
    · exact flat2_lt r (fun z hz => hy z (by simp [hz])) x h
theorem Md_bytes (x : Nat) (h : x < big) : (Md x).flatMap b2 = (leB x).map (·.toNat) := by
  have e1 := limbs_val (B := 256) (by decide) ((Md x).flatMap b2) (flat2_lt _ (Md_lt x))
  rw [flat2_len, Md_len, flat2_val, Md_val x h] at e1
  have e2 := limbs_val (B := 256) (by decide) ((leB x).map (·.toNat)) (fun y hy => by obtain ⟨b, _, rfl⟩ := List.mem_map.1 hy; exact b.toNat_lt)
  rw [List.length_map, leB_len] at e2
  rw [show valB 256 ((leB x).map (·.toNat)) = numB (leB x) from rfl, numB_leB x h] at e2
  rw [← e1, ← e2]
theorem AMem.setOther {w0 w : World} {L : List (Nat × List Nat)} (H : AMem w0 w L) (g' i : Nat) (v : Value) (hne : ∀ g x, (g, x) ∈ L → g ≠ g') (hle : w0.heap.size ≤ g') : AMem w0 (w.setCell ⟨g', i, none⟩ v) L :=
  ⟨H.below.setCell hle _, fun g x h => (H.holds g x h).other (hne g x h) i v, H.len, H.ours, H.apart⟩
def z32 : List Nat := List.replicate 32 0
theorem made32 : madeCells #[Value.int .u8 0] 32 = (numC .u8 z32).toArray := by kernel_rfl
theorem two_set (d r : List Nat) (k x y p q : Nat) (hd : d.length = k) : ((d ++ p :: q :: r).set k x).set (k + 1) y = (d ++ [x, y]) ++ r := by
  subst hd
  rw [set_mid]
  have := set_mid (d ++ [x]) r q y
  rw [List.length_append] at this
  rw [show d.length + 1 = d.length + [x].length from rfl, this]
  simp
set_option maxHeartbeats 1000000 in
theorem Bytes_any (x : Nat) (hx : x < big) (wS : World) : Calls Tryz.prog 36 #[arrV (Md x)] wS (BytesPost x wS) := by
  have H := AMem.start wS
  obtain ⟨i0, hi0, hz0, hz1, hz2⟩ := info_parts info5
  have hBY := Md_bytes x hx
  obtain ⟨a, ha⟩ : ∃ a, Md x = a := ⟨_, rfl⟩
  have hal : a.length = 16 := by rw [← ha, Md_len]
  have haW : ∀ x ∈ a, x < 65536 := ha ▸ Md_lt x
  rw [ha] at hBY ⊢
  obtain ⟨tot, htot⟩ : ∃ t, leB x = t := ⟨_, rfl⟩
  have htl : tot.length = 32 := by rw [← htot, leB_len]
  unfold BytesPost
  rw [htot] at hBY ⊢
  replace hBY := Kept.mk hBY
  replace htot := Kept.mk htot
  replace htl := Kept.mk htl
  replace haW := Kept.mk haW
  replace ha := Kept.mk ha
  have hll := Kept.mk hal
  clear hx
  unfold arrV
  go_enter Tryz.func36, Tryz.ntmps36
  go_wp2_with (first
    | (refine a_box rfl _ rfl _ rfl (by assumption) (by first | assumption | exact limbs_len _ _ _ | exact z16_len) ?_; intro g w H; try simp only [Act.put, yI, yC, yZ])
    | (refine wpList_make_row _ rfl _ _ 37 rfl 5 i0 (.int .u8 0) Tryz.underlying37 hi0 hz0 hz1 rfl .i64 .i64 32 rfl rfl (by rw [hz2]; omega) (by omega) ?_; rw [made32]))
  have hB := Arr.new w 5 .u8 z32
  have hne : g < w.heap.size := (H.holds g a (.head _)).lt
  have hsz := H.below.size
  have H := H.grow ((Below.refl _ w).alloc (Nat.le_refl _) (.cells (numC .u8 z32).toArray 5))
  generalize w.alloc (.cells (numC .u8 z32).toArray 5) = w1 at hB H ⊢
  generalize w.heap.size = gb at hB hne hsz ⊢
  replace hB := Kept.mk hB
  clear hal
  go_loopw [4] (fun v4 wr => ∃ (i : Nat) (d : List Nat), i ≤ 16 ∧ v4 = .int .i64 (i : Int) ∧ Kept (d.length = 2 * i) ∧ AMem wS wr [(g, a)] ∧ Kept (Arr wr gb 5 .u8 (d ++ z32.drop (2 * i))) ∧ Kept (d ++ (a.drop i).flatMap b2 = tot.map (·.toNat))) (fun v4 _ => 16 - (RowKit.intOf v4).toNat)
  case atStart => exact ⟨0, [], by omega, rfl, ⟨rfl⟩, H, hB, hBY⟩
  case round =>
    clear H hB
    obtain ⟨i, d, hi, rfl, HD, H, HB, HT⟩ := hrel
    by_cases hlt : i < 16
    · obtain ⟨y, hy⟩ : ∃ y, a.getD i 0 = y := ⟨_, rfl⟩
      have hda := drop_getD a i (by rw [hll.out]; exact hlt)
      rw [hy] at hda
      have hyl : y < 65536 := hy ▸ getD_ltN haW.out i (by rw [hll.out]; exact hlt)
      have c1 := H.cell (.head _) i hlt
      rw [hy] at c1
      have hlti : (i : Int) < 16 := by omega
      have k1 : IntKind.i64.wrap (2 * (i : Int)) = 2 * (i : Int) := by simp [IntKind.wrap, IntKind.signed, IntKind.bits]; omega
      have k2 : IntKind.i64.wrap (2 * (i : Int) + 1) = 2 * (i : Int) + 1 := by simp [IntKind.wrap, IntKind.signed, IntKind.bits]; omega
      have k3 : (2 * (i : Int)).toNat = 2 * i := by omega
      have k4 : (2 * (i : Int) + 1).toNat = 2 * i + 1 := by omega
      have hz0 := drop_getD z32 (2 * i) (by show 2 * i < 32; omega)
      have hz1 := drop_getD z32 (2 * i + 1) (by show 2 * i + 1 < 32; omega)
      rw [hz1] at hz0
      have e0 := HB.out.cellMid hz0 HD.out
      have e1 := HB.out.cell (2 * i + 1) (by rw [List.length_append, HD.out, List.length_drop]; show 2 * i + 1 < 2 * i + (32 - 2 * i); omega)
      have f0 := HB.out.frozen (2 * i)
      have f1 := HB.out.frozen (2 * i + 1)
      have hBn : Arr ((wr.setCell ⟨gb, 2 * i, none⟩ (.int .u8 ((y : Int) % 256))).setCell ⟨gb, 2 * i + 1, none⟩ (.int .u8 ((y : Int) / 256))) gb 5 .u8 ((d ++ b2 y) ++ z32.drop (2 * (i + 1))) := by
        have h := (HB.out.set (2 * i) (y % 256)).set (2 * i + 1) (y / 256)
        rw [hz0, two_set d _ (2 * i) (y % 256) (y / 256) _ _ HD.out] at h
        rw [show (y : Int) % 256 = ((y % 256 : Nat) : Int) by omega, show (y : Int) / 256 = ((y / 256 : Nat) : Int) by omega]
        exact h
      have hne2 : ∀ g' x', (g', x') ∈ [(g, a)] → g' ≠ gb := by
        intro g' x' h
        simp at h
        omega
      have Hn := (H.setOther gb (2 * i) (.int .u8 ((y : Int) % 256)) hne2 hsz).setOther gb (2 * i + 1) (.int .u8 ((y : Int) / 256)) hne2 hsz
      have hT : d ++ b2 y ++ (a.drop (i + 1)).flatMap b2 = tot.map (·.toNat) := by
        have h := HT.out
        rw [hda, List.flatMap_cons] at h
        rw [List.append_assoc]; exact h
      have hDl : (d ++ b2 y).length = 2 * (i + 1) := by rw [List.length_append, HD.out]; simp [b2]; omega
      replace hT := Kept.mk hT
      replace hDl := Kept.mk hDl
      replace hBn := Kept.mk hBn
      replace hy := Kept.mk hy
      replace hda := Kept.mk hda
      clear hz0 hz1 hne2
      go_wp2
      go_roundw
      case rel => exact ⟨i + 1, d ++ b2 y, by omega, val_eq (by omega), hDl, Hn, hBn, hT⟩
      case measure => simp [RowKit.intOf]; omega
    · obtain rfl : i = 16 := by omega
      have hd : d = tot.map (·.toNat) := by
        have h := HT.out
        rw [List.drop_eq_nil_of_le (by rw [hll.out]; omega), List.flatMap_nil, List.append_nil] at h
        exact h
      have hA := HB.out
      rw [show z32.drop (2 * 16) = [] from rfl, List.append_nil, hd] at hA
      have hcv := run_convert_bytes_back (P := Tryz.prog) wr 37 9 5 ⟨gb, 0, none⟩ 32 tot Tryz.underlying37 Tryz.underlying5 Tryz.underlying9 (fun j hj => by
        have h := hA.cell j (by rw [List.length_map]; exact hj)
        rw [show ((⟨gb, 0, none⟩ : Addr).add j) = ⟨gb, j, none⟩ by unfold Addr.add; split <;> simp_all]
        rw [h]
        simp [hj])
      rw [htl.out] at hcv
      have hcv2 : (convert 37 9 (.slice (some ⟨gb, 0, none⟩) 32 32)).run Tryz.prog wr = .ok (.string (S tot)) wr := hcv
      clear hcv hA hd HT HB
      go_wp2
      go_ret
      exact ⟨rfl, H.below⟩
end Go.Proofs.YtgnblaaldpniiaaGreatDoor
end
section
set_option linter.unusedSimpArgs false
set_option linter.unusedVariables false
set_option maxRecDepth 100000
namespace Go.Proofs.YtgnblaaldpniiaaGreatDoor
open Go.RowKit
theorem small_lt (n : Nat) (h : n < 1000) : n < pF := Nat.lt_trans h (by decide +kernel)
end Go.Proofs.YtgnblaaldpniiaaGreatDoor
end
section
set_option linter.unusedVariables false
set_option maxRecDepth 100000
set_option linter.unusedSimpArgs false
namespace Go.Proofs.YtgnblaaldpniiaaGreatDoor
open Go.RowKit
theorem neg_zero' : (0 + (pF - 0)) % pF = 0 := by rw [Nat.zero_add, Nat.sub_zero, Nat.mod_self]
theorem neg_pos' (a : Nat) (h0 : a ≠ 0) (h : a < pF) : (0 + (pF - a)) % pF = pF - a := by rw [Nat.zero_add, Nat.mod_eq_of_lt (by omega)]
theorem sq_eq (r a : Nat) (hr : r < pF) (ha : a < pF) (h : r * r % pF = a * a % pF) : r = a ∨ r + a = pF := by
  have key : ∀ x y : Nat, x < pF → y < pF → y ≤ x → x * x % pF = y * y % pF → x = y ∨ x + y = pF := by
    intro x y hx hy hle h
    have hd : pF ∣ x * x - y * y := Pr.dvd_sub_of_mod h
    rw [show x * x - y * y = (x + y) * (x - y) from Nat.mul_self_sub_mul_self_eq x y] at hd
    rcases pr_p.dvd_mul hd with hd | hd
    · obtain ⟨c, hc⟩ := hd
      have hc2 : c < 2 := by
        apply Classical.byContradiction
        intro hn
        have : pF * 2 ≤ pF * c := Nat.mul_le_mul_left pF (by omega)
        omega
      have : c = 0 ∨ c = 1 := by omega
      rcases this with rfl | rfl
      · left; omega
      · right; omega
    · by_cases e : x - y = 0
      · left; omega
      · exact absurd (Nat.le_of_dvd (by omega) hd) (by omega)
  by_cases hle : a ≤ r
  · exact key r a hr ha hle h
  · rcases key a r ha hr (by omega) h.symm with e | e
    · exact Or.inl e.symm
    · right; omega
theorem i_sq : iF * iF % pF = pF - 1 := by decide +kernel
theorem m1_sq : (pF - 1) * (pF - 1) % pF = 1 := by decide +kernel
def hF : Nat := (pF - 1) / 2
theorem hF_two : hF + hF = pF - 1 := by decide +kernel
theorem eF_four : eF + eF + (eF + eF) = hF + 2 := by decide +kernel
theorem euler (a : Nat) (h0 : a ≠ 0) (h : a < pF) : powF a hF = 1 ∨ powF a hF = pF - 1 := by
  have hl := pr_p.little (a := a) (fun hd => absurd (Nat.le_of_dvd (Nat.pos_of_ne_zero h0) hd) (Nat.not_le.2 h))
  rw [← hF_two, Nat.pow_add, Nat.mul_mod] at hl
  have h1 : powF a hF * powF a hF % pF = 1 * 1 % pF := by
    unfold powF
    rw [hl]
    decide +kernel
  rcases sq_eq (powF a hF) 1 (powF_lt a hF) (small_lt 1 (by omega)) h1 with e | e
  · exact Or.inl e
  · right; omega
theorem sq_pow (a : Nat) : powF (a * a % pF) eF * powF (a * a % pF) eF % pF = powF a hF * (a * a) % pF := by
  unfold powF
  rw [← Nat.mul_mod, ← Nat.pow_add, ← Nat.pow_mod, ← Nat.pow_two, ← Nat.pow_mul, Nat.mod_mul_mod, ← Nat.pow_add]
  rw [show 2 * (eF + eF) = hF + 2 by rw [Nat.two_mul, eF_four]]
theorem cand_sq (a : Nat) (h : a < pF) : cand (a * a % pF) * cand (a * a % pF) % pF = a * a % pF := by
  unfold cand
  have hs := sq_pow a
  obtain ⟨w, hw⟩ : ∃ w, powF (a * a % pF) eF = w := ⟨_, rfl⟩
  rw [hw] at hs ⊢
  clear hw
  by_cases e : w * w % pF = a * a % pF
  · rw [if_pos e]; exact e
  · rw [if_neg e]
    have h0 : a ≠ 0 := by
      intro h0
      apply e
      have hz : a * a = 0 := by rw [h0]
      rw [hs, hz, Nat.mul_zero]
    rcases euler a h0 h with h1 | h1
    · rw [h1, Nat.one_mul] at hs
      exact absurd hs e
    · rw [h1] at hs
      have e2 : (w * iF % pF) * (w * iF % pF) % pF = (w * w % pF) * (iF * iF % pF) % pF := by
        rw [← Nat.mul_mod, ← Nat.mul_mod]
        congr 1
        rw [Nat.mul_assoc, Nat.mul_left_comm iF w iF, ← Nat.mul_assoc]
      rw [e2, hs, i_sq, Nat.mod_mul_mod, Nat.mul_assoc, Nat.mul_comm (a * a), ← Nat.mul_assoc, ← Nat.mod_mul_mod, m1_sq, Nat.one_mul]
theorem even_root (a : Nat) (h : a < pF) : evenN (cand (a * a % pF)) = a ∨ evenN (cand (a * a % pF)) = (0 + (pF - a)) % pF := by
  have hc := cand_lt (a * a % pF)
  have hsq := cand_sq a h
  generalize cand (a * a % pF) = r at hc hsq ⊢
  by_cases h0 : a = 0
  · subst h0
    rcases sq_eq r 0 hc p_pos hsq with e | e
    · subst e; left; rfl
    · omega
  · rw [neg_pos' a h0 h]
    unfold evenN
    rcases sq_eq r a hc h hsq with e | e
    · subst e
      split
      · exact Or.inr rfl
      · exact Or.inl rfl
    · split
      · left; omega
      · right; omega
theorem even_sq (r : Nat) (h : r < pF) : evenN r * evenN r % pF = r * r % pF := by
  unfold evenN
  split
  · have e : (pF - r) * (pF - r) + pF * (2 * r) = r * r + pF * pF := by
      obtain ⟨k, hk⟩ : ∃ k, pF = r + k := ⟨pF - r, by omega⟩
      rw [hk, Nat.add_sub_cancel_left, Nat.add_mul, Nat.add_mul, Nat.mul_add, Nat.mul_add]
      rw [show r * (2 * r) = r * r + r * r by rw [Nat.mul_left_comm, Nat.two_mul], show k * (2 * r) = r * k + k * r by rw [Nat.mul_left_comm, Nat.two_mul, Nat.mul_comm k r]]
      omega
    rw [← Nat.add_mul_mod_self_left _ pF (2 * r), e, Nat.add_mul_mod_self_left]
  · rfl
theorem even_lt (n : Nat) : evenN (cand n) < pF := evenN_lt _ (cand_lt n)
end Go.Proofs.YtgnblaaldpniiaaGreatDoor
end
