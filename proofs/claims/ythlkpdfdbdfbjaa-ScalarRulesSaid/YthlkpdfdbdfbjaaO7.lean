/- The document's answer for package scalar: Add, walked. -/
import Derived.Test.YthlkpdfdbdfbjaaO6
set_option linter.unusedSimpArgs false
set_option linter.unusedVariables false
namespace Go.Proofs.Ythlkpdfdbdfbjaa
open Go.RowKit
theorem ws_wrap (z : Int) (h0 : 0 ≤ z) (h1 : z < 4611686018427387904) : IntKind.i64.wrap z = z := by simp [IntKind.wrap, IntKind.signed, IntKind.bits]; omega
theorem ws_64 (z : Int) (h0 : 0 ≤ z) (h1 : z < 4611686018427387904) : wrap64 z = z := by simp [wrap64]; omega
/-- A sum digit by digit, with what is carried behind it. -/
def adL : List Nat → List Nat → Nat → List Nat
  | x :: xs, y :: ys, c => (c + x + y) % 256 :: adL xs ys ((c + x + y) / 256)
  | _, _, c => [c]
theorem adL_nil (ys : List Nat) (c : Nat) : adL [] ys c = [c] := by cases ys <;> rfl
theorem adL_len : ∀ (xs ys : List Nat) (c : Nat), xs.length = ys.length → (adL xs ys c).length = xs.length + 1
  | [], _, _, _ => by rw [adL_nil]; rfl
  | x :: xs, [], _, h => by simp at h
  | x :: xs, y :: ys, c, h => by rw [adL, List.length_cons, List.length_cons, adL_len xs ys _ (by simpa using h)]
theorem adL_lt : ∀ (xs ys : List Nat) (c : Nat), (∀ x ∈ xs, x < 256) → (∀ x ∈ ys, x < 256) → c ≤ 1 → ∀ z ∈ adL xs ys c, z < 256
  | [], _, c, _, _, hc, z, h => by rw [adL_nil] at h; simp at h; omega
  | x :: xs, [], c, _, _, hc, z, h => by simp [adL] at h; omega
  | x :: xs, y :: ys, c, hx, hy, hc, z, h => by
    rw [adL, List.mem_cons] at h
    have h1 := hx x (by simp)
    have h2 := hy y (by simp)
    rcases h with rfl | h
    · omega
    · exact adL_lt xs ys _ (fun q hq => hx q (by simp [hq])) (fun q hq => hy q (by simp [hq])) (by omega) z h
theorem ad_val : ∀ (xs ys : List Nat) (c : Nat), xs.length = ys.length → valB 256 (adL xs ys c) = valB 256 xs + valB 256 ys + c
  | [], [], c, _ => by simp [valB, adL]
  | [], y :: ys, _, h => by simp at h
  | x :: xs, [], _, h => by simp at h
  | x :: xs, y :: ys, c, h => by
    have ih := ad_val xs ys ((c + x + y) / 256) (by simpa using h)
    rw [adL]
    simp only [valB]
    rw [ih]
    omega
set_option maxHeartbeats 2000000 in
theorem AddR_ok (l m : List UInt8) (hl : l.length = 32) (hm : m.length = 32) (wS : World) : Calls Try.prog 16 #[.string (S l), .string (S m)] wS (StrPost (scB (numB l + numB m)) 0 wS) := by
  have H := SM.start wS
  have hsl : (S l).size = 32 := by rw [S_size, hl]
  have hsm : (S m).size = 32 := by rw [S_size, hm]
  have ha := digs_lt l
  have hb := digs_lt m
  have hal : (digs l).length = 32 := by rw [digs_len, hl]
  have hbl : (digs m).length = 32 := by rw [digs_len, hm]
  obtain ⟨T, hT⟩ : ∃ T, adL (digs l) (digs m) 0 = T := ⟨_, rfl⟩
  have hTl : T.length = 33 := by rw [← hT, adL_len _ _ _ (by rw [hal, hbl]), hal]
  have hTW : ∀ x ∈ T, x < 256 := hT ▸ adL_lt _ _ _ ha hb (by omega)
  have hTv : valB 256 T = numB l + numB m := by rw [← hT, ad_val _ _ _ (by rw [hal, hbl])]; rfl
  have cM := Kept.mk fun ga ca w h => Mod_any T 33 hTl (by omega) hTW ga ca w h
  rw [hTv] at cM
  unfold StrPost
  generalize scB (numB l + numB m) = res at cM ⊢
  replace hT := Kept.mk hT
  replace ha := Kept.mk ha
  replace hb := Kept.mk hb
  replace hal := Kept.mk hal
  replace hbl := Kept.mk hbl
  replace hTl := Kept.mk hTl
  clear hTW hTv hl hm
  go_enter Try.func16, Try.ntmps16
  go_wp2_with (first
    | (refine s_make rfl _ _ rfl _ _ rfl rfl rfl (by decide) (by decide) (by assumption) ?_; intro g w H; try simp only [Act.put, List.setIfInBounds_toArray, List.set_cons_succ, List.set_cons_zero]))
  rename_i K _
  go_loopw [7] (fun v7 wr => ∃ (i c : Nat) (d : List Nat), i ≤ 32 ∧ c ≤ 1 ∧ v7 = .int .i64 (i : Int) ∧ Kept (d.length = i) ∧ SM wS wr [(g, d ++ c :: List.replicate (32 - i) 0)] ∧ Kept (d ++ adL ((digs l).drop i) ((digs m).drop i) c = T)) (fun v7 _ => 32 - (RowKit.intOf v7).toNat)
  case atStart => exact ⟨0, 0, [], by omega, by omega, rfl, ⟨rfl⟩, H, hT⟩
  case round =>
    clear H
    obtain ⟨i, c, d, hi, hc, rfl, HD, H, HE⟩ := hrel
    by_cases hlt : i < 32
    · obtain ⟨x, hx⟩ : ∃ b, l.getD i 0 = b := ⟨_, rfl⟩
      obtain ⟨y, hy⟩ : ∃ b, m.getD i 0 = b := ⟨_, rfl⟩
      have hs0 : i < (S l).size := by rw [hsl]; exact hlt
      have hs1 : i < (S m).size := by rw [hsm]; exact hlt
      have g0 : (S l)[i] = x := by rw [byte_at, hx]
      have g1 : (S m)[i] = y := by rw [byte_at, hy]
      have l0 := x.toNat_lt
      have l1 := y.toNat_lt
      have hda : (digs l).drop i = x.toNat :: (digs l).drop (i + 1) := by
        rw [drop_getD _ i (by rw [hal.out]; exact hlt), ← hx]
        congr 1
        simp [digs, show i < l.length by rw [← S_size, hsl]; exact hlt]
      have hdb : (digs m).drop i = y.toNat :: (digs m).drop (i + 1) := by
        rw [drop_getD _ i (by rw [hbl.out]; exact hlt), ← hy]
        congr 1
        simp [digs, show i < m.length by rw [← S_size, hsm]; exact hlt]
      have hrep : List.replicate (32 - i) 0 = 0 :: List.replicate (32 - (i + 1)) 0 := by rw [show 32 - i = 32 - (i + 1) + 1 by omega, List.replicate_succ]
      have hE : d ++ [(c + x.toNat + y.toNat) % 256] ++ adL ((digs l).drop (i + 1)) ((digs m).drop (i + 1)) ((c + x.toNat + y.toNat) / 256) = T := by
        have h := HE.out
        rw [hda, hdb, adL] at h
        rw [List.append_assoc]; exact h
      generalize hX : x.toNat = X at l0 hE
      generalize hY : y.toNat = Y at l1 hE
      have hcell : ∀ u : Held (From wr.drew), u.w.cell? ⟨g, i, none⟩ = some (.int .i64 (c : Int)) := fun u => by
        have h := (H.from u.h).cell (.head _) i (by rw [List.length_append, HD.out, List.length_cons, List.length_replicate]; omega)
        rw [step_get HD.out rfl] at h
        exact h
      have hlti : (i : Int) < 32 := by omega
      have hlti2 : (i : Int) < 33 := by omega
      have hltj : (i : Int) + 1 < 33 := by omega
      have kt : ((i : Int) + 1).toNat = i + 1 := by omega
      obtain ⟨kw0, kv0, kw1, kv1, kw2, kv2, kw3, kv3, kw4, kv4⟩ : IntKind.i64.wrap ((i : Int) + 1) = (i : Int) + 1 ∧ wrap64 ((i : Int) + 1) = (i : Int) + 1 ∧ IntKind.i64.wrap ((X : Int)) = (X : Int) ∧ wrap64 ((X : Int)) = (X : Int) ∧ IntKind.i64.wrap ((Y : Int)) = (Y : Int) ∧ wrap64 ((Y : Int)) = (Y : Int) ∧ IntKind.i64.wrap ((c : Int) + (X : Int)) = (c : Int) + (X : Int) ∧ wrap64 ((c : Int) + (X : Int)) = (c : Int) + (X : Int) ∧ IntKind.i64.wrap ((c : Int) + (X : Int) + (Y : Int)) = (c : Int) + (X : Int) + (Y : Int) ∧ wrap64 ((c : Int) + (X : Int) + (Y : Int)) = (c : Int) + (X : Int) + (Y : Int) := ⟨ws_wrap _ (by omega) (by omega), ws_64 _ (by omega) (by omega), ws_wrap _ (by omega) (by omega), ws_64 _ (by omega) (by omega), ws_wrap _ (by omega) (by omega), ws_64 _ (by omega) (by omega), ws_wrap _ (by omega) (by omega), ws_64 _ (by omega) (by omega), ws_wrap _ (by omega) (by omega), ws_64 _ (by omega) (by omega)⟩
      replace hx := Kept.mk hx
      replace hy := Kept.mk hy
      replace hda := Kept.mk hda
      replace hdb := Kept.mk hdb
      replace hE := Kept.mk hE
      go_wp2
      refine wp_region_from (by kernel_rfl) (by kernel_rfl) ?_
      repeat (go_big_quiet_step (fail))
      refine wpQuiet_nil ?_
      intro w5 hw5
      have H := H.from hw5
      clear hw5
      clear hcell kw1 kv1 kw2 kv2 kw3 kv3 kw4 kv4
      replace kw0 := Kept.mk kw0
      replace kv0 := Kept.mk kv0
      obtain ⟨Z, hZ⟩ : ∃ Z, c + X + Y = Z := ⟨_, rfl⟩
      have hzI : (c : Int) + (X : Int) + (Y : Int) = (Z : Int) := by omega
      rw [hzI]
      have hE2 := hE.out
      rw [hZ] at hE2
      replace hE2 := Kept.mk hE2
      have hZb : Z < 512 := by omega
      clear hzI hE
      replace hrep := Kept.mk hrep
      have c1 := H.cell (.head _) i (by rw [List.length_append, HD.out, List.length_cons, List.length_replicate]; omega)
      rw [step_get HD.out rfl] at c1
      have f1 := H.frozen (.head _) i
      have H1 := H.set0 i (Z % 256) ((Z : Int) % 256) (by omega)
      rw [step_set HD.out rfl, hrep.out] at H1
      have hD1 : (d ++ [Z % 256]).length = i + 1 := by rw [List.length_append, HD.out]; rfl
      have c2 := H1.cell (.head _) (i + 1) (by rw [List.length_append, hD1, List.length_cons]; omega)
      rw [step_get hD1 rfl] at c2
      have f2 := H1.frozen (.head _) (i + 1)
      have H2 := H1.set0 (i + 1) (Z / 256) ((Z : Int) / 256) (by omega)
      rw [step_set hD1 rfl, List.append_assoc] at H2
      replace hD1 := Kept.mk hD1
      replace hZ := Kept.mk hZ
      have H := H2
      clear H1 H2
      clear kw0 kv0
      go_wp2
      go_roundw
      case rel => exact ⟨i + 1, Z / 256, d ++ [Z % 256], by omega, by omega, val_eq (by omega), hD1, H, hE2⟩
      case measure => first | (simp [RowKit.intOf]; done) | (simp [RowKit.intOf]; omega)
    · obtain rfl : i = 32 := by omega
      have hd : d ++ [c] = T := by
        have h := HE.out
        rw [List.drop_eq_nil_of_le (show (digs l).length ≤ 32 by rw [hal.out]; exact Nat.le_refl _), adL_nil] at h
        exact h
      rw [show 32 - 32 = 0 from rfl, List.replicate_zero, hd] at H
      clear hd HE
      go_wp2_with (go_at_call 26; refine s_call (by assumption) (cM.out _ _ _ (H.holds _ T (.head _))) ?_; intro w H)
      go_ret2
      exact ⟨rfl, H.below⟩
theorem AddR_bad (l m : List UInt8) (h : ¬ (l.length = 32 ∧ m.length = 32)) (wS : World) : Calls Try.prog 16 #[.string (S l), .string (S m)] wS (StrPost [] 50 wS) := by
  have H := SM.start wS
  unfold StrPost
  by_cases hl : l.length = 32
  · have hsl : (S l).size = 32 := by rw [S_size, hl]
    have hsm : (((S m).size : Int) == 32) = false := by rw [S_size]; simp; omega
    clear h hl
    go_enter Try.func16, Try.ntmps16
    go_wp2
    go_ret2
    exact ⟨rfl, H.below⟩
  · have hsl : (((S l).size : Int) == 32) = false := by rw [S_size]; simp; omega
    clear h hl
    go_enter Try.func16, Try.ntmps16
    go_wp2
    go_ret2
    exact ⟨rfl, H.below⟩
end Go.Proofs.Ythlkpdfdbdfbjaa
