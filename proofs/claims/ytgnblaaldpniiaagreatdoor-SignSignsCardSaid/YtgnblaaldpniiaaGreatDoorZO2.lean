/- The document's answer for package scalar: Digits, Is, Reduce, walked.
The document's answer for package scalar: its calls Is, Reduce, walked.
The document's answer for package scalar: Add, walked.
The document's answer for package scalar: Mul, walked.
The document's answer for package scalar: Mul, walked.
Walks of package scalar: sums. -/
import Derived.Test.YtgnblaaldpniiaaGreatDoorZO1
import Derived.Test.YtgnblaaldpniiaaGreatDoorZA1
section
set_option linter.unusedSimpArgs false
set_option linter.unusedVariables false
set_option maxRecDepth 100000
namespace Go.Proofs.YtgnblaaldpniiaaGreatDoor.Sc
open Go.RowKit
def digs (l : List UInt8) : List Nat := l.map (·.toNat)
theorem digs_len (l : List UInt8) : (digs l).length = l.length := by simp [digs]
theorem digs_lt (l : List UInt8) : ∀ x ∈ digs l, x < 256 := fun x hx => by
  obtain ⟨b, _, rfl⟩ := List.mem_map.1 hx
  exact b.toNat_lt
def DgPost (l : List Nat) (w : World) (e : Ending) (w' : World) : Prop := ∃ g c, e = .returned (.slice (some ⟨g, 0, none⟩) l.length c) ∧ Below w.heap.size w w' ∧ w.heap.size ≤ g ∧ AtS w' g l
theorem Digits_any (s : List UInt8) (hs : s.length ≤ 4096) (wS : World) : Calls Tryz.prog 44 #[.string (S s)] wS (DgPost (digs s) wS) := by
  obtain ⟨i0, hi0, hz0, hz1, hz2⟩ := info_parts infoI
  have er := Kept.mk (empty_row wS wS.heap.size 3 (Nat.le_refl _))
  have hsz : (S s).size = s.length := S_size s
  replace hsz := Kept.mk hsz
  go_enter Tryz.func44, Tryz.ntmps44
  go_wp2
  go_loopw [3, 4] (fun v3 v4 wr => ∃ (i g c : Nat), i ≤ s.length ∧ v3 = .slice (some ⟨g, 0, none⟩) i c ∧ v4 = .int .i64 (i : Int) ∧ Kept (wr.ownsRow wS.heap.size 3 1 (.slice (some ⟨g, 0, none⟩) i c) i (numC .i64 ((digs s).take i))) ∧ Kept (Below wS.heap.size wS wr)) (fun _ v4 _ => s.length - (RowKit.intOf v4).toNat)
  case atStart => exact ⟨0, _, 0, by omega, rfl, rfl, er, ⟨(Below.refl _ _).alloc (Nat.le_refl _) _⟩⟩
  case round =>
    obtain ⟨i, g, c, hi, rfl, rfl, HO, HB⟩ := hrel
    clear er
    have hbw := HB.out.size
    by_cases hlt : i < s.length
    · have hs0 : i < (S s).size := by rw [hsz.out]; exact hlt
      obtain ⟨b, hb⟩ : ∃ b, s.getD i 0 = b := ⟨_, rfl⟩
      have g0 : (S s)[i] = b := by rw [byte_at, hb]
      have hlI : (i : Int) < ((S s).size : Int) := by omega
      have kb : wrap64 (b.toNat : Int) = (b.toNat : Int) := by have := b.toNat_lt; simp [wrap64]; omega
      have hnx : (digs s).take (i + 1) = (digs s).take i ++ [b.toNat] := by
        rw [List.take_add_one, ← hb]
        simp [digs, hlt]
      replace hnx := Kept.mk hnx
      replace hb := Kept.mk hb
      go_wp2_with (at_builtin; refine wpList_append_own _ rfl _ _ 53 rfl wS.heap.size 3 i0 (.int .i64 0) 1 8 Tryz.underlying53 hi0 hz0 hz1 hz2 rfl (by decide) _ _ _ rfl (HO.out.alloc _) ⟨wr.heap.size, 0, none⟩ 1 1 [.int .i64 (b.toNat : Int)] rfl rfl ?c1 ?c2 ?c3 ?c4 ?c5 ?_)
      case c1 => exact row_new wr [_] 3
      case c2 => intro u hu; simp at hu; subst hu; rfl
      case c3 => unfold maxLen; omega
      case c4 => omega
      case c5 => rw [World.size_alloc]; omega
      intro v' w2 ho2 hgr _
      have ho3 : w2.ownsRow wS.heap.size 3 1 v' (i + 1) (numC .i64 ((digs s).take (i + 1))) := by
        rw [hnx.out, numC, List.map_append]; exact ho2
      have hb2 := Kept.mk ((HB.out.alloc hbw _).grown hgr (by rw [World.size_alloc]; omega) fun g hg => (HO.out.lt g hg).1)
      obtain ⟨g2, c2, rfl, _, _⟩ := own_pos2 ho3 (by omega)
      clear ho2 hgr HO
      replace ho3 := Kept.mk ho3
      go_wp2
      go_roundw
      case rel => exact ⟨i + 1, g2, c2, by omega, rfl, val_eq (by omega), ho3, hb2⟩
      case measure => first | (simp [RowKit.intOf]; done) | (simp [RowKit.intOf]; omega)
    · obtain rfl : i = s.length := by omega
      have hfin : (digs s).take s.length = digs s := List.take_of_length_le (by rw [digs_len]; exact Nat.le_refl _)
      have hA := HO.out
      rw [hfin] at hA
      obtain ⟨h1, h2, h3⟩ := AtS.own hA
      have hlI : ¬ (s.length : Int) < ((S s).size : Int) := by rw [hsz.out]; omega
      clear hA hfin HO
      go_wp2
      go_ret
      exact ⟨g, c, by rw [digs_len]; rfl, HB.out, h2, h1⟩
end Go.Proofs.YtgnblaaldpniiaaGreatDoor.Sc
end
section
set_option linter.unusedSimpArgs false
set_option linter.unusedVariables false
set_option maxRecDepth 100000
namespace Go.Proofs.YtgnblaaldpniiaaGreatDoor.Sc
open Go.RowKit
section
variable {w0 w : World} {L : List (Nat × List Nat)} {f : FuncId} {args : Array Value} {Q : Ending → World → Prop} {l : List Nat} {v : Value}
theorem s_dg (H : SM w0 w L) (c : Calls Tryz.prog f args w (DgPost l w)) (h : ∀ g c w', SM w0 w' ((g, l) :: L) → Q (.returned (.slice (some ⟨g, 0, none⟩) l.length c)) w') : Calls Tryz.prog f args w Q :=
  c.mono fun _ w' ⟨g, c, he, hb, hg, hA⟩ => he ▸ h g c w' (H.more hb hg hA)
theorem s_call (H : SM w0 w L) (c : Calls Tryz.prog f args w fun e w' => e = .returned v ∧ Below w.heap.size w w') (h : ∀ w', SM w0 w' L → Q (.returned v) w') : Calls Tryz.prog f args w Q :=
  c.mono fun _ w' ⟨he, hb⟩ => he ▸ h w' (H.grow hb)
end
def numB (l : List UInt8) : Nat := valB 256 (digs l)
def scB (n : Nat) : List UInt8 := (limbs 256 32 (n % oN)).map UInt8.ofNat
theorem modB_num (a : List Nat) : modB a = scB (valB 256 a) := rfl
theorem scB_len (n : Nat) : (scB n).length = 32 := by rw [scB, List.length_map, limbs_len]
theorem scB_num (n : Nat) : numB (scB n) = n % oN := by
  have h := modB_nat (limbs 256 33 (n % oN))
  have hb : n % oN < 256 ^ 32 := Nat.lt_trans (Nat.mod_lt _ o_pos) (by decide +kernel)
  rw [modB_num, val_limbs, Nat.mod_eq_of_lt (Nat.lt_trans hb (by decide +kernel)), scB, Nat.mod_mod] at h
  rw [numB, digs, scB, h, val_limbs, Nat.mod_eq_of_lt hb]
def isSc (l : List UInt8) : Bool := decide (l.length = 32) && decide (numB l < oN)
theorem scB_is (n : Nat) : isSc (scB n) = true := by
  unfold isSc
  rw [scB_len, scB_num]
  simp [Nat.mod_lt _ o_pos]
theorem back_lt (l : List UInt8) : (digs l).map UInt8.ofNat = l := by
  rw [digs, List.map_map]
  conv => rhs; rw [← List.map_id l]
  exact List.map_congr_left fun x _ => by simp
theorem scB_self (l : List UInt8) (h : isSc l = true) : scB (numB l) = l := by
  unfold isSc at h
  rw [Bool.and_eq_true, decide_eq_true_eq, decide_eq_true_eq] at h
  have e := limbs_val (B := 256) (by decide) (digs l) (digs_lt l)
  rw [digs_len, h.1] at e
  rw [scB, Nat.mod_eq_of_lt h.2]
  show (limbs 256 32 (valB 256 (digs l))).map UInt8.ofNat = l
  rw [e, back_lt]
def StrPost (l : List UInt8) (n : Int) (w : World) (e : Ending) (w' : World) : Prop := e = .returned (.tuple #[.string (S l), .int .i64 n]) ∧ Below w.heap.size w w'
theorem Mod_any (a : List Nat) (n : Nat) (hal : a.length = n) (hn : n ≤ 4096) (haW : ∀ x ∈ a, x < 256) (ga ca : Nat) (wS : World) (hA : AtS wS ga a) :
    Calls Tryz.prog 43 #[.slice (some ⟨ga, 0, none⟩) n ca] wS fun e w' => e = .returned (.string (S (scB (valB 256 a)))) ∧ Below wS.heap.size wS w' := Mod_walk a ga n ca hal hn haW wS hA
end Go.Proofs.YtgnblaaldpniiaaGreatDoor.Sc
end
section
set_option linter.unusedSimpArgs false
set_option linter.unusedVariables false
set_option maxRecDepth 100000
namespace Go.Proofs.YtgnblaaldpniiaaGreatDoor.Sc
open Go.RowKit
theorem ws_wrap (z : Int) (h0 : 0 ≤ z) (h1 : z < 4611686018427387904) : IntKind.i64.wrap z = z := by simp [IntKind.wrap, IntKind.signed, IntKind.bits]; omega
theorem ws_64 (z : Int) (h0 : 0 ≤ z) (h1 : z < 4611686018427387904) : wrap64 z = z := by simp [wrap64]; omega
def adL : List Nat → List Nat → Nat → List Nat
  | x :: xs, y :: ys, c => (c + x + y) % 256 :: adL xs ys ((c + x + y) / 256)
  | _, _, c => [c]
theorem adL_nil (ys : List Nat) (c : Nat) : adL [] ys c = [c] := by cases ys <;> rfl
theorem adL_len : ∀ (xs ys : List Nat) (c : Nat), xs.length = ys.length → (adL xs ys c).length = xs.length + 1
  | [], _, _, _ => by rw [adL_nil]; rfl
  | x :: xs, [], _, h => by simp at h
  | x :: xs, y :: ys, c, h => by rw [adL, List.length_cons, List.length_cons, adL_len xs ys _ (by simpa using h)]
theorem adL_lt : ∀ (xs ys : List Nat) (c : Nat), (∀ x ∈ xs, x < 256) → (∀ x ∈ ys, x < 256) → c ≤ 1 → ∀ z ∈ adL xs ys c, z < 256
  | [], _, c, _, _, hc, z, h => by rw [adL_nil] at h; simp at h; omega
  | x :: xs, [], c, _, _, hc, z, h => by simp [adL] at h; omega
  | x :: xs, y :: ys, c, hx, hy, hc, z, h => by
    rw [adL, List.mem_cons] at h
    have h1 := hx x (by simp)
    have h2 := hy y (by simp)
    rcases h with rfl | h
    · omega
    · exact adL_lt xs ys _ (fun q hq => hx q (by simp [hq])) (fun q hq => hy q (by simp [hq])) (by omega) z h
theorem ad_val : ∀ (xs ys : List Nat) (c : Nat), xs.length = ys.length → valB 256 (adL xs ys c) = valB 256 xs + valB 256 ys + c
  | [], [], c, _ => by simp [valB, adL]
  | [], y :: ys, _, h => by simp at h
  | x :: xs, [], _, h => by simp at h
  | x :: xs, y :: ys, c, h => by
    have ih := ad_val xs ys ((c + x + y) / 256) (by simpa using h)
    rw [adL]
    simp only [valB]
    rw [ih]
    omega
set_option maxHeartbeats 2000000 in
theorem AddR_ok (l m : List UInt8) (hl : l.length = 32) (hm : m.length = 32) (wS : World) : Calls Tryz.prog 22 #[.string (S l), .string (S m)] wS (StrPost (scB (numB l + numB m)) 0 wS) := by
  have H := SM.start wS
  have hsl : (S l).size = 32 := by rw [S_size, hl]
  have hsm : (S m).size = 32 := by rw [S_size, hm]
  have ha := digs_lt l
  have hb := digs_lt m
  have hal : (digs l).length = 32 := by rw [digs_len, hl]
  have hbl : (digs m).length = 32 := by rw [digs_len, hm]
  obtain ⟨T, hT⟩ : ∃ T, adL (digs l) (digs m) 0 = T := ⟨_, rfl⟩
  have hTl : T.length = 33 := by rw [← hT, adL_len _ _ _ (by rw [hal, hbl]), hal]
  have hTW : ∀ x ∈ T, x < 256 := hT ▸ adL_lt _ _ _ ha hb (by omega)
  have hTv : valB 256 T = numB l + numB m := by rw [← hT, ad_val _ _ _ (by rw [hal, hbl])]; rfl
  have cM := Kept.mk fun ga ca w h => Mod_any T 33 hTl (by omega) hTW ga ca w h
  rw [hTv] at cM
  unfold StrPost
  generalize scB (numB l + numB m) = res at cM ⊢
  replace hT := Kept.mk hT
  replace ha := Kept.mk ha
  replace hb := Kept.mk hb
  replace hal := Kept.mk hal
  replace hbl := Kept.mk hbl
  replace hTl := Kept.mk hTl
  clear hTW hTv hl hm
  go_enter Tryz.func22, Tryz.ntmps22
  go_wp2_with (first
    | (refine s_make rfl _ _ rfl _ _ rfl rfl rfl (by decide) (by decide) (by assumption) ?_; intro g w H; try simp only [Act.put, yI, yC, yZ]))
  rename_i K _
  go_loopw [7] (fun v7 wr => ∃ (i c : Nat) (d : List Nat), i ≤ 32 ∧ c ≤ 1 ∧ v7 = .int .i64 (i : Int) ∧ Kept (d.length = i) ∧ SM wS wr [(g, d ++ c :: List.replicate (32 - i) 0)] ∧ Kept (d ++ adL ((digs l).drop i) ((digs m).drop i) c = T)) (fun v7 _ => 32 - (RowKit.intOf v7).toNat)
  case atStart => exact ⟨0, 0, [], by omega, by omega, rfl, ⟨rfl⟩, H, hT⟩
  case round =>
    clear H
    obtain ⟨i, c, d, hi, hc, rfl, HD, H, HE⟩ := hrel
    by_cases hlt : i < 32
    · obtain ⟨x, hx⟩ : ∃ b, l.getD i 0 = b := ⟨_, rfl⟩
      obtain ⟨y, hy⟩ : ∃ b, m.getD i 0 = b := ⟨_, rfl⟩
      have hs0 : i < (S l).size := by rw [hsl]; exact hlt
      have hs1 : i < (S m).size := by rw [hsm]; exact hlt
      have g0 : (S l)[i] = x := by rw [byte_at, hx]
      have g1 : (S m)[i] = y := by rw [byte_at, hy]
      have l0 := x.toNat_lt
      have l1 := y.toNat_lt
      have hda : (digs l).drop i = x.toNat :: (digs l).drop (i + 1) := by
        rw [drop_getD _ i (by rw [hal.out]; exact hlt), ← hx]
        congr 1
        simp [digs, show i < l.length by rw [← S_size, hsl]; exact hlt]
      have hdb : (digs m).drop i = y.toNat :: (digs m).drop (i + 1) := by
        rw [drop_getD _ i (by rw [hbl.out]; exact hlt), ← hy]
        congr 1
        simp [digs, show i < m.length by rw [← S_size, hsm]; exact hlt]
      have hrep : List.replicate (32 - i) 0 = 0 :: List.replicate (32 - (i + 1)) 0 := by rw [show 32 - i = 32 - (i + 1) + 1 by omega, List.replicate_succ]
      have hE : d ++ [(c + x.toNat + y.toNat) % 256] ++ adL ((digs l).drop (i + 1)) ((digs m).drop (i + 1)) ((c + x.toNat + y.toNat) / 256) = T := by
        have h := HE.out
        rw [hda, hdb, adL] at h
        rw [List.append_assoc]; exact h
      generalize hX : x.toNat = X at l0 hE
      generalize hY : y.toNat = Y at l1 hE
      have hcell : ∀ u : Held (From wr.drew), u.w.cell? ⟨g, i, none⟩ = some (.int .i64 (c : Int)) := fun u => by
        have h := (H.from u.h).cell (.head _) i (by rw [List.length_append, HD.out, List.length_cons, List.length_replicate]; omega)
        rw [step_get HD.out rfl] at h
        exact h
      have hlti : (i : Int) < 32 := by omega
      have hlti2 : (i : Int) < 33 := by omega
      have hltj : (i : Int) + 1 < 33 := by omega
      have kt : ((i : Int) + 1).toNat = i + 1 := by omega
      obtain ⟨kw0, kv0, kw1, kv1, kw2, kv2, kw3, kv3, kw4, kv4⟩ : IntKind.i64.wrap ((i : Int) + 1) = (i : Int) + 1 ∧ wrap64 ((i : Int) + 1) = (i : Int) + 1 ∧ IntKind.i64.wrap ((X : Int)) = (X : Int) ∧ wrap64 ((X : Int)) = (X : Int) ∧ IntKind.i64.wrap ((Y : Int)) = (Y : Int) ∧ wrap64 ((Y : Int)) = (Y : Int) ∧ IntKind.i64.wrap ((c : Int) + (X : Int)) = (c : Int) + (X : Int) ∧ wrap64 ((c : Int) + (X : Int)) = (c : Int) + (X : Int) ∧ IntKind.i64.wrap ((c : Int) + (X : Int) + (Y : Int)) = (c : Int) + (X : Int) + (Y : Int) ∧ wrap64 ((c : Int) + (X : Int) + (Y : Int)) = (c : Int) + (X : Int) + (Y : Int) := ⟨ws_wrap _ (by omega) (by omega), ws_64 _ (by omega) (by omega), ws_wrap _ (by omega) (by omega), ws_64 _ (by omega) (by omega), ws_wrap _ (by omega) (by omega), ws_64 _ (by omega) (by omega), ws_wrap _ (by omega) (by omega), ws_64 _ (by omega) (by omega), ws_wrap _ (by omega) (by omega), ws_64 _ (by omega) (by omega)⟩
      replace hx := Kept.mk hx
      replace hy := Kept.mk hy
      replace hda := Kept.mk hda
      replace hdb := Kept.mk hdb
      replace hE := Kept.mk hE
      go_wp2
      refine wp_region_from (by kernel_rfl) (by kernel_rfl) ?_
      repeat (go_big_quiet_step (fail))
      refine wpQuiet_nil ?_
      intro w5 hw5
      have H := H.from hw5
      clear hw5
      clear hcell kw1 kv1 kw2 kv2 kw3 kv3 kw4 kv4
      replace kw0 := Kept.mk kw0
      replace kv0 := Kept.mk kv0
      obtain ⟨Z, hZ⟩ : ∃ Z, c + X + Y = Z := ⟨_, rfl⟩
      have hzI : (c : Int) + (X : Int) + (Y : Int) = (Z : Int) := by omega
      rw [hzI]
      have hE2 := hE.out
      rw [hZ] at hE2
      replace hE2 := Kept.mk hE2
      have hZb : Z < 512 := by omega
      clear hzI hE
      replace hrep := Kept.mk hrep
      have c1 := H.cell (.head _) i (by rw [List.length_append, HD.out, List.length_cons, List.length_replicate]; omega)
      rw [step_get HD.out rfl] at c1
      have f1 := H.frozen (.head _) i
      have H1 := H.set0 i (Z % 256) ((Z : Int) % 256) (by omega)
      rw [step_set HD.out rfl, hrep.out] at H1
      have hD1 : (d ++ [Z % 256]).length = i + 1 := by rw [List.length_append, HD.out]; rfl
      have c2 := H1.cell (.head _) (i + 1) (by rw [List.length_append, hD1, List.length_cons]; omega)
      rw [step_get hD1 rfl] at c2
      have f2 := H1.frozen (.head _) (i + 1)
      have H2 := H1.set0 (i + 1) (Z / 256) ((Z : Int) / 256) (by omega)
      rw [step_set hD1 rfl, List.append_assoc] at H2
      replace hD1 := Kept.mk hD1
      replace hZ := Kept.mk hZ
      have H := H2
      clear H1 H2
      clear kw0 kv0
      go_wp2
      go_roundw
      case rel => exact ⟨i + 1, Z / 256, d ++ [Z % 256], by omega, by omega, val_eq (by omega), hD1, H, hE2⟩
      case measure => first | (simp [RowKit.intOf]; done) | (simp [RowKit.intOf]; omega)
    · obtain rfl : i = 32 := by omega
      have hd : d ++ [c] = T := by
        have h := HE.out
        rw [List.drop_eq_nil_of_le (show (digs l).length ≤ 32 by rw [hal.out]; exact Nat.le_refl _), adL_nil] at h
        exact h
      rw [show 32 - 32 = 0 from rfl, List.replicate_zero, hd] at H
      clear hd HE
      go_wp2_with (go_at_call 43; refine s_call (by assumption) (cM.out _ _ _ (H.holds _ T (.head _))) ?_; intro w H)
      go_ret2
      exact ⟨rfl, H.below⟩
end Go.Proofs.YtgnblaaldpniiaaGreatDoor.Sc
end
section
set_option linter.unusedSimpArgs false
set_option linter.unusedVariables false
set_option maxRecDepth 100000
namespace Go.Proofs.YtgnblaaldpniiaaGreatDoor.Sc
open Go.RowKit
def muL (p : Nat) : List Nat → List Nat → Nat → List Nat
  | x :: xs, y :: ys, c => (x + p * y + c) % 256 :: muL p xs ys ((x + p * y + c) / 256)
  | _, _, c => [c]
theorem muL_nil (p : Nat) (ys : List Nat) (c : Nat) : muL p [] ys c = [c] := by cases ys <;> rfl
theorem muL_len (p : Nat) : ∀ (xs ys : List Nat) (c : Nat), xs.length = ys.length → (muL p xs ys c).length = xs.length + 1
  | [], _, _, _ => by rw [muL_nil]; rfl
  | x :: xs, [], _, h => by simp at h
  | x :: xs, y :: ys, c, h => by rw [muL, List.length_cons, List.length_cons, muL_len p xs ys _ (by simpa using h)]
theorem carry_lt {x p y c : Nat} (hx : x < 256) (hp : p < 256) (hy : y < 256) (hc : c < 256) : (x + p * y + c) / 256 < 256 ∧ p * y ≤ 65025 := by
  have h : p * y ≤ 255 * 255 := Nat.mul_le_mul (by omega) (by omega)
  omega
theorem muL_lt (p : Nat) (hp : p < 256) : ∀ (xs ys : List Nat) (c : Nat), (∀ x ∈ xs, x < 256) → (∀ x ∈ ys, x < 256) → c < 256 → ∀ z ∈ muL p xs ys c, z < 256
  | [], _, c, _, _, hc, z, h => by rw [muL_nil] at h; simp at h; omega
  | x :: xs, [], c, _, _, hc, z, h => by simp [muL] at h; omega
  | x :: xs, y :: ys, c, hx, hy, hc, z, h => by
    rw [muL, List.mem_cons] at h
    rcases h with rfl | h
    · exact Nat.mod_lt _ (by decide)
    · exact muL_lt p hp xs ys _ (fun q hq => hx q (by simp [hq])) (fun q hq => hy q (by simp [hq])) (carry_lt (hx x (by simp)) hp (hy y (by simp)) hc).1 z h
theorem mu_val (p : Nat) : ∀ (xs ys : List Nat) (c : Nat), xs.length = ys.length → valB 256 (muL p xs ys c) = valB 256 xs + p * valB 256 ys + c
  | [], [], c, _ => by simp [valB, muL]
  | [], y :: ys, _, h => by simp at h
  | x :: xs, [], _, h => by simp at h
  | x :: xs, y :: ys, c, h => by
    have ih := mu_val p xs ys ((x + p * y + c) / 256) (by simpa using h)
    rw [muL]
    simp only [valB]
    have e : p * (y + 256 * valB 256 ys) = p * y + 256 * (p * valB 256 ys) := by rw [Nat.mul_add, Nat.mul_left_comm]
    rw [ih, e]
    generalize p * y = q
    generalize p * valB 256 ys = r
    omega
theorem val_app : ∀ (d r : List Nat), valB 256 (d ++ r) = valB 256 d + 256 ^ d.length * valB 256 r
  | [], r => by simp [valB]
  | x :: d, r => by
    rw [List.cons_append, valB, valB, val_app d r, List.length_cons, Nat.pow_succ, Nat.mul_comm (256 ^ d.length) 256, Nat.mul_assoc]
    omega
theorem val_zero : ∀ n, valB 256 (List.replicate n 0) = 0
  | 0 => rfl
  | n + 1 => by rw [List.replicate_succ, valB, val_zero n]
structure Rnd (a b : List Nat) (i : Nat) (d e : List Nat) : Prop where
  dlen : d.length = i
  elen : e.length = 32
  dlt : ∀ x ∈ d, x < 256
  elt : ∀ x ∈ e, x < 256
  val : valB 256 d + 256 ^ i * valB 256 e = valB 256 (a.take i) * valB 256 b
theorem Rnd.step {a b d e : List Nat} {i : Nat} (h : Rnd a b i d e) (hi : i < a.length) (hb : b.length = 32) (haW : ∀ x ∈ a, x < 256) (hbW : ∀ x ∈ b, x < 256) :
    ∃ x f, muL (a.getD i 0) e b 0 = x :: f ∧ Rnd a b (i + 1) (d ++ [x]) f := by
  have hl := muL_len (a.getD i 0) e b 0 (by rw [h.elen, hb])
  have hlt := muL_lt (a.getD i 0) (getD_ltN haW i hi) e b 0 h.elt hbW (by omega)
  have hv := mu_val (a.getD i 0) e b 0 (by rw [h.elen, hb])
  cases hm : muL (a.getD i 0) e b 0 with
  | nil => rw [hm, h.elen] at hl; simp at hl
  | cons x f =>
    rw [hm] at hl hlt hv
    refine ⟨x, f, rfl, by rw [List.length_append, h.dlen]; rfl, by rw [List.length_cons, h.elen] at hl; omega, ?_, fun y hy => hlt y (by simp [hy]), ?_⟩
    · intro y hy
      rcases List.mem_append.1 hy with hy | hy
      · exact h.dlt y hy
      · simp at hy; subst hy; exact hlt _ (by simp)
    · have h1 : valB 256 (d ++ [x]) + 256 ^ (i + 1) * valB 256 f = valB 256 d + 256 ^ i * valB 256 (x :: f) := by
        rw [val_app, h.dlen]
        simp only [valB]
        rw [Nat.pow_succ, Nat.mul_zero, Nat.add_zero, Nat.mul_add, Nat.mul_assoc, Nat.add_assoc]
      have h2 : a.take (i + 1) = a.take i ++ [a.getD i 0] := by
        rw [List.take_add_one]; simp [hi]
      have h3 : valB 256 (a.take (i + 1)) = valB 256 (a.take i) + 256 ^ i * a.getD i 0 := by
        rw [h2, val_app, List.length_take, Nat.min_eq_left (by omega)]
        simp [valB]
      rw [h1, hv, h3, Nat.add_zero, Nat.add_mul, ← h.val, Nat.mul_add, Nat.mul_assoc]
      omega
end Go.Proofs.YtgnblaaldpniiaaGreatDoor.Sc
end
section
set_option linter.unusedSimpArgs false
set_option linter.unusedVariables false
set_option maxRecDepth 100000
namespace Go.Proofs.YtgnblaaldpniiaaGreatDoor.Sc
open Go.RowKit
theorem ws_wrapE {z y : Int} (e : z = y) (h0 : 0 ≤ y) (h1 : y < 4611686018427387904) : IntKind.i64.wrap z = y := e ▸ ws_wrap y h0 h1
theorem ws_64E {z y : Int} (e : z = y) (h0 : 0 ≤ y) (h1 : y < 4611686018427387904) : wrap64 z = y := e ▸ ws_64 y h0 h1
set_option maxHeartbeats 4000000 in
theorem MulR_ok (l m : List UInt8) (hl : l.length = 32) (hm : m.length = 32) (wS : World) : Calls Tryz.prog 21 #[.string (S l), .string (S m)] wS (StrPost (scB (numB l * numB m)) 0 wS) := by
  have H := SM.start wS
  have hsl : (S l).size = 32 := by rw [S_size, hl]
  have hsm : (S m).size = 32 := by rw [S_size, hm]
  have ha := Kept.mk (digs_lt l)
  have hb := Kept.mk (digs_lt m)
  have hal : Kept ((digs l).length = 32) := ⟨by rw [digs_len, hl]⟩
  have hbl : Kept ((digs m).length = 32) := ⟨by rw [digs_len, hm]⟩
  have hgl : ∀ i, i < 32 → (digs l).getD i 0 = (l.getD i 0).toNat := fun i hi => by simp [digs, show i < l.length by omega]
  have hgm : ∀ i, i < 32 → (digs m).getD i 0 = (m.getD i 0).toNat := fun i hi => by simp [digs, show i < m.length by omega]
  have h0 : Rnd (digs l) (digs m) 0 [] (List.replicate 32 0) := ⟨rfl, List.length_replicate .., by simp, fun x hx => by rw [List.eq_of_mem_replicate hx]; decide, by rw [val_zero]; simp [valB]⟩
  replace h0 := Kept.mk h0
  replace hgl := Kept.mk hgl
  replace hgm := Kept.mk hgm
  unfold StrPost
  obtain ⟨res, hres⟩ : ∃ r, scB (numB l * numB m) = r := ⟨_, rfl⟩
  rw [hres]
  replace hres := Kept.mk hres
  clear hl hm
  go_enter Tryz.func21, Tryz.ntmps21
  go_wp2_with (first
    | (refine s_make rfl _ _ rfl _ _ rfl rfl rfl (by decide) (by decide) (by assumption) ?_; intro g w H; try simp only [Act.put, yI, yC, yZ]))
  rename_i K _
  go_loopw [7] (fun v7 wr => ∃ (i : Nat) (d e : List Nat), i ≤ 32 ∧ v7 = .int .i64 (i : Int) ∧ SM wS wr [(g, (d ++ e) ++ List.replicate (32 - i) 0)] ∧ Kept (Rnd (digs l) (digs m) i d e)) (fun v7 _ => 32 - (RowKit.intOf v7).toNat)
  case atStart => exact ⟨0, [], List.replicate 32 0, by omega, rfl, H, h0⟩
  case round =>
    clear H h0
    obtain ⟨i, d, e, hi, rfl, H, HD⟩ := hrel
    by_cases hlt : i < 32
    · obtain ⟨x0, f, hT, HN⟩ := HD.out.step (by rw [hal.out]; exact hlt) hbl.out ha.out hb.out
      rw [hgl.out i hlt] at hT
      obtain ⟨x, hx⟩ : ∃ b, l.getD i 0 = b := ⟨_, rfl⟩
      rw [hx] at hT
      have hs0 : i < (S l).size := by rw [hsl]; exact hlt
      have g0 : (S l)[i] = x := by rw [byte_at, hx]
      obtain ⟨X, hX⟩ : ∃ n, x.toNat = n := ⟨_, rfl⟩
      have l0 : X < 256 := hX ▸ x.toNat_lt
      rw [hX] at hT
      have hlti : (i : Int) < 32 := by omega
      have hel := Kept.mk HD.out.elen
      have hdl := Kept.mk HD.out.dlen
      have heW := Kept.mk HD.out.elt
      replace hT := Kept.mk hT
      replace hx := Kept.mk hx
      replace HN := Kept.mk HN
      clear HD
      rw [List.append_assoc] at H
      go_wp2
      go_loopw [8, 9] (fun v8 v9 w' => ∃ (k c : Nat) (h : List Nat), k ≤ 32 ∧ c < 256 ∧ v8 = .int .i64 (c : Int) ∧ v9 = .int .i64 (k : Int) ∧ Kept (h.length = k) ∧ SM wS w' [(g, (d ++ h) ++ (e.drop k ++ List.replicate (32 - i) 0))] ∧ Kept (h ++ muL X (e.drop k) ((digs m).drop k) c = x0 :: f)) (fun _ v9 _ => 32 - (RowKit.intOf v9).toNat)
      case atStart => exact ⟨0, 0, [], by omega, by omega, rfl, rfl, ⟨rfl⟩, by rw [List.append_nil]; exact H, hT⟩
      case round =>
        clear H
        obtain ⟨wo, hwo⟩ : ∃ wo : World, wo = wS := ⟨_, rfl⟩
        clear hwo wo
        obtain ⟨k, c, h, hk, hc, rfl, rfl, Hh, H, HE⟩ := hrel
        by_cases hkt : k < 32
        · obtain ⟨y, hy⟩ : ∃ b, m.getD k 0 = b := ⟨_, rfl⟩
          have hs1 : k < (S m).size := by rw [hsm]; exact hkt
          have g1 : (S m)[k] = y := by rw [byte_at, hy]
          obtain ⟨Y, hY⟩ : ∃ n, y.toNat = n := ⟨_, rfl⟩
          have l1 : Y < 256 := hY ▸ y.toNat_lt
          obtain ⟨q, hq⟩ : ∃ q, e.getD k 0 = q := ⟨_, rfl⟩
          have hql : q < 256 := hq ▸ getD_ltN heW.out k (by rw [hel.out]; exact hkt)
          have hde := drop_getD e k (by rw [hel.out]; exact hkt)
          rw [hq] at hde
          have hdb := drop_getD (digs m) k (by rw [hbl.out]; exact hkt)
          rw [hgm.out k hkt, hy, hY] at hdb
          obtain ⟨P, hP⟩ : ∃ P, X * Y = P := ⟨_, rfl⟩
          have hPI : (X : Int) * (Y : Int) = (P : Int) := by rw [← hP]; simp
          have hPb : P ≤ 65025 := hP ▸ (carry_lt (x := 0) (c := 0) (by omega) l0 l1 (by omega)).2
          obtain ⟨Z, hZ⟩ : ∃ Z, q + P + c = Z := ⟨_, rfl⟩
          have hE : h ++ [Z % 256] ++ muL X (e.drop (k + 1)) ((digs m).drop (k + 1)) (Z / 256) = x0 :: f := by
            have h1 := HE.out
            rw [hde, hdb, muL, hP, hZ] at h1
            rw [List.append_assoc]; exact h1
          have hdhl : (d ++ h).length = i + k := by rw [List.length_append, hdl.out, Hh.out]
          have hcell : ∀ u : Held (From wr.drew), u.w.cell? ⟨g, i + k, none⟩ = some (.int .i64 (q : Int)) := fun u => by
            have h2 := (H.from u.h).cell (.head _) (i + k) (by rw [List.length_append, hdhl, List.length_append, List.length_drop, List.length_replicate, hel.out]; omega)
            rw [step_get hdhl (show e.drop k ++ List.replicate (32 - i) 0 = q :: (e.drop (k + 1) ++ List.replicate (32 - i) 0) by rw [hde]; rfl)] at h2
            exact h2
          have hltk : (k : Int) < 32 := by omega
          have hltj : (i : Int) + (k : Int) < 64 := by omega
          have hltj0 : (0 : Int) ≤ (i : Int) + (k : Int) := by omega
          have kt : ((i : Int) + (k : Int)).toNat = i + k := by omega
          have hZI : (q : Int) + (P : Int) + (c : Int) = (Z : Int) := by omega
          replace hy := Kept.mk hy
          replace hq := Kept.mk hq
          replace hde := Kept.mk hde
          replace hdb := Kept.mk hdb
          replace hP := Kept.mk hP
          replace hE := Kept.mk hE
          have hZb : Z < 65536 := by omega
          replace hZ := Kept.mk hZ
          obtain ⟨kw0, kv0, kw1, kv1, kw2, kv2, kw3, kv3, kw4, kv4, kw5, kv5⟩ : IntKind.i64.wrap ((X : Int)) = (X : Int) ∧ wrap64 ((X : Int)) = (X : Int) ∧ IntKind.i64.wrap ((Y : Int)) = (Y : Int) ∧ wrap64 ((Y : Int)) = (Y : Int) ∧ IntKind.i64.wrap ((i : Int) + (k : Int)) = (i : Int) + (k : Int) ∧ wrap64 ((i : Int) + (k : Int)) = (i : Int) + (k : Int) ∧ IntKind.i64.wrap ((q : Int) + (P : Int)) = (q : Int) + (P : Int) ∧ wrap64 ((q : Int) + (P : Int)) = (q : Int) + (P : Int) ∧ IntKind.i64.wrap ((X : Int) * (Y : Int)) = (P : Int) ∧ wrap64 ((X : Int) * (Y : Int)) = (P : Int) ∧ IntKind.i64.wrap ((q : Int) + (P : Int) + (c : Int)) = (Z : Int) ∧ wrap64 ((q : Int) + (P : Int) + (c : Int)) = (Z : Int) := ⟨ws_wrap _ (by omega) (by omega), ws_64 _ (by omega) (by omega), ws_wrap _ (by omega) (by omega), ws_64 _ (by omega) (by omega), ws_wrap _ (by omega) (by omega), ws_64 _ (by omega) (by omega), ws_wrap _ (by omega) (by omega), ws_64 _ (by omega) (by omega), ws_wrapE hPI (by omega) (by omega), ws_64E hPI (by omega) (by omega), ws_wrapE hZI (by omega) (by omega), ws_64E hZI (by omega) (by omega)⟩
          clear hPI hZI
          go_wp2
          refine wp_region_from (by kernel_rfl) (by kernel_rfl) ?_
          repeat (go_big_quiet_step (fail))
          refine wpQuiet_nil ?_
          intro w5 hw5
          have H := H.from hw5
          clear hw5
          clear hcell kw0 kv0 kw1 kv1 kv2 kw3 kv3 kw4 kv4 kw5 kv5
          replace kw2 := Kept.mk kw2
          have hcons : e.drop k ++ List.replicate (32 - i) 0 = q :: (e.drop (k + 1) ++ List.replicate (32 - i) 0) := by rw [hde.out]; rfl
          have c1 := H.cell (.head _) (i + k) (by rw [List.length_append, hdhl, List.length_append, List.length_drop, List.length_replicate, hel.out]; omega)
          rw [step_get hdhl hcons] at c1
          have f1 := H.frozen (.head _) (i + k)
          have H1 := H.set0 (i + k) (Z % 256) ((Z : Int) % 256) (by omega)
          rw [step_set hdhl hcons, List.append_assoc d] at H1
          have hh1 : (h ++ [Z % 256]).length = k + 1 := by rw [List.length_append, Hh.out]; rfl
          replace hcons := Kept.mk hcons
          replace hdhl := Kept.mk hdhl
          replace hh1 := Kept.mk hh1
          have H := H1
          clear H1
          have kw2 := kw2.out
          go_wp2
          clear kw2
          go_roundw
          case rel => exact ⟨k + 1, Z / 256, h ++ [Z % 256], by omega, by omega, val_eq (by omega), val_eq (by omega), hh1, H, hE⟩
          case measure => first | (simp [RowKit.intOf]; done) | (simp [RowKit.intOf]; omega)
        · obtain rfl : k = 32 := by omega
          have hhc : h ++ [c] = x0 :: f := by
            have h1 := HE.out
            rw [List.drop_eq_nil_of_le (show e.length ≤ 32 by rw [hel.out]; exact Nat.le_refl _), muL_nil] at h1
            exact h1
          have hdhl : (d ++ h).length = i + 32 := by rw [List.length_append, hdl.out, Hh.out]
          have hcons : e.drop 32 ++ List.replicate (32 - i) 0 = 0 :: List.replicate (32 - (i + 1)) 0 := by
            rw [List.drop_eq_nil_of_le (show e.length ≤ 32 by rw [hel.out]; exact Nat.le_refl _), List.nil_append, show 32 - i = 32 - (i + 1) + 1 by omega, List.replicate_succ]
          have c1 := H.cell (.head _) (i + 32) (by rw [List.length_append, hdhl, hcons, List.length_cons]; omega)
          rw [step_get hdhl hcons] at c1
          have f1 := H.frozen (.head _) (i + 32)
          have H1 := H.set0 (i + 32) c (c : Int) rfl
          rw [step_set hdhl hcons, List.append_assoc d, hhc, show d ++ x0 :: f = (d ++ [x0]) ++ f by simp] at H1
          have hlt64 : (i : Int) + 32 < 64 := by omega
          have kt : ((i : Int) + 32).toNat = i + 32 := by omega
          replace hcons := Kept.mk hcons
          replace hdhl := Kept.mk hdhl
          replace hhc := Kept.mk hhc
          have H := H1
          clear H1
          go_wp2
          go_roundw
          case rel => exact ⟨i + 1, d ++ [x0], f, by omega, val_eq (by omega), H, HN⟩
          case measure => first | (simp [RowKit.intOf]; done) | (simp [RowKit.intOf]; omega)
    · obtain rfl : i = 32 := by omega
      rw [show 32 - 32 = 0 from rfl, List.replicate_zero, List.append_nil] at H
      have hlen : (d ++ e).length = 64 := by rw [List.length_append, HD.out.dlen, HD.out.elen]
      have hv : valB 256 (d ++ e) = numB l * numB m := by
        rw [val_app, HD.out.dlen, HD.out.val, List.take_of_length_le (by rw [hal.out]; exact Nat.le_refl _)]
        rfl
      have cM := Kept.mk fun ga ca w h => Mod_any (d ++ e) 64 hlen (by omega) (fun x hx => (List.mem_append.1 hx).elim (HD.out.dlt x) (HD.out.elt x)) ga ca w h
      rw [hv, hres.out] at cM
      clear hlen hv HD
      generalize d ++ e = T at H cM
      go_wp2_with (go_at_call 43; refine s_call (by assumption) (cM.out _ _ _ (H.holds _ T (.head _))) ?_; intro w H)
      go_ret2
      exact ⟨rfl, H.below⟩
end Go.Proofs.YtgnblaaldpniiaaGreatDoor.Sc
end
section
set_option linter.unusedSimpArgs false
set_option linter.unusedVariables false
set_option maxRecDepth 100000
namespace Go.Proofs.YtgnblaaldpniiaaGreatDoor.Sc
open Go.RowKit Go.Lib
def addL : List Nat → List Nat → Nat → List Nat
  | x :: xs, y :: ys, c => (x + y + c) % 4294967296 :: addL xs ys ((x + y + c) / 4294967296)
  | _, _, _ => []
theorem addL_nil (ys : List Nat) (c : Nat) : addL [] ys c = [] := by cases ys <;> rfl
theorem infoN : (Tryz.prog.info? 87).map (·.size) = some 16 := by kernel_rfl
theorem zeroN : ∃ Z : Array Value, Z.size = 16 ∧ ∀ w, (zeroValue 87).run Tryz.prog w = .ok (.agg Z) w :=
  ⟨(numC .u32 (List.replicate 16 0)).toArray, by kernel_rfl, (zero_of_info (n := 16) (by kernel_rfl)).1⟩
def NumPost (l : List Nat) (w : World) (e : Ending) (w' : World) : Prop := e = .returned (aggN .u32 l) ∧ Below w.heap.size w w'
set_option maxHeartbeats 1000000 in
theorem sum_any (a b : List Nat) (ha : a.length = 16) (hb : b.length = 16) (hal : ∀ x ∈ a, x < 4294967296) (hbl : ∀ x ∈ b, x < 4294967296) (w : World) :
    Calls Tryz.prog 73 #[aggN .u32 a, aggN .u32 b] w (NumPost (addL a b 0) w) := by
  obtain ⟨Z, hZ, hz⟩ := zeroN
  replace hZ := Kept.mk hZ
  replace ha := Kept.mk ha
  replace hb := Kept.mk hb
  replace hal := Kept.mk hal
  replace hbl := Kept.mk hbl
  obtain ⟨A, hA⟩ : ∃ A, (numC .u32 a).toArray = A := ⟨_, rfl⟩
  obtain ⟨B, hB⟩ : ∃ B, (numC .u32 b).toArray = B := ⟨_, rfl⟩
  unfold aggN
  rw [hA, hB]
  go_enter Tryz.func73, Tryz.ntmps73
  go_wp2
  have h1 : Arr (((w.alloc (.cells A 87)).alloc (.cells B 87)).alloc (.cells Z 87)) w.heap.size 87 .u32 a := by
    have h := Arr.new w 87 .u32 a
    rw [hA] at h
    exact (h.from ((Below.refl _ _).alloc (Nat.le_refl _) _)).from ((Below.refl _ _).alloc (Nat.le_refl _) _)
  have h2 : Arr (((w.alloc (.cells A 87)).alloc (.cells B 87)).alloc (.cells Z 87)) (w.heap.size + 1) 87 .u32 b := by
    have h := Arr.new (w.alloc (.cells A 87)) 87 .u32 b
    rw [hB, World.size_alloc] at h
    exact h.from ((Below.refl _ _).alloc (Nat.le_refl _) _)
  have h3 : (((w.alloc (.cells A 87)).alloc (.cells B 87)).alloc (.cells Z 87)).heap[w.heap.size + 2]? = some (.cells Z 87 (0, 0)) := by
    have h := heap_alloc_new ((w.alloc (.cells A 87)).alloc (.cells B 87)) (.cells Z 87)
    simpa using h
  have h4 : Below w.heap.size w (((w.alloc (.cells A 87)).alloc (.cells B 87)).alloc (.cells Z 87)) :=
    (((Below.refl _ _).alloc (Nat.le_refl _) _).alloc (by simp) _).alloc (by simp; omega) _
  replace hA := Kept.mk hA
  replace hB := Kept.mk hB
  generalize ((w.alloc (.cells A 87)).alloc (.cells B 87)).alloc (.cells Z 87) = w0 at h1 h2 h3 h4 ⊢
  obtain ⟨n, hn⟩ : ∃ n, w.heap.size = n := ⟨_, rfl⟩
  rw [hn] at h1 h2 h3 ⊢
  replace h1 := Kept.mk h1
  replace h2 := Kept.mk h2
  replace h3 := Kept.mk h3
  replace h4 := Kept.mk h4
  replace hn := Kept.mk hn
  go_loopw [5, 8] (fun v5 v8 wr => ∃ (i c : Nat) (d : List Nat), i ≤ 16 ∧ c ≤ 1 ∧ v5 = .int .u64 (c : Int) ∧ v8 = .int .i64 (i : Int) ∧ Kept (d.length = i) ∧ Kept (Arr wr n 87 .u32 (d ++ a.drop i)) ∧ Kept (Arr wr (n + 1) 87 .u32 b) ∧
    Kept (wr.heap[n + 2]? = some (.cells Z 87 (0, 0))) ∧ Kept (Below w.heap.size w wr) ∧ Kept (d ++ addL (a.drop i) (b.drop i) c = addL a b 0)) (fun _ v8 _ => 16 - (RowKit.intOf v8).toNat)
  case atStart => exact ⟨0, 0, [], by omega, by omega, rfl, rfl, ⟨rfl⟩, h1, h2, h3, h4, ⟨rfl⟩⟩
  case round =>
    clear h1 h2 h3 h4
    obtain ⟨i, c, d, hi, hc, rfl, rfl, HD, H1, H2, H3, H4, HE⟩ := hrel
    by_cases hlt : i < 16
    · obtain ⟨x, hx⟩ : ∃ x, a.getD i 0 = x := ⟨_, rfl⟩
      obtain ⟨y, hy⟩ : ∃ y, b.getD i 0 = y := ⟨_, rfl⟩
      have hda := drop_getD a i (by rw [ha.out]; exact hlt)
      have hdb := drop_getD b i (by rw [hb.out]; exact hlt)
      rw [hx] at hda
      rw [hy] at hdb
      have c1 : ∀ u : Held (From wr.drew), u.w.cell? ⟨n, i, none⟩ = some (.int .u32 (x : Int)) := fun u => (H1.out.from u.h.of_drew).cellMid hda HD.out
      have c2 : ∀ u : Held (From wr.drew), u.w.cell? ⟨n + 1, i, none⟩ = some (.int .u32 (y : Int)) := fun u => hy ▸ (H2.out.from u.h.of_drew).cell i (by rw [hb.out]; exact hlt)
      replace hda := Kept.mk hda
      replace hdb := Kept.mk hdb
      have hxl : x < 4294967296 := hx ▸ getD_ltN hal.out i (by rw [ha.out]; exact hlt)
      have hyl : y < 4294967296 := hy ▸ getD_ltN hbl.out i (by rw [hb.out]; exact hlt)
      replace hx := Kept.mk hx
      replace hy := Kept.mk hy
      go_wp2
      refine wp_region_from (by kernel_rfl) (by kernel_rfl) ?_
      repeat (go_big_quiet_step (fail))
      refine wpQuiet_nil ?_
      intro w5 hw5
      have H15 := H1.out.from hw5.of_drew
      have H25 := H2.out.from hw5.of_drew
      have f5 := H15.frozen i
      have c5 := H15.cellMid hda.out HD.out
      have b5 := H4.out.trans (hw5.of_drew.mono H4.out.size)
      have h35 := (hw5.of_drew.block (n + 2) (Array.getElem?_eq_some_iff.1 H3.out).1).trans H3.out
      replace H15 := Kept.mk H15
      replace H25 := Kept.mk H25
      replace b5 := Kept.mk b5
      replace h35 := Kept.mk h35
      clear c1 c2
      go_wp2
      go_roundw
      case rel => exact ⟨i + 1, (x + y + c) / 4294967296, d ++ [(x + y + c) % 4294967296], by omega, by omega, val_eq (by omega), val_eq (by omega), ⟨by rw [List.length_append, HD.out]; rfl⟩, ⟨H15.out.step hda.out HD.out _ (by omega)⟩,
        ⟨H25.out.other (by omega) _ _⟩, ⟨(Below.heap_setCell w5 ⟨n, i, none⟩ _ (n + 2) (by simp)).trans h35.out⟩, ⟨b5.out.setCell (by simp [hn.out]) _⟩, ⟨by
          have h := HE.out
          rw [hda.out, hdb.out, addL] at h
          rw [List.append_assoc]
          exact h⟩⟩
      case measure => simp [RowKit.intOf]; omega
    · obtain rfl : i = 16 := by omega
      have hA8 : Arr wr n 87 .u32 d := by have h := H1.out; rw [List.drop_eq_nil_of_le (by rw [ha.out]; omega), List.append_nil] at h; exact h
      have hd : d = addL a b 0 := by have h := HE.out; rw [List.drop_eq_nil_of_le (by rw [ha.out]; omega), addL_nil, List.append_nil] at h; exact h
      replace hA8 := Kept.mk hA8
      replace hd := Kept.mk hd
      clear HE H1
      go_wp2_with (first
        | (refine wpList_load_row rfl 87 (.tmp 2) rfl n rfl 87 (numC .u32 d).toArray (0, 0) _ hA8.out.blk Tryz.underlying87 rfl ?_ ?_; (rw [infoN, List.size_toArray, numC_length, HD.out]))
        | (refine wpList_store_row rfl 87 (.tmp 4) (.tmp 29) rfl (n + 2) (numC .u32 d).toArray rfl rfl 87 Z H3.out ?_ ?_ (numC_one _ _) ?_; (rw [infoN, List.size_toArray, numC_length, HD.out]); (rw [hZ.out, List.size_toArray, numC_length, HD.out])))
      exact bodyPost_ret (results_cell_row (p := 4) (ty := 87) Tryz.results73 _ _ (n + 2) 87 (numC .u32 d).toArray (0, 0) _ rfl (setRow_heap _ _ _ _ _ _ H3.out) Tryz.underlying87 rfl (by rw [infoN, List.size_toArray, numC_length, HD.out])) rfl
        ⟨by rw [← hd.out]; rfl, below_setRow H4.out (by rw [hn.out]; omega) _⟩
end Go.Proofs.YtgnblaaldpniiaaGreatDoor.Sc
end
