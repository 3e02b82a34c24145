/- The document's answer for package scalar: a difference, walked. -/
import Derived.Test.YthlkpdfdbdfbjaaO1
set_option linter.unusedSimpArgs false
set_option linter.unusedVariables false
namespace Go.Proofs.Ythlkpdfdbdfbjaa
open Go.RowKit
theorem step_set {d l r : List Nat} {i x : Nat} (hd : d.length = i) (hl : l = x :: r) (v : Nat) : (d ++ l).set i v = (d ++ [v]) ++ r := by
  rw [hl, ← hd, set_mid]
theorem step_get {d l r : List Nat} {i x : Nat} (hd : d.length = i) (hl : l = x :: r) : (d ++ l).getD i 0 = x := by
  rw [hl, ← hd]; simp
def LsPost (l : List Nat) (b : Bool) (w : World) (e : Ending) (w' : World) : Prop := ∃ g, e = .returned (.tuple #[.slice (some ⟨g, 0, none⟩) 33 33, .bool b]) ∧ Below w.heap.size w w' ∧ w.heap.size ≤ g ∧ AtS w' g l
set_option maxHeartbeats 2000000 in
theorem less_walk (a b : List Nat) (ga gb ca cb : Nat) (hal : a.length = 33) (hbl : b.length = 32) (haW : ∀ x ∈ a, x < 256) (hbW : ∀ x ∈ b, x < 256) (wS : World) (hA : AtS wS ga a) (hB : AtS wS gb b) :
    Calls Try.prog 33 #[.slice (some ⟨ga, 0, none⟩) 33 ca, .slice (some ⟨gb, 0, none⟩) 32 cb] wS (LsPost (dfL a (b ++ [0]) 0) (dfU a (b ++ [0]) 0 == 0) wS) := by
  have H := SM.start wS
  have hll := Kept.mk (And.intro hal hbl)
  obtain ⟨b', hb'⟩ : ∃ x, b ++ [0] = x := ⟨_, rfl⟩
  have hbl' : b'.length = 33 := by rw [← hb', List.length_append, hbl]; rfl
  have hU1 := dfU_le a b' 0 (by omega)
  rw [hb']
  obtain ⟨R, hR⟩ : ∃ R, dfL a b' 0 = R := ⟨_, rfl⟩
  obtain ⟨U, hU⟩ : ∃ U, dfU a b' 0 = U := ⟨_, rfl⟩
  have hRl : R.length = 33 := by rw [← hR, dfL_len a b' 0 (by rw [hal, hbl']), hal]
  rw [hR, hU]
  rw [hU] at hU1
  replace hb' := Kept.mk hb'
  replace hbl' := Kept.mk hbl'
  replace hR := Kept.mk hR
  replace hU := Kept.mk hU
  replace hRl := Kept.mk hRl
  replace haW := Kept.mk haW
  replace hbW := Kept.mk hbW
  have hAm := Kept.mk hA
  have hBm := Kept.mk hB
  clear hal hbl hA hB
  go_enter Try.func33, Try.ntmps33
  go_wp2_with (first
    | (refine s_make rfl _ _ rfl _ _ rfl rfl rfl (by decide) (by decide) (by assumption) ?_; intro g w H; try simp only [Act.put, List.setIfInBounds_toArray, List.set_cons_succ, List.set_cons_zero]))
  rename_i K _
  go_loopw [7, 8] (fun v7 v8 wr => ∃ (i u : Nat) (d : List Nat), i ≤ 33 ∧ u ≤ 1 ∧ v7 = .int .i64 (u : Int) ∧ v8 = .int .i64 (i : Int) ∧ Kept (d.length = i) ∧ SM wS wr [(g, d ++ List.replicate (33 - i) 0)] ∧ Kept (d ++ dfL (a.drop i) (b'.drop i) u = R) ∧ Kept (dfU (a.drop i) (b'.drop i) u = U)) (fun _ v8 _ => 33 - (RowKit.intOf v8).toNat)
  case atStart => exact ⟨0, 0, [], by omega, by omega, rfl, rfl, ⟨rfl⟩, H, hR, hU⟩
  case round =>
    clear H
    obtain ⟨i, u, d, hi, hu1, rfl, rfl, HD, H, HE, HU⟩ := hrel
    by_cases hlt : i < 33
    · obtain ⟨p, hp⟩ : ∃ p, a.getD i 0 = p := ⟨_, rfl⟩
      have hda := drop_getD a i (by rw [hll.out.1]; omega)
      rw [hp] at hda
      have hpl : p < 256 := hp ▸ getD_ltN haW.out i (by rw [hll.out.1]; omega)
      have c1 := (hAm.out.from H.below).cell i (by rw [hll.out.1]; omega)
      rw [hp] at c1
      have hrep : List.replicate (33 - i) 0 = 0 :: List.replicate (33 - (i + 1)) 0 := by rw [show 33 - i = 33 - (i + 1) + 1 by omega, List.replicate_succ]
      have c3 := H.cell (.head _) i (by rw [List.length_append, HD.out, List.length_replicate]; omega)
      have f3 := H.frozen (.head _) i
      rw [step_get HD.out hrep] at c3
      have hlti : (i : Int) < 33 := by omega
      have k1 : IntKind.i64.wrap ((p : Int) - (u : Int)) = (p : Int) - (u : Int) := by simp [IntKind.wrap, IntKind.signed, IntKind.bits]; omega
      replace hp := Kept.mk hp
      replace hda := Kept.mk hda
      replace hrep := Kept.mk hrep
      by_cases hi32 : i < 32
      · obtain ⟨q, hq⟩ : ∃ q, b.getD i 0 = q := ⟨_, rfl⟩
        have hdb : b'.drop i = q :: b'.drop (i + 1) := by
          rw [drop_getD b' i (by rw [hbl'.out]; omega), ← hb'.out]
          congr 1
          rw [← hq]; simp [List.getElem?_append, hll.out.2, hi32]
        have hql : q < 256 := hq ▸ getD_ltN hbW.out i (by rw [hll.out.2]; omega)
        have c2 := (hBm.out.from H.below).cell i (by rw [hll.out.2]; omega)
        rw [hq] at c2
        have hI32 : (i : Int) < 32 := by omega
        have k2 : IntKind.i64.wrap ((p : Int) - (u : Int) - (q : Int)) = (p : Int) - (u : Int) - (q : Int) := by simp [IntKind.wrap, IntKind.signed, IntKind.bits]; omega
        replace hq := Kept.mk hq
        replace hdb := Kept.mk hdb
        by_cases hu : p < u + q
        · have hn : ((p : Int) - (u : Int) - (q : Int) < 0) := by omega
          have hE : d ++ [p + 256 - u - q] ++ dfL (a.drop (i + 1)) (b'.drop (i + 1)) 1 = R := by
            have h := HE.out
            rw [hda.out, hdb.out, dfL, if_pos hu, if_pos hu] at h
            rw [List.append_assoc]; exact h
          have hU : dfU (a.drop (i + 1)) (b'.drop (i + 1)) 1 = U := by
            have h := HU.out
            rw [hda.out, hdb.out, dfU, if_pos hu] at h
            exact h
          have Hn := H.set0 i (p + 256 - u - q) ((p : Int) - (u : Int) - (q : Int) + 256) (by omega)
          rw [step_set HD.out hrep.out] at Hn
          replace hE := Kept.mk hE
          replace hU := Kept.mk hU
          go_wp2
          go_roundw
          case rel => exact ⟨i + 1, 1, d ++ [p + 256 - u - q], by omega, by omega, rfl, val_eq (by omega), ⟨by rw [List.length_append, HD.out]; rfl⟩, Hn, hE, hU⟩
          case measure => first | (simp [RowKit.intOf]; done) | (simp [RowKit.intOf]; omega)
        · have hn : ¬ ((p : Int) - (u : Int) - (q : Int) < 0) := by omega
          have hE : d ++ [p - u - q] ++ dfL (a.drop (i + 1)) (b'.drop (i + 1)) 0 = R := by
            have h := HE.out
            rw [hda.out, hdb.out, dfL, if_neg hu, if_neg hu] at h
            rw [List.append_assoc]; exact h
          have hU : dfU (a.drop (i + 1)) (b'.drop (i + 1)) 0 = U := by
            have h := HU.out
            rw [hda.out, hdb.out, dfU, if_neg hu] at h
            exact h
          have Hn := H.set0 i (p - u - q) ((p : Int) - (u : Int) - (q : Int)) (by omega)
          rw [step_set HD.out hrep.out] at Hn
          replace hE := Kept.mk hE
          replace hU := Kept.mk hU
          go_wp2
          go_roundw
          case rel => exact ⟨i + 1, 0, d ++ [p - u - q], by omega, by omega, rfl, val_eq (by omega), ⟨by rw [List.length_append, HD.out]; rfl⟩, Hn, hE, hU⟩
          case measure => first | (simp [RowKit.intOf]; done) | (simp [RowKit.intOf]; omega)
      · have hdb : b'.drop i = 0 :: b'.drop (i + 1) := by
          rw [drop_getD b' i (by rw [hbl'.out]; omega), ← hb'.out]
          congr 1
          simp [List.getElem?_append, hll.out.2, show i = 32 by omega]
        have hI32 : ¬ (i : Int) < 32 := by omega
        replace hdb := Kept.mk hdb
        by_cases hu : p < u + 0
        · have hn : ((p : Int) - (u : Int) < 0) := by omega
          have hE : d ++ [p + 256 - u - 0] ++ dfL (a.drop (i + 1)) (b'.drop (i + 1)) 1 = R := by
            have h := HE.out
            rw [hda.out, hdb.out, dfL, if_pos hu, if_pos hu] at h
            rw [List.append_assoc]; exact h
          have hU : dfU (a.drop (i + 1)) (b'.drop (i + 1)) 1 = U := by
            have h := HU.out
            rw [hda.out, hdb.out, dfU, if_pos hu] at h
            exact h
          have Hn := H.set0 i (p + 256 - u - 0) ((p : Int) - (u : Int) + 256) (by omega)
          rw [step_set HD.out hrep.out] at Hn
          replace hE := Kept.mk hE
          replace hU := Kept.mk hU
          go_wp2
          go_roundw
          case rel => exact ⟨i + 1, 1, d ++ [p + 256 - u - 0], by omega, by omega, rfl, val_eq (by omega), ⟨by rw [List.length_append, HD.out]; rfl⟩, Hn, hE, hU⟩
          case measure => first | (simp [RowKit.intOf]; done) | (simp [RowKit.intOf]; omega)
        · have hn : ¬ ((p : Int) - (u : Int) < 0) := by omega
          have hE : d ++ [p - u - 0] ++ dfL (a.drop (i + 1)) (b'.drop (i + 1)) 0 = R := by
            have h := HE.out
            rw [hda.out, hdb.out, dfL, if_neg hu, if_neg hu] at h
            rw [List.append_assoc]; exact h
          have hU : dfU (a.drop (i + 1)) (b'.drop (i + 1)) 0 = U := by
            have h := HU.out
            rw [hda.out, hdb.out, dfU, if_neg hu] at h
            exact h
          have Hn := H.set0 i (p - u - 0) ((p : Int) - (u : Int)) (by omega)
          rw [step_set HD.out hrep.out] at Hn
          replace hE := Kept.mk hE
          replace hU := Kept.mk hU
          go_wp2
          go_roundw
          case rel => exact ⟨i + 1, 0, d ++ [p - u - 0], by omega, by omega, rfl, val_eq (by omega), ⟨by rw [List.length_append, HD.out]; rfl⟩, Hn, hE, hU⟩
          case measure => first | (simp [RowKit.intOf]; done) | (simp [RowKit.intOf]; omega)
    · obtain rfl : i = 33 := by omega
      have hd : d = R := by
        have h := HE.out
        rw [List.drop_eq_nil_of_le (show a.length ≤ 33 by rw [hll.out.1]; omega), dfL_nil, List.append_nil] at h
        exact h
      have hu : u = U := by
        have h := HU.out
        rw [List.drop_eq_nil_of_le (show a.length ≤ 33 by rw [hll.out.1]; omega), dfU_nil] at h
        exact h
      subst hu
      rw [hd, show 33 - 33 = 0 from rfl, List.replicate_zero, List.append_nil] at H
      clear hd HE HU
      have hq : ((u : Int) == 0) = (u == 0) := by
        rcases (show u = 0 ∨ u = 1 by omega) with rfl | rfl <;> rfl
      go_wp2
      go_ret2
      exact ⟨g, rfl, H.below, H.ours g R (.head _), H.holds g R (.head _)⟩
end Go.Proofs.Ythlkpdfdbdfbjaa
