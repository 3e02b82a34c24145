/- The document's answer for package scalar: Mul, walked. -/
import Derived.Test.YthlkpdfdbdfbjaaO8
set_option linter.unusedSimpArgs false
set_option linter.unusedVariables false
namespace Go.Proofs.Ythlkpdfdbdfbjaa
open Go.RowKit
theorem ws_wrapE {z y : Int} (e : z = y) (h0 : 0 ≤ y) (h1 : y < 4611686018427387904) : IntKind.i64.wrap z = y := e ▸ ws_wrap y h0 h1
theorem ws_64E {z y : Int} (e : z = y) (h0 : 0 ≤ y) (h1 : y < 4611686018427387904) : wrap64 z = y := e ▸ ws_64 y h0 h1
set_option maxHeartbeats 4000000 in
theorem MulR_ok (l m : List UInt8) (hl : l.length = 32) (hm : m.length = 32) (wS : World) : Calls Try.prog 18 #[.string (S l), .string (S m)] wS (StrPost (scB (numB l * numB m)) 0 wS) := by
  have H := SM.start wS
  have hsl : (S l).size = 32 := by rw [S_size, hl]
  have hsm : (S m).size = 32 := by rw [S_size, hm]
  have ha := Kept.mk (digs_lt l)
  have hb := Kept.mk (digs_lt m)
  have hal : Kept ((digs l).length = 32) := ⟨by rw [digs_len, hl]⟩
  have hbl : Kept ((digs m).length = 32) := ⟨by rw [digs_len, hm]⟩
  have hgl : ∀ i, i < 32 → (digs l).getD i 0 = (l.getD i 0).toNat := fun i hi => by simp [digs, show i < l.length by omega]
  have hgm : ∀ i, i < 32 → (digs m).getD i 0 = (m.getD i 0).toNat := fun i hi => by simp [digs, show i < m.length by omega]
  have h0 : Rnd (digs l) (digs m) 0 [] (List.replicate 32 0) := ⟨rfl, List.length_replicate .., by simp, fun x hx => by rw [List.eq_of_mem_replicate hx]; decide, by rw [val_zero]; simp [valB]⟩
  replace h0 := Kept.mk h0
  replace hgl := Kept.mk hgl
  replace hgm := Kept.mk hgm
  unfold StrPost
  obtain ⟨res, hres⟩ : ∃ r, scB (numB l * numB m) = r := ⟨_, rfl⟩
  rw [hres]
  replace hres := Kept.mk hres
  clear hl hm
  go_enter Try.func18, Try.ntmps18
  go_wp2_with (first
    | (refine s_make rfl _ _ rfl _ _ rfl rfl rfl (by decide) (by decide) (by assumption) ?_; intro g w H; try simp only [Act.put, List.setIfInBounds_toArray, List.set_cons_succ, List.set_cons_zero]))
  rename_i K _
  go_loopw [7] (fun v7 wr => ∃ (i : Nat) (d e : List Nat), i ≤ 32 ∧ v7 = .int .i64 (i : Int) ∧ SM wS wr [(g, (d ++ e) ++ List.replicate (32 - i) 0)] ∧ Kept (Rnd (digs l) (digs m) i d e)) (fun v7 _ => 32 - (RowKit.intOf v7).toNat)
  case atStart => exact ⟨0, [], List.replicate 32 0, by omega, rfl, H, h0⟩
  case round =>
    clear H h0
    obtain ⟨i, d, e, hi, rfl, H, HD⟩ := hrel
    by_cases hlt : i < 32
    · obtain ⟨x0, f, hT, HN⟩ := HD.out.step (by rw [hal.out]; exact hlt) hbl.out ha.out hb.out
      rw [hgl.out i hlt] at hT
      obtain ⟨x, hx⟩ : ∃ b, l.getD i 0 = b := ⟨_, rfl⟩
      rw [hx] at hT
      have hs0 : i < (S l).size := by rw [hsl]; exact hlt
      have g0 : (S l)[i] = x := by rw [byte_at, hx]
      obtain ⟨X, hX⟩ : ∃ n, x.toNat = n := ⟨_, rfl⟩
      have l0 : X < 256 := hX ▸ x.toNat_lt
      rw [hX] at hT
      have hlti : (i : Int) < 32 := by omega
      have hel := Kept.mk HD.out.elen
      have hdl := Kept.mk HD.out.dlen
      have heW := Kept.mk HD.out.elt
      replace hT := Kept.mk hT
      replace hx := Kept.mk hx
      replace HN := Kept.mk HN
      clear HD
      rw [List.append_assoc] at H
      go_wp2
      go_loopw [8, 9] (fun v8 v9 w' => ∃ (k c : Nat) (h : List Nat), k ≤ 32 ∧ c < 256 ∧ v8 = .int .i64 (c : Int) ∧ v9 = .int .i64 (k : Int) ∧ Kept (h.length = k) ∧ SM wS w' [(g, (d ++ h) ++ (e.drop k ++ List.replicate (32 - i) 0))] ∧ Kept (h ++ muL X (e.drop k) ((digs m).drop k) c = x0 :: f)) (fun _ v9 _ => 32 - (RowKit.intOf v9).toNat)
      case atStart => exact ⟨0, 0, [], by omega, by omega, rfl, rfl, ⟨rfl⟩, by rw [List.append_nil]; exact H, hT⟩
      case round =>
        clear H
        obtain ⟨wo, hwo⟩ : ∃ wo : World, wo = wS := ⟨_, rfl⟩
        clear hwo wo
        obtain ⟨k, c, h, hk, hc, rfl, rfl, Hh, H, HE⟩ := hrel
        by_cases hkt : k < 32
        · obtain ⟨y, hy⟩ : ∃ b, m.getD k 0 = b := ⟨_, rfl⟩
          have hs1 : k < (S m).size := by rw [hsm]; exact hkt
          have g1 : (S m)[k] = y := by rw [byte_at, hy]
          obtain ⟨Y, hY⟩ : ∃ n, y.toNat = n := ⟨_, rfl⟩
          have l1 : Y < 256 := hY ▸ y.toNat_lt
          obtain ⟨q, hq⟩ : ∃ q, e.getD k 0 = q := ⟨_, rfl⟩
          have hql : q < 256 := hq ▸ getD_ltN heW.out k (by rw [hel.out]; exact hkt)
          have hde := drop_getD e k (by rw [hel.out]; exact hkt)
          rw [hq] at hde
          have hdb := drop_getD (digs m) k (by rw [hbl.out]; exact hkt)
          rw [hgm.out k hkt, hy, hY] at hdb
          obtain ⟨P, hP⟩ : ∃ P, X * Y = P := ⟨_, rfl⟩
          have hPI : (X : Int) * (Y : Int) = (P : Int) := by rw [← hP]; simp
          have hPb : P ≤ 65025 := hP ▸ (carry_lt (x := 0) (c := 0) (by omega) l0 l1 (by omega)).2
          obtain ⟨Z, hZ⟩ : ∃ Z, q + P + c = Z := ⟨_, rfl⟩
          have hE : h ++ [Z % 256] ++ muL X (e.drop (k + 1)) ((digs m).drop (k + 1)) (Z / 256) = x0 :: f := by
            have h1 := HE.out
            rw [hde, hdb, muL, hP, hZ] at h1
            rw [List.append_assoc]; exact h1
          have hdhl : (d ++ h).length = i + k := by rw [List.length_append, hdl.out, Hh.out]
          have hcell : ∀ u : Held (From wr.drew), u.w.cell? ⟨g, i + k, none⟩ = some (.int .i64 (q : Int)) := fun u => by
            have h2 := (H.from u.h).cell (.head _) (i + k) (by rw [List.length_append, hdhl, List.length_append, List.length_drop, List.length_replicate, hel.out]; omega)
            rw [step_get hdhl (show e.drop k ++ List.replicate (32 - i) 0 = q :: (e.drop (k + 1) ++ List.replicate (32 - i) 0) by rw [hde]; rfl)] at h2
            exact h2
          have hltk : (k : Int) < 32 := by omega
          have hltj : (i : Int) + (k : Int) < 64 := by omega
          have hltj0 : (0 : Int) ≤ (i : Int) + (k : Int) := by omega
          have kt : ((i : Int) + (k : Int)).toNat = i + k := by omega
          have hZI : (q : Int) + (P : Int) + (c : Int) = (Z : Int) := by omega
          replace hy := Kept.mk hy
          replace hq := Kept.mk hq
          replace hde := Kept.mk hde
          replace hdb := Kept.mk hdb
          replace hP := Kept.mk hP
          replace hE := Kept.mk hE
          have hZb : Z < 65536 := by omega
          replace hZ := Kept.mk hZ
          obtain ⟨kw0, kv0, kw1, kv1, kw2, kv2, kw3, kv3, kw4, kv4, kw5, kv5⟩ : IntKind.i64.wrap ((X : Int)) = (X : Int) ∧ wrap64 ((X : Int)) = (X : Int) ∧ IntKind.i64.wrap ((Y : Int)) = (Y : Int) ∧ wrap64 ((Y : Int)) = (Y : Int) ∧ IntKind.i64.wrap ((i : Int) + (k : Int)) = (i : Int) + (k : Int) ∧ wrap64 ((i : Int) + (k : Int)) = (i : Int) + (k : Int) ∧ IntKind.i64.wrap ((q : Int) + (P : Int)) = (q : Int) + (P : Int) ∧ wrap64 ((q : Int) + (P : Int)) = (q : Int) + (P : Int) ∧ IntKind.i64.wrap ((X : Int) * (Y : Int)) = (P : Int) ∧ wrap64 ((X : Int) * (Y : Int)) = (P : Int) ∧ IntKind.i64.wrap ((q : Int) + (P : Int) + (c : Int)) = (Z : Int) ∧ wrap64 ((q : Int) + (P : Int) + (c : Int)) = (Z : Int) := ⟨ws_wrap _ (by omega) (by omega), ws_64 _ (by omega) (by omega), ws_wrap _ (by omega) (by omega), ws_64 _ (by omega) (by omega), ws_wrap _ (by omega) (by omega), ws_64 _ (by omega) (by omega), ws_wrap _ (by omega) (by omega), ws_64 _ (by omega) (by omega), ws_wrapE hPI (by omega) (by omega), ws_64E hPI (by omega) (by omega), ws_wrapE hZI (by omega) (by omega), ws_64E hZI (by omega) (by omega)⟩
          clear hPI hZI
          go_wp2
          refine wp_region_from (by kernel_rfl) (by kernel_rfl) ?_
          repeat (go_big_quiet_step (fail))
          refine wpQuiet_nil ?_
          intro w5 hw5
          have H := H.from hw5
          clear hw5
          clear hcell kw0 kv0 kw1 kv1 kv2 kw3 kv3 kw4 kv4 kw5 kv5
          replace kw2 := Kept.mk kw2
          have hcons : e.drop k ++ List.replicate (32 - i) 0 = q :: (e.drop (k + 1) ++ List.replicate (32 - i) 0) := by rw [hde.out]; rfl
          have c1 := H.cell (.head _) (i + k) (by rw [List.length_append, hdhl, List.length_append, List.length_drop, List.length_replicate, hel.out]; omega)
          rw [step_get hdhl hcons] at c1
          have f1 := H.frozen (.head _) (i + k)
          have H1 := H.set0 (i + k) (Z % 256) ((Z : Int) % 256) (by omega)
          rw [step_set hdhl hcons, List.append_assoc d] at H1
          have hh1 : (h ++ [Z % 256]).length = k + 1 := by rw [List.length_append, Hh.out]; rfl
          replace hcons := Kept.mk hcons
          replace hdhl := Kept.mk hdhl
          replace hh1 := Kept.mk hh1
          have H := H1
          clear H1
          have kw2 := kw2.out
          go_wp2
          clear kw2
          go_roundw
          case rel => exact ⟨k + 1, Z / 256, h ++ [Z % 256], by omega, by omega, val_eq (by omega), val_eq (by omega), hh1, H, hE⟩
          case measure => first | (simp [RowKit.intOf]; done) | (simp [RowKit.intOf]; omega)
        · obtain rfl : k = 32 := by omega
          have hhc : h ++ [c] = x0 :: f := by
            have h1 := HE.out
            rw [List.drop_eq_nil_of_le (show e.length ≤ 32 by rw [hel.out]; exact Nat.le_refl _), muL_nil] at h1
            exact h1
          have hdhl : (d ++ h).length = i + 32 := by rw [List.length_append, hdl.out, Hh.out]
          have hcons : e.drop 32 ++ List.replicate (32 - i) 0 = 0 :: List.replicate (32 - (i + 1)) 0 := by
            rw [List.drop_eq_nil_of_le (show e.length ≤ 32 by rw [hel.out]; exact Nat.le_refl _), List.nil_append, show 32 - i = 32 - (i + 1) + 1 by omega, List.replicate_succ]
          have c1 := H.cell (.head _) (i + 32) (by rw [List.length_append, hdhl, hcons, List.length_cons]; omega)
          rw [step_get hdhl hcons] at c1
          have f1 := H.frozen (.head _) (i + 32)
          have H1 := H.set0 (i + 32) c (c : Int) rfl
          rw [step_set hdhl hcons, List.append_assoc d, hhc, show d ++ x0 :: f = (d ++ [x0]) ++ f by simp] at H1
          have hlt64 : (i : Int) + 32 < 64 := by omega
          have kt : ((i : Int) + 32).toNat = i + 32 := by omega
          replace hcons := Kept.mk hcons
          replace hdhl := Kept.mk hdhl
          replace hhc := Kept.mk hhc
          have H := H1
          clear H1
          go_wp2
          go_roundw
          case rel => exact ⟨i + 1, d ++ [x0], f, by omega, val_eq (by omega), H, HN⟩
          case measure => first | (simp [RowKit.intOf]; done) | (simp [RowKit.intOf]; omega)
    · obtain rfl : i = 32 := by omega
      rw [show 32 - 32 = 0 from rfl, List.replicate_zero, List.append_nil] at H
      have hlen : (d ++ e).length = 64 := by rw [List.length_append, HD.out.dlen, HD.out.elen]
      have hv : valB 256 (d ++ e) = numB l * numB m := by
        rw [val_app, HD.out.dlen, HD.out.val, List.take_of_length_le (by rw [hal.out]; exact Nat.le_refl _)]
        rfl
      have cM := Kept.mk fun ga ca w h => Mod_any (d ++ e) 64 hlen (by omega) (fun x hx => (List.mem_append.1 hx).elim (HD.out.dlt x) (HD.out.elt x)) ga ca w h
      rw [hv, hres.out] at cM
      clear hlen hv HD
      generalize d ++ e = T at H cM
      go_wp2_with (go_at_call 26; refine s_call (by assumption) (cM.out _ _ _ (H.holds _ T (.head _))) ?_; intro w H)
      go_ret2
      exact ⟨rfl, H.below⟩
theorem MulR_bad (l m : List UInt8) (h : ¬ (l.length = 32 ∧ m.length = 32)) (wS : World) : Calls Try.prog 18 #[.string (S l), .string (S m)] wS (StrPost [] 50 wS) := by
  have H := SM.start wS
  unfold StrPost
  by_cases hl : l.length = 32
  · have hsl : (S l).size = 32 := by rw [S_size, hl]
    have hsm : (((S m).size : Int) == 32) = false := by rw [S_size]; simp; omega
    clear h hl
    go_enter Try.func18, Try.ntmps18
    go_wp2
    go_ret2
    exact ⟨rfl, H.below⟩
  · have hsl : (((S l).size : Int) == 32) = false := by rw [S_size]; simp; omega
    clear h hl
    go_enter Try.func18, Try.ntmps18
    go_wp2
    go_ret2
    exact ⟨rfl, H.below⟩
end Go.Proofs.Ythlkpdfdbdfbjaa
