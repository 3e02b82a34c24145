/- The document's answer for package scalar: Mod, walked. -/
import Derived.Test.YthlkpdfdbdfbjaaO3
set_option linter.unusedSimpArgs false
set_option linter.unusedVariables false
namespace Go.Proofs.Ythlkpdfdbdfbjaa
open Go.RowKit
theorem SM.swap {w0 w : World} {p q : Nat × List Nat} {L : List (Nat × List Nat)} (H : SM w0 w (p :: q :: L)) : SM w0 w (q :: p :: L) :=
  ⟨H.below, fun g x m => H.holds g x ((List.Perm.swap p q L).mem_iff.1 m), fun g x m => H.ours g x ((List.Perm.swap p q L).mem_iff.1 m), ((List.Perm.swap p q L).map _).nodup_iff.2 H.apart⟩
def modB (a : List Nat) : List UInt8 := (limbs 256 32 (valB 256 a % oN)).map UInt8.ofNat
theorem modB_nat (a : List Nat) : (modB a).map (·.toNat) = limbs 256 32 (valB 256 a % oN) := by
  rw [modB, List.map_map]
  have h : ∀ l : List Nat, (∀ x ∈ l, x < 256) → l.map ((fun x : UInt8 => x.toNat) ∘ UInt8.ofNat) = l := by
    intro l hl
    conv => rhs; rw [← List.map_id l]
    refine List.map_congr_left fun x hx => ?_
    have := hl x hx
    simp
    omega
  exact h _ (limbs_lt (by decide) _ _)
def z32 : List Nat := List.replicate 32 0
theorem made32 : madeCells #[Value.int .u8 0] 32 = (numC .u8 z32).toArray := by kernel_rfl
theorem SM.setOther {w0 w : World} {L : List (Nat × List Nat)} (H : SM w0 w L) (g' i : Nat) (v : Value) (hne : ∀ g x, (g, x) ∈ L → g ≠ g') (hle : w0.heap.size ≤ g') : SM w0 (w.setCell ⟨g', i, none⟩ v) L :=
  ⟨H.below.setCell hle _, fun g x h => (H.holds g x h).of_heap (Below.heap_setCell w ⟨g', i, none⟩ v g (hne g x h)), H.ours, H.apart⟩
theorem modB_len (a : List Nat) : (modB a).length = 32 := by rw [modB, List.length_map, limbs_len]
set_option maxHeartbeats 4000000 in
theorem Mod_walk (a : List Nat) (ga n ca : Nat) (hal : a.length = n) (hn : n ≤ 4096) (haW : ∀ x ∈ a, x < 256) (wS : World) (hA : AtS wS ga a) :
    Calls Try.prog 26 #[.slice (some ⟨ga, 0, none⟩) n ca] wS fun e w' => e = .returned (.string (S (modB a))) ∧ Below wS.heap.size wS w' := by
  have H := SM.start wS
  obtain ⟨i0, hi0, hz0, hz1, hz2⟩ := info_parts infoI
  have hll := Kept.mk hal
  replace haW := Kept.mk haW
  have hAm := Kept.mk hA
  obtain ⟨res, hres⟩ : ∃ r, modB a = r := ⟨_, rfl⟩
  rw [hres]
  replace hres := Kept.mk hres
  have cL := fun w => L_any w
  replace cL := Kept.mk cL
  have kn : IntKind.i64.wrap ((n : Int) - 1) = (n : Int) - 1 := by simp [IntKind.wrap, IntKind.signed, IntKind.bits]; omega
  clear hal hA
  go_enter Try.func26, Try.ntmps26
  go_wp2_with (first
    | (refine s_make rfl _ _ rfl _ _ rfl rfl rfl (by decide) (by decide) (by assumption) ?_; intro g w H; try simp only [Act.put, List.setIfInBounds_toArray, List.set_cons_succ, List.set_cons_zero])
    | (go_at_call 30; refine s_sl (by assumption) (cL.out _) ?_; intro g w H))
  rename_i gr0 _ _ K _
  have H := H.swap
  have hst : valB 256 (List.replicate 33 0) = valB 256 (a.drop n) % oN := by
    rw [List.drop_eq_nil_of_le (by rw [hll.out]; exact Nat.le_refl _)]
    decide +kernel
  go_loopw [3, 5] (fun v3 v5 wr => ∃ (j gr cr : Nat) (rl : List Nat), j ≤ n ∧ v3 = .slice (some ⟨gr, 0, none⟩) 33 cr ∧ 33 ≤ cr ∧ v5 = .int .i64 ((j : Int) - 1) ∧ SM wS wr [(gr, rl), (g, lL)] ∧ Kept (rl.length = 33) ∧ Kept (∀ x ∈ rl, x < 256) ∧ Kept (valB 256 rl = valB 256 (a.drop j) % oN)) (fun _ v5 _ => (RowKit.intOf v5 + 1).toNat)
  case atStart => exact ⟨n, gr0, 33, List.replicate 33 0, Nat.le_refl _, rfl, Nat.le_refl _, rfl, H, ⟨List.length_replicate ..⟩, ⟨by intro x hx; rw [List.eq_of_mem_replicate hx]; decide⟩, ⟨hst⟩⟩
  case round =>
    clear H hst
    obtain ⟨j, gr, cr, rl, hj, rfl, hcr33, rfl, H, HR, HW, HV⟩ := hrel
    cases j with
    | zero =>
      rw [show ((0 : Nat) : Int) - 1 = -1 from rfl]
      have hT : rl.take 32 = res.map (·.toNat) := by
        have h0 : valB 256 rl = valB 256 a % oN := by have h := HV.out; rw [List.drop_zero] at h; exact h
        rw [← hres.out, modB_nat]
        exact limbs_eq (by decide) _ 32 _ (by rw [List.length_take, HR.out]; rfl) (fun x hx => HW.out x (List.mem_of_mem_take hx)) (by rw [take_val rl HR.out (h0 ▸ Nat.mod_lt _ o_pos), h0])
      have hTl : res.length = 32 := by rw [← hres.out, modB_len]
      replace hT := Kept.mk hT
      replace hTl := Kept.mk hTl
      obtain ⟨i1, hi1, hy0, hy1, hy2⟩ := info_parts info5
      go_wp2_with (refine wpList_make_row _ rfl _ _ 31 rfl 5 i1 (.int .u8 0) Try.underlying31 hi1 hy0 hy1 rfl .i64 .i64 32 rfl rfl (by rw [hy2]; omega) (by omega) ?_; rw [made32])
      have hB := Arr.new wr 5 .u8 z32
      have hne : gr < wr.heap.size := (H.holds gr rl (.head _)).lt
      have hne2 : g < wr.heap.size := (H.holds g lL (.tail _ (.head _))).lt
      have hsz := H.below.size
      have H := H.grow ((Below.refl _ wr).alloc (Nat.le_refl _) (.cells (numC .u8 z32).toArray 5))
      generalize wr.alloc (.cells (numC .u8 z32).toArray 5) = w1 at hB H ⊢
      generalize wr.heap.size = gb at hB hne hne2 hsz ⊢
      replace hB := Kept.mk hB
      go_loopw [11] (fun v11 wr => ∃ (i : Nat), i ≤ 32 ∧ v11 = .int .i64 (i : Int) ∧ SM wS wr [(gr, rl), (g, lL)] ∧ Kept (Arr wr gb 5 .u8 (rl.take i ++ z32.drop i))) (fun v11 _ => 32 - (RowKit.intOf v11).toNat)
      case atStart => exact ⟨0, by omega, rfl, H, hB⟩
      case round =>
        clear H hB
        obtain ⟨i, hi, rfl, H, HB⟩ := hrel
        by_cases hlt : i < 32
        · obtain ⟨q, hq⟩ : ∃ q, rl.getD i 0 = q := ⟨_, rfl⟩
          have hql : q < 256 := hq ▸ getD_ltN HW.out i (by rw [HR.out]; omega)
          have c1 := H.cell (.head _) i (by rw [HR.out]; omega)
          rw [hq] at c1
          have hlti : (i : Int) < 32 := by omega
          have hlti2 : (i : Int) < 33 := by omega
          have kq : IntKind.u8.wrap (q : Int) = (q : Int) := by simp [IntKind.wrap, IntKind.signed, IntKind.bits]; omega
          have hz0 := drop_getD z32 i (by show i < 32; exact hlt)
          have hdl : (rl.take i).length = i := by rw [List.length_take, HR.out]; omega
          have e0 := HB.out.cellMid hz0 hdl
          have f0 := HB.out.frozen i
          have hBn : Arr (wr.setCell ⟨gb, i, none⟩ (.int .u8 (q : Int))) gb 5 .u8 (rl.take (i + 1) ++ z32.drop (i + 1)) := by
            have h := HB.out.step hz0 hdl q rfl
            rw [show rl.take i ++ [q] = rl.take (i + 1) by rw [List.take_add_one, ← hq]; simp [HR.out, show i < 33 by omega]] at h
            exact h
          have hne3 : ∀ g' x', (g', x') ∈ [(gr, rl), (g, lL)] → g' ≠ gb := by
            intro g' x' h
            simp at h
            omega
          have Hn := H.setOther gb i (.int .u8 (q : Int)) hne3 hsz
          replace hBn := Kept.mk hBn
          replace hq := Kept.mk hq
          clear hz0 hne3 hdl
          go_wp2
          go_roundw
          case rel => exact ⟨i + 1, by omega, val_eq (by omega), Hn, hBn⟩
          case measure => first | (simp [RowKit.intOf]; done) | (simp [RowKit.intOf]; omega)
        · obtain rfl : i = 32 := by omega
          have hA := HB.out
          rw [show z32.drop 32 = [] from rfl, List.append_nil, hT.out] at hA
          have hcv := run_convert_bytes_back (P := Try.prog) wr 31 9 5 ⟨gb, 0, none⟩ 32 res Try.underlying31 Try.underlying5 Try.underlying9 (fun j hj => by
            have h := hA.cell j (by rw [List.length_map]; exact hj)
            rw [show ((⟨gb, 0, none⟩ : Addr).add j) = ⟨gb, j, none⟩ by unfold Addr.add; split <;> simp_all]
            rw [h]
            simp [hj])
          rw [hTl.out] at hcv
          have hcv2 : (convert 31 9 (.slice (some ⟨gb, 0, none⟩) 32 32)).run Try.prog wr = .ok (.string (S res)) wr := hcv
          clear hcv hA HB
          go_wp2
          go_ret
          exact ⟨rfl, H.below⟩
    | succ k =>
      rw [show ((k + 1 : Nat) : Int) - 1 = (k : Int) by omega]
      obtain ⟨hx1, hx2, hx3⟩ := Rem.first a rl k (by rw [hll.out]; omega) haW.out HR.out HW.out HV.out
      obtain ⟨p, hp⟩ : ∃ p, a.getD k 0 = p := ⟨_, rfl⟩
      rw [hp] at hx1 hx2 hx3
      obtain ⟨v0, hv0⟩ : ∃ v, p + 256 * valB 256 rl = v := ⟨_, rfl⟩
      rw [hv0] at hx1 hx2 hx3
      have hcA : ∀ u, Kept (SM wS u [(gr, rl), (g, lL)]) → u.cell? ⟨ga, k, none⟩ = some (.int .i64 (p : Int)) := fun u hu => by
        have h := (hAm.out.from hu.out.below).cell k (by rw [hll.out]; omega)
        rw [hp] at h
        exact h
      have hkn : (k : Int) < (n : Int) := by omega
      have hkn2 : k < n := by omega
      have hk0 : (0 : Int) ≤ (k : Int) := by omega
      have hcrI : (32 : Int) ≤ (cr : Int) := by omega
      replace hp := Kept.mk hp
      replace hv0 := Kept.mk hv0
      replace hx1 := Kept.mk hx1
      replace hx2 := Kept.mk hx2
      replace hx3 := Kept.mk hx3
      go_wp2
      have hS0 : (fun u => Kept (SM wS u [(gr, rl), (g, lL)])) wr.drew := ⟨H.grow (Below.drew (Below.refl _ _))⟩
      refine wp_region_mix (fun u => Kept (SM wS u [(gr, rl), (g, lL)])) 8 [(0, 0), (1, 0), (2, 0), (3, 0), (5, 0), (6, 0), (4, 1), (7, 1), (8, 2)] (by kernel_rfl) (by kernel_rfl) (fun _ d _ _ _ h => by cases d <;> exact h) ?_
      simp only [pickOps, List.getElem?_cons_succ, List.getElem?_cons_zero]
      (refine wpMix_take ?_ (Or.inl ⟨by rfl, fun u hu => ?_⟩) hS0 ?_; rotate_left; (focus (have c1 := hcA u hu; clear hu; (go_simp; try with_reducible rfl))); simp only [Act.put, List.setIfInBounds_toArray, List.set_cons_zero, List.set_cons_succ])
      (refine wpMix_take ?_ (Or.inl ⟨by rfl, fun u hu => ?_⟩) hS0 ?_; rotate_left; (focus (have c1 := hcA u hu; clear hu; (go_simp; try with_reducible rfl))); simp only [Act.put, List.setIfInBounds_toArray, List.set_cons_zero, List.set_cons_succ])
      (refine wpMix_take ?_ (Or.inl ⟨by rfl, fun u hu => ?_⟩) hS0 ?_; rotate_left; (focus (have c1 := hcA u hu; clear hu; (go_simp; try with_reducible rfl))); simp only [Act.put, List.setIfInBounds_toArray, List.set_cons_zero, List.set_cons_succ])
      (refine wpMix_take ?_ (Or.inl ⟨by rfl, fun u hu => ?_⟩) hS0 ?_; rotate_left; (focus (have c1 := hcA u hu; clear hu; (go_simp; try with_reducible rfl))); simp only [Act.put, List.setIfInBounds_toArray, List.set_cons_zero, List.set_cons_succ])
      (refine wpMix_take ?_ (Or.inl ⟨by rfl, fun u hu => ?_⟩) hS0 ?_; rotate_left; (focus (have c1 := hcA u hu; clear hu; (go_simp; try with_reducible rfl))); simp only [Act.put, List.setIfInBounds_toArray, List.set_cons_zero, List.set_cons_succ])
      (refine wpMix_take ?_ (Or.inl ⟨by rfl, fun u hu => ?_⟩) hS0 ?_; rotate_left; (focus (have c1 := hcA u hu; clear hu; (go_simp; try with_reducible rfl))); simp only [Act.put, List.setIfInBounds_toArray, List.set_cons_zero, List.set_cons_succ])
      refine wpMix_one fun K hK => ?_
      rw [if_pos (by rfl)]
      go_simp
      have hbx := Below.alloc (Below.refl wr.drew.heap.size wr.drew) (Nat.le_refl _) (.cells #[.int .i64 (p : Int)] 3)
      have hS2 : (fun u => Kept (SM wS u [(gr, rl), (g, lL)])) (wr.alloc (.cells #[.int .i64 (p : Int)] 3)).drew := ⟨hS0.out.grow hbx⟩
      refine hK _ _ hS2 ?_
      clear hbx hK K
      have hrn : ∀ (j : Nat) (u : Value), [Value.int .i64 (p : Int)][j]? = some u → (wr.alloc (.cells #[.int .i64 (p : Int)] 3)).drew.cell? ((⟨wr.drew.heap.size, 0, none⟩ : Addr).add j) = some u := row_new wr.drew [.int .i64 (p : Int)] 3
      have hcr := fun j (hj : j < 33) => hS2.out.cell (.head _) j (by rw [HR.out]; exact hj)
      generalize (wr.alloc (.cells #[.int .i64 (p : Int)] 3)).drew = w3 at hS2 hrn hcr ⊢
      clear hS0 H
      refine wpMix_one fun K hK => ?_
      refine step_append_grows rfl (.tmp 25) (.tmp 27) 35 rfl 3 i0 (.int .i64 0) 1 8 Try.underlying35 hi0 hz0 hz1 hz2 rfl (by omega) (some ⟨wr.drew.heap.size, 0, none⟩) 1 1 [.int .i64 (p : Int)] rfl (fun e => by cases e) rfl ?c1 ⟨gr, 0, none⟩ 32 cr (numC .i64 (rl.take 32)) rfl ?c2 ?c3 ?c4 (by omega) (by decide) (by omega) ?_
      case c1 => intro b hb; injection hb with hb; subst hb; exact hrn
      case c2 => rw [numC_length, List.length_take, HR.out]; rfl
      case c3 =>
        intro j u hu
        have hj : j < 32 := by
          have := (List.getElem?_eq_some_iff.1 hu).1
          rw [numC_length, List.length_take, HR.out] at this
          omega
        rw [show ((⟨gr, 0, none⟩ : Addr).add j) = ⟨gr, j, none⟩ by unfold Addr.add; split <;> simp_all, hcr j (by omega), ← hu]
        simp [numC, hj, HR.out, show j < 33 by omega]
      case c4 => intro u hu; obtain ⟨z, _, rfl⟩ := List.mem_map.1 hu; rfl
      intro v' w4 ho4 hg4
      obtain ⟨gx, cx, rfl, hgx, hcx⟩ := own_pos2 ho4 (by omega)
      have hA4 := (AtS.own (l := p :: rl.take 32) (show w4.ownsRow w3.heap.size 3 1 (.slice (some ⟨gx, 0, none⟩) 33 cx) 33 (numC .i64 (p :: rl.take 32)) from ho4)).1
      have hb4 : Below w3.heap.size w3 w4 := (Below.refl _ _).grown hg4 (Nat.le_refl _) (fun k hk => by cases hk)
      have H4 := hS2.out.more hb4 hgx hA4
      refine hK _ _ ⟨hS2.out.grow hb4⟩ ?_
      clear hK K hS2 ho4 hg4 hA4 hb4 hgx hcr hrn
      refine wpMix_last fun K hK => ?_
      rw [if_pos (by rfl)]
      go_simp
      refine hK _ _ ?_
      clear hK K
      refine wpMix_nil ?_
      have H5 := H4.only (L' := [(gx, p :: rl.take 32), (g, lL)]) (.cons_cons _ (.cons _ (.cons_cons _ .slnil)))
      clear H4 hcA
      go_wp2
      go_loopw [6, 7] (fun v6 v7 w' => ∃ (t gy cy : Nat) (xl : List Nat), v6 = .slice (some ⟨gy, 0, none⟩) 33 cy ∧ 33 ≤ cy ∧ v7 = .int .i64 (t : Int) ∧ SM wS w' [(gy, xl), (g, lL)] ∧ Kept (Rem xl t v0)) (fun _ v7 _ => 4096 - (RowKit.intOf v7).toNat)
      case atStart => exact ⟨0, gx, cx, p :: rl.take 32, rfl, hcx, rfl, H5, hx1⟩
      case round =>
        clear H5
        obtain ⟨t, gy, cy, xl, rfl, hcy, rfl, H, HX⟩ := hrel
        have ht := HX.out.few hx2.out
        have htI : (t : Int) < 4096 := by omega
        have cl := fun w2 (hy : AtS w2 gy xl) (hl : AtS w2 g lL) => less_walk xl lL gy g cy 32 HX.out.len lL_len HX.out.lt lL_lt w2 hy hl
        by_cases hU : dfU xl (lL ++ [0]) 0 = 0
        · have hb : (dfU xl (lL ++ [0]) 0 == 0) = true := by simp [hU]
          have HX' := HX.out.step hU
          rw [hb] at cl
          generalize dfL xl (lL ++ [0]) 0 = yl at cl HX'
          replace HX' := Kept.mk HX'
          replace cl := Kept.mk cl
          clear hb hU
          go_wp2_with (go_at_call 33; refine s_ls (by assumption) (cl.out _ (H.holds gy xl (.head _)) (H.holds g lL (.tail _ (.head _)))) ?_; intro g' w H)
          go_roundw
          case rel => exact ⟨t + 1, _, 33, yl, rfl, Nat.le_refl _, val_eq (by omega), H.only (.cons_cons _ (.cons _ (.cons_cons _ .slnil))), HX'⟩
          case measure => first | (simp [RowKit.intOf]; done) | (simp [RowKit.intOf]; omega)
        · have hb : (dfU xl (lL ++ [0]) 0 == 0) = false := by simp [hU]
          have HS := HX.out.stop hU
          rw [hx3.out] at HS
          rw [hb] at cl
          generalize dfL xl (lL ++ [0]) 0 = yl at cl
          replace HS := Kept.mk HS
          replace cl := Kept.mk cl
          clear hb hU
          go_wp2_with (go_at_call 33; refine s_ls (by assumption) (cl.out _ (H.holds gy xl (.head _)) (H.holds g lL (.tail _ (.head _)))) ?_; intro g' w H)
          go_roundw
          case rel => exact ⟨k, gy, cy, xl, by omega, rfl, hcy, rfl, H.only (.cons _ (.cons_cons _ (.cons_cons _ .slnil))), ⟨HX.out.len⟩, ⟨HX.out.lt⟩, HS⟩
          case measure => first | (simp [RowKit.intOf]; done) | (simp [RowKit.intOf]; omega)
end Go.Proofs.Ythlkpdfdbdfbjaa
