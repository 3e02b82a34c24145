/- Walks of the document's answer for package field: the bytes of a number. -/
import Derived.Test.YtbkaemekcjinaaaR5
import Derived.Test.YtbkaemekcjinaaaF10
import Derived.Deep.OwnRows
set_option linter.unusedSimpArgs false
set_option linter.unusedVariables false
namespace Go.Proofs.Ytbkaemekcjinaaa
open Go.RowKit
def b2 (y : Nat) : List Nat := [y % 256, y / 256]
theorem flat2_len : ∀ (ws : List Nat), (ws.flatMap b2).length = 2 * ws.length
  | [] => rfl
  | y :: r => by rw [List.flatMap_cons, List.length_append, flat2_len r, List.length_cons]; simp [b2]; omega
theorem flat2_val : ∀ (ws : List Nat), valB 256 (ws.flatMap b2) = valB 65536 ws
  | [] => rfl
  | y :: r => by
    have ih := flat2_val r
    rw [List.flatMap_cons, valB, ← ih]
    simp [b2, valB]
    omega
theorem flat2_lt : ∀ (ws : List Nat), (∀ x ∈ ws, x < 65536) → ∀ x ∈ ws.flatMap b2, x < 256
  | [], _, x, h => by simp at h
  | y :: r, hy, x, h => by
    rw [List.flatMap_cons, List.mem_append] at h
    have h1 := hy y (by simp)
    rcases h with h | h
    · simp [b2] at h
      rcases h with rfl | rfl
      · omega
      · omega
    · exact flat2_lt r (fun z hz => hy z (by simp [hz])) x h
theorem Md_bytes (x : Nat) (h : x < big) : (Md x).flatMap b2 = (leB x).map (·.toNat) := by
  have e1 := limbs_val (B := 256) (by decide) ((Md x).flatMap b2) (flat2_lt _ (Md_lt x))
  rw [flat2_len, Md_len, flat2_val, Md_val x h] at e1
  have e2 := limbs_val (B := 256) (by decide) ((leB x).map (·.toNat)) (fun y hy => by obtain ⟨b, _, rfl⟩ := List.mem_map.1 hy; exact b.toNat_lt)
  rw [List.length_map, leB_len] at e2
  rw [show valB 256 ((leB x).map (·.toNat)) = numB (leB x) from rfl, numB_leB x h] at e2
  rw [← e1, ← e2]
theorem AMem.setOther {w0 w : World} {L : List (Nat × List Nat)} (H : AMem w0 w L) (g' i : Nat) (v : Value) (hne : ∀ g x, (g, x) ∈ L → g ≠ g') (hle : w0.heap.size ≤ g') : AMem w0 (w.setCell ⟨g', i, none⟩ v) L :=
  ⟨H.below.setCell hle _, fun g x h => (H.holds g x h).other (hne g x h) i v, H.len, H.ours, H.apart⟩
def z32 : List Nat := List.replicate 32 0
theorem made32 : madeCells #[Value.int .u8 0] 32 = (numC .u8 z32).toArray := by kernel_rfl
theorem two_set (d r : List Nat) (k x y p q : Nat) (hd : d.length = k) : ((d ++ p :: q :: r).set k x).set (k + 1) y = (d ++ [x, y]) ++ r := by
  subst hd
  rw [set_mid]
  have := set_mid (d ++ [x]) r q y
  rw [List.length_append] at this
  rw [show d.length + 1 = d.length + [x].length from rfl, this]
  simp
set_option maxHeartbeats 1000000 in
theorem Bytes_any (x : Nat) (hx : x < big) (wS : World) : Calls Try.prog 29 #[arrV (Md x)] wS (BytesPost x wS) := by
  have H := AMem.start wS
  obtain ⟨i0, hi0, hz0, hz1, hz2⟩ := info_parts info5
  have hBY := Md_bytes x hx
  obtain ⟨a, ha⟩ : ∃ a, Md x = a := ⟨_, rfl⟩
  have hal : a.length = 16 := by rw [← ha, Md_len]
  have haW : ∀ x ∈ a, x < 65536 := ha ▸ Md_lt x
  rw [ha] at hBY ⊢
  obtain ⟨tot, htot⟩ : ∃ t, leB x = t := ⟨_, rfl⟩
  have htl : tot.length = 32 := by rw [← htot, leB_len]
  unfold BytesPost
  rw [htot] at hBY ⊢
  replace hBY := Kept.mk hBY
  replace htot := Kept.mk htot
  replace htl := Kept.mk htl
  replace haW := Kept.mk haW
  replace ha := Kept.mk ha
  have hll := Kept.mk hal
  clear hx
  unfold arrV
  go_enter Try.func29, Try.ntmps29
  go_wp2_with (first
    | (refine a_box rfl _ rfl _ rfl (by assumption) (by first | assumption | exact limbs_len _ _ _ | exact z16_len) ?_; intro g w H; try simp only [Act.put, List.setIfInBounds_toArray, List.set_cons_succ, List.set_cons_zero])
    | (refine a_alloc rfl rfl (by assumption) ?_; intro g w H; try simp only [Act.put, List.setIfInBounds_toArray, List.set_cons_succ, List.set_cons_zero])
    | (refine a_build rfl rfl ?_; try simp only [Act.put, List.setIfInBounds_toArray, List.set_cons_succ, List.set_cons_zero])
    | (refine a_load rfl _ rfl _ _ rfl (by assumption) (by (first | exact .head _ | exact .tail _ (.head _) | exact .tail _ (.tail _ (.head _)) | exact .tail _ (.tail _ (.tail _ (.head _))) | exact .tail _ (.tail _ (.tail _ (.tail _ (.head _)))))) ?_; try simp only [Act.put, List.setIfInBounds_toArray, List.set_cons_succ, List.set_cons_zero])
    | (refine a_store0 rfl _ _ rfl _ _ _ rfl rfl _ (by assumption) (by first | assumption | exact limbs_len _ _ _ | exact z16_len) ?_; intro w H; try simp only [Act.put, List.setIfInBounds_toArray, List.set_cons_succ, List.set_cons_zero])
    | (refine a_store1 rfl _ _ rfl _ _ _ rfl rfl _ _ (by assumption) (by first | assumption | exact limbs_len _ _ _ | exact z16_len) ?_; intro w H; try simp only [Act.put, List.setIfInBounds_toArray, List.set_cons_succ, List.set_cons_zero])
    | (refine a_store2 rfl _ _ rfl _ _ _ rfl rfl _ _ _ (by assumption) (by first | assumption | exact limbs_len _ _ _ | exact z16_len) ?_; intro w H; try simp only [Act.put, List.setIfInBounds_toArray, List.set_cons_succ, List.set_cons_zero])
    | (refine wpList_make_row _ rfl _ _ 58 rfl 5 i0 (.int .u8 0) Try.underlying58 hi0 hz0 hz1 rfl .i64 .i64 32 rfl rfl (by rw [hz2]; omega) (by omega) ?_; rw [made32]))
  have hB := Arr.new w 5 .u8 z32
  have hne : g < w.heap.size := (H.holds g a (.head _)).lt
  have hsz := H.below.size
  have H := H.grow ((Below.refl _ w).alloc (Nat.le_refl _) (.cells (numC .u8 z32).toArray 5))
  generalize w.alloc (.cells (numC .u8 z32).toArray 5) = w1 at hB H ⊢
  generalize w.heap.size = gb at hB hne hsz ⊢
  replace hB := Kept.mk hB
  clear hal
  go_loopw [4] (fun v4 wr => ∃ (i : Nat) (d : List Nat), i ≤ 16 ∧ v4 = .int .i64 (i : Int) ∧ Kept (d.length = 2 * i) ∧ AMem wS wr [(g, a)] ∧ Kept (Arr wr gb 5 .u8 (d ++ z32.drop (2 * i))) ∧ Kept (d ++ (a.drop i).flatMap b2 = tot.map (·.toNat))) (fun v4 _ => 16 - (RowKit.intOf v4).toNat)
  case atStart => exact ⟨0, [], by omega, rfl, ⟨rfl⟩, H, hB, hBY⟩
  case round =>
    clear H hB
    obtain ⟨i, d, hi, rfl, HD, H, HB, HT⟩ := hrel
    by_cases hlt : i < 16
    · obtain ⟨y, hy⟩ : ∃ y, a.getD i 0 = y := ⟨_, rfl⟩
      have hda := drop_getD a i (by rw [hll.out]; exact hlt)
      rw [hy] at hda
      have hyl : y < 65536 := hy ▸ getD_ltN haW.out i (by rw [hll.out]; exact hlt)
      have c1 := H.cell (.head _) i hlt
      rw [hy] at c1
      have hlti : (i : Int) < 16 := by omega
      have k1 : IntKind.i64.wrap (2 * (i : Int)) = 2 * (i : Int) := by simp [IntKind.wrap, IntKind.signed, IntKind.bits]; omega
      have k2 : IntKind.i64.wrap (2 * (i : Int) + 1) = 2 * (i : Int) + 1 := by simp [IntKind.wrap, IntKind.signed, IntKind.bits]; omega
      have k3 : (2 * (i : Int)).toNat = 2 * i := by omega
      have k4 : (2 * (i : Int) + 1).toNat = 2 * i + 1 := by omega
      have hz0 := drop_getD z32 (2 * i) (by show 2 * i < 32; omega)
      have hz1 := drop_getD z32 (2 * i + 1) (by show 2 * i + 1 < 32; omega)
      rw [hz1] at hz0
      have e0 := HB.out.cellMid hz0 HD.out
      have e1 := HB.out.cell (2 * i + 1) (by rw [List.length_append, HD.out, List.length_drop]; show 2 * i + 1 < 2 * i + (32 - 2 * i); omega)
      have f0 := HB.out.frozen (2 * i)
      have f1 := HB.out.frozen (2 * i + 1)
      have hBn : Arr ((wr.setCell ⟨gb, 2 * i, none⟩ (.int .u8 ((y : Int) % 256))).setCell ⟨gb, 2 * i + 1, none⟩ (.int .u8 ((y : Int) / 256))) gb 5 .u8 ((d ++ b2 y) ++ z32.drop (2 * (i + 1))) := by
        have h := (HB.out.set (2 * i) (y % 256)).set (2 * i + 1) (y / 256)
        rw [hz0, two_set d _ (2 * i) (y % 256) (y / 256) _ _ HD.out] at h
        rw [show (y : Int) % 256 = ((y % 256 : Nat) : Int) by omega, show (y : Int) / 256 = ((y / 256 : Nat) : Int) by omega]
        exact h
      have hne2 : ∀ g' x', (g', x') ∈ [(g, a)] → g' ≠ gb := by
        intro g' x' h
        simp at h
        omega
      have Hn := (H.setOther gb (2 * i) (.int .u8 ((y : Int) % 256)) hne2 hsz).setOther gb (2 * i + 1) (.int .u8 ((y : Int) / 256)) hne2 hsz
      have hT : d ++ b2 y ++ (a.drop (i + 1)).flatMap b2 = tot.map (·.toNat) := by
        have h := HT.out
        rw [hda, List.flatMap_cons] at h
        rw [List.append_assoc]; exact h
      have hDl : (d ++ b2 y).length = 2 * (i + 1) := by rw [List.length_append, HD.out]; simp [b2]; omega
      replace hT := Kept.mk hT
      replace hDl := Kept.mk hDl
      replace hBn := Kept.mk hBn
      replace hy := Kept.mk hy
      replace hda := Kept.mk hda
      clear hz0 hz1 hne2
      go_wp2
      go_roundw
      case rel => exact ⟨i + 1, d ++ b2 y, by omega, val_eq (by omega), hDl, Hn, hBn, hT⟩
      case measure => simp [RowKit.intOf]; omega
    · obtain rfl : i = 16 := by omega
      have hd : d = tot.map (·.toNat) := by
        have h := HT.out
        rw [List.drop_eq_nil_of_le (by rw [hll.out]; omega), List.flatMap_nil, List.append_nil] at h
        exact h
      have hA := HB.out
      rw [show z32.drop (2 * 16) = [] from rfl, List.append_nil, hd] at hA
      have hcv := run_convert_bytes_back (P := Try.prog) wr 58 9 5 ⟨gb, 0, none⟩ 32 tot Try.underlying58 Try.underlying5 Try.underlying9 (fun j hj => by
        have h := hA.cell j (by rw [List.length_map]; exact hj)
        rw [show ((⟨gb, 0, none⟩ : Addr).add j) = ⟨gb, j, none⟩ by unfold Addr.add; split <;> simp_all]
        rw [h]
        simp [hj])
      rw [htl.out] at hcv
      have hcv2 : (convert 58 9 (.slice (some ⟨gb, 0, none⟩) 32 32)).run Try.prog wr = .ok (.string (S tot)) wr := hcv
      clear hcv hA hd HT HB
      go_wp2
      go_ret
      exact ⟨rfl, H.below⟩
end Go.Proofs.Ytbkaemekcjinaaa
