/- Walks of package field: what is above 2^256 is folded down. -/
import Derived.Test.YtbkaemekcjinaaaF3
import Derived.Deep.LoopGhost
namespace Go.Proofs.Ytbkaemekcjinaaa
open Go.RowKit Go.Lib
def foldA : List Nat → List Nat → Nat → List Nat
  | x :: xs, y :: ys, c => (x + 38 * y + c) % 4294967296 :: foldA xs ys ((x + 38 * y + c) / 4294967296)
  | _, _, _ => []
def foldK : List Nat → List Nat → Nat → Nat
  | x :: xs, y :: ys, c => foldK xs ys ((x + 38 * y + c) / 4294967296)
  | _, _, c => c
def carA : List Nat → Nat → List Nat
  | x :: xs, c => (x + c) % 4294967296 :: carA xs ((x + c) / 4294967296)
  | [], _ => []
def carK : List Nat → Nat → Nat
  | x :: xs, c => carK xs ((x + c) / 4294967296)
  | [], c => c
/-- Passes with what was carried out, so many at most. -/
def passL : Nat → List Nat → Nat → List Nat
  | 0, l, _ => l
  | f + 1, l, c => if c = 0 then l else passL f (carA l (38 * c)) (carK l (38 * c))
def passC : Nat → List Nat → Nat → Nat
  | 0, _, c => c
  | f + 1, l, c => if c = 0 then 0 else passC f (carA l (38 * c)) (carK l (38 * c))
theorem foldA_nil (xs : List Nat) (c : Nat) : foldA xs [] c = [] := by cases xs <;> rfl
theorem foldK_nil (xs : List Nat) (c : Nat) : foldK xs [] c = c := by cases xs <;> rfl
def foldedL (l : List Nat) : List Nat := passL 2 (foldA l (l.drop 8) 0) (foldK l (l.drop 8) 0)
theorem carA_len : ∀ (l : List Nat) (c : Nat), (carA l c).length = l.length
  | [], _ => rfl
  | x :: xs, c => by rw [carA, List.length_cons, List.length_cons, carA_len xs]
theorem carA_lt : ∀ (l : List Nat) (c : Nat), ∀ x ∈ carA l c, x < 4294967296
  | [], _, x, h => by simp [carA] at h
  | y :: ys, c, x, h => by
    rw [carA, List.mem_cons] at h
    rcases h with rfl | h
    · exact Nat.mod_lt _ (by decide)
    · exact carA_lt ys _ x h
theorem carK_le : ∀ (l : List Nat) (c : Nat), (∀ x ∈ l, x < 4294967296) → c ≤ 1444 → l ≠ [] → carK l c ≤ 1
  | [], _, _, _, h => absurd rfl h
  | [x], c, hx, hc, _ => by
    have := hx x (by simp)
    rw [carK, carK]; omega
  | x :: y :: ys, c, hx, hc, _ => by
    have := hx x (by simp)
    rw [carK]
    exact carK_le (y :: ys) _ (fun z hz => hx z (by simp at hz ⊢; right; exact hz)) (by omega) (by simp)
theorem foldA_len : ∀ (l h : List Nat) (c : Nat), h.length ≤ l.length → (foldA l h c).length = h.length
  | _, [], _, _ => by rw [foldA_nil]
  | [], y :: ys, _, h => by simp at h
  | x :: xs, y :: ys, c, h => by rw [foldA, List.length_cons, List.length_cons, foldA_len xs ys _ (by simpa using h)]
theorem foldA_lt : ∀ (l h : List Nat) (c : Nat), ∀ x ∈ foldA l h c, x < 4294967296
  | _, [], _, x, h => by rw [foldA_nil] at h; simp at h
  | [], y :: ys, _, x, h => by simp [foldA] at h
  | x :: xs, y :: ys, c, z, h => by
    rw [foldA, List.mem_cons] at h
    rcases h with rfl | h
    · exact Nat.mod_lt _ (by decide)
    · exact foldA_lt xs ys _ z h
theorem foldK_le : ∀ (l h : List Nat) (c : Nat), (∀ x ∈ l, x < 4294967296) → (∀ x ∈ h, x < 4294967296) → c ≤ 38 → foldK l h c ≤ 38
  | _, [], _, _, _, hc => by rw [foldK_nil]; exact hc
  | [], y :: ys, _, _, _, hc => hc
  | x :: xs, y :: ys, c, hx, hy, hc => by
    have h1 := hx x (by simp)
    have h2 := hy y (by simp)
    rw [foldK]
    exact foldK_le xs ys _ (fun z hz => hx z (by simp [hz])) (fun z hz => hy z (by simp [hz])) (by omega)
theorem passL_len : ∀ (f : Nat) (l : List Nat) (c : Nat), (passL f l c).length = l.length
  | 0, _, _ => rfl
  | f + 1, l, c => by
    rw [passL]
    split
    · rfl
    · rw [passL_len f, carA_len]
theorem foldedL_len (l : List Nat) (h : l.length = 16) : (foldedL l).length = 8 := by
  unfold foldedL
  rw [passL_len, foldA_len _ _ _ (by simp), List.length_drop, h]
set_option maxHeartbeats 2000000 in
theorem folded_of (l : List Nat) (hl : l.length = 16) (hlW : ∀ x ∈ l, x < 4294967296) (hfin : passC 2 (foldA l (l.drop 8) 0) (foldK l (l.drop 8) 0) = 0) (w : World) :
    Calls Try.prog 53 #[aggN .u32 l] w (NumPost (foldedL l) w) := by
  obtain ⟨z8, hz8⟩ : ∃ z, List.replicate 8 0 = z := ⟨_, rfl⟩
  have hzl : z8.length = 8 := by rw [← hz8]; rfl
  have hz : ∀ w, (zeroValue 35).run Try.prog w = .ok (aggN .u32 z8) w := by rw [← hz8]; exact (zero_of_info (n := 8) (by kernel_rfl)).1
  obtain ⟨Z, hZ⟩ : ∃ A, (numC .u32 z8).toArray = A := ⟨_, rfl⟩
  unfold aggN at hz
  rw [hZ] at hz
  have hZl : Z.size = 8 := by rw [← hZ, List.size_toArray, numC_length, hzl]
  replace hz8 := Kept.mk hz8
  replace hzl := Kept.mk hzl
  replace hZl := Kept.mk hZl
  replace hl := Kept.mk hl
  replace hlW := Kept.mk hlW
  replace hfin := Kept.mk hfin
  obtain ⟨A, hA⟩ : ∃ A, (numC .u32 l).toArray = A := ⟨_, rfl⟩
  unfold aggN
  rw [hA]
  go_enter Try.func53, Try.ntmps53
  go_wp2
  have h1 : Arr (((w.alloc (.cells A 60)).alloc (.cells Z 35)).alloc (.cells Z 35)) w.heap.size 60 .u32 l := by
    have h := Arr.new w 60 .u32 l
    rw [hA] at h
    exact (h.from ((Below.refl _ _).alloc (Nat.le_refl _) _)).from ((Below.refl _ _).alloc (Nat.le_refl _) _)
  have h3 : (((w.alloc (.cells A 60)).alloc (.cells Z 35)).alloc (.cells Z 35)).heap[w.heap.size + 1]? = some (.cells Z 35 (0, 0)) := by
    have h := heap_alloc_new (w.alloc (.cells A 60)) (.cells Z 35)
    rw [World.size_alloc] at h
    rw [← h]
    exact (Below.alloc (Below.refl _ ((w.alloc (.cells A 60)).alloc (.cells Z 35))) (Nat.le_refl _) (.cells Z 35)).block (w.heap.size + 1) (by simp)
  have h5 : Arr (((w.alloc (.cells A 60)).alloc (.cells Z 35)).alloc (.cells Z 35)) (w.heap.size + 2) 35 .u32 z8 := by
    have h := Arr.new ((w.alloc (.cells A 60)).alloc (.cells Z 35)) 35 .u32 z8
    rw [hZ] at h
    simpa using h
  have h4 : Below w.heap.size w (((w.alloc (.cells A 60)).alloc (.cells Z 35)).alloc (.cells Z 35)) :=
    (((Below.refl _ _).alloc (Nat.le_refl _) _).alloc (by simp) _).alloc (by simp; omega) _
  replace hA := Kept.mk hA
  replace hZ := Kept.mk hZ
  generalize ((w.alloc (.cells A 60)).alloc (.cells Z 35)).alloc (.cells Z 35) = w0 at h1 h3 h4 h5 ⊢
  obtain ⟨n, hn⟩ : ∃ n, w.heap.size = n := ⟨_, rfl⟩
  rw [hn] at h1 h3 h5 ⊢
  replace h1 := Kept.mk h1
  replace h3 := Kept.mk h3
  replace h4 := Kept.mk h4
  replace h5 := Kept.mk h5
  replace hn := Kept.mk hn
  go_loopw [4, 9] (fun v4 v9 wr => ∃ (i c : Nat) (d : List Nat), i ≤ 8 ∧ c ≤ 38 ∧ v4 = .int .u64 (c : Int) ∧ v9 = .int .i64 (i : Int) ∧ Kept (d.length = i) ∧ Kept (Arr wr n 60 .u32 l) ∧
    Kept (wr.heap[n + 1]? = some (.cells Z 35 (0, 0))) ∧ Kept (Arr wr (n + 2) 35 .u32 (d ++ z8.drop i)) ∧ Kept (Below w.heap.size w wr) ∧ Kept (d ++ foldA (l.drop i) (l.drop (8 + i)) c = foldA l (l.drop 8) 0) ∧ Kept (foldK (l.drop i) (l.drop (8 + i)) c = foldK l (l.drop 8) 0)) (fun _ v9 _ => 8 - (intOf v9).toNat)
  case atStart => exact ⟨0, 0, [], by omega, by omega, rfl, rfl, ⟨rfl⟩, h1, h3, h5, h4, ⟨rfl⟩, ⟨rfl⟩⟩
  case round =>
    clear h1 h3 h4 h5
    obtain ⟨i, c, d, hi, hc, rfl, rfl, HD, H1, H3, H5, H4, HE, HK⟩ := hrel
    by_cases hlt : i < 8
    · obtain ⟨x, hx⟩ : ∃ x, l.getD i 0 = x := ⟨_, rfl⟩
      obtain ⟨y, hy⟩ : ∃ y, l.getD (8 + i) 0 = y := ⟨_, rfl⟩
      have hda := drop_getD l i (by rw [hl.out]; omega)
      have hdb := drop_getD l (8 + i) (by rw [hl.out]; omega)
      have hdz := drop_getD z8 i (by rw [hzl.out]; omega)
      rw [hx] at hda
      rw [hy] at hdb
      have hxl : x < 4294967296 := hx ▸ getD_ltN hlW.out i (by rw [hl.out]; omega)
      have hyl : y < 4294967296 := hy ▸ getD_ltN hlW.out (8 + i) (by rw [hl.out]; omega)
      have c1 : ∀ u : Held (From wr.drew), u.w.cell? ⟨n, i, none⟩ = some (.int .u32 (x : Int)) := fun u => hx ▸ (H1.out.from u.h.of_drew).cell i (by rw [hl.out]; omega)
      have c2 : ∀ u : Held (From wr.drew), u.w.cell? ⟨n, i + 8, none⟩ = some (.int .u32 (y : Int)) := fun u => by rw [Nat.add_comm i 8, ← hy]; exact (H1.out.from u.h.of_drew).cell (8 + i) (by rw [hl.out]; omega)
      have k2 : IntKind.i64.wrap ((i : Int) + 8) = (i : Int) + 8 := by simp [IntKind.wrap, IntKind.signed, IntKind.bits]; omega
      have k3 : ((i : Int) + 8).toNat = i + 8 := by omega
      have k1 : IntKind.u64.wrap (38 * (y : Int)) = 38 * (y : Int) := by simp [IntKind.wrap, IntKind.signed, IntKind.bits]; omega
      replace hx := Kept.mk hx
      replace hy := Kept.mk hy
      replace hda := Kept.mk hda
      replace hdb := Kept.mk hdb
      replace hdz := Kept.mk hdz
      go_wp2
      refine wp_region_from (by kernel_rfl) (by kernel_rfl) ?_
      repeat (go_big_quiet_step (fail))
      refine wpQuiet_nil ?_
      intro w5 hw5
      have b5 := hw5.of_drew
      have H15 := H1.out.from b5
      have H55 := H5.out.from b5
      have f5 := H55.frozen i
      have c5 := H55.cellMid hdz.out HD.out
      have h35 := (b5.block (n + 1) (Array.getElem?_eq_some_iff.1 H3.out).1).trans H3.out
      replace b5 := H4.out.trans (b5.mono H4.out.size)
      replace H15 := Kept.mk H15
      replace H55 := Kept.mk H55
      replace b5 := Kept.mk b5
      replace h35 := Kept.mk h35
      clear c1 c2
      go_wp2
      go_roundw
      case rel => exact ⟨i + 1, (x + 38 * y + c) / 4294967296, d ++ [(x + 38 * y + c) % 4294967296], by omega, by omega, val_eq (by omega), val_eq (by omega), ⟨by rw [List.length_append, HD.out]; rfl⟩, ⟨H15.out.other (by omega) _ _⟩,
            ⟨(Below.heap_setCell w5 ⟨n + 2, i, none⟩ _ (n + 1) (by simp)).trans h35.out⟩, ⟨H55.out.step hdz.out HD.out ((x + 38 * y + c) % 4294967296) (by omega)⟩, ⟨b5.out.setCell (by show w.heap.size ≤ n + 2; rw [hn.out]; omega) _⟩,
            ⟨by
              have h := HE.out
              rw [hda.out, hdb.out, foldA] at h
              rw [List.append_assoc]
              exact h⟩, ⟨by
              have h := HK.out
              rw [hda.out, hdb.out, foldK] at h
              exact h⟩⟩
      case measure => simp [intOf]; omega
    · obtain rfl : i = 8 := by omega
      have hdE : d = foldA l (l.drop 8) 0 := by
        have h := HE.out
        rw [List.drop_eq_nil_of_le (show l.length ≤ 8 + 8 by rw [hl.out]; omega), foldA_nil, List.append_nil] at h
        exact h
      have hcE : c = foldK l (l.drop 8) 0 := by
        have h := HK.out
        rw [List.drop_eq_nil_of_le (show l.length ≤ 8 + 8 by rw [hl.out]; omega), foldK_nil] at h
        exact h
      have hfin2 := hfin.out
      rw [← hdE, ← hcE] at hfin2
      have hres : foldedL l = passL 2 d c := by rw [hdE, hcE]; rfl
      have hdW : ∀ x ∈ d, x < 4294967296 := hdE ▸ foldA_lt _ _ _
      have H8 : Arr wr (n + 2) 35 .u32 d := by
        have h := H5.out
        rw [List.drop_eq_nil_of_le (show z8.length ≤ 8 by rw [hzl.out]; omega), List.append_nil] at h
        exact h
      obtain ⟨M, hM⟩ : ∃ M, passL 2 d c = M := ⟨_, rfl⟩
      rw [hM] at hres
      replace hfin2 := Kept.mk hfin2
      replace hres := Kept.mk hres
      replace hdW := Kept.mk hdW
      replace hdE := Kept.mk hdE
      replace hcE := Kept.mk hcE
      replace H8 := Kept.mk H8
      replace hM := Kept.mk hM
      clear HE HK H5
      go_wp2
      go_loopg [4] 2 (fun k v4 wr => ∃ (c : Nat) (d : List Nat), c ≤ 38 ∧ v4 = .int .u64 (c : Int) ∧ Kept (d.length = 8) ∧ Kept (∀ x ∈ d, x < 4294967296) ∧ Kept (Arr wr (n + 2) 35 .u32 d) ∧
        Kept (wr.heap[n + 1]? = some (.cells Z 35 (0, 0))) ∧ Kept (Below w.heap.size w wr) ∧ Kept (passC k d c = 0) ∧ Kept (passL k d c = M))
      case atStart => exact ⟨c, d, hc, rfl, HD, hdW, H8, H3, H4, hfin2, hM⟩
      case round =>
        clear HD hdW H8 H3 H4 hfin2 hM hdE hcE H1
        rename_i c0 d0 _ _ _
        obtain ⟨c, d, hc, rfl, HD, HW, H8, H3, H4, HF, HM⟩ := hrel
        by_cases hc0 : c = 0
        · subst hc0
          rw [show ((0 : Nat) : Int) = 0 from rfl]
          have hdM : d = M := by
            have h := HM.out
            cases gk with
            | zero => exact h
            | succ f => rw [passL, if_pos rfl] at h; exact h
          replace hdM := Kept.mk hdM
          go_wp2_with (first
            | (refine wpList_load_row rfl 35 (.tmp 3) rfl (n + 2) rfl 35 (numC .u32 d).toArray (0, 0) _ H8.out.blk Try.underlying35 rfl ?_ ?_; (rw [infoN, List.size_toArray, numC_length, HD.out]))
            | (refine wpList_store_row rfl 35 (.tmp 2) (.tmp 52) rfl (n + 1) (numC .u32 d).toArray rfl rfl 35 Z H3.out ?_ ?_ (numC_one _ _) ?_; (rw [infoN, List.size_toArray, numC_length, HD.out]); (rw [hZl.out, List.size_toArray, numC_length, HD.out])))
          exact bodyPost_ret (results_cell_row (p := 2) (ty := 35) Try.results53 _ _ (n + 1) 35 (numC .u32 d).toArray (0, 0) _ rfl (setRow_heap _ _ _ _ _ _ H3.out) Try.underlying35 rfl (by rw [infoN, List.size_toArray, numC_length, HD.out])) rfl
            ⟨by rw [hres.out, ← hdM.out]; rfl, below_setRow H4.out (by rw [hn.out]; omega) _⟩
        · obtain ⟨f, rfl⟩ : ∃ f, gk = f + 1 := by
            cases gk with
            | zero => exact absurd HF.out hc0
            | succ f => exact ⟨f, rfl⟩
          have hF2 := HF.out
          have hM2 := HM.out
          rw [passC, if_neg hc0] at hF2
          rw [passL, if_neg hc0] at hM2
          have hcI : ((c : Int) == 0) = false := by simp; omega
          have hcN : ((c : Int) != 0) = true := by simp; omega
          have k1 : IntKind.u64.wrap ((c : Int) * 38) = (c : Int) * 38 := by simp [IntKind.wrap, IntKind.signed, IntKind.bits]; omega
          replace hF2 := Kept.mk hF2
          replace hM2 := Kept.mk hM2
          go_wp2
          clear k1 hcI hcN
          obtain ⟨wo, rfl⟩ : ∃ wo : World, wo = wr := ⟨_, rfl⟩
          go_loopw [4, 36] (fun v4 v36 wr => ∃ (i k : Nat) (e : List Nat), i ≤ 8 ∧ k ≤ 1444 ∧ v4 = .int .u64 (k : Int) ∧ v36 = .int .i64 (i : Int) ∧ Kept (e.length = i) ∧
            Kept (wr.heap[n + 1]? = some (.cells Z 35 (0, 0))) ∧ Kept (Arr wr (n + 2) 35 .u32 (e ++ d.drop i)) ∧ Kept (Below w.heap.size w wr) ∧ Kept (e ++ carA (d.drop i) k = carA d (38 * c)) ∧ Kept (carK (d.drop i) k = carK d (38 * c))) (fun _ v36 _ => 8 - (intOf v36).toNat)
          case atStart => exact ⟨0, 38 * c, [], by omega, by omega, val_eq (by omega), rfl, ⟨rfl⟩, H3, H8, H4, ⟨rfl⟩, ⟨rfl⟩⟩
          case round =>
            clear H8 H3 H4
            obtain ⟨i, k, e, hi, hk, rfl, rfl, HEl, H3, H8, H4, HE, HK⟩ := hrel
            by_cases hlt : i < 8
            · obtain ⟨x, hx⟩ : ∃ x, d.getD i 0 = x := ⟨_, rfl⟩
              have hdd := drop_getD d i (by rw [HD.out]; omega)
              rw [hx] at hdd
              have hxl : x < 4294967296 := hx ▸ getD_ltN HW.out i (by rw [HD.out]; omega)
              have c1 := H8.out.cellMid hdd HEl.out
              have f1 := H8.out.frozen i
              replace hx := Kept.mk hx
              replace hdd := Kept.mk hdd
              go_wp2
              go_roundw
              case rel => exact ⟨i + 1, (x + k) / 4294967296, e ++ [(x + k) % 4294967296], by omega, by omega, val_eq (by omega), val_eq (by omega), ⟨by rw [List.length_append, HEl.out]; rfl⟩,
                ⟨(Below.heap_setCell wr ⟨n + 2, i, none⟩ _ (n + 1) (by simp)).trans H3.out⟩, ⟨H8.out.step hdd.out HEl.out ((x + k) % 4294967296) (by omega)⟩, ⟨H4.out.setCell (by show w.heap.size ≤ n + 2; rw [hn.out]; omega) _⟩,
                ⟨by
                  have h := HE.out
                  rw [hdd.out, carA] at h
                  rw [List.append_assoc]
                  exact h⟩, ⟨by
                  have h := HK.out
                  rw [hdd.out, carK] at h
                  exact h⟩⟩
              case measure => simp [intOf]; omega
            · obtain rfl : i = 8 := by omega
              have hn8 : d.drop 8 = [] := List.drop_eq_nil_of_le (by rw [HD.out]; omega)
              have hE := HE.out
              have hK := HK.out
              have hA := H8.out
              rw [hn8, carA, List.append_nil] at hE
              rw [hn8, carK] at hK
              rw [hn8, List.append_nil] at hA
              have hk1 : k ≤ 1 := by rw [hK]; exact carK_le d (38 * c) HW.out (by omega) (fun h => by have := HD.out; rw [h] at this; simp at this)
              have hF3 := hF2.out
              have hM3 := hM2.out
              rw [← hE, ← hK] at hF3 hM3
              have hW2 : ∀ x ∈ e, x < 4294967296 := hE ▸ carA_lt d (38 * c)
              replace hE := Kept.mk hE
              replace hK := Kept.mk hK
              replace hA := Kept.mk hA
              replace hF3 := Kept.mk hF3
              replace hM3 := Kept.mk hM3
              replace hW2 := Kept.mk hW2
              go_wp2
              go_roundg f
              case rel => exact ⟨k, e, by omega, rfl, HEl, hW2, hA, H3, H4, hF3, hM3⟩
              case measure => omega
end Go.Proofs.Ytbkaemekcjinaaa
