/- Walks of the document's answer for package sha2: the sum of bytes.
The document's sum and the program's: words, rotations, rounds: the numbers are the same. No walk. -/
import Derived.Test.YtgnblaaldpniiaaGreatDoorZS6
import Derived.Test.YtgnblaaldpniiaaGreatDoorZS7
import Derived.Test.YtgnblaaldpniiaaGreatDoorG4
import Derived.Test.YtgnblaaldpniiaaGreatDoorZK3
import Derived.Deep.WholeRow
import Derived.Test.YtgnblaaldpniiaaGreatDoorZK1
import Derived.Test.YtgnblaaldpniiaaGreatDoorZS3
section
set_option maxRecDepth 100000
set_option linter.unusedVariables false
set_option linter.unusedSimpArgs false
namespace Go.Proofs.YtgnblaaldpniiaaGreatDoor.Sh
open Go.RowKit Go.Lib
def lenR (n8 : Nat) : Nat → List UInt8
  | 0 => []
  | k + 1 => UInt8.ofNat (if k < 8 then n8 / 2 ^ (8 * k) else 0) :: lenR n8 k
def foldW (b : List UInt8) (i : Nat) : Nat → Nat → Nat → Nat
  | 0, _, x => x
  | k + 1, j, x => foldW b i k (j + 1) ((x * 256 % 18446744073709551616 + (b.getD (i + j) 0).toNat) % 18446744073709551616)
def wordsL (b : List UInt8) (i c : Nat) : Nat → Nat → List Nat → List Nat
  | 0, _, l => l
  | k + 1, t, l => wordsL b i c k (t + 1) (l ++ [foldW b (i + t * c) c 0 0])
def blocksL (o : Bool) (ks : List Nat) (b : List UInt8) : Nat → Nat → List Nat → List Nat
  | 0, _, l => l
  | k + 1, i, l => blocksL o ks b k (i + 2 * wd o) (blockN o ks l (wordsL b i (wd o / 8) 16 0 []))
theorem sumN_len (o : Bool) (sl : List Nat) : ∀ (k i : Nat) (l : List Nat), (sumN o sl k i l).length = l.length
  | 0, _, _ => rfl
  | k + 1, i, l => by rw [sumN, sumN_len o sl k, List.length_set]
theorem sumN_lt (o : Bool) (sl : List Nat) : ∀ (k i : Nat) (l : List Nat), (∀ x ∈ l, x < 18446744073709551616) → ∀ x ∈ sumN o sl k i l, x < 18446744073709551616
  | 0, _, _, h => h
  | k + 1, i, l, h => by
    rw [sumN]
    refine sumN_lt o sl k (i + 1) _ fun x hx => ?_
    rcases List.mem_or_eq_of_mem_set hx with hx | rfl
    · exact h x hx
    · exact wordN_lt _ _
theorem roundsN_ok (o : Bool) (ks ws : List Nat) : ∀ (k t : Nat) (s : S8), s.ok → (roundsN o ks ws k t s).ok
  | 0, _, _, h => h
  | k + 1, t, s, h => by
    rw [roundsN]
    obtain ⟨h1, h2, h3, h4, h5, h6, h7, h8⟩ := h
    exact roundsN_ok o ks ws k (t + 1) _ ⟨wordN_lt _ _, h1, h2, h3, wordN_lt _ _, h5, h6, h7⟩
theorem blockN_len (o : Bool) (ks sl ws : List Nat) : (blockN o ks sl ws).length = 8 := by
  unfold blockN; rw [sumN_len]; rfl
theorem blockN_lt (o : Bool) (ks sl ws : List Nat) (h : ∀ x ∈ sl, x < 18446744073709551616) : ∀ x ∈ blockN o ks sl ws, x < 18446744073709551616 := by
  unfold blockN
  refine sumN_lt o sl 8 0 _ ?_
  have g := fun i => getD_lt h (by decide) i
  obtain ⟨h1, h2, h3, h4, h5, h6, h7, h8⟩ := roundsN_ok o ks (schN o (ks.length - 16) ws) ks.length 0 (S8.of sl) ⟨g 0, g 1, g 2, g 3, g 4, g 5, g 6, g 7⟩
  intro x hx
  simp only [S8.list, List.mem_cons, List.not_mem_nil, or_false] at hx
  rcases hx with rfl | rfl | rfl | rfl | rfl | rfl | rfl | rfl <;> assumption
def sliceLen : Value → Nat
  | .slice _ n _ => n
  | _ => 0
def dOutR (x : Nat) : Nat → List UInt8
  | 0 => []
  | k + 1 => UInt8.ofNat (x / 2 ^ (8 * k)) :: dOutR x k
def dOutL (o : Bool) (l : List Nat) : List UInt8 := l.flatMap fun x => dOutR x (wd o / 8)
def dPadZ (o : Bool) (n : Nat) : Nat := (2 * wd o - (n + 1 + wd o / 4) % (2 * wd o)) % (2 * wd o)
def dPadL (o : Bool) (s : List UInt8) : List UInt8 := s ++ [128] ++ List.replicate (dPadZ o s.length) 0 ++ lenR (s.length * 8 % 18446744073709551616) (wd o / 4)
def docSum (o : Bool) (ks hs : List Nat) (s : List UInt8) : List UInt8 := dOutL o (blocksL o ks (dPadL o s) ((dPadL o s).length / (2 * wd o)) 0 hs)
def DocPost (o : Bool) (ks hs : List Nat) (s : List UInt8) (w : World) (e : Ending) (w' : World) : Prop := e = .returned (.tuple #[.string (S (docSum o ks hs s)), .int .i64 0]) ∧ Below w.heap.size w w'

set_option maxRecDepth 100000 in
set_option maxHeartbeats 3200000 in
theorem docOne1_any (ks hs : List Nat) (s : List UInt8) (hks : ks.length = 80) (hhs : hs.length = 8) (hkW : ∀ x ∈ ks, x < 18446744073709551616) (hhW : ∀ x ∈ hs, x < 18446744073709551616) (hs2 : s.length ≤ 2000)
    (cO : ∀ w, Calls Tryz.prog 56 #[.int .i64 1] w (OfPost true ks hs w)) (w : World) :
    Calls Tryz.prog 32 #[.int .i64 1, .string (S s)] w (DocPost true ks hs s w) := by
  obtain ⟨i8, hi, hz0, hz1, hz2⟩ := info_parts info5
  have hi7 := hi
  obtain ⟨i6, hj6, hy60, hy61, hy62⟩ := info_parts infoU64
  obtain ⟨n, hn⟩ : ∃ n, s.length = n := ⟨_, rfl⟩
  rw [hn] at hs2
  have hsz : (S s).size = n := by rw [S_size, hn]
  obtain ⟨capF, hcapF⟩ : ∃ capF : World → Nat, (fun w => grownCap w n 0 5) = capF := ⟨_, rfl⟩
  obtain ⟨bwF, hbwF⟩ : ∃ bwF : World → World, (fun w => Lib.bytesWorld w 5 (S s)) = bwF := ⟨_, rfl⟩
  have hcv : ∀ w', (convert 9 37 (.string (S s))).run Tryz.prog w' = .ok (.slice (some ⟨w'.heap.size, 0, none⟩) n (capF w')) (bwF w') := fun w' => by
    rw [← hcapF, ← hbwF, ← hsz]
    exact Lib.run_convert_string_bytes w' _ _ _ (S s) Tryz.underlying9 Tryz.underlying37 Tryz.underlying5
  have hbow : ∀ w' B, B ≤ w'.heap.size → OwnF (bwF w') B 5 (.slice (some ⟨w'.heap.size, 0, none⟩) n (capF w')) n (byteCells s) := fun w' B hB => by
    rw [← hcapF, ← hbwF, ← hn]
    exact OwnF.bytes w' B hB 5 s
  have hbbw : ∀ w', Below w'.heap.size w' (bwF w') := fun w' => by
    rw [← hbwF]
    exact ⟨rfl, rfl, rfl, by rw [Lib.bytesWorld_size]; omega, fun k hk => Lib.bytesWorld_at_old w' _ _ k hk⟩
  replace hbow := Kept.mk hbow
  replace hbbw := Kept.mk hbbw
  replace hn := Kept.mk hn
  replace hks := Kept.mk hks
  replace hhs := Kept.mk hhs
  replace hkW := Kept.mk hkW
  replace hhW := Kept.mk hhW
  replace cO := Kept.mk cO
  clear hcapF hbwF hsz
  go_enter Tryz.func32, Tryz.ntmps32
  go_wp2_with (first
    | (go_at_call 56; refine (cO.out _).mono ?_; rintro e w1 ⟨gK, gH, cK, cH, rfl, hgK, hgH, hrK, hrH, hb1⟩; rw [hks.out, hhs.out]; replace hrK := Kept.mk hrK; replace hrH := Kept.mk hrH; replace hb1 := Kept.mk hb1)
    | (refine wpList_store_row rfl 75 (.tmp 6) (.tmp 26) rfl w1.heap.size (kindC true (.slice (some ⟨gK, 0, none⟩) 80 cK) (.slice (some ⟨gH, 0, none⟩) 8 cH)) rfl rfl 75 _ (heap_alloc_new w1 _) (by kernel_rfl) rfl (by rw [kindC1]; simp [Value.oneCell']) ?_;
       rw [World.setRow_alloc_new];
       have hk2 := heap_alloc_new w1 (.cells (kindC true (.slice (some ⟨gK, 0, none⟩) 80 cK) (.slice (some ⟨gH, 0, none⟩) 8 cH)) 75);
       have hz2b : (w1.alloc (.cells (kindC true (.slice (some ⟨gK, 0, none⟩) 80 cK) (.slice (some ⟨gH, 0, none⟩) 8 cH)) 75)).heap.size = w1.heap.size + 1 := by simp;
       have hb2 := Below.alloc (Below.refl w1.heap.size w1) (Nat.le_refl _) (.cells (kindC true (.slice (some ⟨gK, 0, none⟩) 80 cK) (.slice (some ⟨gH, 0, none⟩) 8 cH)) 75);
       generalize w1.alloc (.cells (kindC true (.slice (some ⟨gK, 0, none⟩) 80 cK) (.slice (some ⟨gH, 0, none⟩) 8 cH)) 75) = w2 at hk2 hz2b hb2 ⊢;
       replace hk2 := Kept.mk hk2; replace hz2b := Kept.mk hz2b; replace hb2 := Kept.mk hb2)
    | (at_builtin; refine wpList_app1 _ rfl (.tmp 28) (.tmp 29) 37 rfl w2.heap.size 5 i8 (.int .u8 0) 1 Tryz.underlying37 hi hz0 hz1 hz2 rfl _ n (byteCells s) rfl
        ((hbow.out w2 w2.heap.size (Nat.le_refl _)).below (Below.alloc (Below.refl _ _) (Nat.le_refl _) _)) ⟨(bwF w2).heap.size, 0, none⟩ 1 (.int .u8 128) rfl (row_new (bwF w2) [.int .u8 128] 5 0 _ rfl) rfl (by unfold maxLen; omega) (by omega) (by have := (hbbw.out w2).size; rw [World.size_alloc]; omega) ?_;
       intro v' w3 ho3 hg3;
       have hB3 : Below w2.heap.size w2 w3 := ((hbbw.out w2).alloc (hbbw.out w2).size _).grown hg3 (by have := (hbbw.out w2).size; rw [World.size_alloc]; omega) (fun k hk => Nat.le_of_eq (by injection hk));
       replace ho3 := Kept.mk ho3; replace hB3 := Kept.mk hB3; clear hg3))
  have hkx : KAt true (.slice (some ⟨gK, 0, none⟩) 80 cK) (.slice (some ⟨gH, 0, none⟩) 8 cH) w2 w1.heap.size := ⟨_, hk2.out⟩
  have hbk : w1.heap.size < w2.heap.size := hkx.lt
  have hK2 : w2.cell? ⟨w1.heap.size, 0, none⟩ = some (.int .i64 64) := by obtain ⟨fr, e⟩ := hkx; rw [kindC1] at e; rw [cell_of_row _ _ _ _ _ _ e]; rfl
  have hrK2 : RowAt w2 gK ks := hrK.out.below hb2.out hrK.out.1
  have hrH2 : RowAt w2 gH hs := hrH.out.below hb2.out hrH.out.1
  have hgK2 : gK < w2.heap.size := hrK2.1
  have hgH2 : gH < w2.heap.size := hrH2.1
  have hbw2 : Below w.heap.size w w2 := hb1.out.trans (hb2.out.mono hb1.out.size)
  replace hkx := Kept.mk hkx
  replace hK2 := Kept.mk hK2
  replace hrK2 := Kept.mk hrK2
  replace hrH2 := Kept.mk hrH2
  replace hbw2 := Kept.mk hbw2
  generalize w1.heap.size = bk at hkx hbk hK2 ⊢
  obtain ⟨B, hB⟩ : ∃ B, w2.heap.size = B := ⟨_, rfl⟩
  rw [hB] at ho3 hB3 hbk hgK2 hgH2
  obtain ⟨Z, hZ⟩ : ∃ Z, dPadZ true n = Z := ⟨_, rfl⟩
  have hZ2 : Z = (128 - (n + 1 + 16) % 128) % 128 := hZ.symm
  have hZl : Z < 128 := by omega
  clear hb1 hb2 hk2 hz2b hrK hrH cO hcv hbow hbbw
  replace hB := Kept.mk hB
  replace hZ := Kept.mk hZ
  replace hZ2 := Kept.mk hZ2
  go_loopw [7] (fun v7 wr => ∃ (j : Nat), j ≤ Z ∧ Kept (OwnF wr B 5 v7 (n + 1 + j) (byteCells (s ++ [128] ++ List.replicate j 0))) ∧ Kept (Below B w2 wr)) (fun v7 _ => n + 1 + Z - sliceLen v7)
  case atStart => exact ⟨0, Nat.zero_le _, ⟨by have h := ho3.out; rw [List.replicate_zero, List.append_nil, byteCells_append]; exact h⟩, hB3⟩
  case round =>
    clear ho3 hB3
    obtain ⟨j, hj, HO, HB⟩ := hrel
    have hK3 : wr.cell? ⟨bk, 0, none⟩ = some (.int .i64 64) := (HB.out.cell (p := ⟨bk, 0, none⟩) hbk).trans hK2.out
    obtain ⟨g, cap, rfl, hg1, hg2⟩ := HO.out.form
    have k1 : IntKind.i64.wrap ((n : Int) + 1 + (j : Int) + 16) = (n : Int) + 1 + (j : Int) + 16 := by
      simp [IntKind.wrap, IntKind.signed, IntKind.bits]; omega
    have k2 : Int.tmod ((n : Int) + 1 + (j : Int) + 16) 128 = ((n : Int) + 1 + (j : Int) + 16) % 128 := by
      rw [Int.tmod_eq_emod_of_nonneg (by omega)]
    have z2 := hZ2.out
    by_cases hjz : j < Z
    · have k3 : ¬ (((n : Int) + 1 + (j : Int) + 16) % 128 = 0) := by omega
      clear z2
      go_wp2_with (at_builtin; refine wpList_app1 _ rfl (.tmp 42) (.tmp 43) 37 rfl B 5 i8 (.int .u8 0) 1 Tryz.underlying37 hi hz0 hz1 hz2 rfl _ (n + 1 + j) _ rfl (HO.out.below (Below.alloc (Below.refl _ _) (Nat.le_refl _) _)) ⟨wr.heap.size, 0, none⟩ 1 (.int .u8 0) rfl (row_new wr [.int .u8 0] 5 0 _ rfl) rfl (by unfold maxLen; omega) (by omega) (by rw [World.size_alloc]; omega) ?_; intro v3 w3 ho3 hg3; have hB3 : Below B w2 w3 := (HB.out.alloc (by omega) _).grown hg3 (by rw [World.size_alloc]; omega) (fun k hk => Nat.le_trans hg1 (Nat.le_of_eq (by injection hk))); replace ho3 := Kept.mk ho3; replace hB3 := Kept.mk hB3; clear hg3)
      go_roundw
      case rel => exact ⟨j + 1, by omega, ⟨by have h := ho3.out; rw [List.replicate_succ', ← List.append_assoc, byteCells_append]; exact h⟩, hB3⟩
      case measure => obtain ⟨g3, cap3, rfl, _⟩ := ho3.out.form; simp [sliceLen]; omega
    · obtain rfl : j = Z := by omega
      have k3 : ((n : Int) + 1 + (j : Int) + 16) % 128 = 0 := by omega
      clear z2
      go_wp2
      have hl0 : (s ++ [128] ++ List.replicate j 0).length = n + 1 + j := by simp [hn.out]; omega
      obtain ⟨b1, hb1⟩ : ∃ b1, s ++ [128] ++ List.replicate j 0 = b1 := ⟨_, rfl⟩
      rw [hb1] at HO hl0
      obtain ⟨n8, hn8⟩ : ∃ x, n * 8 = x := ⟨_, rfl⟩
      have qa : IntKind.u64.wrap (n : Int) = (n : Int) := by simp [IntKind.wrap, IntKind.signed, IntKind.bits]; omega
      have qb : IntKind.u64.wrap ((n : Int) * 8) = (n8 : Int) := by rw [← hn8]; simp [IntKind.wrap, IntKind.signed, IntKind.bits]; omega
      have qc : IntKind.u64.wrap ((n : Int) * 2 ^ 3) = (n8 : Int) := qb
      have qd : ((S s).size : Int) = (n : Int) := by rw [S_size, hn.out]
      have qe : (S s).size = n := by rw [S_size, hn.out]
      have ho0 := HO.out
      rw [← hl0] at ho0
      replace ho0 := Kept.mk ho0
      replace hb1 := Kept.mk hb1
      replace hl0 := Kept.mk hl0
      replace hn8 := Kept.mk hn8
      rw [← hl0.out]
      clear hK3 k1 k2 k3 HO
      go_loopw [7, 8] (fun v7 v8 wr => ∃ (k : Nat) (l : List UInt8), k ≤ 16 ∧ v8 = .int .i64 ((k : Int) - 1) ∧ Kept (OwnF wr B 5 v7 l.length (byteCells l)) ∧ Kept (l.length + k = n + 1 + j + 16) ∧ Kept (l ++ lenR n8 k = b1 ++ lenR n8 16) ∧ Kept (Below B w2 wr)) (fun _ v8 _ => (RowKit.intOf v8 + 1).toNat)
      case atStart => exact ⟨16, b1, Nat.le_refl _, rfl, ho0, ⟨by rw [hl0.out]⟩, ⟨rfl⟩, HB⟩
      case round =>
        clear ho0 HB hg2
        obtain ⟨k, l, hk, rfl, HO, HLN, HL, HB⟩ := hrel
        obtain ⟨g, cap, rfl, hg1, hg2⟩ := HO.out.form
        cases k with
        | succ k =>
          rw [show (((k + 1 : Nat) : Int) - 1) = (k : Int) by omega]
          have q6 : IntKind.i64.wrap ((k : Int) - 1) = (k : Int) - 1 := by simp [IntKind.wrap, IntKind.signed, IntKind.bits]; omega
          obtain ⟨c, hc⟩ : ∃ c, 8 * k = c := ⟨_, rfl⟩
          have q3 : IntKind.i64.wrap (8 * (k : Int)) = (c : Int) := by rw [← hc]; simp [IntKind.wrap, IntKind.signed, IntKind.bits]; omega
          by_cases h8 : k < 8
          · obtain ⟨x, hx⟩ : ∃ x, n8 / 2 ^ c = x := ⟨_, rfl⟩
            have q4 : (n8 : Int) / 2 ^ c = (x : Int) := by rw [← hx]; simp
            have q4b : (n8 : Int) / 2 ^ min c 64 = (x : Int) := by rw [Nat.min_eq_left (by omega)]; exact q4
            obtain ⟨y, hy⟩ : ∃ y, UInt8.ofNat x = y := ⟨_, rfl⟩
            have q5 : IntKind.u8.wrap (x : Int) = (y.toNat : Int) := by rw [← hy]; simp [IntKind.wrap, IntKind.signed, IntKind.bits]
            have hlr : lenR n8 (k + 1) = y :: lenR n8 k := by rw [lenR, if_pos h8, hc, hx, hy]
            replace hlr := Kept.mk hlr
            clear hx hy hc
            have hln := HLN.out
            go_wp2_with (at_builtin; refine wpList_app1 _ rfl (.tmp 62) (.tmp 65) 37 rfl B 5 i8 (.int .u8 0) 1 Tryz.underlying37 hi hz0 hz1 hz2 rfl _ l.length _ rfl (HO.out.below (Below.alloc (Below.refl _ _) (Nat.le_refl _) _)) ⟨wr.heap.size, 0, none⟩ 1 (.int .u8 (y.toNat : Nat)) rfl (row_new wr [.int .u8 (y.toNat : Nat)] 5 0 _ rfl) rfl (by unfold maxLen; omega) (by omega) (by rw [World.size_alloc]; omega) ?_; intro v3 w3 ho3 hg3; have hB3 : Below B w2 w3 := (HB.out.alloc (by omega) _).grown hg3 (by rw [World.size_alloc]; omega) (fun k hk => Nat.le_trans hg1 (Nat.le_of_eq (by injection hk))); replace ho3 := Kept.mk ho3; replace hB3 := Kept.mk hB3; clear hg3)
            go_roundw
            case rel => exact ⟨k, l ++ [y], by omega, rfl, ⟨by have h := ho3.out; rw [List.length_append, byteCells_append]; exact h⟩, ⟨by have h := HLN.out; rw [List.length_append]; simp only [List.length_cons, List.length_nil]; omega⟩, ⟨by have h := HL.out; rw [hlr.out] at h; rw [List.append_assoc]; exact h⟩, hB3⟩
            case measure => first | (simp [RowKit.intOf]; done) | (simp [RowKit.intOf]; omega)
          · obtain ⟨y, hy⟩ : ∃ y, UInt8.ofNat 0 = y := ⟨_, rfl⟩
            have q5 : IntKind.u8.wrap 0 = 0 := by decide
            have hlr : lenR n8 (k + 1) = y :: lenR n8 k := by rw [lenR, if_neg h8, hy]
            replace hlr := Kept.mk hlr
            replace hy := Kept.mk hy
            clear hc
            have hln := HLN.out
            go_wp2_with (at_builtin; refine wpList_app1 _ rfl (.tmp 62) (.tmp 65) 37 rfl B 5 i8 (.int .u8 0) 1 Tryz.underlying37 hi hz0 hz1 hz2 rfl _ l.length _ rfl (HO.out.below (Below.alloc (Below.refl _ _) (Nat.le_refl _) _)) ⟨wr.heap.size, 0, none⟩ 1 (.int .u8 0) rfl (row_new wr [.int .u8 0] 5 0 _ rfl) rfl (by unfold maxLen; omega) (by omega) (by rw [World.size_alloc]; omega) ?_; intro v3 w3 ho3 hg3; have hB3 : Below B w2 w3 := (HB.out.alloc (by omega) _).grown hg3 (by rw [World.size_alloc]; omega) (fun k hk => Nat.le_trans hg1 (Nat.le_of_eq (by injection hk))); replace ho3 := Kept.mk ho3; replace hB3 := Kept.mk hB3; clear hg3)
            go_roundw
            case rel => exact ⟨k, l ++ [y], by omega, rfl, ⟨by have h := ho3.out; rw [List.length_append, byteCells_append]; rw [← hy.out]; exact h⟩, ⟨by have h := HLN.out; rw [List.length_append]; simp only [List.length_cons, List.length_nil]; omega⟩, ⟨by have h := HL.out; rw [hlr.out] at h; rw [List.append_assoc]; exact h⟩, hB3⟩
            case measure => first | (simp [RowKit.intOf]; done) | (simp [RowKit.intOf]; omega)
        | zero =>
          rw [show (((0 : Nat) : Int) - 1) = -1 from rfl]
          have hln := HLN.out
          have hlL : l = b1 ++ lenR n8 16 := by have h := HL.out; rw [lenR, List.append_nil] at h; exact h
          have hK14 : wr.cell? ⟨bk, 14, none⟩ = some (.slice (some ⟨gH, 0, none⟩) 8 cH) := by
            obtain ⟨fr, e⟩ := hkx.out.below HB.out hbk
            rw [kindC1] at e; rw [cell_of_row _ _ _ _ _ _ e]; rfl
          obtain ⟨T, hT⟩ : ∃ T, l.length = 128 * T := by
            have z2 := hZ2.out
            exact ⟨l.length / 128, by omega⟩
          have hTl : T ≤ 2000 := by omega
          clear HLN HL hln
          go_wp2
          have RH0 : RowAt wr gH hs := hrH2.out.below HB.out hgH2
          replace RH0 := Kept.mk RH0
          replace hlL := Kept.mk hlL
          replace hT := Kept.mk hT
          clear hK14 hg2
          go_loopw [10, 11] (fun v10 v11 wr => ∃ (m : Nat) (sm : List Nat) (gS cS : Nat), m ≤ T ∧ v11 = .int .i64 ((128 * m : Nat) : Int) ∧ v10 = .slice (some ⟨gS, 0, none⟩) 8 cS ∧ Kept (RowAt wr gS sm) ∧ Kept (sm.length = 8) ∧ Kept (∀ x ∈ sm, x < 18446744073709551616) ∧ Kept (OwnF wr B 5 (.slice (some ⟨g, 0, none⟩) l.length cap) l.length (byteCells l)) ∧ Kept (Below B w2 wr) ∧ Kept (blocksL true ks l (T - m) (128 * m) sm = blocksL true ks l T 0 hs)) (fun _ v11 _ => (128 * T - (RowKit.intOf v11).toNat))
          case atStart => exact ⟨0, hs, gH, cH, Nat.zero_le _, rfl, rfl, RH0, hhs, hhW, HO, HB, ⟨rfl⟩⟩
          case round =>
            clear RH0 HO HB
            rename World => wA
            obtain ⟨m, sm, gS, cS, hm, rfl, rfl, RS, hsl, hsW, HO, HB, HR⟩ := hrel
            obtain ⟨I, hI⟩ : ∃ I, 128 * m = I := ⟨_, rfl⟩
            rw [hI] at HR ⊢
            have hlT := hT.out
            have hK0 : wA.cell? ⟨bk, 0, none⟩ = some (.int .i64 64) := (HB.out.cell (p := ⟨bk, 0, none⟩) hbk).trans hK2.out
            by_cases hmt : m < T
            · have hIl : I + 128 ≤ l.length := by rw [hlT, ← hI]; omega
              have hIl2 : l.length ≤ 300000 := by omega
              have hIlt : (I : Int) < (l.length : Int) := by omega
              clear hlT
              go_wp2
              obtain ⟨Bw, hBw⟩ : ∃ Bw, wA.heap.size = Bw := ⟨_, rfl⟩
              have ow0 : (wA.alloc (.cells #[] 77)).ownsRow Bw 77 1 (.slice (some ⟨wA.heap.size, 0, none⟩) 0 0) 0 (u64C []) :=
                ⟨rfl, Or.inr ⟨wA.heap.size, 0, #[], rfl, Nat.le_of_eq hBw.symm, heap_alloc_new _ _, Nat.le_refl _, by unfold maxLen; omega, rfl, rfl⟩⟩
              have bw0 : Below Bw wA (wA.alloc (.cells #[] 77)) := by rw [← hBw]; exact Below.alloc (Below.refl _ _) (Nat.le_refl _) _
              have hgB : g < Bw := by rw [← hBw]; exact (HO.out.lt g rfl).2
              have hsB : gS < Bw := by rw [← hBw]; exact RS.out.1
              have hBBw : B ≤ Bw := by rw [← hBw]; exact Nat.le_trans (Nat.le_of_eq hB.out.symm) HB.out.size
              generalize wA.alloc (.cells #[] 77) = wi at ow0 bw0 ⊢
              generalize Value.slice (some ⟨wA.heap.size, 0, none⟩) 0 0 = vw0 at ow0 ⊢
              replace ow0 := Kept.mk ow0
              replace bw0 := Kept.mk bw0
              replace hBw := Kept.mk hBw
              clear hK0
              go_loopw [12, 13] (fun v12 v13 wi => ∃ (t : Nat) (ws : List Nat), t ≤ 16 ∧ v13 = .int .i64 (t : Int) ∧ Kept (wi.ownsRow Bw 77 1 v12 t (u64C ws)) ∧ Kept (ws.length = t) ∧ Kept (∀ x ∈ ws, x < 18446744073709551616) ∧ Kept (Below Bw wA wi) ∧ Kept (wordsL l I 8 (16 - t) t ws = wordsL l I 8 16 0 [])) (fun _ v13 _ => 16 - (RowKit.intOf v13).toNat)
              case atStart => exact ⟨0, [], Nat.zero_le _, rfl, ow0, ⟨rfl⟩, ⟨by intro x hx; cases hx⟩, bw0, ⟨rfl⟩⟩
              case round =>
                clear ow0 bw0
                rename World => wB
                obtain ⟨t, ws, ht, rfl, OW, hwl, hwW, BW, HW⟩ := hrel
                have bkB : bk < Bw := by omega
                have hK0 : wB.cell? ⟨bk, 0, none⟩ = some (.int .i64 64) := ((BW.out.cell (p := ⟨bk, 0, none⟩) bkB).trans (HB.out.cell (p := ⟨bk, 0, none⟩) hbk)).trans hK2.out
                by_cases ht16 : t < 16
                · go_wp2
                  have hfw : ∀ q, q < 8 → (l.getD (I + t * 8 + q) 0).toNat < 256 := fun q _ => (l.getD (I + t * 8 + q) 0).toNat_lt
                  go_loopw [14, 15] (fun v14 v15 wx => ∃ (q x : Nat), q ≤ 8 ∧ v15 = .int .i64 (q : Int) ∧ v14 = .int .u64 (x : Int) ∧ wx = wB ∧ Kept (foldW l (I + t * 8) (8 - q) q x = foldW l (I + t * 8) 8 0 0) ∧ x < 18446744073709551616) (fun _ v15 _ => 8 - (RowKit.intOf v15).toNat)
                  case atStart => exact ⟨0, 0, Nat.zero_le _, rfl, rfl, rfl, ⟨rfl⟩, by omega⟩
                  case round =>
                    obtain ⟨q, x, hq, rfl, rfl, rfl, HX, hxl⟩ := hrel
                    by_cases hqc : q < 8
                    · obtain ⟨a, ha⟩ : ∃ a, I + t * 8 + q = a := ⟨_, rfl⟩
                      obtain ⟨y, hy⟩ : ∃ y, l.getD a 0 = y := ⟨_, rfl⟩
                      have hal : a < l.length := by omega
                      have hcell : wr.cell? ⟨g, a, none⟩ = some (.int .u8 (y.toNat : Nat)) := by
                        rw [BW.out.cell (p := ⟨g, a, none⟩) hgB, HO.out.cell a hal, ← hy]
                        simp [byteCells, hal]
                      obtain ⟨tw, htw⟩ : ∃ z, t * 64 = z := ⟨_, rfl⟩
                      obtain ⟨tc, htc⟩ : ∃ z, t * 8 = z := ⟨_, rfl⟩
                      have p1 : IntKind.i64.wrap ((t : Int) * 64) = (tw : Int) := by rw [← htw]; simp [IntKind.wrap, IntKind.signed, IntKind.bits]; omega
                      have p2 : Int.tdiv (tw : Int) 8 = (tc : Int) := by rw [Int.tdiv_eq_ediv_of_nonneg (by omega)]; omega
                      have p3 : IntKind.i64.wrap ((I : Int) + (tc : Int)) = (I : Int) + (tc : Int) := by simp [IntKind.wrap, IntKind.signed, IntKind.bits]; omega
                      have p4 : IntKind.i64.wrap ((I : Int) + (tc : Int) + (q : Int)) = (a : Int) := by rw [← ha, ← htc]; simp [IntKind.wrap, IntKind.signed, IntKind.bits]; omega
                      obtain ⟨x8, hx8⟩ : ∃ z, x * 256 % 18446744073709551616 = z := ⟨_, rfl⟩
                      obtain ⟨x9, hx9⟩ : ∃ z, (x8 + y.toNat) % 18446744073709551616 = z := ⟨_, rfl⟩
                      have p5 : IntKind.u64.wrap ((x : Int) * 256) = (x8 : Int) := by rw [← hx8]; simp [IntKind.wrap, IntKind.signed, IntKind.bits]
                      have p5b : IntKind.u64.wrap ((x : Int) * 2 ^ 8) = (x8 : Int) := p5
                      have p6 : IntKind.u64.wrap (y.toNat : Int) = (y.toNat : Int) := by have := y.toNat_lt; simp [IntKind.wrap, IntKind.signed, IntKind.bits]; omega
                      have p7 : IntKind.u64.wrap ((x8 : Int) + (y.toNat : Int)) = (x9 : Int) := by rw [wrap_add, hx9]
                      have hfold : foldW l (I + t * 8) (8 - q) q x = foldW l (I + t * 8) (8 - (q + 1)) (q + 1) x9 := by
                        rw [show 8 - q = (8 - (q + 1)) + 1 by omega, foldW, ha, hy, hx8, hx9]
                      have hx9l : x9 < 18446744073709551616 := by rw [← hx9]; exact Nat.mod_lt _ (by decide)
                      replace hfold := Kept.mk hfold
                      clear htw hx8 hx9 hy
                      go_wp2
                      go_roundw
                      case rel => exact ⟨q + 1, x9, by omega, by go_num, rfl, trivial, ⟨by rw [← hfold.out]; exact HX.out⟩, hx9l⟩
                      case measure => first | (simp [RowKit.intOf]; done) | (simp [RowKit.intOf]; omega)
                    · obtain rfl : q = 8 := by omega
                      have hxv : foldW l (I + t * 8) 8 0 0 = x := by have h := HX.out; rw [Nat.sub_self, foldW] at h; exact h.symm
                      replace hxv := Kept.mk hxv
                      have hwz := BW.out.size
                      go_wp2_with (at_builtin; refine wpList_append_own _ rfl _ _ 73 rfl Bw 77 i6 (.int .u64 0) 1 8 Tryz.underlying73 hj6 hy60 hy61 hy62 rfl (by decide) _ _ _ rfl (OW.out.alloc _) ⟨wr.heap.size, 0, none⟩ 1 1 [.int .u64 (x : Nat)] rfl rfl (row_new wr [_] 77) (by intro u hu; simp at hu; subst hu; rfl) (by unfold maxLen; omega) (by omega) (by have := hBw.out; rw [World.size_alloc]; omega) ?_; intro v4 w4 ho4 hg4 hnil4; have hB4 : Below Bw wA w4 := (BW.out.alloc (by have := hBw.out; omega) _).grown hg4 (by have := hBw.out; rw [World.size_alloc]; omega) (fun k hk => (OW.out.lt k hk).1); replace ho4 := Kept.mk ho4; replace hB4 := Kept.mk hB4; clear hg4 hnil4)
                      go_roundw
                      case rel => exact ⟨t + 1, ws ++ [x], by omega, by go_num, ⟨by rw [u64C_append]; exact ho4.out⟩, ⟨by rw [List.length_append, hwl.out]; rfl⟩, ⟨by
                        intro z hz
                        rcases List.mem_append.1 hz with hz | hz
                        · exact hwW.out z hz
                        · simp at hz; subst hz; exact hxl⟩, hB4, ⟨by
                        have h := HW.out
                        rw [show 16 - t = (16 - (t + 1)) + 1 by omega, wordsL, hxv.out] at h
                        exact h⟩⟩
                      case measure => first | (simp [RowKit.intOf]; done) | (simp [RowKit.intOf]; omega)
                · obtain rfl : t = 16 := by omega
                  have hww : wordsL l I 8 16 0 [] = ws := by have h := HW.out; rw [Nat.sub_self, wordsL] at h; exact h.symm
                  replace hww := Kept.mk hww
                  have hKr : ∃ fr, wB.heap[bk]? = some (.cells (kindC true (.slice (some ⟨gK, 0, none⟩) 80 cK) (.slice (some ⟨gH, 0, none⟩) 8 cH)) 75 fr) := (hkx.out.below HB.out hbk).below BW.out bkB
                  obtain ⟨fr, hKr⟩ := hKr
                  replace hKr := Kept.mk hKr
                  have cB := block1_any gK gS cK cS Bw (.slice (some ⟨gH, 0, none⟩) 8 cH) _ ks sm ws wB hks.out hsl.out hwl.out hkW.out hsW.out hwW.out ((hrK2.out.below HB.out hgK2).below BW.out (by omega)) (RS.out.below BW.out hsB) OW.out (by have := BW.out.size; have := hBw.out; omega) (by omega) hsB
                  replace cB := Kept.mk cB
                  go_wp2_with (first
                    | (refine wpList_load_row rfl 75 (.tmp 6) rfl bk rfl 75 (kindC true (.slice (some ⟨gK, 0, none⟩) 80 cK) (.slice (some ⟨gH, 0, none⟩) 8 cH)) fr _ hKr.out Tryz.underlying75 rfl (by kernel_rfl) ?_)
                    | (go_at_call 57; refine cB.out.mono ?_; rintro e w4 ⟨g4, c4, hg4, rfl, hr4, hb4⟩; have hK5 := (hb4.cell (p := ⟨bk, 0, none⟩) bkB).trans hK0; replace hr4 := Kept.mk hr4; replace hb4 := Kept.mk hb4))
                  have p8 : IntKind.i64.wrap ((I : Int) + 128) = (I : Int) + 128 := by simp [IntKind.wrap, IntKind.signed, IntKind.bits]; omega
                  have hBww := BW.out.trans hb4.out
                  have hstep : blocksL true ks l (T - m) I sm = blocksL true ks l (T - (m + 1)) (128 * (m + 1)) (blockN true ks sm ws) := by
                    rw [show T - m = (T - (m + 1)) + 1 by omega, blocksL, show I + 2 * wd true = 128 * (m + 1) by (show I + 128 = _; omega)]
                    rw [show wordsL l I (wd true / 8) 16 0 [] = ws from hww.out]
                  replace hstep := Kept.mk hstep
                  go_roundw
                  case rel => exact ⟨m + 1, blockN true ks sm ws, g4, c4, by omega, by (rw [show (((128 * (m + 1) : Nat)) : Int) = (I : Int) + 128 by omega]), rfl, hr4, ⟨blockN_len _ _ _ _⟩, ⟨blockN_lt _ _ _ _ hsW.out⟩, ⟨HO.out.below (hBw.out.symm ▸ hBww)⟩, ⟨HB.out.trans (hBww.mono hBBw)⟩, ⟨by rw [← hstep.out]; exact HR.out⟩⟩
                  case measure => first | (simp [RowKit.intOf]; done) | (simp [RowKit.intOf]; omega)
            · obtain rfl : m = T := by omega
              have hsm : blocksL true ks l m 0 hs = sm := by have h := HR.out; rw [Nat.sub_self, blocksL] at h; exact h.symm
              replace hsm := Kept.mk hsm
              have hIeq : I = l.length := by omega
              have hIge : ¬ ((I : Int) < (l.length : Int)) := by omega
              have hdoc : docSum true ks hs s = dOutL true sm := by
                have hp : dPadL true s = l := by
                  rw [hlL.out, ← hb1.out]
                  unfold dPadL
                  rw [hn.out, hZ.out, show n * 8 % 18446744073709551616 = n8 by (rw [hn8.out]; have := hn8.out; omega)]
                  rfl
                unfold docSum
                rw [hp, show l.length / (2 * wd true) = m by (show l.length / 128 = m; omega), hsm.out]
              replace hdoc := Kept.mk hdoc
              clear hlT
              go_wp2
              obtain ⟨Bo, hBo⟩ : ∃ Bo, wA.heap.size = Bo := ⟨_, rfl⟩
              have oo0 : (wA.alloc (.cells #[] 5)).ownsRow Bo 5 1 (.slice (some ⟨wA.heap.size, 0, none⟩) 0 0) 0 (byteCells []) :=
                ⟨rfl, Or.inr ⟨wA.heap.size, 0, #[], rfl, Nat.le_of_eq hBo.symm, heap_alloc_new _ _, Nat.le_refl _, by unfold maxLen; omega, rfl, rfl⟩⟩
              have bo0 : Below Bo wA (wA.alloc (.cells #[] 5)) := by rw [← hBo]; exact Below.alloc (Below.refl _ _) (Nat.le_refl _) _
              have hsB : gS < Bo := by rw [← hBo]; exact RS.out.1
              have hBBo : B ≤ Bo := by rw [← hBo]; exact Nat.le_trans (Nat.le_of_eq hB.out.symm) HB.out.size
              generalize wA.alloc (.cells #[] 5) = wi at oo0 bo0 ⊢
              generalize Value.slice (some ⟨wA.heap.size, 0, none⟩) 0 0 = vw0 at oo0 ⊢
              replace oo0 := Kept.mk oo0
              replace bo0 := Kept.mk bo0
              replace hBo := Kept.mk hBo
              clear hK0
              go_loopw [16, 17] (fun v16 v17 wi => ∃ (i : Nat) (r : List UInt8), i ≤ 8 ∧ v17 = .int .i64 (i : Int) ∧ Kept (wi.ownsRow Bo 5 1 v16 r.length (byteCells r)) ∧ Kept (r.length = 8 * i) ∧ Kept (Below Bo wA wi) ∧ Kept (r ++ dOutL true (sm.drop i) = dOutL true sm)) (fun _ v17 _ => 8 - (RowKit.intOf v17).toNat)
              case atStart => exact ⟨0, [], Nat.zero_le _, rfl, oo0, ⟨rfl⟩, bo0, ⟨rfl⟩⟩
              case round =>
                clear oo0 bo0
                rename World => wB
                obtain ⟨i, r, hi8, rfl, OW, hrl, BW, HW⟩ := hrel
                have hK0 : wB.cell? ⟨bk, 0, none⟩ = some (.int .i64 64) := ((BW.out.cell (p := ⟨bk, 0, none⟩) (by show bk < Bo; omega)).trans (HB.out.cell (p := ⟨bk, 0, none⟩) hbk)).trans hK2.out
                by_cases hi : i < 8
                · obtain ⟨x, hx⟩ : ∃ x, sm.getD i 0 = x := ⟨_, rfl⟩
                  have hxl : x < 18446744073709551616 := by rw [← hx]; exact getD_lt hsW.out (by decide) i
                  have hdrop : dOutL true (sm.drop i) = dOutR x 8 ++ dOutL true (sm.drop (i + 1)) := by
                    rw [List.drop_eq_getElem_cons (by rw [hsl.out]; exact hi), dOutL, List.flatMap_cons]
                    rw [← hx, List.getD_eq_getElem?_getD, List.getElem?_eq_getElem (by rw [hsl.out]; exact hi)]
                    rfl
                  replace hdrop := Kept.mk hdrop
                  have hrl2 := hrl.out
                  have hiI : (i : Int) < 8 := by omega
                  go_wp2
                  go_loopw [16, 18] (fun v16 v18 wx => ∃ (k : Nat) (r2 : List UInt8), k ≤ 8 ∧ v18 = .int .i64 (8 * (k : Int) - 8) ∧ Kept (wx.ownsRow Bo 5 1 v16 r2.length (byteCells r2)) ∧ Kept (r2.length + k = 8 * i + 8) ∧ Kept (Below Bo wA wx) ∧ Kept (r2 ++ dOutR x k = r ++ dOutR x 8)) (fun _ v18 _ => (RowKit.intOf v18 + 8).toNat)
                  case atStart => exact ⟨8, r, Nat.le_refl _, rfl, OW, ⟨by omega⟩, BW, ⟨rfl⟩⟩
                  case round =>
                    clear OW BW
                    obtain ⟨k, r2, hk, rfl, OW, hr2, BW, HX⟩ := hrel
                    have hr22 := hr2.out
                    cases k with
                    | succ k =>
                      obtain ⟨d, hd⟩ : ∃ d, 8 * k = d := ⟨_, rfl⟩
                      rw [show 8 * ((k + 1 : Nat) : Int) - 8 = (d : Int) by omega]
                      have hcell : wr.cell? ⟨gS, i, none⟩ = some (.int .u64 (x : Nat)) := by
                        rw [BW.out.cell (p := ⟨gS, i, none⟩) hsB, RS.out.2 i (by rw [hsl.out]; exact hi), hx]
                      obtain ⟨z, hz⟩ : ∃ z, x / 2 ^ d = z := ⟨_, rfl⟩
                      have q4 : (x : Int) / 2 ^ d = (z : Int) := by rw [← hz]; simp
                      have q4b : (x : Int) / 2 ^ min d 64 = (z : Int) := by rw [Nat.min_eq_left (by omega)]; exact q4
                      obtain ⟨y, hy⟩ : ∃ y, UInt8.ofNat z = y := ⟨_, rfl⟩
                      have q5 : IntKind.u8.wrap (z : Int) = (y.toNat : Int) := by rw [← hy]; simp [IntKind.wrap, IntKind.signed, IntKind.bits]
                      have q6 : IntKind.i64.wrap ((d : Int) - 8) = (d : Int) - 8 := by simp [IntKind.wrap, IntKind.signed, IntKind.bits]; omega
                      have hlr : dOutR x (k + 1) = y :: dOutR x k := by rw [dOutR, hd, hz, hy]
                      replace hlr := Kept.mk hlr
                      replace hd := Kept.mk hd
                      have hwz := BW.out.size
                      clear hz hy
                      go_wp2_with (at_builtin; refine wpList_append_own _ rfl _ _ 37 rfl Bo 5 i8 (.int .u8 0) 1 1 Tryz.underlying37 hi7 hz0 hz1 hz2 rfl (by decide) _ _ _ rfl (OW.out.alloc _) ⟨wr.heap.size, 0, none⟩ 1 1 [.int .u8 (y.toNat : Nat)] rfl rfl (row_new wr [_] 5) (by intro u hu; simp at hu; subst hu; rfl) (by unfold maxLen; omega) (by omega) (by have := hBo.out; rw [World.size_alloc]; omega) ?_; intro v4 w4 ho4 hg4 hnil4; have hB4 : Below Bo wA w4 := (BW.out.alloc (by have := hBo.out; omega) _).grown hg4 (by have := hBo.out; rw [World.size_alloc]; omega) (fun k hk => (OW.out.lt k hk).1); replace ho4 := Kept.mk ho4; replace hB4 := Kept.mk hB4; clear hg4 hnil4)
                      go_roundw
                      case rel => exact ⟨k, r2 ++ [y], by omega, by (have := hd.out; congr 1; omega), ⟨by rw [List.length_append, byteCells_append]; exact ho4.out⟩, ⟨by rw [List.length_append]; simp only [List.length_cons, List.length_nil]; omega⟩, hB4, ⟨by have h := HX.out; rw [hlr.out] at h; rw [List.append_assoc]; exact h⟩⟩
                      case measure => first | (simp [RowKit.intOf]; done) | (simp [RowKit.intOf]; omega)
                    | zero =>
                      rw [show 8 * ((0 : Nat) : Int) - 8 = -8 from rfl]
                      go_wp2
                      go_roundw
                      case rel => exact ⟨i + 1, r2, by omega, by go_num, OW, ⟨by omega⟩, BW, ⟨by
                        have h := HX.out
                        rw [dOutR, List.append_nil] at h
                        rw [h, List.append_assoc, ← hdrop.out]
                        exact HW.out⟩⟩
                      case measure => first | (simp [RowKit.intOf]; done) | (simp [RowKit.intOf]; omega)
                · obtain rfl : i = 8 := by omega
                  have hr : dOutL true sm = r := by
                    have h := HW.out
                    rw [List.drop_of_length_le (by rw [hsl.out]; exact Nat.le_refl _), show dOutL true [] = [] from rfl, List.append_nil] at h
                    exact h.symm
                  obtain ⟨gO, cO, rfl, _, _⟩ := own_pos OW.out (by rw [hrl.out]; omega)
                  have hcv2 := conv_own OW.out
                  replace hr := Kept.mk hr
                  go_wp2
                  have hBz := hB.out
                  exact bodyPost_ret (v := .tuple #[.string (S r), .int .i64 0]) (by simp [results, Tryz.results32, go_sem]) rfl ⟨by rw [hdoc.out, hr.out], hbw2.out.trans ((HB.out.trans (BW.out.mono hBBo)).mono (by have := hbw2.out.size; omega))⟩
end Go.Proofs.YtgnblaaldpniiaaGreatDoor.Sh
end
section
set_option maxRecDepth 100000
set_option linter.unusedVariables false
set_option linter.unusedSimpArgs false
namespace Go.Proofs.YtgnblaaldpniiaaGreatDoor.Sh
open Go.RowKit Go.Lib
theorem and_u32 (a b : Nat) (ha : a < 2 ^ 32) (hb : b < 2 ^ 32) : bits .and .u32 (a : Int) (b : Int) = ((a &&& b : Nat) : Int) := by
  have hx : a &&& b < 2 ^ 32 := Nat.lt_of_le_of_lt Nat.and_le_left ha
  have h1 : (BitVec.ofInt 32 (a : Int)).toNat = a := by
    rw [BitVec.ofInt_natCast, BitVec.toNat_ofNat]; exact Nat.mod_eq_of_lt ha
  have h2 : (BitVec.ofInt 32 (b : Int)).toNat = b := by
    rw [BitVec.ofInt_natCast, BitVec.toNat_ofNat]; exact Nat.mod_eq_of_lt hb
  show IntKind.u32.wrap ((BitVec.ofInt 32 (a : Int) &&& BitVec.ofInt 32 (b : Int)).toNat : Int) = _
  rw [BitVec.toNat_and, h1, h2]
  simp [IntKind.wrap, IntKind.signed, IntKind.bits]
  omega
theorem or_u32 (a b : Nat) (ha : a < 2 ^ 32) (hb : b < 2 ^ 32) : bits .or .u32 (a : Int) (b : Int) = ((a ||| b : Nat) : Int) := by
  have hx : a ||| b < 2 ^ 32 := Nat.or_lt_two_pow ha hb
  have h1 : (BitVec.ofInt 32 (a : Int)).toNat = a := by
    rw [BitVec.ofInt_natCast, BitVec.toNat_ofNat]; exact Nat.mod_eq_of_lt ha
  have h2 : (BitVec.ofInt 32 (b : Int)).toNat = b := by
    rw [BitVec.ofInt_natCast, BitVec.toNat_ofNat]; exact Nat.mod_eq_of_lt hb
  show IntKind.u32.wrap ((BitVec.ofInt 32 (a : Int) ||| BitVec.ofInt 32 (b : Int)).toNat : Int) = _
  rw [BitVec.toNat_or, h1, h2]
  simp [IntKind.wrap, IntKind.signed, IntKind.bits]
  omega
theorem xor_u32 (a b : Nat) (ha : a < 2 ^ 32) (hb : b < 2 ^ 32) : bits .xor .u32 (a : Int) (b : Int) = ((a ^^^ b : Nat) : Int) := by
  have hx : a ^^^ b < 2 ^ 32 := Nat.xor_lt_two_pow ha hb
  have h1 : (BitVec.ofInt 32 (a : Int)).toNat = a := by
    rw [BitVec.ofInt_natCast, BitVec.toNat_ofNat]; exact Nat.mod_eq_of_lt ha
  have h2 : (BitVec.ofInt 32 (b : Int)).toNat = b := by
    rw [BitVec.ofInt_natCast, BitVec.toNat_ofNat]; exact Nat.mod_eq_of_lt hb
  show IntKind.u32.wrap ((BitVec.ofInt 32 (a : Int) ^^^ BitVec.ofInt 32 (b : Int)).toNat : Int) = _
  rw [BitVec.toNat_xor, h1, h2]
  simp [IntKind.wrap, IntKind.signed, IntKind.bits]
  omega
theorem not_u32 (a : Nat) (h : a < 2 ^ 32) : bits .xor .u32 IntKind.u32.max (a : Int) = ((2 ^ 32 - 1 - a : Nat) : Int) := by
  have h1 := xor_u32 (2 ^ 32 - 1) a (by omega) h
  have h3 := BitVec.toNat_not (x := BitVec.ofNat 32 a)
  have h4 : (BitVec.ofNat 32 a ^^^ BitVec.allOnes 32) = ~~~ (BitVec.ofNat 32 a) := BitVec.xor_allOnes
  rw [← h4, BitVec.toNat_xor, BitVec.toNat_allOnes, BitVec.toNat_ofNat, Nat.mod_eq_of_lt (by omega), Nat.xor_comm] at h3
  rw [← h3, ← h1]
  rfl
theorem wrapK (o : Bool) (x : Nat) : (KI o).wrap (x : Int) = ((x % 2 ^ wd o : Nat) : Int) := by
  cases o <;> simp [KI, wd, IntKind.wrap, IntKind.signed, IntKind.bits]
theorem andK (o : Bool) (a b : Nat) (ha : a < 2 ^ wd o) (hb : b < 2 ^ wd o) : bits .and (KI o) (a : Int) (b : Int) = ((a &&& b : Nat) : Int) := by
  cases o
  · exact and_u32 a b ha hb
  · exact and_u64 a b ha hb
theorem orK (o : Bool) (a b : Nat) (ha : a < 2 ^ wd o) (hb : b < 2 ^ wd o) : bits .or (KI o) (a : Int) (b : Int) = ((a ||| b : Nat) : Int) := by
  cases o
  · exact or_u32 a b ha hb
  · exact or_u64 a b ha hb
theorem xorK (o : Bool) (a b : Nat) (ha : a < 2 ^ wd o) (hb : b < 2 ^ wd o) : bits .xor (KI o) (a : Int) (b : Int) = ((a ^^^ b : Nat) : Int) := by
  cases o
  · exact xor_u32 a b ha hb
  · exact xor_u64 a b ha hb
theorem notK (o : Bool) (a : Nat) (ha : a < 2 ^ wd o) : bits .xor (KI o) (KI o).max (a : Int) = ((2 ^ wd o - 1 - a : Nat) : Int) := by
  cases o
  · exact not_u32 a ha
  · exact not_u64 a ha
theorem wordN_ltW (o : Bool) (x : Nat) : wordN o x < 2 ^ wd o := Nat.mod_lt _ (Nat.two_pow_pos _)
theorem wordN_mod (o : Bool) (x : Nat) : wordN o (x % 18446744073709551616) = wordN o x := by
  cases o
  · show x % 18446744073709551616 % 2 ^ 32 = x % 2 ^ 32
    omega
  · show x % 18446744073709551616 % 2 ^ 64 = x % 2 ^ 64
    omega
theorem rotK (o : Bool) (x n : Nat) (hx : x < 2 ^ wd o) (hn : n ≤ wd o) : rotI (KI o) (wd o) (x : Int) n = ((rotN o x n : Nat) : Int) := by
  unfold rotI rotN
  have e1 : (x : Int) / 2 ^ n = ((x / 2 ^ n : Nat) : Int) := by simp
  have e2 : (x : Int) * 2 ^ (wd o - n) = ((x * 2 ^ (wd o - n) : Nat) : Int) := by simp
  have l1 : x / 2 ^ n < 2 ^ wd o := Nat.lt_of_le_of_lt (Nat.div_le_self _ _) hx
  rw [e1, e2, wrapK, orK o _ _ l1 (Nat.mod_lt _ (Nat.two_pow_pos _))]
  congr 1
  unfold wordN
  rw [Nat.or_mod_two_pow, Nat.mod_eq_of_lt l1]
  congr 1
  cases o
  · show _ % 2 ^ 32 = _ % 18446744073709551616 % 2 ^ 32
    omega
  · show _ % 2 ^ 64 = _ % 18446744073709551616 % 2 ^ 64
    omega
theorem rotN_ltW (o : Bool) (x n : Nat) : rotN o x n < 2 ^ wd o := wordN_ltW o _
theorem xor_ltW (o : Bool) {a b : Nat} (ha : a < 2 ^ wd o) (hb : b < 2 ^ wd o) : a ^^^ b < 2 ^ wd o := Nat.xor_lt_two_pow ha hb
theorem tripK (o : Bool) (x a b c : Nat) (hx : x < 2 ^ wd o) (ha : a ≤ wd o) (hb : b ≤ wd o) (hc : c ≤ wd o) : tripI (KI o) (wd o) (x : Int) a b c = ((threeN o x a b c : Nat) : Int) := by
  unfold tripI threeN
  rw [rotK o x a hx ha, rotK o x b hx hb, rotK o x c hx hc, xorK o _ _ (rotN_ltW ..) (rotN_ltW ..), xorK o _ _ (xor_ltW o (rotN_ltW ..) (rotN_ltW ..)) (rotN_ltW ..)]
theorem twicK (o : Bool) (x a b c : Nat) (hx : x < 2 ^ wd o) (ha : a ≤ wd o) (hb : b ≤ wd o) : twicI (KI o) (wd o) (x : Int) a b c = ((twoN o x a b c : Nat) : Int) := by
  unfold twicI twoN
  have e1 : (x : Int) / 2 ^ c = ((x / 2 ^ c : Nat) : Int) := by simp
  have l1 : x / 2 ^ c < 2 ^ wd o := Nat.lt_of_le_of_lt (Nat.div_le_self _ _) hx
  rw [e1, rotK o x a hx ha, rotK o x b hx hb, xorK o _ _ (rotN_ltW ..) (rotN_ltW ..), xorK o _ _ (xor_ltW o (rotN_ltW ..) (rotN_ltW ..)) l1]
theorem aK (o : Bool) (x : Nat) (hx : x < 2 ^ wd o) : aI o (KI o) (x : Int) = ((cA o x : Nat) : Int) := by
  unfold aI cA
  cases o
  · rw [if_neg (by decide), if_neg (by decide)]; exact tripK false x 2 13 22 hx (by decide) (by decide) (by decide)
  · rw [if_pos rfl, if_pos rfl]; exact tripK true x 28 34 39 hx (by decide) (by decide) (by decide)
theorem bK (o : Bool) (x : Nat) (hx : x < 2 ^ wd o) : bI o (KI o) (x : Int) = ((cB o x : Nat) : Int) := by
  unfold bI cB
  cases o
  · rw [if_neg (by decide), if_neg (by decide)]; exact tripK false x 6 11 25 hx (by decide) (by decide) (by decide)
  · rw [if_pos rfl, if_pos rfl]; exact tripK true x 14 18 41 hx (by decide) (by decide) (by decide)
theorem cK (o : Bool) (x : Nat) (hx : x < 2 ^ wd o) : cI o (KI o) (x : Int) = ((cC o x : Nat) : Int) := by
  unfold cI cC
  cases o
  · rw [if_neg (by decide), if_neg (by decide)]; exact twicK false x 7 18 3 hx (by decide) (by decide)
  · rw [if_pos rfl, if_pos rfl]; exact twicK true x 1 8 7 hx (by decide) (by decide)
theorem dK (o : Bool) (x : Nat) (hx : x < 2 ^ wd o) : dI o (KI o) (x : Int) = ((cD o x : Nat) : Int) := by
  unfold dI cD
  cases o
  · rw [if_neg (by decide), if_neg (by decide)]; exact twicK false x 17 19 10 hx (by decide) (by decide)
  · rw [if_pos rfl, if_pos rfl]; exact twicK true x 19 61 6 hx (by decide) (by decide)
end Go.Proofs.YtgnblaaldpniiaaGreatDoor.Sh
end
