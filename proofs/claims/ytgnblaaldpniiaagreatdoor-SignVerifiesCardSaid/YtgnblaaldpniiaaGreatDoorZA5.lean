/- Package field: the number of bytes.
Package field: the bytes of a number.
Package field: elements. -/
import Derived.Test.YtgnblaaldpniiaaGreatDoorZA4
import Derived.BigRegion
section
set_option linter.unusedSimpArgs false
set_option linter.unusedVariables false
set_option maxRecDepth 100000
namespace Go.Proofs.YtgnblaaldpniiaaGreatDoor
open Go.RowKit
def numB (l : List UInt8) : Nat := valB 256 (l.map (·.toNat))
def w4 (l : List UInt8) (i : Nat) : Nat := (l.getD (4 * i) 0).toNat + 256 * (l.getD (4 * i + 1) 0).toNat + 65536 * (l.getD (4 * i + 2) 0).toNat + 16777216 * (l.getD (4 * i + 3) 0).toNat
theorem w4_lt (l : List UInt8) (i : Nat) : w4 l i < 4294967296 := by
  unfold w4
  have h0 := (l.getD (4 * i) 0).toNat_lt
  have h1 := (l.getD (4 * i + 1) 0).toNat_lt
  have h2 := (l.getD (4 * i + 2) 0).toNat_lt
  have h3 := (l.getD (4 * i + 3) 0).toNat_lt
  omega
theorem four_words : ∀ (n : Nat) (l : List UInt8), l.length = 4 * n → valB 4294967296 ((List.range n).map (w4 l)) = numB l
  | 0, l, h => by
    have : l = [] := List.eq_nil_of_length_eq_zero (by omega)
    subst this; rfl
  | n + 1, l, h => by
    match l, h with
    | a :: b :: c :: d :: r, h =>
      have ih := four_words n r (by simp at h; omega)
      rw [List.range_succ_eq_map, List.map_cons, List.map_map, valB]
      have e : (List.range n).map (w4 (a :: b :: c :: d :: r) ∘ Nat.succ) = (List.range n).map (w4 r) := by
        refine List.map_congr_left fun i _ => ?_
        simp only [Function.comp, w4]
        rw [show 4 * i.succ = 4 * i + 4 by omega]
        simp
      rw [e, ih]
      simp [numB, valB, w4]
      omega
theorem bits_or_u32 (a b : Nat) (ha : a < 4294967296) (hb : b < 4294967296) : bits .or .u32 (a : Int) (b : Int) = ((a ||| b : Nat) : Int) := by
  have hx : a ||| b < 2 ^ 32 := Nat.or_lt_two_pow (by omega) (by omega)
  have h1 : (BitVec.ofInt 32 (a : Int)).toNat = a := by
    rw [BitVec.ofInt_natCast, BitVec.toNat_ofNat]; exact Nat.mod_eq_of_lt (by omega)
  have h2 : (BitVec.ofInt 32 (b : Int)).toNat = b := by
    rw [BitVec.ofInt_natCast, BitVec.toNat_ofNat]; exact Nat.mod_eq_of_lt (by omega)
  show IntKind.u32.wrap ((BitVec.ofInt 32 (a : Int) ||| BitVec.ofInt 32 (b : Int)).toNat : Int) = _
  rw [BitVec.toNat_or, h1, h2]
  simp [IntKind.wrap, IntKind.signed, IntKind.bits]
  omega
theorem or_shift (a b k : Nat) (h : a < 2 ^ k) : a ||| b * 2 ^ k = a + b * 2 ^ k := by
  rw [Nat.or_comm, Nat.mul_comm, ← Nat.two_pow_add_eq_or_of_lt h]
  omega
theorem or4 (a b c d : Nat) (ha : a < 256) (hb : b < 256) (hc : c < 256) (hd : d < 256) :
    bits .or .u32 (bits .or .u32 (bits .or .u32 ((a : Int) % 4294967296) ((b : Int) % 4294967296 * 256 % 4294967296)) ((c : Int) % 4294967296 * 65536 % 4294967296)) ((d : Int) % 4294967296 * 16777216 % 4294967296) = ((a + 256 * b + 65536 * c + 16777216 * d : Nat) : Int) := by
  rw [show (a : Int) % 4294967296 = (a : Int) by omega, show (b : Int) % 4294967296 * 256 % 4294967296 = ((b * 256 : Nat) : Int) by omega, show (c : Int) % 4294967296 * 65536 % 4294967296 = ((c * 65536 : Nat) : Int) by omega,
    show (d : Int) % 4294967296 * 16777216 % 4294967296 = ((d * 16777216 : Nat) : Int) by omega]
  rw [bits_or_u32 a (b * 256) (by omega) (by omega), show a ||| b * 256 = a + b * 256 from or_shift a b 8 (by omega)]
  rw [bits_or_u32 (a + b * 256) (c * 65536) (by omega) (by omega), show (a + b * 256) ||| c * 65536 = a + b * 256 + c * 65536 from or_shift _ c 16 (by omega)]
  rw [bits_or_u32 (a + b * 256 + c * 65536) (d * 16777216) (by omega) (by omega), show (a + b * 256 + c * 65536) ||| d * 16777216 = a + b * 256 + c * 65536 + d * 16777216 from or_shift _ d 24 (by omega)]
  congr 1
  omega
theorem cut4 (l : List UInt8) (k : Nat) (h : k + 4 ≤ l.length) : (S l).extract k (k + 4) = S [l.getD k 0, l.getD (k + 1) 0, l.getD (k + 2) 0, l.getD (k + 3) 0] := by
  apply ByteArray.ext
  apply Array.ext'
  rw [ByteArray.data_extract, Array.toList_extract]
  show (l.drop k).take (k + 4 - k) = _
  rw [show k + 4 - k = 4 by omega]
  have e := drop_cons l k (by rw [S_size]; omega)
  have e1 := drop_cons l (k + 1) (by rw [S_size]; omega)
  have e2 := drop_cons l (k + 2) (by rw [S_size]; omega)
  have e3 := drop_cons l (k + 3) (by rw [S_size]; omega)
  rw [byte_at] at e e1 e2 e3
  rw [e, e1, e2, e3]
  simp [S]
set_option maxHeartbeats 1000000 in
theorem parse_any (l : List UInt8) (hl : l.length = 32) (wS : World) : Calls Tryz.prog 113 #[.string (S l)] wS (NP (numB l) wS) := by
  have hsz : (S l).size = 32 := by rw [S_size, hl]
  have hres : nL (numB l) = (List.range 8).map (w4 l) := (nL_of _ _ (by simp) (fun x hx => by obtain ⟨i, _, rfl⟩ := List.mem_map.1 hx; exact w4_lt l i) (four_words 8 l (by omega))).symm
  have hz := zero_num
  have z0 : (numA 0) = (numC .u32 (List.replicate 8 0)).toArray := rfl
  obtain ⟨Z, hZ⟩ : ∃ Z, numA 0 = Z := ⟨_, rfl⟩
  rw [hZ] at hz z0
  have hs8 : Z.size = 8 := by rw [z0]; simp [numC]
  replace hres := Kept.mk hres
  replace z0 := Kept.mk z0
  replace hl := Kept.mk hl
  replace hs8 := Kept.mk hs8
  replace hZ := Kept.mk hZ
  replace hsz := Kept.mk hsz
  go_enter Tryz.func113, Tryz.ntmps113
  go_wp2
  have h3 : ((wS.alloc (.cells Z 118)).alloc (.cells Z 118)).heap[wS.heap.size]? = some (.cells Z 118 (0, 0)) := by
    rw [(Below.alloc (Below.refl _ (wS.alloc (.cells Z 118))) (Nat.le_refl _) (.cells Z 118)).block wS.heap.size (by simp)]
    exact heap_alloc_new wS _
  have h5 : Arr ((wS.alloc (.cells Z 118)).alloc (.cells Z 118)) (wS.heap.size + 1) 118 .u32 (List.replicate 8 0) := by
    have h := Arr.new (wS.alloc (.cells Z 118)) 118 .u32 (List.replicate 8 0)
    rw [← z0.out, World.size_alloc] at h
    exact h
  have h4 : Below wS.heap.size wS ((wS.alloc (.cells Z 118)).alloc (.cells Z 118)) := ((Below.refl _ _).alloc (Nat.le_refl _) _).alloc (by simp) _
  generalize (wS.alloc (.cells Z 118)).alloc (.cells Z 118) = w0 at h3 h4 h5 ⊢
  obtain ⟨n, hn⟩ : ∃ n, wS.heap.size = n := ⟨_, rfl⟩
  rw [hn] at h3 h5 ⊢
  replace h3 := Kept.mk h3
  replace h4 := Kept.mk h4
  replace h5 := Kept.mk h5
  replace hn := Kept.mk hn
  obtain ⟨z8, hz8⟩ : ∃ z, List.replicate 8 0 = z := ⟨_, rfl⟩
  rw [hz8] at h5
  have hzl : z8.length = 8 := by rw [← hz8]; rfl
  replace hz8 := Kept.mk hz8
  replace hzl := Kept.mk hzl
  go_loopw [6] (fun v6 wr => ∃ (i : Nat), i ≤ 8 ∧ v6 = .int .i64 (i : Int) ∧ Kept (wr.heap[n]? = some (.cells Z 118 (0, 0))) ∧ Kept (Arr wr (n + 1) 118 .u32 ((List.range i).map (w4 l) ++ z8.drop i)) ∧ Kept (Below wS.heap.size wS wr)) (fun v6 _ => 8 - (RowKit.intOf v6).toNat)
  case atStart => exact ⟨0, by omega, rfl, h3, ⟨by have h := h5.out; exact h⟩, h4⟩
  case round =>
    clear h3 h4 h5
    obtain ⟨i, hi, rfl, H3, H5, H4⟩ := hrel
    by_cases hlt : i < 8
    · have hlti : (i : Int) < 8 := by omega
      have k1 : IntKind.i64.wrap (4 * (i : Int)) = 4 * (i : Int) := by simp [IntKind.wrap, IntKind.signed, IntKind.bits]; omega
      have k2 : IntKind.i64.wrap (4 * (i : Int) + 4) = 4 * (i : Int) + 4 := by simp [IntKind.wrap, IntKind.signed, IntKind.bits]; omega
      have hs := hsz.out
      go_wp2
      obtain ⟨b0, hb0⟩ : ∃ b, l.getD (4 * i) 0 = b := ⟨_, rfl⟩
      obtain ⟨b1, hb1⟩ : ∃ b, l.getD (4 * i + 1) 0 = b := ⟨_, rfl⟩
      obtain ⟨b2, hb2⟩ : ∃ b, l.getD (4 * i + 2) 0 = b := ⟨_, rfl⟩
      obtain ⟨b3, hb3⟩ : ∃ b, l.getD (4 * i + 3) 0 = b := ⟨_, rfl⟩
      have he : (S l).extract (4 * i) (4 * i + 4) = S [b0, b1, b2, b3] := by
        rw [cut4 l (4 * i) (by rw [hl.out]; omega), hb0, hb1, hb2, hb3]
      have hw : w4 l i = b0.toNat + 256 * b1.toNat + 65536 * b2.toNat + 16777216 * b3.toNat := by unfold w4; rw [hb0, hb1, hb2, hb3]
      rw [he]
      have hq : (S [b0, b1, b2, b3]).size = 4 := rfl
      have l0 := b0.toNat_lt
      have l1 := b1.toNat_lt
      have l2 := b2.toNat_lt
      have l3 := b3.toNat_lt
      clear hs k1 k2 he
      replace hw := Kept.mk hw
      replace hb0 := Kept.mk hb0
      replace hb1 := Kept.mk hb1
      replace hb2 := Kept.mk hb2
      replace hb3 := Kept.mk hb3
      refine wp_region_from_tail 20 (by kernel_rfl) (by kernel_rfl) ?_
      simp only [List.take_succ_cons, List.take_zero, List.drop_succ_cons, List.drop_zero]
      repeat (go_big_quiet_step (fail))
      refine wpQuiet_nil ?_
      intro w5 hw5
      have e0 : (S [b0, b1, b2, b3])[0] = b0 := rfl
      have e1 : (S [b0, b1, b2, b3])[1] = b1 := rfl
      have e2 : (S [b0, b1, b2, b3])[2] = b2 := rfl
      have e3 : (S [b0, b1, b2, b3])[3] = b3 := rfl
      rw [e0, e1, e2, e3, or4 _ _ _ _ l0 l1 l2 l3, ← hw.out]
      have hdz := drop_getD z8 i (by rw [hzl.out]; omega)
      have hln : ((List.range i).map (w4 l)).length = i := by simp
      have H55 := H5.out.from hw5.of_drew
      have f5 := H55.frozen i
      have c5 := H55.cellMid hdz hln
      have h35 := (hw5.of_drew.block n (Array.getElem?_eq_some_iff.1 H3.out).1).trans H3.out
      have b5 := H4.out.trans (hw5.of_drew.mono H4.out.size)
      replace hdz := Kept.mk hdz
      replace hln := Kept.mk hln
      replace H55 := Kept.mk H55
      replace h35 := Kept.mk h35
      replace b5 := Kept.mk b5
      clear e0 e1 e2 e3 hq hw5
      go_wp2
      go_roundw
      case rel => exact ⟨i + 1, by omega, val_eq (by omega), ⟨(Below.heap_setCell w5 ⟨n + 1, i, none⟩ _ n (by simp)).trans h35.out⟩, ⟨by
        have h := H55.out.step hdz.out hln.out (w4 l i) (v := (w4 l i : Nat)) rfl
        rw [List.range_succ, List.map_append]
        exact h⟩, ⟨b5.out.setCell (by show wS.heap.size ≤ n + 1; rw [hn.out]; omega) _⟩⟩
      case measure => simp [RowKit.intOf]; omega
    · obtain rfl : i = 8 := by omega
      have hA : Arr wr (n + 1) 118 .u32 (nL (numB l)) := by
        have h := H5.out
        rw [List.drop_eq_nil_of_le (by rw [hzl.out]; omega), List.append_nil, ← hres.out] at h
        exact h
      replace hA := Kept.mk hA
      clear H5 hi
      go_wp2_with (first
        | (refine wpList_load_row rfl 118 (.tmp 3) rfl (n + 1) rfl 118 (numA (numB l)) (0, 0) _ hA.out.blk Tryz.underlying118 rfl ?_ ?_; (rw [infoN, numA_size]))
        | (refine wpList_store_row rfl 118 (.tmp 2) (.tmp 37) rfl n (numA (numB l)) rfl rfl 118 Z H3.out ?_ ?_ (numA_one _) ?_; (rw [infoN, numA_size]); (rw [hs8.out, numA_size])))
      exact bodyPost_ret (results_cell_row (p := 2) (ty := 118) Tryz.results113 _ _ n 118 (numA (numB l)) (0, 0) _ rfl (setRow_heap _ _ _ _ _ _ H3.out) Tryz.underlying118 rfl (numA_info _)) rfl
        ⟨rfl, below_setRow H4.out (by rw [hn.out]; omega) _⟩
end Go.Proofs.YtgnblaaldpniiaaGreatDoor
end
section
set_option linter.unusedSimpArgs false
set_option linter.unusedVariables false
set_option maxRecDepth 100000
namespace Go.Proofs.YtgnblaaldpniiaaGreatDoor
open Go.RowKit
def b4 (y : Nat) : List UInt8 := [UInt8.ofNat y, UInt8.ofNat (y / 256), UInt8.ofNat (y / 65536), UInt8.ofNat (y / 16777216)]
def leB (x : Nat) : List UInt8 := (nL x).flatMap b4
theorem flat_len : ∀ (ws : List Nat), (ws.flatMap b4).length = 4 * ws.length
  | [] => rfl
  | y :: r => by rw [List.flatMap_cons, List.length_append, flat_len r, List.length_cons]; simp [b4]; omega
theorem flat_val : ∀ (ws : List Nat), (∀ x ∈ ws, x < 4294967296) → numB (ws.flatMap b4) = valB 4294967296 ws
  | [], _ => rfl
  | y :: r, h => by
    have ih := flat_val r fun z hz => h z (by simp [hz])
    have hy := h y (by simp)
    rw [List.flatMap_cons, valB, ← ih]
    simp [b4, numB, valB]
    omega
theorem leB_len (x : Nat) : (leB x).length = 32 := by unfold leB; rw [flat_len, nL_len]
theorem numB_leB (x : Nat) (h : x < big) : numB (leB x) = x := by unfold leB; rw [flat_val _ (nL_lt x), nL_val x h]
theorem bytes_of (l : List UInt8) : (limbs 256 l.length (numB l)).map UInt8.ofNat = l := by
  unfold numB
  have h := limbs_val (B := 256) (by decide) (l.map (·.toNat)) (fun x hx => by obtain ⟨b, _, rfl⟩ := List.mem_map.1 hx; exact b.toNat_lt)
  rw [List.length_map] at h
  rw [h, List.map_map]
  conv => rhs; rw [← List.map_id l]
  refine List.map_congr_left fun b _ => ?_
  simp
theorem leB_numB (l : List UInt8) (h : l.length = 32) (hb : numB l < big) : leB (numB l) = l := by
  rw [← bytes_of (leB (numB l)), leB_len, numB_leB _ hb, ← h, bytes_of]
theorem numB_lt (l : List UInt8) (h : l.length = 32) : numB l < big := by
  have h2 := valB_lt (B := 256) (by decide) (l.map (·.toNat)) (fun x hx => by obtain ⟨b, _, rfl⟩ := List.mem_map.1 hx; exact b.toNat_lt)
  rw [List.length_map, h, show (256 : Nat) ^ 32 = big by decide +kernel] at h2
  exact h2
theorem leB_inj {x y : Nat} (hx : x < big) (hy : y < big) (h : leB x = leB y) : x = y := by rw [← numB_leB x hx, ← numB_leB y hy, h]
def BytesPost (x : Nat) (w : World) (e : Ending) (w' : World) : Prop := e = .returned (.string (S (leB x))) ∧ Below w.heap.size w w'
theorem byte0 (y : Nat) : (y : Int) % 256 = ((UInt8.ofNat y).toNat : Int) := by simp
theorem byte1 (y : Nat) : (y : Int) / 256 % 256 = ((UInt8.ofNat (y / 256)).toNat : Int) := by simp
theorem byte2 (y : Nat) : (y : Int) / 65536 % 256 = ((UInt8.ofNat (y / 65536)).toNat : Int) := by simp
theorem byte3 (y : Nat) (h : y < 4294967296) : (y : Int) / 16777216 = ((UInt8.ofNat (y / 16777216)).toNat : Int) := by simp; omega
theorem b4_cells (y : Nat) : Lib.byteCells (b4 y) = [Value.int .u8 ((UInt8.ofNat y).toNat : Nat), Value.int .u8 ((UInt8.ofNat (y / 256)).toNat : Nat), Value.int .u8 ((UInt8.ofNat (y / 65536)).toNat : Nat), Value.int .u8 ((UInt8.ofNat (y / 16777216)).toNat : Nat)] := rfl
set_option maxHeartbeats 1000000 in
theorem bytes_any (x : Nat) (wS : World) : Calls Tryz.prog 120 #[numV x] wS (BytesPost x wS) := by
  obtain ⟨i0, hi0, hz0, hz1, hz2⟩ := info_parts info5
  obtain ⟨a, ha⟩ : ∃ a, nL x = a := ⟨_, rfl⟩
  have hal : a.length = 8 := by rw [← ha, nL_len]
  have haW : ∀ x ∈ a, x < 4294967296 := ha ▸ nL_lt x
  obtain ⟨tot, htot⟩ : ∃ t, leB x = t := ⟨_, rfl⟩
  have htt : a.flatMap b4 = tot := by rw [← htot, ← ha]; rfl
  unfold BytesPost
  rw [htot]
  obtain ⟨A, hA⟩ : ∃ A, (numC .u32 a).toArray = A := ⟨_, rfl⟩
  unfold numV aggN
  rw [ha, hA]
  replace ha := Kept.mk ha
  replace hal := Kept.mk hal
  replace haW := Kept.mk haW
  replace htt := Kept.mk htt
  replace htot := Kept.mk htot
  go_enter Tryz.func120, Tryz.ntmps120
  go_wp2_with (refine wpList_make_own _ rfl _ _ 37 rfl (wS.heap.size + 1) 5 i0 (.int .u8 0) 1 Tryz.underlying37 hi0 hz0 hz1 .i64 .i64 32 32 rfl rfl rfl (by rw [hz2]; omega) (by unfold maxLen; omega) (by simp) ?_; intro w1 ho1 hg1)
  have h1 : Arr w1 wS.heap.size 118 .u32 a := by
    have h := Arr.new wS 118 .u32 a
    rw [hA] at h
    exact h.of_heap (hg1.block _ (by simp) (by intro e; cases e))
  have h4 : Below wS.heap.size wS w1 := ((Below.refl _ _).alloc (Nat.le_refl _) _).grown hg1 (by simp) (fun _ e => by cases e)
  have hsz1 : wS.heap.size + 1 ≤ w1.heap.size := by have := hg1.size; simpa using this
  replace hA := Kept.mk hA
  clear hg1
  obtain ⟨n, hn⟩ : ∃ n, wS.heap.size = n := ⟨_, rfl⟩
  rw [World.size_alloc] at ho1
  rw [hn] at h1 ho1 hsz1 ⊢
  generalize Value.slice (some ⟨n + 1, 0, none⟩) 0 32 = v0 at ho1 ⊢
  replace h1 := Kept.mk h1
  replace h4 := Kept.mk h4
  replace ho1 := Kept.mk ho1
  replace hn := Kept.mk hn
  go_loopw [3, 6] (fun v3 v6 wr => ∃ (i : Nat) (acc : List UInt8), i ≤ 8 ∧ v6 = .int .i64 (i : Int) ∧ Kept (acc.length = 4 * i) ∧ Kept (wr.ownsRow (n + 1) 5 1 v3 acc.length (Lib.byteCells acc)) ∧ n + 1 ≤ wr.heap.size ∧ Kept (Arr wr n 118 .u32 a) ∧ Kept (Below wS.heap.size wS wr) ∧ Kept (acc ++ (a.drop i).flatMap b4 = tot)) (fun _ v6 _ => 8 - (RowKit.intOf v6).toNat)
  case atStart => exact ⟨0, [], by omega, rfl, ⟨rfl⟩, ho1, hsz1, h1, h4, htt⟩
  case round =>
    clear h1 h4 ho1 hsz1
    obtain ⟨i, acc, hi, rfl, hacl, HO, hsz, H1, H4, HT⟩ := hrel
    obtain ⟨AA, cap, rfl⟩ := own_form HO.out
    have hle : acc.length ≤ 32 := by have := hacl.out; omega
    by_cases hlt : i < 8
    · obtain ⟨y, hy⟩ : ∃ y, a.getD i 0 = y := ⟨_, rfl⟩
      have hda := drop_getD a i (by rw [hal.out]; exact hlt)
      rw [hy] at hda
      have hyl : y < 4294967296 := hy ▸ getD_ltN haW.out i (by rw [hal.out]; exact hlt)
      have c1 : ∀ u : Held (From wr.drew), u.w.cell? ⟨n, i, none⟩ = some (.int .u32 (y : Int)) := fun u => hy ▸ (H1.out.from u.h.of_drew).cell i (by rw [hal.out]; exact hlt)
      have hlti : (i : Int) < 8 := by omega
      replace hy := Kept.mk hy
      replace hda := Kept.mk hda
      go_wp2
      refine wp_region_from_tailP 20 0 _ (.tmp 3) rfl rfl rfl (by kernel_rfl) (by kernel_rfl) (fun _ _ _ h => h) ?_
      simp only [List.take_succ_cons, List.take_zero, List.drop_succ_cons, List.drop_zero, List.eraseIdx_cons_zero, Act.put, Act.eval, List.setIfInBounds_toArray, List.set_cons_succ, List.set_cons_zero, Array.getD_eq_getD_getElem?, List.getElem?_toArray, List.getElem?_cons_succ, List.getElem?_cons_zero, Option.getD_some]
      repeat (go_big_quiet_step (fail))
      refine wpQuiet_nil ?_
      intro w5 hw5
      rw [byte0, byte1, byte2, byte3 y hyl]
      have H15 := H1.out.from hw5.of_drew
      have b5 := H4.out.trans (hw5.of_drew.mono H4.out.size)
      have o5 := ownsRow_below HO.out hw5.of_drew
      have s5 : n + 1 ≤ w5.heap.size := Nat.le_trans hsz hw5.of_drew.size
      replace H15 := Kept.mk H15
      replace b5 := Kept.mk b5
      replace o5 := Kept.mk o5
      have hb4 := Kept.mk (b4_cells y)
      obtain ⟨e0, he0⟩ : ∃ e, (UInt8.ofNat y).toNat = e := ⟨_, rfl⟩
      obtain ⟨e1, he1⟩ : ∃ e, (UInt8.ofNat (y / 256)).toNat = e := ⟨_, rfl⟩
      obtain ⟨e2, he2⟩ : ∃ e, (UInt8.ofNat (y / 65536)).toNat = e := ⟨_, rfl⟩
      obtain ⟨e3, he3⟩ : ∃ e, (UInt8.ofNat (y / 16777216)).toNat = e := ⟨_, rfl⟩
      rw [he0, he1, he2, he3] at hb4 ⊢
      replace he0 := Kept.mk he0
      replace he1 := Kept.mk he1
      replace he2 := Kept.mk he2
      replace he3 := Kept.mk he3
      clear c1 hw5 HO H1 H4
      go_wp2_with (at_builtin; refine wpList_append_own _ rfl _ _ 37 rfl (n + 1) 5 i0 (.int .u8 0) 1 1 Tryz.underlying37 hi0 hz0 hz1 hz2 rfl (by decide) _ _ _ rfl (o5.out.alloc _) ⟨w5.heap.size, 0, none⟩ 4 4 [.int .u8 (e0 : Int), .int .u8 (e1 : Int), .int .u8 (e2 : Int), .int .u8 (e3 : Int)] rfl rfl ?c1 ?c2 ?c3 ?c4 ?c5 ?_)
      case c1 => exact row_new w5 [_, _, _, _] 5
      case c2 => intro u hu; simp at hu; rcases hu with rfl | rfl | rfl | rfl <;> rfl
      case c3 => unfold maxLen; omega
      case c4 => omega
      case c5 => rw [World.size_alloc]; omega
      intro v' w7 ho7 hgr _
      have hown := o5.out
      have hAA : ∀ g, (Value.slice AA acc.length cap).ownBlock = some g → n + 1 ≤ g := fun g hg => (hown.lt g hg).1
      have H17 : Arr w7 n 118 .u32 a := (H15.out.from ((Below.refl _ _).alloc (Nat.le_refl _) _)).of_heap (hgr.block n (by rw [World.size_alloc]; omega) (fun e => by have := hAA n e.symm; omega))
      have b7 : Below wS.heap.size wS w7 := (b5.out.alloc (by rw [hn.out]; omega) _).grown hgr (by rw [World.size_alloc, hn.out]; omega) (fun g hg => by have := hAA g hg; rw [hn.out]; omega)
      have s7 : n + 1 ≤ w7.heap.size := by have := hgr.size; rw [World.size_alloc] at this; omega
      have ho8 : w7.ownsRow (n + 1) 5 1 v' (acc ++ b4 y).length (Lib.byteCells (acc ++ b4 y)) := by
        rw [Lib.byteCells_append, List.length_append, hb4.out]; exact ho7
      clear ho7 hgr hown hAA
      replace H17 := Kept.mk H17
      replace b7 := Kept.mk b7
      replace ho8 := Kept.mk ho8
      go_wp2
      go_roundw
      case rel => exact ⟨i + 1, acc ++ b4 y, by omega, val_eq (by omega), ⟨by have := hacl.out; rw [List.length_append]; simp [b4]; omega⟩, ho8, s7, H17, b7, ⟨by have h := HT.out; rw [hda.out, List.flatMap_cons] at h; rw [List.append_assoc]; exact h⟩⟩
      case measure => simp [RowKit.intOf]; omega
    · obtain rfl : i = 8 := by omega
      have hd : acc = tot := by have h := HT.out; rw [List.drop_eq_nil_of_le (by rw [hal.out]; omega), List.flatMap_nil, List.append_nil] at h; exact h
      have hcv := conv_own HO.out
      rw [hd] at hcv
      have Hd := Kept.mk hd
      clear hd HT
      rw [show acc.length = tot.length by rw [Hd.out]]
      go_wp2
      go_ret
      exact ⟨rfl, H4.out⟩
end Go.Proofs.YtgnblaaldpniiaaGreatDoor
end
section
set_option linter.unusedSimpArgs false
set_option linter.unusedVariables false
set_option maxRecDepth 100000
namespace Go.Proofs.YtgnblaaldpniiaaGreatDoor
open Go.RowKit
section
variable {P : Program} {md : Region.Mode} {ops : Array Oper} {Q : Exit → Act → World → Prop} {f : Nat} {listed : Array Bool} {a : Act} {w : World}
theorem wpAny_one (i : Nat) {o : Oper} (hr : Region.ready md ops listed = [i]) (ho : ops[i]? = some o) (hg : o.guard = none) (h : o.wp P a w (wpAny P md ops Q f (listed.setIfInBounds i true)) Q) : wpAny P md ops Q (f + 1) listed a w := by
  refine wpAny_all hr (by simp) fun j hj => ?_
  obtain rfl : j = i := by simpa using hj
  unfold wpOp
  simp only [ho]
  rw [if_pos (by simp [Region.wanted, hg])]
  exact .inl h
theorem wpAny_two (i k : Nat) {o o' : Oper} (hr : Region.ready md ops listed = [i, k]) (ho : ops[i]? = some o) (ho' : ops[k]? = some o') (hg : o.guard = none) (hg' : o'.guard = none)
    (h : o.wp P a w (wpAny P md ops Q f (listed.setIfInBounds i true)) Q) (h' : o'.wp P a w (wpAny P md ops Q f (listed.setIfInBounds k true)) Q) : wpAny P md ops Q (f + 1) listed a w := by
  refine wpAny_all hr (by simp) fun j hj => ?_
  rcases List.mem_cons.1 hj with rfl | hj
  · unfold wpOp
    simp only [ho]
    rw [if_pos (by simp [Region.wanted, hg])]
    exact .inl h
  · obtain rfl : j = k := by simpa using hj
    unfold wpOp
    simp only [ho']
    rw [if_pos (by simp [Region.wanted, hg'])]
    exact .inl h'
end
section
variable {o : Oper} {a : Act} {w0 w : World} {K : Act → World → Prop} {Q : Exit → Act → World → Prop} {L : List (Nat × Nat)}
theorem assign_wp (x : Operand) (ho : o.op = .assign x) (h : K (a.put o.dst (a.eval x)) w) : o.wp Tryz.prog a w K Q := by
  unfold Oper.wp
  rw [BigFrame.run_assign x ho]
  exact h
theorem mem_load_wp (x : Operand) (ho : o.op = .load 118 x) (g y : Nat) (hx : a.eval x = .pointer (some ⟨g, 0, none⟩)) (H : Mem w0 w L) (hm : (g, y) ∈ L)
    (h : K (a.put o.dst (.agg (numA y))) w) : o.wp Tryz.prog a w K Q :=
  wp_load_row 118 x ho g hx 118 (numA y) (0, 0) _ (H.holds g y hm) Tryz.underlying118 rfl (numA_info y) h
theorem mem_store_wp (x v : Operand) (ho : o.op = .store 118 x v) (g old y : Nat) (hx : a.eval x = .pointer (some ⟨g, 0, none⟩)) (hv : a.eval v = .agg (numA y)) (A B : List (Nat × Nat)) (H : Mem w0 w (A ++ (g, old) :: B))
    (h : ∀ w', Mem w0 w' (A ++ (g, y) :: B) → K (a.put o.dst undef) w') : o.wp Tryz.prog a w K Q :=
  wp_store_row 118 x v ho g (numA y) hx hv 118 (numA old) (H.holds g old (by simp)) (numA_info y) (by rw [numA_size, numA_size]) (numA_one y) (h _ (putN_mid A B H.apart ▸ H.put (x := old) (by simp) y))
theorem mem_store2_wp (x v : Operand) (ho : o.op = .store 118 x v) (g old y : Nat) (hx : a.eval x = .pointer (some ⟨g, 0, none⟩)) (hv : a.eval v = .agg (numA y)) (p q : Nat × Nat) (B : List (Nat × Nat)) (H : Mem w0 w (p :: q :: (g, old) :: B))
    (h : ∀ w', Mem w0 w' (p :: q :: (g, y) :: B) → K (a.put o.dst undef) w') : o.wp Tryz.prog a w K Q := mem_store_wp x v ho g old y hx hv [p, q] B H h
theorem mem_store3_wp (x v : Operand) (ho : o.op = .store 118 x v) (g old y : Nat) (hx : a.eval x = .pointer (some ⟨g, 0, none⟩)) (hv : a.eval v = .agg (numA y)) (p q r : Nat × Nat) (B : List (Nat × Nat)) (H : Mem w0 w (p :: q :: r :: (g, old) :: B))
    (h : ∀ w', Mem w0 w' (p :: q :: r :: (g, y) :: B) → K (a.put o.dst undef) w') : o.wp Tryz.prog a w K Q := mem_store_wp x v ho g old y hx hv [p, q, r] B H h
end
def isEl (l : List UInt8) : Bool := decide (l.length = 32) && decide (numB l < pF)
def elN (l : List UInt8) : Nat := if l.length = 32 then numB l else 0
theorem isEl_len {l : List UInt8} (h : isEl l = true) : l.length = 32 := by unfold isEl at h; simp at h; exact h.1
theorem isEl_lt {l : List UInt8} (h : isEl l = true) : numB l < pF := by unfold isEl at h; simp at h; exact h.2
theorem elN_eq {l : List UInt8} (h : isEl l = true) : elN l = numB l := if_pos (isEl_len h)
def ElPost (x : Nat) (b : Bool) (w : World) (e : Ending) (w' : World) : Prop := e = .returned (.tuple #[numV x, .bool b]) ∧ Below w.heap.size w w'
set_option maxHeartbeats 1000000 in
theorem element_any (l : List UInt8) (wS : World) : Calls Tryz.prog 98 #[.string (S l)] wS (ElPost (elN l) (isEl l) wS) := by
  have H := Mem.start wS
  by_cases hl : l.length = 32
  · have hsz : (S l).size = 32 := by rw [S_size, hl]
    have cP := Kept.mk fun w => parse_any l hl w
    have hbg := numB_lt l hl
    have e1 : elN l = numB l := if_pos hl
    by_cases hp : numB l < pF
    · have e2 : isEl l = true := by unfold isEl; simp [hl, hp]
      have cR := Kept.mk fun w => isRed_yes (numB l) hbg hp w
      rw [e1, e2]
      clear e1 e2 hp hl hbg
      go_enter Tryz.func98, Tryz.ntmps98
      go_wp2_with (first
        | (refine mem_alloc rfl rfl (by assumption) ?_; intro g w H; try simp only [Act.put, yI, yC, yZ])
        | (refine mem_store0 rfl _ _ rfl _ _ _ rfl rfl _ (by assumption) ?_; intro w H; try simp only [Act.put, yI, yC, yZ])
        | (go_at_call 113; refine mem_call (by assumption) (cP.out _) ?_; intro w H))
      refine wp_region_from_tail 3 (by kernel_rfl) (by kernel_rfl) ?_
      simp only [List.take_succ_cons, List.take_zero, List.drop_succ_cons, List.drop_zero]
      repeat (first
        | (go_big_quiet_want; (refine mem_quiet_load _ rfl _ _ rfl (by assumption) (by (repeat (first | exact .head _ | refine .tail _ ?_))) ?_); try simp only [Act.put, yI, yC, yZ]; go_big_quiet_on)
        | go_big_quiet_step (((first | (go_at_call 114; exact held_call _ (cR.out _))))))
      refine wpQuiet_nil ?_
      intro w5 hw5
      have H := mem_from H hw5
      clear hw5
      go_wp2_with (first
        | (refine mem_store1 rfl _ _ rfl _ _ _ rfl rfl _ _ (by assumption) ?_; intro w H; try simp only [Act.put, yI, yC, yZ]))
      exact mem_ret2 Tryz.results98 _ rfl rfl rfl (by assumption) (by (repeat (first | exact .head _ | refine .tail _ ?_))) ⟨rfl, H.below⟩
    · have e2 : isEl l = false := by unfold isEl; simp [hp]
      have cR := Kept.mk fun w => isRed_no (numB l) hbg hp w
      rw [e1, e2]
      clear e1 e2 hp hl hbg
      go_enter Tryz.func98, Tryz.ntmps98
      go_wp2_with (first
        | (refine mem_alloc rfl rfl (by assumption) ?_; intro g w H; try simp only [Act.put, yI, yC, yZ])
        | (refine mem_store0 rfl _ _ rfl _ _ _ rfl rfl _ (by assumption) ?_; intro w H; try simp only [Act.put, yI, yC, yZ])
        | (go_at_call 113; refine mem_call (by assumption) (cP.out _) ?_; intro w H))
      refine wp_region_from_tail 3 (by kernel_rfl) (by kernel_rfl) ?_
      simp only [List.take_succ_cons, List.take_zero, List.drop_succ_cons, List.drop_zero]
      repeat (first
        | (go_big_quiet_want; (refine mem_quiet_load _ rfl _ _ rfl (by assumption) (by (repeat (first | exact .head _ | refine .tail _ ?_))) ?_); try simp only [Act.put, yI, yC, yZ]; go_big_quiet_on)
        | go_big_quiet_step (((first | (go_at_call 114; exact held_call _ (cR.out _))))))
      refine wpQuiet_nil ?_
      intro w5 hw5
      have H := mem_from H hw5
      clear hw5
      go_wp2_with (first
        | (refine mem_store1 rfl _ _ rfl _ _ _ rfl rfl _ _ (by assumption) ?_; intro w H; try simp only [Act.put, yI, yC, yZ]))
      exact mem_ret2 Tryz.results98 _ rfl rfl rfl (by assumption) (by (repeat (first | exact .head _ | refine .tail _ ?_))) ⟨rfl, H.below⟩
  · have e1 : elN l = 0 := if_neg hl
    have e2 : isEl l = false := by unfold isEl; simp [hl]
    have hsz : (((S l).size : Int) != 32) = true := by rw [S_size]; simp; omega
    rw [e1, e2]
    clear e1 e2 hl
    go_enter Tryz.func98, Tryz.ntmps98
    go_wp2_with (first
      | (refine mem_alloc rfl rfl (by assumption) ?_; intro g w H; try simp only [Act.put, yI, yC, yZ])
      | (refine mem_store0 rfl _ _ rfl _ _ _ rfl rfl _ (by assumption) ?_; intro w H; try simp only [Act.put, yI, yC, yZ])
      | (refine mem_build rfl rfl ?_; try simp only [Act.put, yI, yC, yZ]))
    exact mem_ret2 Tryz.results98 _ rfl rfl rfl (by assumption) (by (repeat (first | exact .head _ | refine .tail _ ?_))) ⟨rfl, H.below⟩
def ElsPost (x y : Nat) (b : Bool) (w : World) (e : Ending) (w' : World) : Prop := e = .returned (.tuple #[numV x, numV y, .bool b]) ∧ Below w.heap.size w w'
set_option maxHeartbeats 1000000 in
theorem elements_any (l m : List UInt8) (wS : World) : Calls Tryz.prog 116 #[.string (S l), .string (S m)] wS (ElsPost (elN l) (elN m) (isEl l && isEl m) wS) := by
  have H := Mem.start wS
  have cL := Kept.mk fun w => element_any l w
  have cM := Kept.mk fun w => element_any m w
  obtain ⟨b2, hb2⟩ : ∃ b, isEl m = b := ⟨_, rfl⟩
  rw [hb2] at cM ⊢
  unfold ElPost at cL cM
  replace hb2 := Kept.mk hb2
  cases hb1 : isEl l
  · rw [hb1] at cL
    rw [Bool.false_and]
    replace hb1 := Kept.mk hb1
    go_enter Tryz.func116, Tryz.ntmps116
    go_wp2_with (first
      | (refine mem_alloc rfl rfl (by assumption) ?_; intro g w H; try simp only [Act.put, yI, yC, yZ])
      | (refine mem_store0 rfl _ _ rfl _ _ _ rfl rfl _ (by assumption) ?_; intro w H; try simp only [Act.put, yI, yC, yZ])
      | (go_at_call_of 98 (Value.string (S l)); refine mem_call (by assumption) (cL.out _) ?_; intro w H)
      | (go_at_call_of 98 (Value.string (S m)); refine mem_call (by assumption) (cM.out _) ?_; intro w H))
    refine wp_region_any (by kernel_rfl) ?_
    have H := H.grow (Below.refl _ _).drew
    refine wpAny_take (i := 2) (v := .bool false) rfl (by kernel_rfl) (by kernel_rfl) (by kernel_rfl) (fun _ _ _ h => h) (Or.inl ⟨by rfl, fun w => by rfl⟩) ?_
    try simp only [Act.put, yI, yC, yZ]
    refine wpAny_take (i := 3) (v := .bool false) rfl (by kernel_rfl) (by kernel_rfl) (by kernel_rfl) (fun _ _ _ h => h) (Or.inl ⟨by rfl, fun w => by rfl⟩) ?_
    try simp only [Act.put, yI, yC, yZ]
    refine wpAny_take (i := 4) (v := undef) rfl (by kernel_rfl) (by kernel_rfl) (by kernel_rfl) (fun _ _ _ h => h) (Or.inr ⟨by rfl, rfl⟩) ?_
    try simp only [Act.put, yI, yC, yZ]
    refine wpAny_take (i := 5) (v := .bool false) rfl (by kernel_rfl) (by kernel_rfl) (by kernel_rfl) (fun _ _ _ h => h) (Or.inl ⟨by rfl, fun w => by rfl⟩) ?_
    try simp only [Act.put, yI, yC, yZ]
    refine wpAny_two 0 1 (by kernel_rfl) rfl rfl rfl rfl ?_ ?_ <;> simp only [List.getElem_toArray, List.getElem_cons_succ, List.getElem_cons_zero]
    · refine mem_load_wp _ rfl _ _ rfl (by assumption) (by (repeat (first | exact .head _ | refine .tail _ ?_))) ?_
      try simp only [Act.put, yI, yC, yZ]
      refine wpAny_two 1 6 (by kernel_rfl) rfl rfl rfl rfl ?_ ?_ <;> simp only [List.getElem_toArray, List.getElem_cons_succ, List.getElem_cons_zero]
      · refine mem_load_wp _ rfl _ _ rfl (by assumption) (by (repeat (first | exact .head _ | refine .tail _ ?_))) ?_
        try simp only [Act.put, yI, yC, yZ]
        refine wpAny_one 6 (by kernel_rfl) rfl rfl ?_
        simp only [List.getElem_toArray, List.getElem_cons_succ, List.getElem_cons_zero]
        refine mem_store3_wp _ _ rfl _ _ _ rfl rfl _ _ _ _ (by assumption) ?_
        intro w H
        try simp only [Act.put, yI, yC, yZ]
        refine wpAny_one 7 (by kernel_rfl) rfl rfl ?_
        simp only [List.getElem_toArray, List.getElem_cons_succ, List.getElem_cons_zero]
        refine mem_store2_wp _ _ rfl _ _ _ rfl rfl _ _ _ (by assumption) ?_
        intro w H
        try simp only [Act.put, yI, yC, yZ]
        refine wpAny_one 8 (by kernel_rfl) rfl rfl ?_
        simp only [List.getElem_toArray, List.getElem_cons_succ, List.getElem_cons_zero]
        refine assign_wp _ rfl ?_
        try simp only [Act.put, yI, yC, yZ]
        refine wpAny_done (by kernel_rfl) ?_ _
        (go_wp2; exact mem_ret3 Tryz.results116 _ rfl rfl rfl rfl (by assumption) (by (repeat (first | exact .head _ | refine .tail _ ?_))) (by (repeat (first | exact .head _ | refine .tail _ ?_))) ⟨rfl, H.below⟩)
      · refine mem_store3_wp _ _ rfl _ _ _ rfl rfl _ _ _ _ (by assumption) ?_
        intro w H
        try simp only [Act.put, yI, yC, yZ]
        refine wpAny_one 1 (by kernel_rfl) rfl rfl ?_
        simp only [List.getElem_toArray, List.getElem_cons_succ, List.getElem_cons_zero]
        refine mem_load_wp _ rfl _ _ rfl (by assumption) (by (repeat (first | exact .head _ | refine .tail _ ?_))) ?_
        try simp only [Act.put, yI, yC, yZ]
        refine wpAny_one 7 (by kernel_rfl) rfl rfl ?_
        simp only [List.getElem_toArray, List.getElem_cons_succ, List.getElem_cons_zero]
        refine mem_store2_wp _ _ rfl _ _ _ rfl rfl _ _ _ (by assumption) ?_
        intro w H
        try simp only [Act.put, yI, yC, yZ]
        refine wpAny_one 8 (by kernel_rfl) rfl rfl ?_
        simp only [List.getElem_toArray, List.getElem_cons_succ, List.getElem_cons_zero]
        refine assign_wp _ rfl ?_
        try simp only [Act.put, yI, yC, yZ]
        refine wpAny_done (by kernel_rfl) ?_ _
        (go_wp2; exact mem_ret3 Tryz.results116 _ rfl rfl rfl rfl (by assumption) (by (repeat (first | exact .head _ | refine .tail _ ?_))) (by (repeat (first | exact .head _ | refine .tail _ ?_))) ⟨rfl, H.below⟩)
    · refine mem_load_wp _ rfl _ _ rfl (by assumption) (by (repeat (first | exact .head _ | refine .tail _ ?_))) ?_
      try simp only [Act.put, yI, yC, yZ]
      refine wpAny_one 0 (by kernel_rfl) rfl rfl ?_
      simp only [List.getElem_toArray, List.getElem_cons_succ, List.getElem_cons_zero]
      refine mem_load_wp _ rfl _ _ rfl (by assumption) (by (repeat (first | exact .head _ | refine .tail _ ?_))) ?_
      try simp only [Act.put, yI, yC, yZ]
      refine wpAny_one 6 (by kernel_rfl) rfl rfl ?_
      simp only [List.getElem_toArray, List.getElem_cons_succ, List.getElem_cons_zero]
      refine mem_store3_wp _ _ rfl _ _ _ rfl rfl _ _ _ _ (by assumption) ?_
      intro w H
      try simp only [Act.put, yI, yC, yZ]
      refine wpAny_one 7 (by kernel_rfl) rfl rfl ?_
      simp only [List.getElem_toArray, List.getElem_cons_succ, List.getElem_cons_zero]
      refine mem_store2_wp _ _ rfl _ _ _ rfl rfl _ _ _ (by assumption) ?_
      intro w H
      try simp only [Act.put, yI, yC, yZ]
      refine wpAny_one 8 (by kernel_rfl) rfl rfl ?_
      simp only [List.getElem_toArray, List.getElem_cons_succ, List.getElem_cons_zero]
      refine assign_wp _ rfl ?_
      try simp only [Act.put, yI, yC, yZ]
      refine wpAny_done (by kernel_rfl) ?_ _
      (go_wp2; exact mem_ret3 Tryz.results116 _ rfl rfl rfl rfl (by assumption) (by (repeat (first | exact .head _ | refine .tail _ ?_))) (by (repeat (first | exact .head _ | refine .tail _ ?_))) ⟨rfl, H.below⟩)
  · rw [hb1] at cL
    rw [Bool.true_and]
    replace hb1 := Kept.mk hb1
    go_enter Tryz.func116, Tryz.ntmps116
    go_wp2_with (first
      | (refine mem_alloc rfl rfl (by assumption) ?_; intro g w H; try simp only [Act.put, yI, yC, yZ])
      | (refine mem_store0 rfl _ _ rfl _ _ _ rfl rfl _ (by assumption) ?_; intro w H; try simp only [Act.put, yI, yC, yZ])
      | (go_at_call_of 98 (Value.string (S l)); refine mem_call (by assumption) (cL.out _) ?_; intro w H)
      | (go_at_call_of 98 (Value.string (S m)); refine mem_call (by assumption) (cM.out _) ?_; intro w H))
    refine wp_region_any (by kernel_rfl) ?_
    have H := H.grow (Below.refl _ _).drew
    refine wpAny_take (i := 2) (v := .bool true) rfl (by kernel_rfl) (by kernel_rfl) (by kernel_rfl) (fun _ _ _ h => h) (Or.inl ⟨by rfl, fun w => by rfl⟩) ?_
    try simp only [Act.put, yI, yC, yZ]
    refine wpAny_take (i := 3) (v := .bool true) rfl (by kernel_rfl) (by kernel_rfl) (by kernel_rfl) (fun _ _ _ h => h) (Or.inl ⟨by rfl, fun w => by rfl⟩) ?_
    try simp only [Act.put, yI, yC, yZ]
    refine wpAny_take (i := 4) (v := .bool b2) rfl (by kernel_rfl) (by kernel_rfl) (by kernel_rfl) (fun _ _ _ h => h) (Or.inl ⟨by rfl, fun w => by rfl⟩) ?_
    try simp only [Act.put, yI, yC, yZ]
    refine wpAny_take (i := 5) (v := .bool b2) rfl (by kernel_rfl) (by kernel_rfl) (by kernel_rfl) (fun _ _ _ h => h) (Or.inl ⟨by rfl, fun w => by rfl⟩) ?_
    try simp only [Act.put, yI, yC, yZ]
    refine wpAny_two 0 1 (by kernel_rfl) rfl rfl rfl rfl ?_ ?_ <;> simp only [List.getElem_toArray, List.getElem_cons_succ, List.getElem_cons_zero]
    · refine mem_load_wp _ rfl _ _ rfl (by assumption) (by (repeat (first | exact .head _ | refine .tail _ ?_))) ?_
      try simp only [Act.put, yI, yC, yZ]
      refine wpAny_two 1 6 (by kernel_rfl) rfl rfl rfl rfl ?_ ?_ <;> simp only [List.getElem_toArray, List.getElem_cons_succ, List.getElem_cons_zero]
      · refine mem_load_wp _ rfl _ _ rfl (by assumption) (by (repeat (first | exact .head _ | refine .tail _ ?_))) ?_
        try simp only [Act.put, yI, yC, yZ]
        refine wpAny_one 6 (by kernel_rfl) rfl rfl ?_
        simp only [List.getElem_toArray, List.getElem_cons_succ, List.getElem_cons_zero]
        refine mem_store3_wp _ _ rfl _ _ _ rfl rfl _ _ _ _ (by assumption) ?_
        intro w H
        try simp only [Act.put, yI, yC, yZ]
        refine wpAny_one 7 (by kernel_rfl) rfl rfl ?_
        simp only [List.getElem_toArray, List.getElem_cons_succ, List.getElem_cons_zero]
        refine mem_store2_wp _ _ rfl _ _ _ rfl rfl _ _ _ (by assumption) ?_
        intro w H
        try simp only [Act.put, yI, yC, yZ]
        refine wpAny_one 8 (by kernel_rfl) rfl rfl ?_
        simp only [List.getElem_toArray, List.getElem_cons_succ, List.getElem_cons_zero]
        refine assign_wp _ rfl ?_
        try simp only [Act.put, yI, yC, yZ]
        refine wpAny_done (by kernel_rfl) ?_ _
        (go_wp2; exact mem_ret3 Tryz.results116 _ rfl rfl rfl rfl (by assumption) (by (repeat (first | exact .head _ | refine .tail _ ?_))) (by (repeat (first | exact .head _ | refine .tail _ ?_))) ⟨rfl, H.below⟩)
      · refine mem_store3_wp _ _ rfl _ _ _ rfl rfl _ _ _ _ (by assumption) ?_
        intro w H
        try simp only [Act.put, yI, yC, yZ]
        refine wpAny_one 1 (by kernel_rfl) rfl rfl ?_
        simp only [List.getElem_toArray, List.getElem_cons_succ, List.getElem_cons_zero]
        refine mem_load_wp _ rfl _ _ rfl (by assumption) (by (repeat (first | exact .head _ | refine .tail _ ?_))) ?_
        try simp only [Act.put, yI, yC, yZ]
        refine wpAny_one 7 (by kernel_rfl) rfl rfl ?_
        simp only [List.getElem_toArray, List.getElem_cons_succ, List.getElem_cons_zero]
        refine mem_store2_wp _ _ rfl _ _ _ rfl rfl _ _ _ (by assumption) ?_
        intro w H
        try simp only [Act.put, yI, yC, yZ]
        refine wpAny_one 8 (by kernel_rfl) rfl rfl ?_
        simp only [List.getElem_toArray, List.getElem_cons_succ, List.getElem_cons_zero]
        refine assign_wp _ rfl ?_
        try simp only [Act.put, yI, yC, yZ]
        refine wpAny_done (by kernel_rfl) ?_ _
        (go_wp2; exact mem_ret3 Tryz.results116 _ rfl rfl rfl rfl (by assumption) (by (repeat (first | exact .head _ | refine .tail _ ?_))) (by (repeat (first | exact .head _ | refine .tail _ ?_))) ⟨rfl, H.below⟩)
    · refine mem_load_wp _ rfl _ _ rfl (by assumption) (by (repeat (first | exact .head _ | refine .tail _ ?_))) ?_
      try simp only [Act.put, yI, yC, yZ]
      refine wpAny_one 0 (by kernel_rfl) rfl rfl ?_
      simp only [List.getElem_toArray, List.getElem_cons_succ, List.getElem_cons_zero]
      refine mem_load_wp _ rfl _ _ rfl (by assumption) (by (repeat (first | exact .head _ | refine .tail _ ?_))) ?_
      try simp only [Act.put, yI, yC, yZ]
      refine wpAny_one 6 (by kernel_rfl) rfl rfl ?_
      simp only [List.getElem_toArray, List.getElem_cons_succ, List.getElem_cons_zero]
      refine mem_store3_wp _ _ rfl _ _ _ rfl rfl _ _ _ _ (by assumption) ?_
      intro w H
      try simp only [Act.put, yI, yC, yZ]
      refine wpAny_one 7 (by kernel_rfl) rfl rfl ?_
      simp only [List.getElem_toArray, List.getElem_cons_succ, List.getElem_cons_zero]
      refine mem_store2_wp _ _ rfl _ _ _ rfl rfl _ _ _ (by assumption) ?_
      intro w H
      try simp only [Act.put, yI, yC, yZ]
      refine wpAny_one 8 (by kernel_rfl) rfl rfl ?_
      simp only [List.getElem_toArray, List.getElem_cons_succ, List.getElem_cons_zero]
      refine assign_wp _ rfl ?_
      try simp only [Act.put, yI, yC, yZ]
      refine wpAny_done (by kernel_rfl) ?_ _
      (go_wp2; exact mem_ret3 Tryz.results116 _ rfl rfl rfl rfl (by assumption) (by (repeat (first | exact .head _ | refine .tail _ ?_))) (by (repeat (first | exact .head _ | refine .tail _ ?_))) ⟨rfl, H.below⟩)
end Go.Proofs.YtgnblaaldpniiaaGreatDoor
end
