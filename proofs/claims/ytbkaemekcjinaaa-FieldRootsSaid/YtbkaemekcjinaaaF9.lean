/- Package field: the number of bytes. -/
import Derived.Test.YtbkaemekcjinaaaF8
set_option linter.unusedSimpArgs false
set_option linter.unusedVariables false
namespace Go.Proofs.Ytbkaemekcjinaaa
open Go.RowKit
/-- The number of bytes. -/
def numB (l : List UInt8) : Nat := valB 256 (l.map (·.toNat))
def w4 (l : List UInt8) (i : Nat) : Nat := (l.getD (4 * i) 0).toNat + 256 * (l.getD (4 * i + 1) 0).toNat + 65536 * (l.getD (4 * i + 2) 0).toNat + 16777216 * (l.getD (4 * i + 3) 0).toNat
theorem w4_lt (l : List UInt8) (i : Nat) : w4 l i < 4294967296 := by
  unfold w4
  have h0 := (l.getD (4 * i) 0).toNat_lt
  have h1 := (l.getD (4 * i + 1) 0).toNat_lt
  have h2 := (l.getD (4 * i + 2) 0).toNat_lt
  have h3 := (l.getD (4 * i + 3) 0).toNat_lt
  omega
theorem four_words : ∀ (n : Nat) (l : List UInt8), l.length = 4 * n → valB 4294967296 ((List.range n).map (w4 l)) = numB l
  | 0, l, h => by
    have : l = [] := List.eq_nil_of_length_eq_zero (by omega)
    subst this; rfl
  | n + 1, l, h => by
    match l, h with
    | a :: b :: c :: d :: r, h =>
      have ih := four_words n r (by simp at h; omega)
      rw [List.range_succ_eq_map, List.map_cons, List.map_map, valB]
      have e : (List.range n).map (w4 (a :: b :: c :: d :: r) ∘ Nat.succ) = (List.range n).map (w4 r) := by
        refine List.map_congr_left fun i _ => ?_
        simp only [Function.comp, w4]
        rw [show 4 * i.succ = 4 * i + 4 by omega]
        simp
      rw [e, ih]
      simp [numB, valB, w4]
      omega
theorem bits_or_u32 (a b : Nat) (ha : a < 4294967296) (hb : b < 4294967296) : bits .or .u32 (a : Int) (b : Int) = ((a ||| b : Nat) : Int) := by
  have hx : a ||| b < 2 ^ 32 := Nat.or_lt_two_pow (by omega) (by omega)
  have h1 : (BitVec.ofInt 32 (a : Int)).toNat = a := by
    rw [BitVec.ofInt_natCast, BitVec.toNat_ofNat]; exact Nat.mod_eq_of_lt (by omega)
  have h2 : (BitVec.ofInt 32 (b : Int)).toNat = b := by
    rw [BitVec.ofInt_natCast, BitVec.toNat_ofNat]; exact Nat.mod_eq_of_lt (by omega)
  show IntKind.u32.wrap ((BitVec.ofInt 32 (a : Int) ||| BitVec.ofInt 32 (b : Int)).toNat : Int) = _
  rw [BitVec.toNat_or, h1, h2]
  simp [IntKind.wrap, IntKind.signed, IntKind.bits]
  omega
theorem or_shift (a b k : Nat) (h : a < 2 ^ k) : a ||| b * 2 ^ k = a + b * 2 ^ k := by
  rw [Nat.or_comm, Nat.mul_comm, ← Nat.two_pow_add_eq_or_of_lt h]
  omega
theorem or4 (a b c d : Nat) (ha : a < 256) (hb : b < 256) (hc : c < 256) (hd : d < 256) :
    bits .or .u32 (bits .or .u32 (bits .or .u32 ((a : Int) % 4294967296) ((b : Int) % 4294967296 * 256 % 4294967296)) ((c : Int) % 4294967296 * 65536 % 4294967296)) ((d : Int) % 4294967296 * 16777216 % 4294967296) = ((a + 256 * b + 65536 * c + 16777216 * d : Nat) : Int) := by
  rw [show (a : Int) % 4294967296 = (a : Int) by omega, show (b : Int) % 4294967296 * 256 % 4294967296 = ((b * 256 : Nat) : Int) by omega, show (c : Int) % 4294967296 * 65536 % 4294967296 = ((c * 65536 : Nat) : Int) by omega,
    show (d : Int) % 4294967296 * 16777216 % 4294967296 = ((d * 16777216 : Nat) : Int) by omega]
  rw [bits_or_u32 a (b * 256) (by omega) (by omega), show a ||| b * 256 = a + b * 256 from or_shift a b 8 (by omega)]
  rw [bits_or_u32 (a + b * 256) (c * 65536) (by omega) (by omega), show (a + b * 256) ||| c * 65536 = a + b * 256 + c * 65536 from or_shift _ c 16 (by omega)]
  rw [bits_or_u32 (a + b * 256 + c * 65536) (d * 16777216) (by omega) (by omega), show (a + b * 256 + c * 65536) ||| d * 16777216 = a + b * 256 + c * 65536 + d * 16777216 from or_shift _ d 24 (by omega)]
  congr 1
  omega
theorem cut4 (l : List UInt8) (k : Nat) (h : k + 4 ≤ l.length) : (S l).extract k (k + 4) = S [l.getD k 0, l.getD (k + 1) 0, l.getD (k + 2) 0, l.getD (k + 3) 0] := by
  apply ByteArray.ext
  apply Array.ext'
  rw [ByteArray.data_extract, Array.toList_extract]
  show (l.drop k).take (k + 4 - k) = _
  rw [show k + 4 - k = 4 by omega]
  have e := drop_cons l k (by rw [S_size]; omega)
  have e1 := drop_cons l (k + 1) (by rw [S_size]; omega)
  have e2 := drop_cons l (k + 2) (by rw [S_size]; omega)
  have e3 := drop_cons l (k + 3) (by rw [S_size]; omega)
  rw [byte_at] at e e1 e2 e3
  rw [e, e1, e2, e3]
  simp [S]
set_option maxHeartbeats 1000000 in
theorem parse_any (l : List UInt8) (hl : l.length = 32) (wS : World) : Calls Try.prog 26 #[.string (S l)] wS (NP (numB l) wS) := by
  have hsz : (S l).size = 32 := by rw [S_size, hl]
  have hres : nL (numB l) = (List.range 8).map (w4 l) := (nL_of _ _ (by simp) (fun x hx => by obtain ⟨i, _, rfl⟩ := List.mem_map.1 hx; exact w4_lt l i) (four_words 8 l (by omega))).symm
  have hz := zero_num
  have z0 : (numA 0) = (numC .u32 (List.replicate 8 0)).toArray := rfl
  obtain ⟨Z, hZ⟩ : ∃ Z, numA 0 = Z := ⟨_, rfl⟩
  rw [hZ] at hz z0
  have hs8 : Z.size = 8 := by rw [z0]; simp [numC]
  replace hres := Kept.mk hres
  replace z0 := Kept.mk z0
  replace hl := Kept.mk hl
  replace hs8 := Kept.mk hs8
  replace hZ := Kept.mk hZ
  replace hsz := Kept.mk hsz
  go_enter Try.func26, Try.ntmps26
  go_wp2
  have h3 : ((wS.alloc (.cells Z 35)).alloc (.cells Z 35)).heap[wS.heap.size]? = some (.cells Z 35 (0, 0)) := by
    rw [(Below.alloc (Below.refl _ (wS.alloc (.cells Z 35))) (Nat.le_refl _) (.cells Z 35)).block wS.heap.size (by simp)]
    exact heap_alloc_new wS _
  have h5 : Arr ((wS.alloc (.cells Z 35)).alloc (.cells Z 35)) (wS.heap.size + 1) 35 .u32 (List.replicate 8 0) := by
    have h := Arr.new (wS.alloc (.cells Z 35)) 35 .u32 (List.replicate 8 0)
    rw [← z0.out, World.size_alloc] at h
    exact h
  have h4 : Below wS.heap.size wS ((wS.alloc (.cells Z 35)).alloc (.cells Z 35)) := ((Below.refl _ _).alloc (Nat.le_refl _) _).alloc (by simp) _
  generalize (wS.alloc (.cells Z 35)).alloc (.cells Z 35) = w0 at h3 h4 h5 ⊢
  obtain ⟨n, hn⟩ : ∃ n, wS.heap.size = n := ⟨_, rfl⟩
  rw [hn] at h3 h5 ⊢
  replace h3 := Kept.mk h3
  replace h4 := Kept.mk h4
  replace h5 := Kept.mk h5
  replace hn := Kept.mk hn
  obtain ⟨z8, hz8⟩ : ∃ z, List.replicate 8 0 = z := ⟨_, rfl⟩
  rw [hz8] at h5
  have hzl : z8.length = 8 := by rw [← hz8]; rfl
  replace hz8 := Kept.mk hz8
  replace hzl := Kept.mk hzl
  go_loopw [6] (fun v6 wr => ∃ (i : Nat), i ≤ 8 ∧ v6 = .int .i64 (i : Int) ∧ Kept (wr.heap[n]? = some (.cells Z 35 (0, 0))) ∧ Kept (Arr wr (n + 1) 35 .u32 ((List.range i).map (w4 l) ++ z8.drop i)) ∧ Kept (Below wS.heap.size wS wr)) (fun v6 _ => 8 - (RowKit.intOf v6).toNat)
  case atStart => exact ⟨0, by omega, rfl, h3, ⟨by have h := h5.out; exact h⟩, h4⟩
  case round =>
    clear h3 h4 h5
    obtain ⟨i, hi, rfl, H3, H5, H4⟩ := hrel
    by_cases hlt : i < 8
    · have hlti : (i : Int) < 8 := by omega
      have k1 : IntKind.i64.wrap (4 * (i : Int)) = 4 * (i : Int) := by simp [IntKind.wrap, IntKind.signed, IntKind.bits]; omega
      have k2 : IntKind.i64.wrap (4 * (i : Int) + 4) = 4 * (i : Int) + 4 := by simp [IntKind.wrap, IntKind.signed, IntKind.bits]; omega
      have hs := hsz.out
      go_wp2
      obtain ⟨b0, hb0⟩ : ∃ b, l.getD (4 * i) 0 = b := ⟨_, rfl⟩
      obtain ⟨b1, hb1⟩ : ∃ b, l.getD (4 * i + 1) 0 = b := ⟨_, rfl⟩
      obtain ⟨b2, hb2⟩ : ∃ b, l.getD (4 * i + 2) 0 = b := ⟨_, rfl⟩
      obtain ⟨b3, hb3⟩ : ∃ b, l.getD (4 * i + 3) 0 = b := ⟨_, rfl⟩
      have he : (S l).extract (4 * i) (4 * i + 4) = S [b0, b1, b2, b3] := by
        rw [cut4 l (4 * i) (by rw [hl.out]; omega), hb0, hb1, hb2, hb3]
      have hw : w4 l i = b0.toNat + 256 * b1.toNat + 65536 * b2.toNat + 16777216 * b3.toNat := by unfold w4; rw [hb0, hb1, hb2, hb3]
      rw [he]
      have hq : (S [b0, b1, b2, b3]).size = 4 := rfl
      have l0 := b0.toNat_lt
      have l1 := b1.toNat_lt
      have l2 := b2.toNat_lt
      have l3 := b3.toNat_lt
      clear hs k1 k2 he
      replace hw := Kept.mk hw
      replace hb0 := Kept.mk hb0
      replace hb1 := Kept.mk hb1
      replace hb2 := Kept.mk hb2
      replace hb3 := Kept.mk hb3
      refine wp_region_from_tail 20 (by kernel_rfl) (by kernel_rfl) ?_
      simp only [List.take_succ_cons, List.take_zero, List.drop_succ_cons, List.drop_zero]
      repeat (go_big_quiet_step (fail))
      refine wpQuiet_nil ?_
      intro w5 hw5
      have e0 : (S [b0, b1, b2, b3])[0] = b0 := rfl
      have e1 : (S [b0, b1, b2, b3])[1] = b1 := rfl
      have e2 : (S [b0, b1, b2, b3])[2] = b2 := rfl
      have e3 : (S [b0, b1, b2, b3])[3] = b3 := rfl
      rw [e0, e1, e2, e3, or4 _ _ _ _ l0 l1 l2 l3, ← hw.out]
      have hdz := drop_getD z8 i (by rw [hzl.out]; omega)
      have hln : ((List.range i).map (w4 l)).length = i := by simp
      have H55 := H5.out.from hw5.of_drew
      have f5 := H55.frozen i
      have c5 := H55.cellMid hdz hln
      have h35 := (hw5.of_drew.block n (Array.getElem?_eq_some_iff.1 H3.out).1).trans H3.out
      have b5 := H4.out.trans (hw5.of_drew.mono H4.out.size)
      replace hdz := Kept.mk hdz
      replace hln := Kept.mk hln
      replace H55 := Kept.mk H55
      replace h35 := Kept.mk h35
      replace b5 := Kept.mk b5
      clear e0 e1 e2 e3 hq hw5
      go_wp2
      go_roundw
      case rel => exact ⟨i + 1, by omega, val_eq (by omega), ⟨(Below.heap_setCell w5 ⟨n + 1, i, none⟩ _ n (by simp)).trans h35.out⟩, ⟨by
        have h := H55.out.step hdz.out hln.out (w4 l i) (v := (w4 l i : Nat)) rfl
        rw [List.range_succ, List.map_append]
        exact h⟩, ⟨b5.out.setCell (by show wS.heap.size ≤ n + 1; rw [hn.out]; omega) _⟩⟩
      case measure => simp [RowKit.intOf]; omega
    · obtain rfl : i = 8 := by omega
      have hA : Arr wr (n + 1) 35 .u32 (nL (numB l)) := by
        have h := H5.out
        rw [List.drop_eq_nil_of_le (by rw [hzl.out]; omega), List.append_nil, ← hres.out] at h
        exact h
      replace hA := Kept.mk hA
      clear H5 hi
      go_wp2_with (first
        | (refine wpList_load_row rfl 35 (.tmp 3) rfl (n + 1) rfl 35 (numA (numB l)) (0, 0) _ hA.out.blk Try.underlying35 rfl ?_ ?_; (rw [infoN, numA_size]))
        | (refine wpList_store_row rfl 35 (.tmp 2) (.tmp 37) rfl n (numA (numB l)) rfl rfl 35 Z H3.out ?_ ?_ (numA_one _) ?_; (rw [infoN, numA_size]); (rw [hs8.out, numA_size])))
      exact bodyPost_ret (results_cell_row (p := 2) (ty := 35) Try.results26 _ _ n 35 (numA (numB l)) (0, 0) _ rfl (setRow_heap _ _ _ _ _ _ H3.out) Try.underlying35 rfl (numA_info _)) rfl
        ⟨rfl, below_setRow H4.out (by rw [hn.out]; omega) _⟩
end Go.Proofs.Ytbkaemekcjinaaa
