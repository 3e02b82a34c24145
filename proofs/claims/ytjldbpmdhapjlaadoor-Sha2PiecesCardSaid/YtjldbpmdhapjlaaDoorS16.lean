/- Package sha2's law Sha2Pieces: its walk. -/
import Derived.Test.YtjldbpmdhapjlaaDoorS15
namespace Go.Proofs.YtjldbpmdhapjlaaDoor
open Go.RowKit Go.Lib
/-- A slice of texts that came in. -/
def Texts (w : World) (A : Option Addr) (ss : List (List UInt8)) : Prop :=
  ∀ k, k < ss.length → ∃ b off, A = some ⟨b, off, none⟩ ∧ b < w.heap.size ∧ w.cell? ⟨b, off + k, none⟩ = some (.string (S (ss.getD k [])))
def lb : List UInt8 := [108, 101, 102, 116, 32, 98, 101, 104, 105, 110, 100]
theorem pieces_bad (k : Int) (v : Value) (w : World) (hv : Vars w) (h0 : k ≠ 0) (h1 : k ≠ 1) :
    Calls Tryd.prog 4 #[.int .i64 k, v] w fun e w' => e = .returned (.bool true) ∧ Below w.heap.size w w' := by
  have HV := Lib.hid hv
  have H0 := Lib.hid h0
  have H1 := Lib.hid h1
  clear hv h0 h1
  go_enter Tryd.func4, Tryd.ntmps4
  go_wp2_with (first
    | (go_at_call 10; refine (new_bad k _ H0.out H1.out).mono ?_; rintro e w1 ⟨rfl, rfl⟩)
    | (go_at_call 7; refine (one_bad k _ _ H0.out H1.out).mono ?_; rintro e w2 ⟨rfl, rfl⟩)
    | (go_at_call 9; refine (fixed_any _ HV.out).mono ?_; rintro e w8 ⟨rfl, hb8⟩; have B8 := Lib.hid hb8; clear hb8))
  go_ret
  exact ⟨rfl, B8.out⟩
set_option maxRecDepth 100000 in
set_option maxHeartbeats 6400000 in
theorem pieces_good (o : Bool) (A : Option Addr) (cap : Nat) (ss : List (List UInt8)) (w : World) (hv : Vars w) (ht : Texts w A ss) (hl : ss.length ≤ 1125899906842624) :
    Calls Tryd.prog 4 #[.int .i64 (kd o), .slice A ss.length cap] w fun e w' => e = .returned (.bool true) ∧ Below w.heap.size w w' := by
  have F0 := Lib.hid (FW.mk (Below.refl _ w) hv)
  have hv1 := hv.1
  have HT := Lib.hid ht
  have z0 : S [] = ⟨#[]⟩ := rfl
  clear hv ht
  go_enter Tryd.func4, Tryd.ntmps4
  go_wp2_with (go_at_call 10; refine (new_any o _ F0.out.v).mono ?_; rintro e w1 ⟨g0, hg0, rfl, h1, hb1⟩; have F1 := Lib.hid (F0.out.from hb1); have H1 := Lib.hid h1; clear hb1 h1)
  rw [← z0]
  clear z0
  go_loopw [5, 9, 10] (fun hp av iv wr => ∃ (i g : Nat) (acc : List UInt8), i ≤ ss.length ∧ i ≤ 60 ∧ w.heap.size ≤ g ∧ (S acc).size ≤ 4000 ∧ hp = .pointer (some ⟨g, 0, none⟩) ∧ av = .string (S acc) ∧ iv = .int .i64 i ∧ Hid (IsHash wr g o acc) ∧ Hid (FW w wr)) (fun _ _ iv _ => 60 - (intOf iv).toNat)
  case atStart => exact ⟨0, g0, [], by omega, by omega, hg0, by decide, rfl, rfl, rfl, H1.out, F1.out⟩
  case round =>
    obtain ⟨i, g, acc, hi1, hi2, hg, hacc, rfl, rfl, rfl, HH, HF⟩ := hrel
    clear H1 F1
    obtain ⟨wo, rfl⟩ : ∃ wo : World, wo = wr := ⟨_, rfl⟩
    obtain ⟨X, hX⟩ : ∃ X, shaL o acc = X := ⟨_, rfl⟩
    have sx : ((S X).toList == (S X).toList) = true := by rw [S_beq]; simp
    have hal : acc.length ≤ 4000 := by rw [S_size] at hacc; exact hacc
    have ca := fun w hv => one_any o acc w hv (by omega)
    unfold OneH at ca
    rw [hX] at ca
    have cs := fun w h hv => sum_any g o acc w h hv (by omega)
    unfold SumH at cs
    rw [hX] at cs
    have hsz : ((acc.length : Int) == (S acc).size) = true := by rw [S_size]; simp
    have CA := Lib.hid ca
    have CS := Lib.hid cs
    have HAL := Lib.hid hal
    clear ca cs hX hal
    by_cases hlt : i < ss.length ∧ i < 60
    · obtain ⟨hlt1, hlt2⟩ := hlt
      obtain ⟨b, off, hA, hb, hc⟩ := HT.out i hlt1
      obtain ⟨x, hx⟩ : ∃ x, ss.getD i [] = x := ⟨_, rfl⟩
      rw [hx] at hc
      subst hA
      have hc0 : wo.cell? ⟨b, off + i, none⟩ = some (.string (S x)) := (HF.out.b.cell (p := ⟨b, off + i, none⟩) hb).trans hc
      have HC := Lib.hid hc
      clear hc hx
      by_cases hbig : ((4000 : Int) - ((S acc).size : Int) < ((S x).size : Int))
      · clear hc0
        have hc0 : wo.cell? ⟨b, off + i, none⟩ = some (.string (S x)) := (HF.out.b.cell (p := ⟨b, off + i, none⟩) hb).trans HC.out
        go_wp2_with (first
          | (go_at_call 7; refine (CA.out _ HF.out.v).mono ?_; rintro e w2 ⟨rfl, hb2⟩; have F2 := Lib.hid (HF.out.from hb2); have H2 := Lib.hid (HH.out.from hb2); clear hb2)
          | (go_at_call 9; refine (fixed_any _ F2.out.v).mono ?_; rintro e w3 ⟨rfl, hb3⟩; have F3 := Lib.hid (F2.out.from hb3); have H3 := Lib.hid (H2.out.from hb3); clear hb3 F2 H2)
          | (have tk := H3; go_at_call 13; refine (CS.out _ H3.out F3.out.v).mono ?_; rintro e w4 ⟨rfl, hb4⟩; have F4 := Lib.hid (F3.out.from hb4); have H4 := Lib.hid (H3.out.from hb4); clear hb4 F3 H3 tk)
          | (go_at_call 14; refine (sizeH_any g o acc _ H4.out).mono ?_; rintro e w5 ⟨rfl, rfl⟩)
          | (have tk := H4; go_at_call 13; refine (CS.out _ H4.out F4.out.v).mono ?_; rintro e w6 ⟨rfl, hb6⟩; have F6 := Lib.hid (F4.out.from hb6); clear hb6 F4 H4 tk))
        go_ret
        exact ⟨rfl, F6.out.b⟩
      · have hsm : (S x).size + (S acc).size ≤ 4000 := by omega
        have hbig2 : ((S x).size : Int) ≤ 4000 - ((S acc).size : Int) := by omega
        clear hbig
        have hxa : S acc ++ S x = S (acc ++ x) := S_append acc x
        have hxl : acc.length + x.length ≤ 4000 := by rw [S_size, S_size] at hsm; omega
        have hs2 : (S (acc ++ x)).size ≤ 4000 := by rw [S_size, List.length_append]; exact hxl
        obtain ⟨Y, hY⟩ : ∃ Y, shaL o (acc ++ x) = Y := ⟨_, rfl⟩
        have sy : ((S Y).toList == (S Y).toList) = true := by rw [S_beq]; simp
        have sy2 : ((S Y).toList != (S Y).toList) = false := by simp
        have cs2 := fun g w h hv => sum_any g o (acc ++ x) w h hv (by rw [List.length_append]; omega)
        unfold SumH at cs2
        rw [hY] at cs2
        have CS2 := Lib.hid cs2
        have HXL := Lib.hid hxl
        clear cs2 hY hxl
        by_cases m7 : i % 7 = 3
        · have e7 : ((i : Int) % 7 == 3) = true := by simp; omega
          by_cases m5 : i % 5 = 2
          · have e5 : ((i : Int) % 5 == 2) = true := by simp; omega
            clear m7 m5
            go_wp2_with (first
              | (go_at_call 11; refine (cloneH_any g o acc _ HH.out).mono ?_; rintro e w1 ⟨g2, hg2, rfl, h2, hb2⟩; have F1 := Lib.hid (HF.out.from hb2); have H1 := Lib.hid (HH.out.from hb2); have G1 := Lib.hid h2; have hc1 : w1.cell? ⟨b, off + i, none⟩ = some (.string (S x)) := (F1.out.b.cell (p := ⟨b, off + i, none⟩) hb).trans HC.out; have hg2w : w.heap.size ≤ g2 := Nat.le_trans HF.out.b.size hg2; have hne : g < g2 := Nat.lt_of_lt_of_le HH.out.lt hg2; clear hb2 h2 HH HF hc0)
              | (go_at_call_of 12 (Value.string (S x)); refine (write_any g o acc x _ H1.out F1.out.v (by omega) (by have := HXL.out; omega)).mono ?_; rintro e w2 ⟨rfl, h3, c3⟩; have F2 := Lib.hid (F1.out.chg c3 hg (by omega)); have H2 := Lib.hid h3; have G2 := Lib.hid (G1.out.chg c3 (by omega)); have hc2 : w2.cell? ⟨b, off + i, none⟩ = some (.string (S x)) := (F2.out.b.cell (p := ⟨b, off + i, none⟩) hb).trans HC.out; clear h3 c3 F1 H1 G1 hc1)
              | (have tk := G2; go_at_call 12; refine (write_any g2 o acc lb _ G2.out F2.out.v (by omega) (by have := HXL.out; simp [lb]; omega)).mono ?_; rintro e w3 ⟨rfl, h4, c4⟩; have F3 := Lib.hid (F2.out.chg c4 hg2w (by omega)); have H3 := Lib.hid (H2.out.chg c4 (by omega)); clear h4 c4 F2 H2 G2 hc2 tk)
              | (have tk := H3; go_at_call 11; refine (cloneH_any g o (acc ++ x) _ H3.out).mono ?_; rintro e w4 ⟨g3, hg3, rfl, h5, hb5⟩; have F4 := Lib.hid (F3.out.from hb5); have H4 := Lib.hid h5; have hg3w : w.heap.size ≤ g3 := Nat.le_trans F3.out.b.size hg3; clear hb5 h5 F3 H3 tk)
              | (have tk := H4; go_at_call 13; refine (CS2.out g3 _ H4.out F4.out.v).mono ?_; rintro e w5 ⟨rfl, hb5⟩; have F5 := Lib.hid (F4.out.from hb5); have H5 := Lib.hid (H4.out.from hb5); clear hb5 F4 H4 tk)
              | (have tk := H5; go_at_call 13; refine (CS2.out g3 _ H5.out F5.out.v).mono ?_; rintro e w6 ⟨rfl, hb6⟩; have F6 := Lib.hid (F5.out.from hb6); have H6 := Lib.hid (H5.out.from hb6); clear hb6 F5 H5 tk))
            go_roundw
            case rel => exact ⟨i + 1, g3, acc ++ x, by omega, by omega, hg3w, hs2, rfl, rfl, by go_num, H6.out, F6.out⟩
            case measure => simp [intOf]; omega
          · have e5 : ((i : Int) % 5 == 2) = false := by simp; omega
            clear m7 m5
            go_wp2_with (first
              | (go_at_call 11; refine (cloneH_any g o acc _ HH.out).mono ?_; rintro e w1 ⟨g2, hg2, rfl, h2, hb2⟩; have F1 := Lib.hid (HF.out.from hb2); have H1 := Lib.hid (HH.out.from hb2); have G1 := Lib.hid h2; have hc1 : w1.cell? ⟨b, off + i, none⟩ = some (.string (S x)) := (F1.out.b.cell (p := ⟨b, off + i, none⟩) hb).trans HC.out; have hg2w : w.heap.size ≤ g2 := Nat.le_trans HF.out.b.size hg2; have hne : g < g2 := Nat.lt_of_lt_of_le HH.out.lt hg2; clear hb2 h2 HH HF hc0)
              | (go_at_call_of 12 (Value.string (S x)); refine (write_any g o acc x _ H1.out F1.out.v (by omega) (by have := HXL.out; omega)).mono ?_; rintro e w2 ⟨rfl, h3, c3⟩; have F2 := Lib.hid (F1.out.chg c3 hg (by omega)); have H2 := Lib.hid h3; have G2 := Lib.hid (G1.out.chg c3 (by omega)); have hc2 : w2.cell? ⟨b, off + i, none⟩ = some (.string (S x)) := (F2.out.b.cell (p := ⟨b, off + i, none⟩) hb).trans HC.out; clear h3 c3 F1 H1 G1 hc1)
              | (have tk := G2; go_at_call 12; refine (write_any g2 o acc lb _ G2.out F2.out.v (by omega) (by have := HXL.out; simp [lb]; omega)).mono ?_; rintro e w3 ⟨rfl, h4, c4⟩; have F3 := Lib.hid (F2.out.chg c4 hg2w (by omega)); have H3 := Lib.hid (H2.out.chg c4 (by omega)); clear h4 c4 F2 H2 G2 hc2 tk)
              | (have tk := H3; go_at_call 11; refine (cloneH_any g o (acc ++ x) _ H3.out).mono ?_; rintro e w4 ⟨g3, hg3, rfl, h5, hb5⟩; have F4 := Lib.hid (F3.out.from hb5); have H4 := Lib.hid h5; have hg3w : w.heap.size ≤ g3 := Nat.le_trans F3.out.b.size hg3; clear hb5 h5 F3 H3 tk))
            go_roundw
            case rel => exact ⟨i + 1, g3, acc ++ x, by omega, by omega, hg3w, hs2, rfl, rfl, by go_num, H4.out, F4.out⟩
            case measure => simp [intOf]; omega
        · have e7 : ((i : Int) % 7 == 3) = false := by simp; omega
          by_cases m5 : i % 5 = 2
          · have e5 : ((i : Int) % 5 == 2) = true := by simp; omega
            clear m7 m5
            go_wp2_with (first
              | (go_at_call 11; refine (cloneH_any g o acc _ HH.out).mono ?_; rintro e w1 ⟨g2, hg2, rfl, h2, hb2⟩; have F1 := Lib.hid (HF.out.from hb2); have H1 := Lib.hid (HH.out.from hb2); have G1 := Lib.hid h2; have hc1 : w1.cell? ⟨b, off + i, none⟩ = some (.string (S x)) := (F1.out.b.cell (p := ⟨b, off + i, none⟩) hb).trans HC.out; have hg2w : w.heap.size ≤ g2 := Nat.le_trans HF.out.b.size hg2; have hne : g < g2 := Nat.lt_of_lt_of_le HH.out.lt hg2; clear hb2 h2 HH HF hc0)
              | (go_at_call_of 12 (Value.string (S x)); refine (write_any g o acc x _ H1.out F1.out.v (by omega) (by have := HXL.out; omega)).mono ?_; rintro e w2 ⟨rfl, h3, c3⟩; have F2 := Lib.hid (F1.out.chg c3 hg (by omega)); have H2 := Lib.hid h3; have G2 := Lib.hid (G1.out.chg c3 (by omega)); have hc2 : w2.cell? ⟨b, off + i, none⟩ = some (.string (S x)) := (F2.out.b.cell (p := ⟨b, off + i, none⟩) hb).trans HC.out; clear h3 c3 F1 H1 G1 hc1)
              | (have tk := G2; go_at_call 12; refine (write_any g2 o acc lb _ G2.out F2.out.v (by omega) (by have := HXL.out; simp [lb]; omega)).mono ?_; rintro e w3 ⟨rfl, h4, c4⟩; have F3 := Lib.hid (F2.out.chg c4 hg2w (by omega)); have H3 := Lib.hid (H2.out.chg c4 (by omega)); clear h4 c4 F2 H2 G2 hc2 tk)
              | (have tk := H3; go_at_call 13; refine (CS2.out g _ H3.out F3.out.v).mono ?_; rintro e w4 ⟨rfl, hb4⟩; have F4 := Lib.hid (F3.out.from hb4); have H4 := Lib.hid (H3.out.from hb4); clear hb4 F3 H3 tk)
              | (have tk := H4; go_at_call 13; refine (CS2.out g _ H4.out F4.out.v).mono ?_; rintro e w5 ⟨rfl, hb5⟩; have F5 := Lib.hid (F4.out.from hb5); have H5 := Lib.hid (H4.out.from hb5); clear hb5 F4 H4 tk))
            go_roundw
            case rel => exact ⟨i + 1, g, acc ++ x, by omega, by omega, hg, hs2, rfl, rfl, by go_num, H5.out, F5.out⟩
            case measure => simp [intOf]; omega
          · have e5 : ((i : Int) % 5 == 2) = false := by simp; omega
            clear m7 m5
            go_wp2_with (first
              | (go_at_call 11; refine (cloneH_any g o acc _ HH.out).mono ?_; rintro e w1 ⟨g2, hg2, rfl, h2, hb2⟩; have F1 := Lib.hid (HF.out.from hb2); have H1 := Lib.hid (HH.out.from hb2); have G1 := Lib.hid h2; have hc1 : w1.cell? ⟨b, off + i, none⟩ = some (.string (S x)) := (F1.out.b.cell (p := ⟨b, off + i, none⟩) hb).trans HC.out; have hg2w : w.heap.size ≤ g2 := Nat.le_trans HF.out.b.size hg2; have hne : g < g2 := Nat.lt_of_lt_of_le HH.out.lt hg2; clear hb2 h2 HH HF hc0)
              | (go_at_call_of 12 (Value.string (S x)); refine (write_any g o acc x _ H1.out F1.out.v (by omega) (by have := HXL.out; omega)).mono ?_; rintro e w2 ⟨rfl, h3, c3⟩; have F2 := Lib.hid (F1.out.chg c3 hg (by omega)); have H2 := Lib.hid h3; have G2 := Lib.hid (G1.out.chg c3 (by omega)); have hc2 : w2.cell? ⟨b, off + i, none⟩ = some (.string (S x)) := (F2.out.b.cell (p := ⟨b, off + i, none⟩) hb).trans HC.out; clear h3 c3 F1 H1 G1 hc1)
              | (have tk := G2; go_at_call 12; refine (write_any g2 o acc lb _ G2.out F2.out.v (by omega) (by have := HXL.out; simp [lb]; omega)).mono ?_; rintro e w3 ⟨rfl, h4, c4⟩; have F3 := Lib.hid (F2.out.chg c4 hg2w (by omega)); have H3 := Lib.hid (H2.out.chg c4 (by omega)); clear h4 c4 F2 H2 G2 hc2 tk))
            go_roundw
            case rel => exact ⟨i + 1, g, acc ++ x, by omega, by omega, hg, hs2, rfl, rfl, by go_num, H3.out, F3.out⟩
            case measure => simp [intOf]; omega
    · by_cases hlt1 : i < ss.length
      · have hlt2 : ¬ i < 60 := fun h => hlt ⟨hlt1, h⟩
        clear hlt
        go_wp2_with (first
          | (go_at_call 7; refine (CA.out _ HF.out.v).mono ?_; rintro e w2 ⟨rfl, hb2⟩; have F2 := Lib.hid (HF.out.from hb2); have H2 := Lib.hid (HH.out.from hb2); clear hb2)
          | (go_at_call 9; refine (fixed_any _ F2.out.v).mono ?_; rintro e w3 ⟨rfl, hb3⟩; have F3 := Lib.hid (F2.out.from hb3); have H3 := Lib.hid (H2.out.from hb3); clear hb3 F2 H2)
          | (have tk := H3; go_at_call 13; refine (CS.out _ H3.out F3.out.v).mono ?_; rintro e w4 ⟨rfl, hb4⟩; have F4 := Lib.hid (F3.out.from hb4); have H4 := Lib.hid (H3.out.from hb4); clear hb4 F3 H3 tk)
          | (go_at_call 14; refine (sizeH_any g o acc _ H4.out).mono ?_; rintro e w5 ⟨rfl, rfl⟩)
          | (have tk := H4; go_at_call 13; refine (CS.out _ H4.out F4.out.v).mono ?_; rintro e w6 ⟨rfl, hb6⟩; have F6 := Lib.hid (F4.out.from hb6); clear hb6 F4 H4 tk))
        go_ret
        exact ⟨rfl, F6.out.b⟩
      · clear hlt
        go_wp2_with (first
          | (go_at_call 7; refine (CA.out _ HF.out.v).mono ?_; rintro e w2 ⟨rfl, hb2⟩; have F2 := Lib.hid (HF.out.from hb2); have H2 := Lib.hid (HH.out.from hb2); clear hb2)
          | (go_at_call 9; refine (fixed_any _ F2.out.v).mono ?_; rintro e w3 ⟨rfl, hb3⟩; have F3 := Lib.hid (F2.out.from hb3); have H3 := Lib.hid (H2.out.from hb3); clear hb3 F2 H2)
          | (have tk := H3; go_at_call 13; refine (CS.out _ H3.out F3.out.v).mono ?_; rintro e w4 ⟨rfl, hb4⟩; have F4 := Lib.hid (F3.out.from hb4); have H4 := Lib.hid (H3.out.from hb4); clear hb4 F3 H3 tk)
          | (go_at_call 14; refine (sizeH_any g o acc _ H4.out).mono ?_; rintro e w5 ⟨rfl, rfl⟩)
          | (have tk := H4; go_at_call 13; refine (CS.out _ H4.out F4.out.v).mono ?_; rintro e w6 ⟨rfl, hb6⟩; have F6 := Lib.hid (F4.out.from hb6); clear hb6 F4 H4 tk))
        go_ret
        exact ⟨rfl, F6.out.b⟩
end Go.Proofs.YtjldbpmdhapjlaaDoor
