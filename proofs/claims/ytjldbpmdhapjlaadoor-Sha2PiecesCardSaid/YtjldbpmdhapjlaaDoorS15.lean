/- Package sha2's law Sha2Sizes: its walk. -/
import Derived.Test.YtjldbpmdhapjlaaDoorS14
namespace Go.Proofs.YtjldbpmdhapjlaaDoor
open Go.RowKit Go.Lib
theorem outB_length (x : Int) : ∀ (k : Nat) (acc : List UInt8), (outB x k acc).length = acc.length + k
  | 0, _ => rfl
  | k + 1, acc => by rw [outB, outB_length x k, List.length_append, List.length_singleton]; omega
theorem outS_length (o : Bool) : ∀ (l : List Int) (acc : List UInt8), (outS o l acc).length = acc.length + l.length * (wdI o / 8)
  | [], _ => by simp [outS]
  | x :: r, acc => by rw [outS, outS_length o r, outB_length, List.length_cons, Nat.succ_mul]; omega
theorem initR_length (o : Bool) : ∀ (k i : Nat) (l : List Int), (initR o k i l).length = l.length
  | 0, _, _ => rfl
  | k + 1, i, l => by rw [initR, initR_length o k, List.length_set]
theorem sha_length (o : Bool) (l : List UInt8) : (shaL o l).length = wdI o := by
  rw [shaL, sumL, outS_length, feed_st]
  show 0 + (hs o l).st.length * _ = _
  rw [hs, feed_st, initI, initR_length]
  cases o <;> rfl
theorem sizes_good (o : Bool) (a b : List UInt8) (w : World) (hv : Vars w) (ha : a.length ≤ 2000) (hb : b.length ≤ 2000) :
    Calls Tryd.prog 6 #[.int .i64 (kd o), .string (S a), .string (S b)] w fun e w' => e = .returned (.bool true) ∧ Below w.heap.size w w' := by
  obtain ⟨X, hX⟩ : ∃ X, shaL o a = X := ⟨_, rfl⟩
  obtain ⟨Y, hY⟩ : ∃ X, shaL o (a ++ b) = X := ⟨_, rfl⟩
  have hk : 0 ≤ kd o ∧ kd o ≤ 1 := by cases o <;> decide
  obtain ⟨hk0, hk1⟩ := hk
  have sz : (((S X).size : Int) == 32 + 32 * kd o) = true := by
    rw [S_size, ← hX, sha_length]; cases o <;> rfl
  have sx : ((S X).toList == (S X).toList) = true := by rw [S_beq]; simp
  have sy : ((S Y).toList == (S Y).toList) = true := by rw [S_beq]; simp
  have hab : S a ++ S b = S (a ++ b) := S_append a b
  have la : (S a).size ≤ 2000 := by rw [S_size]; exact ha
  have lb : (S b).size ≤ 2000 := by rw [S_size]; exact hb
  have ca := fun w hv => one_any o a w hv (by omega)
  have cab := fun w hv => one_any o (a ++ b) w hv (by rw [List.length_append]; omega)
  unfold OneH at ca cab
  rw [hX] at ca
  rw [hY] at cab
  have cs := fun g w h hv => sum_any g o ([] ++ a) w h hv (by simp; omega)
  have cs2 := fun g w h hv => sum_any g o ([] ++ a ++ b) w h hv (by simp; omega)
  unfold SumH at cs cs2
  rw [show shaL o ([] ++ a) = X from hX] at cs
  rw [show shaL o ([] ++ a ++ b) = Y from hY] at cs2
  have CA := Lib.hid ca
  have CAB := Lib.hid cab
  have CS := Lib.hid cs
  have CS2 := Lib.hid cs2
  have F0 := Lib.hid (FW.mk (Below.refl _ w) hv)
  have HA := Lib.hid ha
  have HB := Lib.hid hb
  have hv1 := hv.1
  have hn : (S a).size > 2000 → False := fun h => by omega
  clear ca cab cs cs2 hX hY hv ha hb hn
  go_enter Tryd.func6, Tryd.ntmps6
  go_wp2_with (first
    | (go_at_call 10; refine (new_any o _ F0.out.v).mono ?_; rintro e w1 ⟨g, hg, rfl, h1, hb1⟩; have F1 := Lib.hid (F0.out.from hb1); have H1 := Lib.hid h1; have hg1 := h1.lt; clear hb1 h1)
    | (go_at_call_of 12 (Value.string (S a)); refine (write_any g o [] a _ H1.out F1.out.v (by omega) (by have := HA.out; simp; omega)).mono ?_; rintro e w2 ⟨rfl, h2, c2⟩; have F2 := Lib.hid (F1.out.chg c2 hg (by omega)); have H2 := Lib.hid h2; clear h2 c2 H1 F1)
    | (have tk := H2; go_at_call 13; refine (CS.out g _ H2.out F2.out.v).mono ?_; rintro e w3 ⟨rfl, hb3⟩; have F3 := Lib.hid (F2.out.from hb3); have H3 := Lib.hid (H2.out.from hb3); clear hb3 tk H2 F2)
    | (have tk := H3; go_at_call 13; refine (CS.out g _ H3.out F3.out.v).mono ?_; rintro e w4 ⟨rfl, hb4⟩; have F4 := Lib.hid (F3.out.from hb4); have H4 := Lib.hid (H3.out.from hb4); clear hb4 tk H3 F3)
    | (have tk := H4; go_at_call 12; refine (write_any g o ([] ++ a) b _ H4.out F4.out.v (by omega) (by have := HA.out; have := HB.out; simp; omega)).mono ?_; rintro e w5 ⟨rfl, h5, c5⟩; have F5 := Lib.hid (F4.out.chg c5 hg (by omega)); have H5 := Lib.hid h5; clear h5 c5 tk H4 F4)
    | (go_at_call_of 7 (Value.string (S (a ++ b))); refine (CAB.out _ F5.out.v).mono ?_; rintro e w6 ⟨rfl, hb6⟩; have F6 := Lib.hid (F5.out.from hb6); have H6 := Lib.hid (H5.out.from hb6); clear hb6 H5 F5)
    | (go_at_call_of 7 (Value.string (S a)); refine (CA.out _ F6.out.v).mono ?_; rintro e w7 ⟨rfl, hb7⟩; have F7 := Lib.hid (F6.out.from hb7); have H7 := Lib.hid (H6.out.from hb7); clear hb7 H6 F6)
    | (go_at_call 9; refine (fixed_any _ F7.out.v).mono ?_; rintro e w8 ⟨rfl, hb8⟩; have F8 := Lib.hid (F7.out.from hb8); have H8 := Lib.hid (H7.out.from hb8); clear hb8 H7 F7)
    | (have tk := H8; go_at_call 13; refine (CS2.out g _ H8.out F8.out.v).mono ?_; rintro e w9 ⟨rfl, hb9⟩; have F9 := Lib.hid (F8.out.from hb9); clear hb9 tk H8 F8))
  go_ret
  exact ⟨rfl, F9.out.b⟩
theorem sizes_long (k : Int) (a b : ByteArray) (w : World) (hv : Vars w) (h : 2000 < a.size ∨ 2000 < b.size) :
    Calls Tryd.prog 6 #[.int .i64 k, .string a, .string b] w fun e w' => e = .returned (.bool true) ∧ Below w.heap.size w w' := by
  have HV := Lib.hid hv
  clear hv
  by_cases ha : 2000 < a.size
  · clear h
    go_enter Tryd.func6, Tryd.ntmps6
    go_wp2_with (go_at_call 9; refine (fixed_any _ HV.out).mono ?_; rintro e w8 ⟨rfl, hb8⟩; have B8 := Lib.hid hb8; clear hb8)
    go_ret
    exact ⟨rfl, B8.out⟩
  · have hb : 2000 < b.size := h.resolve_left ha
    have ha2 : a.size ≤ 2000 := by omega
    clear h ha
    go_enter Tryd.func6, Tryd.ntmps6
    go_wp2_with (go_at_call 9; refine (fixed_any _ HV.out).mono ?_; rintro e w8 ⟨rfl, hb8⟩; have B8 := Lib.hid hb8; clear hb8)
    go_ret
    exact ⟨rfl, B8.out⟩
theorem sizes_bad (k : Int) (a b : ByteArray) (w : World) (hv : Vars w) (ha : a.size ≤ 2000) (hb : b.size ≤ 2000) (h0 : k ≠ 0) (h1 : k ≠ 1) :
    Calls Tryd.prog 6 #[.int .i64 k, .string a, .string b] w fun e w' => e = .returned (.bool true) ∧ Below w.heap.size w w' := by
  have HV := Lib.hid hv
  have H0 := Lib.hid h0
  have H1 := Lib.hid h1
  have e0 : (k != 0) = true := by simpa using h0
  have e1 : (k != 1) = true := by simpa using h1
  clear hv h0 h1
  go_enter Tryd.func6, Tryd.ntmps6
  go_wp2_with (first
    | (go_at_call 10; refine (new_bad k _ H0.out H1.out).mono ?_; rintro e w1 ⟨rfl, rfl⟩)
    | (go_at_call 9; refine (fixed_any _ HV.out).mono ?_; rintro e w8 ⟨rfl, hb8⟩; have B8 := Lib.hid hb8; clear hb8))
  go_ret
  exact ⟨rfl, B8.out⟩
theorem sizes_any (k : Int) (a b : ByteArray) (w : World) (hv : Vars w) :
    Calls Tryd.prog 6 #[.int .i64 k, .string a, .string b] w fun e w' => e = .returned (.bool true) ∧ Below w.heap.size w w' := by
  by_cases h : 2000 < a.size ∨ 2000 < b.size
  · exact sizes_long k a b w hv h
  · have ha : a.size ≤ 2000 := by omega
    have hb : b.size ≤ 2000 := by omega
    by_cases h0 : k = 0
    · subst h0
      have := sizes_good false a.data.toList b.data.toList w hv (by rw [← Lib.size_eq]; exact ha) (by rw [← Lib.size_eq]; exact hb)
      rwa [S_of, S_of] at this
    · by_cases h1 : k = 1
      · subst h1
        have := sizes_good true a.data.toList b.data.toList w hv (by rw [← Lib.size_eq]; exact ha) (by rw [← Lib.size_eq]; exact hb)
        rwa [S_of, S_of] at this
      · exact sizes_bad k a b w hv ha hb h0 h1
end Go.Proofs.YtjldbpmdhapjlaaDoor
