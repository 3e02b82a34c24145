/- Walks of the document's answer: characters' numbers and bytes. -/
import Derived.Test.YtcgdocdpdapglaaW10
namespace Go.Proofs.Ytcgdocdpdapglaa
open Go.RowKit Go.Lib
def isZ (n : Int) : Bool := decide ((0 ≤ n ∧ n ≤ 55295) ∨ (57344 ≤ n ∧ n ≤ 1114111))
set_option maxHeartbeats 400000 in
theorem is_any (n : Int) (w : World) : Calls Try.prog 34 #[.int .i64 n] w fun e w' => e = .returned (.bool (isZ n)) ∧ w = w' := by
  by_cases h1 : n < 0
  · have e : Hid (isZ n = false) := by show _ = _; unfold isZ; rw [decide_eq_false_iff_not]; omega
    go_enter Try.func34, Try.ntmps34
    go_wp2
    go_ret
    exact ⟨bool_ret e.out.symm, rfl⟩
  by_cases h2 : n ≤ 55295
  · have e : Hid (isZ n = true) := by show _ = _; unfold isZ; rw [decide_eq_true_iff]; omega
    go_enter Try.func34, Try.ntmps34
    go_wp2
    go_ret
    exact ⟨bool_ret e.out.symm, rfl⟩
  by_cases h3 : n < 57344
  · have e : Hid (isZ n = false) := by show _ = _; unfold isZ; rw [decide_eq_false_iff_not]; omega
    go_enter Try.func34, Try.ntmps34
    go_wp2
    go_ret
    exact ⟨bool_ret e.out.symm, rfl⟩
  by_cases h4 : n ≤ 1114111
  · have e : Hid (isZ n = true) := by show _ = _; unfold isZ; rw [decide_eq_true_iff]; omega
    go_enter Try.func34, Try.ntmps34
    go_wp2
    go_ret
    exact ⟨bool_ret e.out.symm, rfl⟩
  · have e : Hid (isZ n = false) := by show _ = _; unfold isZ; rw [decide_eq_false_iff_not]; omega
    go_enter Try.func34, Try.ntmps34
    go_wp2
    go_ret
    exact ⟨bool_ret e.out.symm, rfl⟩
set_option maxHeartbeats 400000 in
theorem plainR_any (n : Int) (w : World) : Calls Try.prog 27 #[.int .i64 n] w fun e w' => e = .returned (.bool (plainZ n)) ∧ w = w' := by
  by_cases h1 : n < 32
  · have e : Hid (plainZ n = false) := by show _ = _; unfold plainZ; rw [decide_eq_false (by omega)]; rfl
    go_enter Try.func27, Try.ntmps27
    go_wp2
    go_ret
    exact ⟨bool_ret e.out.symm, rfl⟩
  by_cases h2 : n = 127
  · subst h2
    go_enter Try.func27, Try.ntmps27
    go_wp2
    go_ret
    exact ⟨rfl, rfl⟩
  have b127 : (n != 127) = true := by simpa using h2
  by_cases h3 : n = 92
  · subst h3
    go_enter Try.func27, Try.ntmps27
    go_wp2
    go_ret
    exact ⟨rfl, rfl⟩
  have b92 : (n != 92) = true := by simpa using h3
  by_cases h4 : n < 128
  · have e : Hid (plainZ n = true) := by show _ = _; unfold plainZ; simp; omega
    clear h2 h3
    go_enter Try.func27, Try.ntmps27
    go_wp2
    go_ret
    exact ⟨bool_ret e.out.symm, rfl⟩
  by_cases h5 : n ≤ 159
  · have e : Hid (plainZ n = false) := by show _ = _; unfold plainZ; simp; omega
    clear h2 h3
    go_enter Try.func27, Try.ntmps27
    go_wp2
    go_ret
    exact ⟨bool_ret e.out.symm, rfl⟩
  · have e : Hid (plainZ n = true) := by show _ = _; unfold plainZ; simp; omega
    clear h2 h3
    go_enter Try.func27, Try.ntmps27
    go_wp2
    go_ret
    exact ⟨bool_ret e.out.symm, rfl⟩
/-- What was built just now, as a string. -/
theorem conv_new (w : World) (l : List UInt8) (xs : Array Value) (k : Nat) (hx : xs = (byteCells l).toArray) (hk : k = l.length) :
    (convert 42 9 (.slice (some ⟨w.heap.size, 0, none⟩) k k)).run Try.prog (w.alloc (.cells xs 5)) = .ok (.string (S l)) (w.alloc (.cells xs 5)) := by
  subst hx hk
  exact run_convert_bytes_back _ 42 9 5 ⟨w.heap.size, 0, none⟩ _ l Try.underlying42 Try.underlying5 Try.underlying9 (fun j hj => row_new w (byteCells l) 5 j _ (by simp [byteCells, hj]))
def BytesPost (n : Int) (w : World) (e : Ending) (w' : World) : Prop := e = .returned (.string (S (encodeRune n))) ∧ Below w.heap.size w w'
theorem u8_of (n : Int) (h0 : 0 ≤ n) (h1 : n < 256) : n = ((n.toNat.toUInt8).toNat : Int) := by
  have : n.toNat < 256 := by omega
  simp [Nat.toUInt8, UInt8.toNat_ofNat']; omega
set_option maxHeartbeats 800000 in
theorem bytes1 (n : Int) (h0 : 0 ≤ n) (h1 : n < 128) (w : World) : Calls Try.prog 35 #[.int .i64 n] w (BytesPost n w) := by
  have e : Hid (encodeRune n = [n.toNat.toUInt8]) := by show _ = _; unfold encodeRune; rw [encodeRuneZ_one h0 (by omega)]; rfl
  have hcv : (convert 42 9 (.slice (some ⟨w.heap.size, 0, none⟩) 1 1)).run Try.prog (w.alloc (.cells #[.int .u8 n] 5)) = .ok (.string (S [n.toNat.toUInt8])) (w.alloc (.cells #[.int .u8 n] 5)) :=
    conv_new w _ _ 1 (by simp only [byteCells, List.map_cons, List.map_nil]; rw [← u8_of n h0 (by omega)]) rfl
  go_enter Try.func35, Try.ntmps35
  go_wp2
  go_ret
  refine ⟨?_, (Below.refl _ _).alloc (Nat.le_refl _) _⟩
  rw [e.out]; rfl
set_option maxHeartbeats 800000 in
theorem bytes2 (n : Int) (h0 : 128 ≤ n) (h1 : n < 2048) (w : World) : Calls Try.prog 35 #[.int .i64 n] w (BytesPost n w) := by
  have e : Hid (encodeRune n = [(192 + n / 64).toNat.toUInt8, (128 + n % 64).toNat.toUInt8]) := by show _ = _; unfold encodeRune; rw [encodeRuneZ_two h0 (by omega)]; rfl
  have hcv : (convert 42 9 (.slice (some ⟨w.heap.size, 0, none⟩) 2 2)).run Try.prog (w.alloc (.cells #[.int .u8 (192 + n / 64), .int .u8 (128 + n % 64)] 5)) = .ok (.string (S [(192 + n / 64).toNat.toUInt8, (128 + n % 64).toNat.toUInt8])) (w.alloc (.cells #[.int .u8 (192 + n / 64), .int .u8 (128 + n % 64)] 5)) :=
    conv_new w _ _ 2 (by simp only [byteCells, List.map_cons, List.map_nil]; rw [← u8_of (192 + n / 64) (by omega) (by omega)]; rw [← u8_of (128 + n % 64) (by omega) (by omega)]) rfl
  go_enter Try.func35, Try.ntmps35
  go_wp2
  go_ret
  refine ⟨?_, (Below.refl _ _).alloc (Nat.le_refl _) _⟩
  rw [e.out]; rfl
set_option maxHeartbeats 800000 in
theorem bytes3 (n : Int) (h0 : 2048 ≤ n) (h1 : n < 65536) (hv : n < 55296 ∨ 57344 ≤ n) (w : World) : Calls Try.prog 35 #[.int .i64 n] w (BytesPost n w) := by
  have e : Hid (encodeRune n = [(224 + n / 4096).toNat.toUInt8, (128 + n / 64 % 64).toNat.toUInt8, (128 + n % 64).toNat.toUInt8]) := by show _ = _; unfold encodeRune; rw [encodeRuneZ_three (by omega)]; rfl
  have hcv : (convert 42 9 (.slice (some ⟨w.heap.size, 0, none⟩) 3 3)).run Try.prog (w.alloc (.cells #[.int .u8 (224 + n / 4096), .int .u8 (128 + n / 64 % 64), .int .u8 (128 + n % 64)] 5)) = .ok (.string (S [(224 + n / 4096).toNat.toUInt8, (128 + n / 64 % 64).toNat.toUInt8, (128 + n % 64).toNat.toUInt8])) (w.alloc (.cells #[.int .u8 (224 + n / 4096), .int .u8 (128 + n / 64 % 64), .int .u8 (128 + n % 64)] 5)) :=
    conv_new w _ _ 3 (by simp only [byteCells, List.map_cons, List.map_nil]; rw [← u8_of (224 + n / 4096) (by omega) (by omega)]; rw [← u8_of (128 + n / 64 % 64) (by omega) (by omega)]; rw [← u8_of (128 + n % 64) (by omega) (by omega)]) rfl
  go_enter Try.func35, Try.ntmps35
  go_wp2
  go_ret
  refine ⟨?_, (Below.refl _ _).alloc (Nat.le_refl _) _⟩
  rw [e.out]; rfl
set_option maxHeartbeats 800000 in
theorem bytes4 (n : Int) (h0 : 65536 ≤ n) (h1 : n ≤ 1114111) (w : World) : Calls Try.prog 35 #[.int .i64 n] w (BytesPost n w) := by
  have e : Hid (encodeRune n = [(240 + n / 262144).toNat.toUInt8, (128 + n / 4096 % 64).toNat.toUInt8, (128 + n / 64 % 64).toNat.toUInt8, (128 + n % 64).toNat.toUInt8]) := by show _ = _; unfold encodeRune; rw [encodeRuneZ_four h0 h1]; rfl
  have hcv : (convert 42 9 (.slice (some ⟨w.heap.size, 0, none⟩) 4 4)).run Try.prog (w.alloc (.cells #[.int .u8 (240 + n / 262144), .int .u8 (128 + n / 4096 % 64), .int .u8 (128 + n / 64 % 64), .int .u8 (128 + n % 64)] 5)) = .ok (.string (S [(240 + n / 262144).toNat.toUInt8, (128 + n / 4096 % 64).toNat.toUInt8, (128 + n / 64 % 64).toNat.toUInt8, (128 + n % 64).toNat.toUInt8])) (w.alloc (.cells #[.int .u8 (240 + n / 262144), .int .u8 (128 + n / 4096 % 64), .int .u8 (128 + n / 64 % 64), .int .u8 (128 + n % 64)] 5)) :=
    conv_new w _ _ 4 (by simp only [byteCells, List.map_cons, List.map_nil]; rw [← u8_of (240 + n / 262144) (by omega) (by omega)]; rw [← u8_of (128 + n / 4096 % 64) (by omega) (by omega)]; rw [← u8_of (128 + n / 64 % 64) (by omega) (by omega)]; rw [← u8_of (128 + n % 64) (by omega) (by omega)]) rfl
  go_enter Try.func35, Try.ntmps35
  go_wp2
  go_ret
  refine ⟨?_, (Below.refl _ _).alloc (Nat.le_refl _) _⟩
  rw [e.out]; rfl

theorem bytes_any (n : Int) (h : isZ n = true) (w : World) : Calls Try.prog 35 #[.int .i64 n] w (BytesPost n w) := by
  unfold isZ at h
  rw [decide_eq_true_iff] at h
  by_cases h1 : n < 128
  · exact bytes1 n (by omega) h1 w
  by_cases h2 : n < 2048
  · exact bytes2 n (by omega) h2 w
  by_cases h3 : n < 65536
  · exact bytes3 n (by omega) h3 (by omega) w
  · exact bytes4 n (by omega) (by omega) w

/-! ### the number that so many bytes would be -/
def gz (l : List UInt8) (m : Nat) : Nat → Int
  | 0 => ((l.getD 0 0).toNat : Int) - (if m = 2 then 192 else if m = 3 then 224 else if m = 4 then 240 else 0)
  | k + 1 => 64 * gz l m k + ((l.getD (k + 1) 0).toNat : Int) - 128
theorem gz_0 (l : List UInt8) (m : Nat) : -300 ≤ gz l m 0 ∧ gz l m 0 ≤ 300 := by
  have b0 := (l.getD 0 0).toNat_lt
  simp only [gz]
  split <;> (try split) <;> (try split) <;> omega
theorem gz_s (l : List UInt8) (m k : Nat) (B : Int) (h : -B ≤ gz l m k ∧ gz l m k ≤ B) : -(64 * B + 128) ≤ gz l m (k + 1) ∧ gz l m (k + 1) ≤ 64 * B + 128 := by
  have b0 := (l.getD (k + 1) 0).toNat_lt
  simp only [gz]
  omega
theorem gz_bd (l : List UInt8) (m k : Nat) (hk : k ≤ 3) : -100000000 ≤ gz l m k ∧ gz l m k ≤ 100000000 := by
  have h0 := gz_0 l m
  have h1 : -19328 ≤ gz l m 1 ∧ gz l m 1 ≤ 19328 := gz_s l m 0 _ h0
  have h2 : -1237120 ≤ gz l m 2 ∧ gz l m 2 ≤ 1237120 := gz_s l m 1 _ h1
  have h3 : -79175808 ≤ gz l m 3 ∧ gz l m 3 ≤ 79175808 := gz_s l m 2 _ h2
  have h : k = 0 ∨ k = 1 ∨ k = 2 ∨ k = 3 := by omega
  rcases h with rfl | rfl | rfl | rfl
  · omega
  · omega
  · omega
  · omega
def guessZ (l : List UInt8) (m : Nat) : Int := gz l m (m - 1)
theorem getD_dropN (l : List UInt8) (i k : Nat) : (l.drop i).getD k 0 = l.getD (i + k) 0 := by simp [List.getD, List.getElem?_drop]
theorem byte_at (s : List UInt8) (k : Nat) (h : k < (S s).size) : (S s)[k] = s.getD k 0 := by
  have := getD_at (S s) k h
  rw [S_data] at this
  exact this.symm
set_option maxHeartbeats 3200000 in
theorem guess1 (s : List UInt8) (i : Nat) (hi : i + 1 ≤ s.length) (hs : s.length ≤ 1125899906842624) (w : World) :
    Calls Try.prog 33 #[.string (S s), .int .i64 i, .int .i64 1] w fun e w' => e = .returned (.int .i64 (guessZ (s.drop i) 1)) ∧ w = w' := by
  have hz : s.length = (S s).size := (S_size s).symm
  rw [hz] at hi hs
  clear hz
  have hi0 : i < (S s).size := by omega
  have st : ((S s)[i].toNat : Int) = gz (s.drop i) 1 0 := by
    rw [byte_at s i hi0]; simp [gz]
  have hbb := (S s)[i].toNat_lt
  replace st := Lib.hid st
  go_enter Try.func33, Try.ntmps33
  go_wp2
  go_loop [7, 8] (fun n k => ∃ j : Nat, 1 ≤ j ∧ j ≤ 1 ∧ k = .int .i64 j ∧ n = .int .i64 (gz (s.drop i) 1 (j - 1))) (fun _ k => 1 - (intOf k).toNat)
  case atStart => exact ⟨1, by omega, by omega, rfl, by rw [show 1 - 1 = 0 from rfl, ← st.out]⟩
  case round =>
    obtain ⟨j, hj1, hj, rfl, rfl⟩ := hrel
    have : j = 1 := by omega
    subst this
    go_wp2
    go_ret
    exact ⟨rfl, rfl⟩
set_option maxHeartbeats 3200000 in
theorem guess2 (s : List UInt8) (i : Nat) (hi : i + 2 ≤ s.length) (hs : s.length ≤ 1125899906842624) (w : World) :
    Calls Try.prog 33 #[.string (S s), .int .i64 i, .int .i64 2] w fun e w' => e = .returned (.int .i64 (guessZ (s.drop i) 2)) ∧ w = w' := by
  have hz : s.length = (S s).size := (S_size s).symm
  rw [hz] at hi hs
  clear hz
  have hi0 : i < (S s).size := by omega
  have st : ((S s)[i].toNat : Int) - 192 = gz (s.drop i) 2 0 := by
    rw [byte_at s i hi0]; simp [gz]
  have hbb := (S s)[i].toNat_lt
  replace st := Lib.hid st
  go_enter Try.func33, Try.ntmps33
  go_wp2
  go_loop [7, 8] (fun n k => ∃ j : Nat, 1 ≤ j ∧ j ≤ 2 ∧ k = .int .i64 j ∧ n = .int .i64 (gz (s.drop i) 2 (j - 1))) (fun _ k => 2 - (intOf k).toNat)
  case atStart => exact ⟨1, by omega, by omega, rfl, by rw [show 1 - 1 = 0 from rfl, ← st.out]⟩
  case round =>
    obtain ⟨j, hj1, hj, rfl, rfl⟩ := hrel
    by_cases hlt : j < 2
    · obtain ⟨x, hx⟩ : ∃ x, gz (s.drop i) 2 (j - 1) = x := ⟨_, rfl⟩
      have hb := gz_bd (s.drop i) 2 (j - 1) (by omega)
      rw [hx] at hb
      have hij : i + j < (S s).size := by omega
      have hbj := (S s)[i + j].toNat_lt
      have nx : gz (s.drop i) 2 j = 64 * x + ((S s)[i + j].toNat : Int) - 128 := by
        obtain ⟨j, rfl⟩ : ∃ k, j = k + 1 := ⟨j - 1, by omega⟩
        rw [byte_at s (i + (j + 1)) hij, ← hx]
        show 64 * gz (s.drop i) 2 j + (((s.drop i).getD (j + 1) 0).toNat : Int) - 128 = _
        rw [getD_dropN]; rfl
      obtain ⟨hb0, hb1⟩ := hb
      rw [hx]
      replace hx := Lib.hid hx
      replace nx := Lib.hid nx
      go_wp2
      go_round
      case rel => exact ⟨j + 1, by omega, by omega, by go_num, by rw [show j + 1 - 1 = j by omega, nx.out]⟩
      case measure => simp [intOf]; omega
    · have : j = 2 := by omega
      subst this
      go_wp2
      go_ret
      exact ⟨rfl, rfl⟩
set_option maxHeartbeats 3200000 in
theorem guess3 (s : List UInt8) (i : Nat) (hi : i + 3 ≤ s.length) (hs : s.length ≤ 1125899906842624) (w : World) :
    Calls Try.prog 33 #[.string (S s), .int .i64 i, .int .i64 3] w fun e w' => e = .returned (.int .i64 (guessZ (s.drop i) 3)) ∧ w = w' := by
  have hz : s.length = (S s).size := (S_size s).symm
  rw [hz] at hi hs
  clear hz
  have hi0 : i < (S s).size := by omega
  have st : ((S s)[i].toNat : Int) - 224 = gz (s.drop i) 3 0 := by
    rw [byte_at s i hi0]; simp [gz]
  have hbb := (S s)[i].toNat_lt
  replace st := Lib.hid st
  go_enter Try.func33, Try.ntmps33
  go_wp2
  go_loop [7, 8] (fun n k => ∃ j : Nat, 1 ≤ j ∧ j ≤ 3 ∧ k = .int .i64 j ∧ n = .int .i64 (gz (s.drop i) 3 (j - 1))) (fun _ k => 3 - (intOf k).toNat)
  case atStart => exact ⟨1, by omega, by omega, rfl, by rw [show 1 - 1 = 0 from rfl, ← st.out]⟩
  case round =>
    obtain ⟨j, hj1, hj, rfl, rfl⟩ := hrel
    by_cases hlt : j < 3
    · obtain ⟨x, hx⟩ : ∃ x, gz (s.drop i) 3 (j - 1) = x := ⟨_, rfl⟩
      have hb := gz_bd (s.drop i) 3 (j - 1) (by omega)
      rw [hx] at hb
      have hij : i + j < (S s).size := by omega
      have hbj := (S s)[i + j].toNat_lt
      have nx : gz (s.drop i) 3 j = 64 * x + ((S s)[i + j].toNat : Int) - 128 := by
        obtain ⟨j, rfl⟩ : ∃ k, j = k + 1 := ⟨j - 1, by omega⟩
        rw [byte_at s (i + (j + 1)) hij, ← hx]
        show 64 * gz (s.drop i) 3 j + (((s.drop i).getD (j + 1) 0).toNat : Int) - 128 = _
        rw [getD_dropN]; rfl
      obtain ⟨hb0, hb1⟩ := hb
      rw [hx]
      replace hx := Lib.hid hx
      replace nx := Lib.hid nx
      go_wp2
      go_round
      case rel => exact ⟨j + 1, by omega, by omega, by go_num, by rw [show j + 1 - 1 = j by omega, nx.out]⟩
      case measure => simp [intOf]; omega
    · have : j = 3 := by omega
      subst this
      go_wp2
      go_ret
      exact ⟨rfl, rfl⟩
set_option maxHeartbeats 3200000 in
theorem guess4 (s : List UInt8) (i : Nat) (hi : i + 4 ≤ s.length) (hs : s.length ≤ 1125899906842624) (w : World) :
    Calls Try.prog 33 #[.string (S s), .int .i64 i, .int .i64 4] w fun e w' => e = .returned (.int .i64 (guessZ (s.drop i) 4)) ∧ w = w' := by
  have hz : s.length = (S s).size := (S_size s).symm
  rw [hz] at hi hs
  clear hz
  have hi0 : i < (S s).size := by omega
  have st : ((S s)[i].toNat : Int) - 240 = gz (s.drop i) 4 0 := by
    rw [byte_at s i hi0]; simp [gz]
  have hbb := (S s)[i].toNat_lt
  replace st := Lib.hid st
  go_enter Try.func33, Try.ntmps33
  go_wp2
  go_loop [7, 8] (fun n k => ∃ j : Nat, 1 ≤ j ∧ j ≤ 4 ∧ k = .int .i64 j ∧ n = .int .i64 (gz (s.drop i) 4 (j - 1))) (fun _ k => 4 - (intOf k).toNat)
  case atStart => exact ⟨1, by omega, by omega, rfl, by rw [show 1 - 1 = 0 from rfl, ← st.out]⟩
  case round =>
    obtain ⟨j, hj1, hj, rfl, rfl⟩ := hrel
    by_cases hlt : j < 4
    · obtain ⟨x, hx⟩ : ∃ x, gz (s.drop i) 4 (j - 1) = x := ⟨_, rfl⟩
      have hb := gz_bd (s.drop i) 4 (j - 1) (by omega)
      rw [hx] at hb
      have hij : i + j < (S s).size := by omega
      have hbj := (S s)[i + j].toNat_lt
      have nx : gz (s.drop i) 4 j = 64 * x + ((S s)[i + j].toNat : Int) - 128 := by
        obtain ⟨j, rfl⟩ : ∃ k, j = k + 1 := ⟨j - 1, by omega⟩
        rw [byte_at s (i + (j + 1)) hij, ← hx]
        show 64 * gz (s.drop i) 4 j + (((s.drop i).getD (j + 1) 0).toNat : Int) - 128 = _
        rw [getD_dropN]; rfl
      obtain ⟨hb0, hb1⟩ := hb
      rw [hx]
      replace hx := Lib.hid hx
      replace nx := Lib.hid nx
      go_wp2
      go_round
      case rel => exact ⟨j + 1, by omega, by omega, by go_num, by rw [show j + 1 - 1 = j by omega, nx.out]⟩
      case measure => simp [intOf]; omega
    · have : j = 4 := by omega
      subst this
      go_wp2
      go_ret
      exact ⟨rfl, rfl⟩
theorem guess_any (s : List UInt8) (i m : Nat) (h1 : 1 ≤ m) (h4 : m ≤ 4) (hi : i + m ≤ s.length) (hs : s.length ≤ 1125899906842624) (w : World) :
    Calls Try.prog 33 #[.string (S s), .int .i64 i, .int .i64 m] w fun e w' => e = .returned (.int .i64 (guessZ (s.drop i) m)) ∧ w = w' := by
  have hm : m = 1 ∨ m = 2 ∨ m = 3 ∨ m = 4 := by omega
  rcases hm with rfl | rfl | rfl | rfl
  · exact guess1 s i hi hs w
  · exact guess2 s i hi hs w
  · exact guess3 s i hi hs w
  · exact guess4 s i hi hs w
end Go.Proofs.Ytcgdocdpdapglaa
