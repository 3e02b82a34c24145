/- The document's answer: the character that stands at a place. -/
import Derived.Test.YtcgdocdpdapglaaR1
namespace Go.Proofs.Ytcgdocdpdapglaa
open Go.RowKit Go.Lib
theorem byte_num (z : Int) (k : Nat) (h : z = (k : Int)) (hk : k < 256) : (z.toNat.toUInt8).toNat = k := by
  subst h; simp [Nat.toUInt8, UInt8.toNat_ofNat']; omega
theorem dec_enc (n : Int) (h : isZ n = true) (t : List UInt8) : decodeL (encodeRune n ++ t) = (n.toNat, (encodeRune n).length) := by
  unfold isZ at h
  rw [decide_eq_true_iff] at h
  obtain ⟨k, rfl⟩ := Int.eq_ofNat_of_zero_le (show 0 ≤ n by omega)
  rw [Int.toNat_natCast]
  unfold encodeRune
  by_cases h1 : k < 128
  · rw [encodeRuneZ_one (by omega) (by omega), decodeL_N]
    simp only [List.map_cons, List.map_nil, List.cons_append, List.nil_append, List.length_cons, List.length_nil, List.getD_cons_zero, List.getD_cons_succ]
    rw [byte_num (k : Int) k rfl (by omega)]
    unfold decodeN
    rw [if_pos h1]
  by_cases h2 : k < 2048
  · rw [encodeRuneZ_two (by omega) (by omega), decodeL_N]
    simp only [List.map_cons, List.map_nil, List.cons_append, List.nil_append, List.length_cons, List.length_nil, List.getD_cons_zero, List.getD_cons_succ]
    rw [byte_num (192 + (k : Int) / 64) (192 + k / 64) (by omega) (by omega), byte_num (128 + (k : Int) % 64) (128 + k % 64) (by omega) (by omega)]
    unfold decodeN
    rw [if_neg (by omega), if_pos (by omega), if_pos (by omega)]
    exact Prod.ext (by dsimp only; omega) rfl
  by_cases h3 : k < 65536
  · rw [encodeRuneZ_three (by omega), decodeL_N]
    simp only [List.map_cons, List.map_nil, List.cons_append, List.nil_append, List.length_cons, List.length_nil, List.getD_cons_zero, List.getD_cons_succ]
    rw [byte_num (224 + (k : Int) / 4096) (224 + k / 4096) (by omega) (by omega), byte_num (128 + (k : Int) / 64 % 64) (128 + k / 64 % 64) (by omega) (by omega), byte_num (128 + (k : Int) % 64) (128 + k % 64) (by omega) (by omega)]
    unfold decodeN
    rw [if_neg (by omega), if_neg (by omega), if_pos (by omega), if_pos (by omega)]
    exact Prod.ext (by dsimp only; omega) rfl
  · rw [encodeRuneZ_four (by omega) (by omega), decodeL_N]
    simp only [List.map_cons, List.map_nil, List.cons_append, List.nil_append, List.length_cons, List.length_nil, List.getD_cons_zero, List.getD_cons_succ]
    rw [byte_num (240 + (k : Int) / 262144) (240 + k / 262144) (by omega) (by omega), byte_num (128 + (k : Int) / 4096 % 64) (128 + k / 4096 % 64) (by omega) (by omega), byte_num (128 + (k : Int) / 64 % 64) (128 + k / 64 % 64) (by omega) (by omega), byte_num (128 + (k : Int) % 64) (128 + k % 64) (by omega) (by omega)]
    unfold decodeN
    rw [if_neg (by omega), if_neg (by omega), if_neg (by omega), if_pos (by omega), if_pos (by omega)]
    exact Prod.ext (by dsimp only; omega) rfl
theorem enc_len (n : Int) : 1 ≤ (encodeRune n).length := by
  have := encodeRuneZ_length n
  unfold encodeRune; rw [List.length_map]; exact this.1
theorem enc_good (n : Int) (h : isZ n = true) (t : List UInt8) : good (encodeRune n ++ t) = true := by
  rw [good_iff, dec_enc n h t]
  intro ⟨a, b⟩
  dsimp only at a b
  have : n = 65533 := by
    unfold isZ at h; rw [decide_eq_true_iff] at h; omega
  subst this
  rw [show (encodeRune 65533).length = 3 from by decide +kernel] at b
  omega
def hit (l : List UInt8) (m : Nat) : Bool := decide (m ≤ l.length) && (isZ (guessZ l m) && decide (encodeRune (guessZ l m) = l.take m))
theorem hit_decode {l : List UInt8} {m : Nat} (h : hit l m = true) : decodeL l = ((guessZ l m).toNat, m) ∧ good l = true ∧ 0 ≤ guessZ l m := by
  unfold hit at h
  simp only [Bool.and_eq_true, decide_eq_true_eq] at h
  obtain ⟨hm, hz, he⟩ := h
  have hl : (encodeRune (guessZ l m)).length = m := by rw [he, List.length_take]; omega
  have e : l = encodeRune (guessZ l m) ++ l.drop m := by rw [he, List.take_append_drop]
  refine ⟨?_, ?_, ?_⟩
  · have := dec_enc (guessZ l m) hz (l.drop m)
    rw [← e, hl] at this
    exact this
  · have := enc_good (guessZ l m) hz (l.drop m)
    rwa [← e] at this
  · unfold isZ at hz; rw [decide_eq_true_iff] at hz; omega
theorem good_hit {l : List UInt8} (hne : l ≠ []) (hg : good l = true) : hit l (decodeL l).2 = true := by
  have henc := encode_decode l hne ((good_iff l).1 hg)
  have hle := decodeL_le l hne
  have hgood := (good_iff l).1 hg
  have key : guessZ l (decodeL l).2 = ((decodeL l).1 : Int) ∧ isZ ((decodeL l).1 : Int) = true := by
    unfold isZ
    rw [decide_eq_true_iff]
    rcases decodeL_cases l hne with ⟨c, e⟩ | ⟨c1, c2, c3, cv, e⟩ | ⟨c1, c2, c3, c4, cv, cs, e⟩ | ⟨c1, c2, c3, c4, c5, cv, cw, e⟩ | e
    · rw [e]; dsimp only
      refine ⟨?_, by omega⟩
      simp [guessZ, gz]
    · rw [e]; dsimp only
      have k1 := (l.getD 1 0).toNat_lt
      refine ⟨?_, by omega⟩
      show 64 * (((l.getD 0 0).toNat : Int) - 192) + ((l.getD 1 0).toNat : Int) - 128 = _
      omega
    · rw [e]; dsimp only
      have k1 := (l.getD 1 0).toNat_lt
      have k2 := (l.getD 2 0).toNat_lt
      refine ⟨?_, by omega⟩
      show 64 * (64 * (((l.getD 0 0).toNat : Int) - 224) + ((l.getD 1 0).toNat : Int) - 128) + ((l.getD 2 0).toNat : Int) - 128 = _
      omega
    · rw [e]; dsimp only
      have k1 := (l.getD 1 0).toNat_lt
      have k2 := (l.getD 2 0).toNat_lt
      have k3 := (l.getD 3 0).toNat_lt
      refine ⟨?_, by omega⟩
      show 64 * (64 * (64 * (((l.getD 0 0).toNat : Int) - 240) + ((l.getD 1 0).toNat : Int) - 128) + ((l.getD 2 0).toNat : Int) - 128) + ((l.getD 3 0).toNat : Int) - 128 = _
      omega
    · rw [e] at hgood; simp at hgood
  unfold hit
  rw [key.1, key.2, henc]
  simp [hle]
/-- The character that stands at the head, and how many bytes it has; none: 0, 0. -/
def runeR (l : List UInt8) : Nat × Nat := if good l = true then decodeL l else (0, 0)
def RunePost (l : List UInt8) (w : World) (e : Ending) (w' : World) : Prop := e = .returned (.tuple #[.int .i64 ((runeR l).1 : Nat), .int .i64 ((runeR l).2 : Nat)]) ∧ Below w.heap.size w w'
theorem is_is (n : Int) (b : Bool) (h : isZ n = b) (w : World) : Calls Try.prog 34 #[.int .i64 n] w fun e w' => e = .returned (.bool b) ∧ w = w' := by
  subst h; exact is_any n w
theorem is_q (n : Int) (b : Bool) (h : isZ n = b) (w : World) : Calls Try.prog 34 #[.int .i64 n] w fun e w' => e = .returned (.bool b) ∧ w' = w := (is_is n b h w).mono fun _ _ hh => ⟨hh.1, hh.2.symm⟩
set_option maxHeartbeats 6400000 in
theorem rune_any (s : List UInt8) (i : Nat) (hi : i < s.length) (hs : s.length ≤ 1125899906842624) (w : World) :
    Calls Try.prog 25 #[.string (S s), .int .i64 i] w (RunePost (s.drop i) w) := by
  have hz : (S s).size = s.length := S_size s
  have hne : s.drop i ≠ [] := by have := drop_ne (s := S s) (i := i) (by rw [hz]; exact hi); rwa [S_data] at this
  have hdl : (s.drop i).length = s.length - i := List.length_drop
  replace hz := Lib.hid hz
  replace hne := Lib.hid hne
  replace hdl := Lib.hid hdl
  go_enter Try.func25, Try.ntmps25
  go_wp2
  go_loopw [6] (fun k wr => ∃ m : Nat, 1 ≤ m ∧ m ≤ 5 ∧ k = .int .i64 m ∧ Hid (Below w.heap.size w wr) ∧ Hid (∀ j, 1 ≤ j → j < m → hit (s.drop i) j = false)) (fun k _ => 5 - (intOf k).toNat)
  case atStart => exact ⟨1, by omega, by omega, rfl, Below.refl _ _, fun j h1 h2 => absurd h2 (by omega)⟩
  case round =>
    obtain ⟨m, hm1, hm5, rfl, HB, HN⟩ := hrel
    have none_ : (m = 5 ∨ s.length - i < m) → runeR (s.drop i) = (0, 0) := by
      intro h
      unfold runeR
      rw [if_neg]
      intro hg
      have h1 := good_hit hne.out hg
      have h2 := decodeL_le _ hne.out
      have h3 := decodeL_w4 _ hne.out
      have h4 := decodeL_width (s.drop i)
      rw [hdl.out] at h2
      rw [HN.out _ h4 (by omega)] at h1
      cases h1
    replace none_ := Lib.hid none_
    have hzz := hz.out
    by_cases h4 : m ≤ 4
    · by_cases hfit : i + m ≤ (S s).size
      · obtain ⟨g, hg⟩ : ∃ g, guessZ (s.drop i) m = g := ⟨_, rfl⟩
        have gc := guess_any s i m hm1 h4 (by omega) hs wr
        rw [hg] at gc
        replace gc := Lib.hid gc
        replace hg := Lib.hid hg
        replace hzz := Lib.hid hzz
        go_wp2_with fail
        refine gc.out.mono ?_
        rintro e w' ⟨rfl, rfl⟩
        have next : hit (s.drop i) m = false → ∀ j, 1 ≤ j → j < m + 1 → hit (s.drop i) j = false := by
          intro hh j hj1 hj2
          by_cases hjm : j < m
          · exact HN.out j hj1 hjm
          · have : j = m := by omega
            subst this; exact hh
        replace next := Lib.hid next
        have hmle : m ≤ (s.drop i).length := by rw [hdl.out]; have := hz.out; omega
        replace hmle := Lib.hid hmle
        cases hzg : isZ g with
        | false =>
          have hh : hit (s.drop i) m = false := by unfold hit; rw [hg.out, hzg]; simp
          replace hh := Lib.hid hh
          replace hzg := Lib.hid hzg
          go_wp2_with fail
          go_quiet ((go_at_call 34; exact Calls.quiet_of_same (is_q g false hzg.out _)))
          go_wp2
          go_roundw
          case rel => exact ⟨m + 1, by omega, by omega, by go_num, ⟨HB.out.os, HB.out.tape, HB.out.output, HB.out.size, HB.out.block⟩, next.out hh.out⟩
          case measure => simp [intOf]; omega
        | true =>
          have ex : (S s).extract i (i + m) = S ((s.drop i).take m) := by rw [Lib.extract_eq, S_data, Nat.add_sub_cancel_left]; rfl
          have f1 : IntKind.i64.wrap ((i : Int) + (m : Int)) = (i : Int) + (m : Int) := IntWalk.i64_in _ (by omega)
          have f2 : (0 : Int) ≤ (i : Int) + (m : Int) := by omega
          have f3 : (i : Int) ≤ (i : Int) + (m : Int) := by omega
          have f4 : (i : Int) + (m : Int) ≤ ((S s).size : Int) := by omega
          have f5 : ((i : Int) + (m : Int)).toNat = i + m := by omega
          have f6 : (0 : Int) ≤ (i : Int) := by omega
          by_cases he : encodeRune g = (s.drop i).take m
          · have hh : hit (s.drop i) m = true := by unfold hit; rw [hg.out, hzg, he]; simpa using hmle.out
            have bb : ((S (encodeRune g)).toList == ((S s).extract i (i + m)).toList) = true := by rw [ex, S_beq]; simpa using he
            obtain ⟨d1, d2, d3⟩ := hit_decode hh
            have hr : runeR (s.drop i) = (g.toNat, m) := by unfold runeR; rw [if_pos d2, d1, hg.out]
            rw [hg.out] at d3
            replace hr := Lib.hid hr
            replace hzg := Lib.hid hzg
            clear he ex hh d1 d2
            go_wp2_with fail
            go_region_held3 (fun _ => True) (trivial) (first | (go_at_call 34; refine (is_is g true hzg.out _).mono ?_; rintro e w' ⟨rfl, rfl⟩) | (go_at_call 35; refine (bytes_any g hzg.out _).mono ?_; rintro e w2 ⟨rfl, hb2⟩))
            go_wp2
            go_ret2
            unfold RunePost
            rw [hr.out]
            refine ⟨?_, ?_⟩
            · show Ending.returned (.tuple #[.int .i64 g, .int .i64 (m : Int)]) = Ending.returned (.tuple #[.int .i64 ((g.toNat : Nat) : Int), .int .i64 ((m : Nat) : Int)])
              rw [Int.toNat_of_nonneg d3]
            · exact HB.out.trans (Below.mono ⟨hb2.os, hb2.tape, hb2.output, hb2.size, hb2.block⟩ HB.out.size)
          · have hh : hit (s.drop i) m = false := by unfold hit; rw [hg.out]; simp [he]
            have bb : ((S (encodeRune g)).toList == ((S s).extract i (i + m)).toList) = false := by rw [ex, S_beq]; simpa using he
            replace hh := Lib.hid hh
            replace hzg := Lib.hid hzg
            clear he ex
            go_wp2_with fail
            go_region_held3 (fun _ => True) (trivial) (first | (go_at_call 34; refine (is_is g true hzg.out _).mono ?_; rintro e w' ⟨rfl, rfl⟩) | (go_at_call 35; refine (bytes_any g hzg.out _).mono ?_; rintro e w2 ⟨rfl, hb2⟩))
            go_wp2
            go_roundw
            case rel => exact ⟨m + 1, by omega, by omega, by go_num, HB.out.trans (Below.mono ⟨hb2.os, hb2.tape, hb2.output, hb2.size, hb2.block⟩ HB.out.size), next.out hh.out⟩
            case measure => simp [intOf]; omega
      · have hr := none_.out (Or.inr (by omega))
        replace hr := Lib.hid hr
        replace hzz := Lib.hid hzz
        go_wp2
        go_ret2
        unfold RunePost
        rw [hr.out]
        exact ⟨rfl, HB.out⟩
    · have hr := none_.out (Or.inl (by omega))
      replace hr := Lib.hid hr
      replace hzz := Lib.hid hzz
      go_wp2
      go_ret2
      unfold RunePost
      rw [hr.out]
      exact ⟨rfl, HB.out⟩
end Go.Proofs.Ytcgdocdpdapglaa
