/- The document's answer: how bytes are escaped. -/
import Derived.Test.YtcgdocdpdapglaaR3
import Derived.Deep.RegionWith
namespace Go.Proofs.Ytcgdocdpdapglaa
open Go.RowKit Go.Lib
/-! ### plain: an escape goes on byte by byte where no plain character stands -/
theorem head_byte (l : List UInt8) (hne : l ≠ []) : l = l.getD 0 0 :: l.drop 1 := by
  cases l with
  | nil => exact absurd rfl hne
  | cons a t => rfl
theorem decode_low (l : List UInt8) (hne : l ≠ []) (h : (l.getD 0 0).toNat < 128) : decodeL l = ((l.getD 0 0).toNat, 1) := by
  rcases decodeL_cases l hne with ⟨c, e⟩ | ⟨c1, _, _, _, e⟩ | ⟨c1, _, _, _, _, _, e⟩ | ⟨c1, _, _, _, _, _, _, e⟩ | e
  · exact e
  · omega
  · omega
  · omega
  · rw [head_byte l hne, decodeL_ascii _ _ h]; rfl
theorem decode_mid (b : UInt8) (t : List UInt8) (h : b.toNat / 64 = 2) : decodeL (b :: t) = (65533, 1) := by
  rw [decodeL_N]
  exact decodeN_cont _ _ _ _ _ (by simpa using h)
theorem good_low (l : List UInt8) (hne : l ≠ []) (h : (l.getD 0 0).toNat < 128) : good l = true := by
  rw [good_iff, decode_low l hne h]; dsimp only; omega
theorem esc_92 (l : List UInt8) (hne : l ≠ []) (h : l.getD 0 0 = 92) : esc l = [92, 92] ++ esc (l.drop 1) := by
  have hlt : (l.getD 0 0).toNat < 128 := by rw [h]; decide
  have hd := decode_low l hne hlt
  rw [esc_step l hne]
  unfold escStep
  rw [if_pos (good_low l hne hlt), hd, h]
  rfl
theorem esc_10 (l : List UInt8) (hne : l ≠ []) (h : l.getD 0 0 = 10) : esc l = [92, 110] ++ esc (l.drop 1) := by
  have hlt : (l.getD 0 0).toNat < 128 := by rw [h]; decide
  have hd := decode_low l hne hlt
  rw [esc_step l hne]
  unfold escStep
  rw [if_pos (good_low l hne hlt), hd, h]
  rfl
theorem esc_plain (l : List UInt8) (hne : l ≠ []) (hg : good l = true) (hp : plainN (decodeL l).1 = true) : esc l = l.take (decodeL l).2 ++ esc (l.drop (decodeL l).2) := by
  rw [esc_step l hne]
  unfold escStep
  rw [if_pos hg, if_pos hp]
theorem esc_bad (l : List UInt8) (hne : l ≠ []) (hg : good l = false) : esc l = hexB (l.getD 0 0) ++ esc (l.drop 1) := by
  have hd := not_good l hg
  rw [esc_step l hne]
  unfold escStep
  rw [if_neg (by rw [hg]; decide), hd]
  dsimp only
  rw [takeA l (length_pos hne)]
  simp
theorem esc_hex (l : List UInt8) (hne : l ≠ []) (hg : good l = true) (hp : plainN (decodeL l).1 = false) (h92 : l.getD 0 0 ≠ 92) (h10 : l.getD 0 0 ≠ 10) : esc l = hexB (l.getD 0 0) ++ esc (l.drop 1) := by
  have hl := length_pos hne
  have hgood := (good_iff l).1 hg
  have hnp : ¬ (32 ≤ (decodeL l).1 ∧ ((decodeL l).1 < 127 ∨ 159 < (decodeL l).1) ∧ (decodeL l).1 ≠ 92) := by
    rw [← plainN_iff, hp]; decide
  have hb : ∀ n : Nat, n < 256 → l.getD 0 0 ≠ UInt8.ofNat n → (l.getD 0 0).toNat ≠ n := by
    intro n hn h e
    apply h; subst e; simp
  have n92 := hb 92 (by omega) h92
  have n10 := hb 10 (by omega) h10
  rw [esc_step l hne]
  unfold escStep
  rw [if_pos hg, if_neg (by rw [hp]; decide)]
  rcases decodeL_cases l hne with ⟨c, e⟩ | ⟨c1, c2, c3, cv, e⟩ | ⟨c1, c2, c3, c4, cv, cs, e⟩ | ⟨c1, c2, c3, c4, c5, cv, cw, e⟩ | e
  · rw [e]; dsimp only
    rw [if_neg n92, if_neg n10, takeA l hl]
    simp
  · rw [e] at hnp ⊢; dsimp only at hnp ⊢
    rw [if_neg (by omega), if_neg (by omega), takeB l c2]
    have e2 : l.drop 1 = l.getD 1 0 :: l.drop 2 := by
      match l, c2 with
      | _ :: _ :: _, _ => rfl
    have hm := decode_mid (l.getD 1 0) (l.drop 2) c3
    have hbad : good (l.getD 1 0 :: l.drop 2) = false := by
      rw [Bool.eq_false_iff]; intro h; rw [good_iff, hm] at h; exact h ⟨rfl, rfl⟩
    rw [e2, esc_bad _ (by simp) hbad]
    simp
  · rw [e] at hnp; dsimp only at hnp; omega
  · rw [e] at hnp; dsimp only at hnp; omega
  · rw [e] at hgood; simp at hgood

/-! ### the walks -/
set_option maxHeartbeats 400000 in
theorem hex_is (n : Int) (c : UInt8) (h0 : 0 ≤ n) (h1 : n < 16) (hc : hexN n.toNat = c) (w : World) : Calls Try.prog 32 #[.int .u8 n] w fun e w' => e = .returned (.int .u8 c.toNat) ∧ w' = w := by
  by_cases h2 : n < 10
  · have e : ((c.toNat : Nat) : Int) = 48 + n := by
      rw [← hc]; unfold hexN; rw [if_pos (by omega)]
      simp; omega
    replace e := Lib.hid e
    clear hc
    go_enter Try.func32, Try.ntmps32
    go_wp2
    go_ret
    exact ⟨int_ret (by rw [e.out]), rfl⟩
  · have e : ((c.toNat : Nat) : Int) = 87 + n := by
      rw [← hc]; unfold hexN; rw [if_neg (by omega)]
      simp; omega
    replace e := Lib.hid e
    clear hc
    go_enter Try.func32, Try.ntmps32
    go_wp2
    go_ret
    exact ⟨int_ret (by rw [e.out]; omega), rfl⟩
theorem empty_bytes (w : World) (B : Nat) (hB : B ≤ w.heap.size) : (w.alloc (.cells #[] 5)).ownsRow B 5 1 (.slice (some ⟨w.heap.size, 0, none⟩) 0 0) 0 [] :=
  ⟨rfl, Or.inr ⟨w.heap.size, 0, #[], rfl, hB, heap_alloc_new w _, by omega, by unfold maxLen; omega, rfl, rfl⟩⟩
set_option maxHeartbeats 6400000 in
theorem escapeR_any (s : List UInt8) (hs : s.length ≤ 1099511627776) (w : World) : Calls Try.prog 23 #[.string (S s)] w (EscPost s w) := by
  obtain ⟨i0, hi, hz0, hz1, hz2⟩ := info_parts info5
  have hz : (S s).size = s.length := S_size s
  replace hz := Lib.hid hz
  have er := Lib.hid (empty_bytes w w.heap.size (Nat.le_refl _))
  go_enter Try.func23, Try.ntmps23
  go_wp2
  go_loopw [3, 4] (fun v k wr => ∃ (pos : Nat) (acc : List UInt8), k = .int .i64 pos ∧ pos ≤ s.length ∧ wr.ownsRow w.heap.size 5 1 v acc.length (byteCells acc) ∧ Hid (Below w.heap.size w wr) ∧ Hid (acc ++ esc (s.drop pos) = esc s) ∧ acc.length ≤ 4 * pos) (fun _ k _ => s.length - (intOf k).toNat)
  case atStart => exact ⟨0, [], rfl, by omega, er.out, (Below.refl _ _).alloc (Nat.le_refl _) _, by show _ = _; simp, by simp⟩
  case round =>
    obtain ⟨pos, acc, rfl, hp, hown, HB, HE, hal⟩ := hrel
    clear er
    obtain ⟨A, cap, rfl⟩ := own_form hown
    have hbw := HB.out.size
    have hzz := hz.out
    by_cases hlt : pos < s.length
    · have hlt2 : pos < (S s).size := by omega
      have hne := drop_neL hlt
      have hb0 := byte_at s pos hlt2
      have hg0 : (s.drop pos).getD 0 0 = (S s)[pos] := by rw [hb0, getD_dropN]; rfl
      have hd1 : (s.drop pos).drop 1 = s.drop (pos + 1) := List.drop_drop
      clear hb0
      replace hg0 := Lib.hid hg0
      replace hd1 := Lib.hid hd1
      replace hzz := Lib.hid hzz
      cases hg : good (s.drop pos) with
      | true =>
        obtain ⟨d, hd⟩ : ∃ d, decodeL (s.drop pos) = d := ⟨_, rfl⟩
        obtain ⟨r, n⟩ := d
        have hw := decodeL_width (s.drop pos)
        have hle := decodeL_le _ hne
        have hw4 := decodeL_w4 _ hne
        rw [hd, List.length_drop] at hle
        rw [hd] at hw hw4
        dsimp only at hle hw hw4
        have hc := rune_good s pos r n hg hd hlt (by omega) wr
        have b0 : ((n : Int) == 0) = false := by rw [beq_eq_false_iff_ne]; omega
        have n0 : (0 : Int) < (n : Int) := by omega
        replace hc := Lib.hid hc
        cases hpl : plainN r with
        | true =>
          have hst := esc_plain _ hne hg (by rw [hd]; exact hpl)
          rw [hd, List.drop_drop] at hst
          dsimp only at hst
          obtain ⟨x, hx⟩ : ∃ x, (s.drop pos).take n = x := ⟨_, rfl⟩
          have hxl : x.length = n := by rw [← hx, List.length_take, List.length_drop]; omega
          rw [hx] at hst
          have ex : (S s).extract pos (pos + n) = S x := by rw [Lib.extract_eq, S_data, Nat.add_sub_cancel_left, hx]; rfl
          replace ex := Lib.hid ex
          have fit : pos + n ≤ (S s).size := by have := hz.out; omega
          replace hst := Lib.hid hst
          replace hx := Lib.hid hx
          replace hne := Lib.hid hne
          replace hpl := Lib.hid hpl
          replace hxl := Lib.hid hxl
          clear hg hd
          go_wp2_with fail
          refine hc.out.mono ?_
          rintro e w1 ⟨rfl, hb1⟩
          have hown1 := ownsRow_below hown hb1
          have B1 := Lib.hid (HB.out.trans (hb1.mono HB.out.size))
          clear hb1 hown
          have hz1' : w.heap.size ≤ w1.heap.size := B1.out.size
          go_wp2_with fail
          refine (plainR_any _ _).mono ?_
          rw [plainZ_nat, hpl.out]
          rintro e w' ⟨rfl, rfl⟩
          go_wp2_with (at_builtin; refine Lib.wpList_append_own_string _ rfl _ _ 42 9 rfl (w.heap.size) 5 i0 Try.underlying42 Try.underlying9 hi hz0 hz1 hz2 _ acc.length (byteCells acc) rfl hown1 ((S s).extract pos (pos + n)) rfl ?c3 ?c4 ?c5 ?_)
          case c3 => rw [ex.out, S_size, hxl.out]; unfold maxLen; omega
          case c4 => rw [ex.out, S_size, hxl.out]; omega
          case c5 => exact hz1'
          intro v' w2 ho2 hgr _
          have ho3 : w2.ownsRow (w.heap.size) 5 1 v' (acc ++ x).length (byteCells (acc ++ x)) := by
            rw [ex.out] at ho2; rw [List.length_append, byteCells_append, hxl.out]; exact ho2
          have hb2 := Lib.hid (B1.out.grown hgr hz1' fun g hg => (hown1.lt g hg).1)
          clear ho2 hgr hown1
          replace ho3 := Lib.hid ho3
          go_wp2
          go_roundw
          case rel =>
            refine ⟨pos + n, acc ++ x, by go_num, by omega, ho3.out, hb2, ?_, ?_⟩
            · show _ = _
              rw [← HE.out, hst.out, List.append_assoc]
            · rw [List.length_append, hxl.out]; omega
          case measure => simp [intOf]; omega
        | false =>
          by_cases h92 : (S s)[pos] = 92
          · have hst := esc_92 _ hne (by rw [hg0.out]; exact h92)
            rw [hd1.out] at hst
            have b92 : (((S s)[pos].toNat : Int) == 92) = true := by rw [h92]; rfl
            replace hst := Lib.hid hst
            replace hne := Lib.hid hne
            replace hpl := Lib.hid hpl
            clear hg hd h92
            go_wp2_with fail
            refine hc.out.mono ?_
            rintro e w1 ⟨rfl, hb1⟩
            have hown1 := ownsRow_below hown hb1
            have B1 := Lib.hid (HB.out.trans (hb1.mono HB.out.size))
            clear hb1 hown
            have hz1' : w.heap.size ≤ w1.heap.size := B1.out.size
            go_wp2_with fail
            refine (plainR_any _ _).mono ?_
            rw [plainZ_nat, hpl.out]
            rintro e w' ⟨rfl, rfl⟩
            go_wp2_with (at_builtin; refine wpList_append_own _ rfl _ _ 42 rfl w.heap.size 5 i0 (.int .u8 0) 1 1 Try.underlying42 hi hz0 hz1 hz2 rfl (by decide) _ _ _ rfl (hown1.alloc _) ⟨w1.heap.size, 0, none⟩ 2 2 [.int .u8 92, .int .u8 92] rfl rfl ?c1 ?c2 ?c3 ?c4 ?c5 ?_)
            case c1 => exact row_new w1 [_, _] 5
            case c2 => intro u hu; simp at hu; rcases hu with rfl | rfl <;> rfl
            case c3 => unfold maxLen; omega
            case c4 => omega
            case c5 => rw [World.size_alloc]; omega
            intro v' w2 ho2 hgr _
            have ho3 : w2.ownsRow (w.heap.size) 5 1 v' (acc ++ [92, 92]).length (byteCells (acc ++ [92, 92])) := by
              rw [List.length_append, byteCells_append]; exact ho2
            have hb2 := Lib.hid ((B1.out.alloc hz1' _).grown hgr (by rw [World.size_alloc]; omega) fun g hg => (hown1.lt g hg).1)
            clear ho2 hgr hown1
            replace ho3 := Lib.hid ho3
            go_wp2
            go_roundw
            case rel =>
              refine ⟨pos + 1, acc ++ [92, 92], by go_num, by omega, ho3.out, hb2, ?_, ?_⟩
              · show _ = _
                rw [← HE.out, hst.out, List.append_assoc]
              · rw [List.length_append]; simp; omega
            case measure => simp [intOf]; omega
          have b92 : (((S s)[pos].toNat : Int) == 92) = false := beq_no (n := 92) (by decide) h92
          by_cases h10 : (S s)[pos] = 10
          · have hst := esc_10 _ hne (by rw [hg0.out]; exact h10)
            rw [hd1.out] at hst
            have b10 : (((S s)[pos].toNat : Int) == 10) = true := by rw [h10]; rfl
            replace hst := Lib.hid hst
            replace hne := Lib.hid hne
            replace hpl := Lib.hid hpl
            clear hg hd h92 h10
            go_wp2_with fail
            refine hc.out.mono ?_
            rintro e w1 ⟨rfl, hb1⟩
            have hown1 := ownsRow_below hown hb1
            have B1 := Lib.hid (HB.out.trans (hb1.mono HB.out.size))
            clear hb1 hown
            have hz1' : w.heap.size ≤ w1.heap.size := B1.out.size
            go_wp2_with fail
            refine (plainR_any _ _).mono ?_
            rw [plainZ_nat, hpl.out]
            rintro e w' ⟨rfl, rfl⟩
            go_wp2_with (at_builtin; refine wpList_append_own _ rfl _ _ 42 rfl w.heap.size 5 i0 (.int .u8 0) 1 1 Try.underlying42 hi hz0 hz1 hz2 rfl (by decide) _ _ _ rfl (hown1.alloc _) ⟨w1.heap.size, 0, none⟩ 2 2 [.int .u8 92, .int .u8 110] rfl rfl ?c1 ?c2 ?c3 ?c4 ?c5 ?_)
            case c1 => exact row_new w1 [_, _] 5
            case c2 => intro u hu; simp at hu; rcases hu with rfl | rfl <;> rfl
            case c3 => unfold maxLen; omega
            case c4 => omega
            case c5 => rw [World.size_alloc]; omega
            intro v' w2 ho2 hgr _
            have ho3 : w2.ownsRow (w.heap.size) 5 1 v' (acc ++ [92, 110]).length (byteCells (acc ++ [92, 110])) := by
              rw [List.length_append, byteCells_append]; exact ho2
            have hb2 := Lib.hid ((B1.out.alloc hz1' _).grown hgr (by rw [World.size_alloc]; omega) fun g hg => (hown1.lt g hg).1)
            clear ho2 hgr hown1
            replace ho3 := Lib.hid ho3
            go_wp2
            go_roundw
            case rel =>
              refine ⟨pos + 1, acc ++ [92, 110], by go_num, by omega, ho3.out, hb2, ?_, ?_⟩
              · show _ = _
                rw [← HE.out, hst.out, List.append_assoc]
              · rw [List.length_append]; simp; omega
            case measure => simp [intOf]; omega
          · have b10 : (((S s)[pos].toNat : Int) == 10) = false := beq_no (n := 10) (by decide) h10
            have hst := esc_hex _ hne hg (by rw [hd]; exact hpl) (by rw [hg0.out]; exact h92) (by rw [hg0.out]; exact h10)
            rw [hd1.out] at hst
            replace hst := Lib.hid hst
            replace hne := Lib.hid hne
            replace hpl := Lib.hid hpl
            clear hg hd h92 h10
            obtain ⟨b, hb⟩ : ∃ b, (S s)[pos] = b := ⟨_, rfl⟩
            have hbl := (S s)[pos].toNat_lt
            obtain ⟨c1, hc1⟩ : ∃ c, hexN ((S s)[pos].toNat / 16) = c := ⟨_, rfl⟩
            obtain ⟨c2, hc2⟩ : ∃ c, hexN ((S s)[pos].toNat % 16) = c := ⟨_, rfl⟩
            have hst' : esc (s.drop pos) = [92, 120, c1, c2] ++ esc (s.drop (pos + 1)) := by
              rw [hst.out, hg0.out, ← hc1, ← hc2]; rfl
            replace hst' := Lib.hid hst'
            obtain ⟨z1, hz1e⟩ : ∃ z : Int, ((S s)[pos].toNat : Int) / 16 = z := ⟨_, rfl⟩
            obtain ⟨z2, hz2e⟩ : ∃ z : Int, ((S s)[pos].toNat : Int) % 16 = z := ⟨_, rfl⟩
            have tme : ((S s)[pos].toNat : Int).tmod 16 = z2 := by rw [Int.tmod_eq_emod_of_nonneg (by omega)]; exact hz2e
            have w1e : IntKind.u8.wrap z1 = z1 := by simp [IntKind.wrap, IntKind.signed, IntKind.bits]; omega
            have w2e : IntKind.u8.wrap z2 = z2 := by simp [IntKind.wrap, IntKind.signed, IntKind.bits]; omega
            have q1 := hex_is z1 c1 (by omega) (by omega) (by rw [← hc1]; congr 1; omega)
            have q2 := hex_is z2 c2 (by omega) (by omega) (by rw [← hc2]; congr 1; omega)
            have hmax : acc.length + 4 ≤ maxLen := by unfold maxLen; omega
            have hby : (acc.length + 4) * 1 ≤ 140737488355328 := by omega
            have h1c : ∀ u ∈ [Value.int .u8 92, Value.int .u8 120, Value.int .u8 c1.toNat, Value.int .u8 c2.toNat], u.oneCell' = true := by
              intro u hu; simp at hu; rcases hu with rfl | rfl | rfl | rfl <;> rfl
            clear hb b hc1 hc2
            replace q1 := Lib.hid q1
            replace q2 := Lib.hid q2
            replace hmax := Lib.hid hmax
            replace hby := Lib.hid hby
            replace h1c := Lib.hid h1c
            go_wp2_with fail
            refine hc.out.mono ?_
            rintro e w1 ⟨rfl, hb1⟩
            have hown1 := ownsRow_below hown hb1
            have B1 := Lib.hid (HB.out.trans (hb1.mono HB.out.size))
            clear hb1 hown
            have hz1' : w.heap.size ≤ w1.heap.size := B1.out.size
            go_wp2_with fail
            refine (plainR_any _ _).mono ?_
            rw [plainZ_nat, hpl.out]
            rintro e w' ⟨rfl, rfl⟩
            have hbs : w.heap.size ≤ (w1.alloc (.cells #[Value.int .u8 92, Value.int .u8 120, Value.int .u8 c1.toNat, Value.int .u8 c2.toNat] 5)).drew.heap.size := by
              show w.heap.size ≤ (w1.alloc _).heap.size
              rw [World.size_alloc]; omega
            have hrow := Lib.hid fun g hg => (hown1.lt g hg).1
            replace hbs := Lib.hid hbs
            go_wp2_with fail
            go_region_held3 (fun _ => True) (trivial)
              (first
                | (go_at_call_of 32 (Value.int .u8 z1); refine (q1.out _).mono ?_; rintro e w' ⟨rfl, rfl⟩)
                | (go_at_call_of 32 (Value.int .u8 z2); refine (q2.out _).mono ?_; rintro e w' ⟨rfl, rfl⟩)
                | (refine step_own (by rfl) _ _ _ (by rfl) w.heap.size 5 i0 (.int .u8 0) 1 1 Try.underlying42 hi hz0 hz1 hz2 rfl (by omega) _ _ _ (by rfl) ((hown1.alloc _).drew) ⟨w1.heap.size, 0, none⟩ 4 4 [.int .u8 92, .int .u8 120, .int .u8 c1.toNat, .int .u8 c2.toNat] (by rfl) (by rfl) (row_new w1 [.int .u8 92, .int .u8 120, .int .u8 c1.toNat, .int .u8 c2.toNat] 5) h1c.out hmax.out hby.out hbs.out ?_; intro v' w2 ho2 hgr))
            all_goals
              have ho3 : w2.ownsRow (w.heap.size) 5 1 v' (acc ++ [92, 120, c1, c2]).length (byteCells (acc ++ [92, 120, c1, c2])) := by
                rw [List.length_append, byteCells_append]; exact ho2
              have hb2 := Lib.hid (((B1.out.alloc hz1' _).drew).grown hgr hbs.out hrow.out)
              clear ho2 hgr hown1
              replace ho3 := Lib.hid ho3
              go_wp2
              go_roundw
              case rel =>
                refine ⟨pos + 1, acc ++ [92, 120, c1, c2], by go_num, by omega, ho3.out, hb2, ?_, ?_⟩
                · show _ = _
                  rw [← HE.out, hst'.out, List.append_assoc]
                · rw [List.length_append]; simp; omega
              case measure => simp [intOf]; omega
      | false =>
        have hc := rune_bad s pos hg hlt (by omega) wr
        have hn92 : (S s)[pos] ≠ 92 := by
          intro h
          have := good_low _ hne (by rw [hg0.out, h]; decide)
          rw [hg] at this; cases this
        have hn10 : (S s)[pos] ≠ 10 := by
          intro h
          have := good_low _ hne (by rw [hg0.out, h]; decide)
          rw [hg] at this; cases this
        have b92 : (((S s)[pos].toNat : Int) == 92) = false := beq_no (n := 92) (by decide) hn92
        have b10 : (((S s)[pos].toNat : Int) == 10) = false := beq_no (n := 10) (by decide) hn10
        have hst := esc_bad _ hne hg
        rw [hd1.out] at hst
        replace hst := Lib.hid hst
        replace hc := Lib.hid hc
        replace hne := Lib.hid hne
        clear hg hn92 hn10
        obtain ⟨b, hb⟩ : ∃ b, (S s)[pos] = b := ⟨_, rfl⟩
        have hbl := (S s)[pos].toNat_lt
        obtain ⟨c1, hc1⟩ : ∃ c, hexN ((S s)[pos].toNat / 16) = c := ⟨_, rfl⟩
        obtain ⟨c2, hc2⟩ : ∃ c, hexN ((S s)[pos].toNat % 16) = c := ⟨_, rfl⟩
        have hst' : esc (s.drop pos) = [92, 120, c1, c2] ++ esc (s.drop (pos + 1)) := by
          rw [hst.out, hg0.out, ← hc1, ← hc2]; rfl
        replace hst' := Lib.hid hst'
        obtain ⟨z1, hz1e⟩ : ∃ z : Int, ((S s)[pos].toNat : Int) / 16 = z := ⟨_, rfl⟩
        obtain ⟨z2, hz2e⟩ : ∃ z : Int, ((S s)[pos].toNat : Int) % 16 = z := ⟨_, rfl⟩
        have tme : ((S s)[pos].toNat : Int).tmod 16 = z2 := by rw [Int.tmod_eq_emod_of_nonneg (by omega)]; exact hz2e
        have w1e : IntKind.u8.wrap z1 = z1 := by simp [IntKind.wrap, IntKind.signed, IntKind.bits]; omega
        have w2e : IntKind.u8.wrap z2 = z2 := by simp [IntKind.wrap, IntKind.signed, IntKind.bits]; omega
        have q1 := hex_is z1 c1 (by omega) (by omega) (by rw [← hc1]; congr 1; omega)
        have q2 := hex_is z2 c2 (by omega) (by omega) (by rw [← hc2]; congr 1; omega)
        have hmax : acc.length + 4 ≤ maxLen := by unfold maxLen; omega
        have hby : (acc.length + 4) * 1 ≤ 140737488355328 := by omega
        have h1c : ∀ u ∈ [Value.int .u8 92, Value.int .u8 120, Value.int .u8 c1.toNat, Value.int .u8 c2.toNat], u.oneCell' = true := by
          intro u hu; simp at hu; rcases hu with rfl | rfl | rfl | rfl <;> rfl
        clear hb b hc1 hc2
        replace q1 := Lib.hid q1
        replace q2 := Lib.hid q2
        replace hmax := Lib.hid hmax
        replace hby := Lib.hid hby
        replace h1c := Lib.hid h1c
        go_wp2_with fail
        refine hc.out.mono ?_
        rintro e w1 ⟨rfl, hb1⟩
        have hown1 := ownsRow_below hown hb1
        have B1 := Lib.hid (HB.out.trans (hb1.mono HB.out.size))
        clear hb1 hown
        have hz1' : w.heap.size ≤ w1.heap.size := B1.out.size
        have hbs : w.heap.size ≤ (w1.alloc (.cells #[Value.int .u8 92, Value.int .u8 120, Value.int .u8 c1.toNat, Value.int .u8 c2.toNat] 5)).drew.heap.size := by
          show w.heap.size ≤ (w1.alloc _).heap.size
          rw [World.size_alloc]; omega
        have hrow := Lib.hid fun g hg => (hown1.lt g hg).1
        replace hbs := Lib.hid hbs
        go_wp2_with fail
        go_region_held3 (fun _ => True) (trivial)
          (first
            | (go_at_call_of 32 (Value.int .u8 z1); refine (q1.out _).mono ?_; rintro e w' ⟨rfl, rfl⟩)
            | (go_at_call_of 32 (Value.int .u8 z2); refine (q2.out _).mono ?_; rintro e w' ⟨rfl, rfl⟩)
            | (refine step_own (by rfl) _ _ _ (by rfl) w.heap.size 5 i0 (.int .u8 0) 1 1 Try.underlying42 hi hz0 hz1 hz2 rfl (by omega) _ _ _ (by rfl) ((hown1.alloc _).drew) ⟨w1.heap.size, 0, none⟩ 4 4 [.int .u8 92, .int .u8 120, .int .u8 c1.toNat, .int .u8 c2.toNat] (by rfl) (by rfl) (row_new w1 [.int .u8 92, .int .u8 120, .int .u8 c1.toNat, .int .u8 c2.toNat] 5) h1c.out hmax.out hby.out hbs.out ?_; intro v' w2 ho2 hgr))
        all_goals
          have ho3 : w2.ownsRow (w.heap.size) 5 1 v' (acc ++ [92, 120, c1, c2]).length (byteCells (acc ++ [92, 120, c1, c2])) := by
            rw [List.length_append, byteCells_append]; exact ho2
          have hb2 := Lib.hid (((B1.out.alloc hz1' _).drew).grown hgr hbs.out hrow.out)
          clear ho2 hgr hown1
          replace ho3 := Lib.hid ho3
          go_wp2
          go_roundw
          case rel =>
            refine ⟨pos + 1, acc ++ [92, 120, c1, c2], by go_num, by omega, ho3.out, hb2, ?_, ?_⟩
            · show _ = _
              rw [← HE.out, hst'.out, List.append_assoc]
            · rw [List.length_append]; simp; omega
          case measure => simp [intOf]; omega
    · have hE : acc = esc s := by rw [← HE.out, List.drop_eq_nil_of_le (by omega), esc_nil, List.append_nil]
      have hcv := conv_own hown
      have hge : ¬ pos < (S s).size := by omega
      replace hE := Lib.hid hE
      replace hzz := Lib.hid hzz
      go_wp2
      go_ret
      unfold EscPost
      rw [hE.out]
      exact ⟨rfl, HB.out⟩
end Go.Proofs.Ytcgdocdpdapglaa
