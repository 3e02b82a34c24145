/- Walks of package words: Escape. -/
import Derived.Test.YtcgdocdpdapglaaW7
import Derived.Test.YtcgdocdpdapglaaPlain3
import Derived.Lib.AppendStr
namespace Go.Proofs.Ytcgdocdpdapglaa
open Go.RowKit Go.Lib
theorem ofNat_eq {z : Int} {n : Nat} (h : z = (n : Int)) : z.toNat.toUInt8 = UInt8.ofNat n := by subst h; rfl
theorem encode_S (r : Int) : Utf8.encode r = S (encodeRune r) := by
  unfold Utf8.encode Utf8.valid Utf8.runeError S encodeRune encodeRuneZ
  by_cases hv : (0 ≤ r ∧ r < 55296) ∨ (57344 ≤ r ∧ r ≤ 1114111)
  · have hv' : ((decide (0 ≤ r) && decide (r < 55296)) || (decide (57344 ≤ r) && decide (r ≤ 1114111))) = true := by simp; omega
    simp only [hv', if_true]
    obtain ⟨n, rfl⟩ := Int.eq_ofNat_of_zero_le (show 0 ≤ r by omega)
    simp only [Int.toNat_natCast]
    by_cases h1 : n < 128
    · have i1 : 0 ≤ (n : Int) ∧ (n : Int) ≤ 127 := by omega
      simp only [if_pos h1, if_pos i1, List.map_cons, List.map_nil]
      rw [ofNat_eq (z := (n : Int)) rfl]
    · have i1 : ¬ (0 ≤ (n : Int) ∧ (n : Int) ≤ 127) := by omega
      simp only [if_neg h1, if_neg i1]
      by_cases h2 : n < 2048
      · have i2 : 128 ≤ (n : Int) ∧ (n : Int) ≤ 2047 := by omega
        simp only [if_pos h2, if_pos i2, List.map_cons, List.map_nil]
        rw [ofNat_eq (z := 192 + (n : Int) / 64) (n := 192 + n / 64) (by omega), ofNat_eq (z := 128 + (n : Int) % 64) (n := 128 + n % 64) (by omega)]
      · have i2 : ¬ (128 ≤ (n : Int) ∧ (n : Int) ≤ 2047) := by omega
        simp only [if_neg h2, if_neg i2]
        by_cases h3 : n < 65536
        · have i3 : (2048 ≤ (n : Int) ∧ (n : Int) < 55296) ∨ (57343 < (n : Int) ∧ (n : Int) ≤ 65535) := by omega
          simp only [if_pos h3, if_pos i3, List.map_cons, List.map_nil]
          rw [ofNat_eq (z := 224 + (n : Int) / 4096) (n := 224 + n / 4096) (by omega), ofNat_eq (z := 128 + (n : Int) / 64 % 64) (n := 128 + n / 64 % 64) (by omega), ofNat_eq (z := 128 + (n : Int) % 64) (n := 128 + n % 64) (by omega)]
        · have i3 : ¬ ((2048 ≤ (n : Int) ∧ (n : Int) < 55296) ∨ (57343 < (n : Int) ∧ (n : Int) ≤ 65535)) := by omega
          have i4 : 65536 ≤ (n : Int) ∧ (n : Int) ≤ 1114111 := by omega
          simp only [if_neg h3, if_neg i3, if_pos i4, List.map_cons, List.map_nil]
          rw [ofNat_eq (z := 240 + (n : Int) / 262144) (n := 240 + n / 262144) (by omega), ofNat_eq (z := 128 + (n : Int) / 4096 % 64) (n := 128 + n / 4096 % 64) (by omega), ofNat_eq (z := 128 + (n : Int) / 64 % 64) (n := 128 + n / 64 % 64) (by omega), ofNat_eq (z := 128 + (n : Int) % 64) (n := 128 + n % 64) (by omega)]
  · have hv' : ((decide (0 ≤ r) && decide (r < 55296)) || (decide (57344 ≤ r) && decide (r ≤ 1114111))) = false := by
      rw [Bool.eq_false_iff]; simp; omega
    simp only [hv', Bool.false_eq_true, if_false]
    have j1 : ¬ (0 ≤ r ∧ r ≤ 127) := by omega
    have j2 : ¬ (128 ≤ r ∧ r ≤ 2047) := by omega
    have j3 : ¬ ((2048 ≤ r ∧ r < 55296) ∨ (57343 < r ∧ r ≤ 65535)) := by omega
    have j4 : ¬ (65536 ≤ r ∧ r ≤ 1114111) := by omega
    simp only [if_neg j1, if_neg j2, if_neg j3, if_neg j4]
    rfl
theorem encode_char (l : List UInt8) (hne : l ≠ []) (hg : good l = true) : Utf8.encode ((decodeL l).1 : Int) = S (l.take (decodeL l).2) := by
  rw [encode_S, encode_decode l hne ((good_iff l).1 hg)]

theorem own_iterAt {w : World} {B : Nat} {e : TypeId} {z : Nat} {v : Value} {n : Nat} {xs : List Value} {k : Nat} (h : w.ownsRow B e z v n xs) (hk : k < B) (s : ByteArray) (pos : Nat) : (w.iterAt k s pos).ownsRow B e z v n xs := by
  refine ⟨h.1, ?_⟩
  rcases h.2 with hn | ⟨g, cap, cur, hv, hB, hg, rest⟩
  · exact Or.inl hn
  · exact Or.inr ⟨g, cap, cur, hv, hB, (iterAt_other w k g s pos (by omega)).trans hg, rest⟩
/-- What the call owns, as a string. -/
theorem conv_own {w : World} {B : Nat} {A : Option Addr} {n cap : Nat} {l : List UInt8} (h : w.ownsRow B 5 1 (.slice A n cap) n (byteCells l)) : (convert 42 9 (.slice A n cap)).run Try.prog w = .ok (.string (S l)) w := by
  have hl : l.length = n := by have := h.1; rw [byteCells_length] at this; omega
  rcases h.2 with ⟨hv, h0⟩ | ⟨g, cap', cur, hv, _⟩
  · obtain ⟨rfl, rfl, rfl⟩ : A = none ∧ n = 0 ∧ cap = 0 := by injection hv with e1 e2 e3; exact ⟨e1, e2, e3⟩
    have : l = [] := List.eq_nil_of_length_eq_zero hl
    subst this
    rw [run_convert_bytes_string w 42 9 5 none _ _ Try.underlying42 Try.underlying5 Try.underlying9]
    rfl
  · obtain ⟨rfl, rfl⟩ : A = some ⟨g, 0, none⟩ ∧ cap = cap' := by injection hv with e1 e2 e3; exact ⟨e1, e3⟩
    subst hl
    refine run_convert_bytes_back w 42 9 5 _ _ l Try.underlying42 Try.underlying5 Try.underlying9 (fun j hj => ?_)
    refine h.cells (g := g) rfl j _ ?_
    simp [byteCells, hj]
theorem decodeL_w4 (l : List UInt8) (hne : l ≠ []) : (decodeL l).2 ≤ 4 := by
  rcases decodeL_cases l hne with ⟨_, e⟩ | ⟨_, _, _, _, e⟩ | ⟨_, _, _, _, _, _, e⟩ | ⟨_, _, _, _, _, _, _, e⟩ | e <;> rw [e] <;> dsimp only <;> omega
def EscPost (s : List UInt8) (w : World) (e : Ending) (w' : World) : Prop := e = .returned (.string (S (esc s))) ∧ Below w.heap.size w w'
def EscRel (s : List UInt8) (w : World) (v : Value) (wr : World) : Prop := ∃ (pos : Nat) (acc : List UInt8), wr.ownsRow (w.heap.size + 1) 5 1 v acc.length (byteCells acc) ∧ Hid (wr.heap[w.heap.size]? = some (.stringIter (S s) pos)) ∧ Hid (Below w.heap.size w wr) ∧ Hid (acc ++ esc (s.drop pos) = esc s) ∧ acc.length ≤ 4 * pos ∧ pos ≤ s.length
set_option maxHeartbeats 6400000 in
theorem escape_any (s : List UInt8) (hs : s.length ≤ 1099511627776) (w : World) : Calls Try.prog 22 #[.string (S s)] w (EscPost s w) := by
  obtain ⟨i0, hi, hz0, hz1, hz2⟩ := info_parts info5
  have hsz : (S s).size ≤ 1125899906842624 := by rw [S_size]; omega
  go_enter Try.func22, Try.ntmps22
  go_wp2
  go_loopw [3] (fun v wr => EscRel s w v wr) (fun _ wr => s.length - wr.iterPos w.heap.size)
  case atStart => exact ⟨0, [], World.ownsRow_nil _ _ _ _, World.iter_heap w (S s) 0, Below.iter (Below.refl _ _) (Nat.le_refl _) _ _, by show _ = _; simp, by simp, by omega⟩
  case round =>
    obtain ⟨pos, acc, hown, HI, HB, HE, hal, hpl⟩ := hrel
    obtain ⟨A, cap, rfl⟩ := own_form hown
    have hlt : w.heap.size < wr.heap.size := (Array.getElem?_eq_some_iff.1 HI.out).1
    by_cases hp : pos < s.length
    · have hp2 : pos < (S s).size := by rw [S_size]; exact hp
      have hnx : ∀ ty, (Instr.next (.pointer (some ⟨w.heap.size, 0, none⟩)) true ty).run Try.prog wr = _ := fun ty => Lib.run_next_any_at wr w.heap.size (S s) pos ty HI.out hp2
      have hne := drop_ne hp2
      rw [S_data] at hne
      have hd := Lib.decodeL_drop (S s) pos
      rw [S_data] at hd
      have hwd := Lib.width_pos (S s) pos
      have hwl := decodeL_le _ hne
      rw [List.length_drop, hd] at hwl
      have hst := esc_step _ hne
      rw [hd, List.drop_drop] at hst
      have hel := escStep_len _ hne
      rw [hd] at hel
      obtain ⟨d, hde⟩ : ∃ d, Utf8.decode (S s) pos = d := ⟨_, rfl⟩
      have hown1 := own_iterAt hown (k := w.heap.size) (by omega) (S s) (pos + d.2)
      have HI1 := Lib.iterAt_heap wr w.heap.size (S s) pos (pos + d.2) HI.out
      have HB1 := Lib.below_iterAt HB.out (k := w.heap.size) (Nat.le_refl _) (S s) (pos + d.2)
      have hz1' : (wr.iterAt w.heap.size (S s) (pos + d.2)).heap.size = wr.heap.size := Lib.iterAt_size _ _ _ _
      rw [hde] at hnx hd hwd hwl hst hel
      have hc : (Utf8.decode (S s) pos).1 = d.1 := by rw [hde]
      clear hown
      replace hc := Lib.hid hc
      replace hd := Lib.hid hd
      replace hst := Lib.hid hst
      replace hde := Lib.hid hde
      replace hne := Lib.hid hne
      obtain ⟨w1, hw1⟩ : ∃ w1, wr.iterAt w.heap.size (S s) (pos + d.2) = w1 := ⟨_, rfl⟩
      rw [hw1] at hnx hown1 HI1 HB1 hz1'
      replace hw1 := Lib.hid hw1
      replace HI1 := Lib.hid HI1
      replace HB1 := Lib.hid HB1
      have hz2' : w.heap.size + 1 ≤ w1.heap.size := by omega
      replace hz1' := Lib.hid hz1'
      have stn := stands_any (S s) pos hp2 hsz w1
      rw [hc.out, S_data] at stn
      replace stn := Lib.hid stn
      have fin : ∀ v' w2 step, escStep (s.drop pos) = step → w2.ownsRow (w.heap.size + 1) 5 1 v' (acc ++ step).length (byteCells (acc ++ step)) → Below (w.heap.size + 1) w1 w2 → EscRel s w v' w2 ∧ s.length - w2.iterPos w.heap.size < s.length - pos := by
        intro v' w2 step hstep ho hb
        have hI : w2.heap[w.heap.size]? = some (.stringIter (S s) (pos + d.2)) := (hb.block _ (by omega)).trans HI1.out
        refine ⟨⟨pos + d.2, acc ++ step, ho, hI, HB1.out.trans (hb.mono (by omega)), ?_, ?_, by omega⟩, ?_⟩
        · show _ = _
          rw [← HE.out, hst.out, ← hstep, List.append_assoc]
        · rw [List.length_append, ← hstep]; omega
        · unfold World.iterPos; rw [hI]; show s.length - (pos + d.2) < _; omega
      have hpos : wr.iterPos w.heap.size = pos := by unfold World.iterPos; rw [HI.out]
      replace fin := Lib.hid fin
      replace hpos := Lib.hid hpos
      cases hg : good (s.drop pos) with
      | false =>
        have hw1 : d.2 = 1 := by
          have := not_good _ hg
          rw [hd.out] at this
          rw [this]
        have hstep : escStep (s.drop pos) = ((s.drop pos).take 1).flatMap hexB := by
          unfold escStep; rw [if_neg (by rw [hg]; decide), hd.out, hw1]
        replace hstep := Lib.hid hstep
        replace hw1 := Lib.hid hw1
        replace hg := Lib.hid hg
        have ex1 : (S s).extract pos (pos + 1) = S ((s.drop pos).take 1) := by rw [Lib.extract_eq, S_data]; simp [S]
        replace ex1 := Lib.hid ex1
        have hl1 : ((s.drop pos).take 1).length ≤ 1 := by rw [List.length_take]; omega
        go_wp2_with fail
        refine stn.out.mono ?_
        rw [hg.out]
        rintro e w' ⟨rfl, rfl⟩
        go_wp2_with fail
        rw [ex1.out]
        refine (appendHex_any (w.heap.size + 1) _ acc _ _ hz2' hown1 (by omega)).mono ?_
        rintro e w2 ⟨v', rfl, ho2, hb2⟩
        obtain ⟨f1, f2⟩ := fin.out v' w2 _ hstep.out ho2 hb2
        replace f1 := Lib.hid f1
        replace f2 := Lib.hid f2
        clear ho2 hb2
        go_wp2
        go_roundw
        case rel => exact f1.out
        case measure => rw [hpos.out]; exact f2.out
      | true =>
        replace hg := Lib.hid hg
        obtain ⟨x, hx⟩ : ∃ x, (s.drop pos).take d.2 = x := ⟨_, rfl⟩
        have hxl : x.length = d.2 := by rw [← hx, List.length_take, List.length_drop]; omega
        have hx4 : x.length ≤ 4 := by rw [hxl]; have := decodeL_w4 (s.drop pos) hne.out; rwa [hd.out] at this
        have henc : Utf8.encode (d.1 : Int) = S x := by
          have := encode_char _ hne.out hg.out
          rwa [hd.out, hx] at this
        replace hxl := Lib.hid hxl
        have hes : escStep (s.drop pos) = if plainN d.1 = true then x else if d.1 = 92 then [92, 92] else if d.1 = 10 then [92, 110] else x.flatMap hexB := by
          unfold escStep; rw [if_pos hg.out, hd.out, hx]
        replace hx := Lib.hid hx
        cases hpl : plainN d.1 with
        | true =>
          have hstep : escStep (s.drop pos) = x := by rw [hes, if_pos hpl]
          replace hstep := Lib.hid hstep
          clear hes
          replace hpl := Lib.hid hpl
          go_wp2_with fail
          refine stn.out.mono ?_
          rw [hg.out]
          rintro e w' ⟨rfl, rfl⟩
          go_wp2_with fail
          refine (plain_any _ _).mono ?_
          rw [plainZ_nat, hpl.out]
          rintro e w' ⟨rfl, rfl⟩
          go_wp2_with (at_builtin; refine Lib.wpList_append_own_string _ rfl _ _ 42 9 rfl (w.heap.size + 1) 5 i0 Try.underlying42 Try.underlying9 hi hz0 hz1 hz2 _ acc.length (byteCells acc) rfl hown1 (S x) rfl ?c3 ?c4 ?c5 ?_)
          case c3 => rw [S_size]; unfold maxLen; omega
          case c4 => rw [S_size]; omega
          case c5 => exact hz2'
          intro v' w2 ho2 hgr _
          have ho3 : w2.ownsRow (w.heap.size + 1) 5 1 v' (acc ++ x).length (byteCells (acc ++ x)) := by
            rw [S_size] at ho2; rw [List.length_append, byteCells_append]; exact ho2
          have hb2 : Below (w.heap.size + 1) w1 w2 := (Below.refl _ _).grown hgr hz2' fun g hg => (hown1.lt g hg).1
          obtain ⟨f1, f2⟩ := fin.out v' w2 _ hstep.out ho3 hb2
          replace f1 := Lib.hid f1
          replace f2 := Lib.hid f2
          clear ho2 ho3 hb2 hgr
          go_wp2
          go_roundw
          case rel => exact f1.out
          case measure => rw [hpos.out]; exact f2.out
        | false =>
          by_cases h92 : d.1 = 92
          · have hstep : escStep (s.drop pos) = [92, 92] := by rw [hes, if_neg (by rw [hpl]; decide), if_pos h92]
            replace hstep := Lib.hid hstep
            clear hes
            have b92 : ((d.1 : Int) == 92) = true := by rw [h92]; rfl
            clear h92
            replace hpl := Lib.hid hpl
            go_wp2_with fail
            refine stn.out.mono ?_
            rw [hg.out]
            rintro e w' ⟨rfl, rfl⟩
            go_wp2_with fail
            refine (plain_any _ _).mono ?_
            rw [plainZ_nat, hpl.out]
            rintro e w' ⟨rfl, rfl⟩
            go_wp2_with (at_builtin; refine Lib.wpList_append_own_string _ rfl _ _ 42 9 rfl (w.heap.size + 1) 5 i0 Try.underlying42 Try.underlying9 hi hz0 hz1 hz2 _ acc.length (byteCells acc) rfl hown1 (S [92, 92]) rfl ?c3 ?c4 ?c5 ?_)
            case c3 => rw [S_size]; unfold maxLen; simp; omega
            case c4 => rw [S_size]; simp; omega
            case c5 => exact hz2'
            intro v' w2 ho2 hgr _
            have ho3 : w2.ownsRow (w.heap.size + 1) 5 1 v' (acc ++ [92, 92]).length (byteCells (acc ++ [92, 92])) := by
              rw [S_size] at ho2; rw [List.length_append, byteCells_append]; exact ho2
            have hb2 : Below (w.heap.size + 1) w1 w2 := (Below.refl _ _).grown hgr hz2' fun g hg => (hown1.lt g hg).1
            obtain ⟨f1, f2⟩ := fin.out v' w2 _ hstep.out ho3 hb2
            replace f1 := Lib.hid f1
            replace f2 := Lib.hid f2
            clear ho2 ho3 hb2 hgr
            go_wp2
            go_roundw
            case rel => exact f1.out
            case measure => rw [hpos.out]; exact f2.out
          have b92 : ((d.1 : Int) == 92) = false := by rw [beq_eq_false_iff_ne]; omega
          by_cases h10 : d.1 = 10
          · have hstep : escStep (s.drop pos) = [92, 110] := by rw [hes, if_neg (by rw [hpl]; decide), if_neg h92, if_pos h10]
            replace hstep := Lib.hid hstep
            clear hes
            have b10 : ((d.1 : Int) == 10) = true := by rw [h10]; rfl
            clear h10 h92
            replace hpl := Lib.hid hpl
            go_wp2_with fail
            refine stn.out.mono ?_
            rw [hg.out]
            rintro e w' ⟨rfl, rfl⟩
            go_wp2_with fail
            refine (plain_any _ _).mono ?_
            rw [plainZ_nat, hpl.out]
            rintro e w' ⟨rfl, rfl⟩
            go_wp2_with (at_builtin; refine Lib.wpList_append_own_string _ rfl _ _ 42 9 rfl (w.heap.size + 1) 5 i0 Try.underlying42 Try.underlying9 hi hz0 hz1 hz2 _ acc.length (byteCells acc) rfl hown1 (S [92, 110]) rfl ?c3 ?c4 ?c5 ?_)
            case c3 => rw [S_size]; unfold maxLen; simp; omega
            case c4 => rw [S_size]; simp; omega
            case c5 => exact hz2'
            intro v' w2 ho2 hgr _
            have ho3 : w2.ownsRow (w.heap.size + 1) 5 1 v' (acc ++ [92, 110]).length (byteCells (acc ++ [92, 110])) := by
              rw [S_size] at ho2; rw [List.length_append, byteCells_append]; exact ho2
            have hb2 : Below (w.heap.size + 1) w1 w2 := (Below.refl _ _).grown hgr hz2' fun g hg => (hown1.lt g hg).1
            obtain ⟨f1, f2⟩ := fin.out v' w2 _ hstep.out ho3 hb2
            replace f1 := Lib.hid f1
            replace f2 := Lib.hid f2
            clear ho2 ho3 hb2 hgr
            go_wp2
            go_roundw
            case rel => exact f1.out
            case measure => rw [hpos.out]; exact f2.out
          have b10 : ((d.1 : Int) == 10) = false := by rw [beq_eq_false_iff_ne]; omega
          have hstep : escStep (s.drop pos) = x.flatMap hexB := by rw [hes, if_neg (by rw [hpl]; decide), if_neg h92, if_neg h10]
          replace hstep := Lib.hid hstep
          clear hes h92 h10
          replace hpl := Lib.hid hpl
          go_wp2_with fail
          refine stn.out.mono ?_
          rw [hg.out]
          rintro e w' ⟨rfl, rfl⟩
          go_wp2_with fail
          refine (plain_any _ _).mono ?_
          rw [plainZ_nat, hpl.out]
          rintro e w' ⟨rfl, rfl⟩
          go_wp2_with fail
          refine (appendHex_any (w.heap.size + 1) _ acc x _ hz2' hown1 (by omega)).mono ?_
          rintro e w2 ⟨v', rfl, ho2, hb2⟩
          obtain ⟨f1, f2⟩ := fin.out v' w2 _ hstep.out ho2 hb2
          replace f1 := Lib.hid f1
          replace f2 := Lib.hid f2
          clear ho2 hb2
          go_wp2
          go_roundw
          case rel => exact f1.out
          case measure => rw [hpos.out]; exact f2.out
    · have hkk : pos = s.length := by omega
      have hnx : ∀ ty, (Instr.next (.pointer (some ⟨w.heap.size, 0, none⟩)) true ty).run Try.prog wr = _ := fun ty => Lib.run_next_end_at wr w.heap.size (S s) pos ty HI.out (by rw [S_size]; exact hp)
      have hcv := conv_own hown
      have HE2 : acc = esc s := by rw [← HE.out, hkk, List.drop_length]; simp [esc_nil]
      replace HE2 := Lib.hid HE2
      go_wp2
      go_ret
      unfold EscPost
      rw [HE2.out]
      exact ⟨rfl, HB.out⟩
end Go.Proofs.Ytcgdocdpdapglaa
