/- WordsPaths' walk: which names any path has, and the path of any names, is as the document says; what is told is its owner's. -/
import Derived.Test.YtcgdocdpdapglaaP2
namespace Go.Proofs.Ytcgdocdpdapglaa.wordsPaths
open Go.RowKit Go.Lib
/-- Both tell the names alike. -/
theorem both_path (l : List UInt8) (hs : l.length ≤ 1125899906842624) : ∃ (ms : List (List UInt8)) (n : Int), ms.length ≤ 8 ∧
    (∀ w, Calls Try.prog 16 #[.string (S l)] w fun e w' => ∃ v, e = .returned (.tuple #[v, .int .i64 n]) ∧ w'.ownsRow w.heap.size 9 1 v ms.length (ms.map strV) ∧ Below w.heap.size w w') ∧
    (∀ w, Calls Try.prog 15 #[.string (S l)] w fun e w' => ∃ v, e = .returned (.tuple #[v, .int .i64 n]) ∧ w'.ownsRow w.heap.size 9 1 v ms.length (ms.map strV) ∧ Below w.heap.size w w') := by
  refine ⟨pathRes (pathL l), pathErr (pathL l), ?_, fun w => path_any l hs w, fun w => pathR_any l hs w⟩
  cases h : pathL l with
  | none => simp [pathRes]
  | some ns => exact (joinL_some (join_path h)).1
/-- Both tell the path alike. -/
theorem both_join (v : Value) (ss : List (List UInt8)) (hm : ss.length ≤ 1125899906842624) : ∃ (p : List UInt8) (n : Int),
    (∀ w, SL w w.heap.size v ss → Calls Try.prog 18 #[v] w fun e w' => e = .returned (.tuple #[.string (S p), .int .i64 n]) ∧ Below w.heap.size w w') ∧
    (∀ w, SL w w.heap.size v ss → Calls Try.prog 19 #[v] w fun e w' => e = .returned (.tuple #[.string (S p), .int .i64 n]) ∧ Below w.heap.size w w') := by
  cases h : joinL ss with
  | none =>
    refine ⟨[], 10, fun w hv => join_no v ss h hm w hv, fun w hv => (joinR_any v ss hm w hv).mono fun e w' hp => ?_⟩
    unfold JoinPost at hp
    rw [h] at hp
    exact hp
  | some p =>
    refine ⟨p, 0, fun w hv => join_some v ss p h hm w hv, fun w hv => (joinR_any v ss hm w hv).mono fun e w' hp => ?_⟩
    unfold JoinPost at hp
    rw [h] at hp
    exact hp
set_option maxRecDepth 100000 in
set_option maxHeartbeats 6400000 in
theorem walk (s : List UInt8) (v : Value) (ss : List (List UInt8)) (hs : s.length ≤ 1125899906842624) (hm : ss.length ≤ 1125899906842624) (w : World) (hv : SL w w.heap.size v ss) :
    Calls Try.prog 4 #[.string (S s), v] w fun e w' => e = .returned (.bool true) ∧ Below w.heap.size w w' := by
  obtain ⟨ms, n, hms, c1, c2⟩ := both_path s hs
  obtain ⟨p, n', c3, c4⟩ := both_join v ss hm
  have e1 : (n == n) = true := by simp
  have e2 : (n' == n') = true := by simp
  have e3 : ((S p).toList == (S p).toList) = true := by simp
  replace c1 := Lib.hid c1
  replace c2 := Lib.hid c2
  replace c3 := Lib.hid c3
  replace c4 := Lib.hid c4
  replace hv := Lib.hid hv
  go_enter Try.func4, Try.ntmps4
  go_wp2_with fail
  refine (c2.out _).mono ?_
  rintro e w1 ⟨v5, rfl, ho5, hb1⟩
  have B1 := Lib.hid hb1
  have s5 := Lib.hid (own_SL ho5)
  obtain ⟨A5, cap5, rfl⟩ := own_form ho5
  have hz1 := hb1.size
  clear hb1 ho5
  go_wp2_with fail
  go_loopw [7] (fun t wr => ∃ k : Nat, k ≤ 2 ∧ t = .int .i64 k ∧ Hid (Below w.heap.size w wr) ∧ Hid (Below w1.heap.size w1 wr)) (fun t _ => 2 - (intOf t).toNat)
  case atStart => exact ⟨0, by omega, rfl, B1.out, Below.refl _ _⟩
  case round =>
    obtain ⟨k, hk, rfl, HB, HB1⟩ := hrel
    clear B1
    by_cases hlt : k < 2
    · obtain ⟨wo, rfl⟩ : ∃ wo : World, wo = wr := ⟨_, rfl⟩
      have hzo := HB.out.size
      have hzo1 := HB1.out.size
      go_wp2_with fail
      refine (c1.out _).mono ?_
      rintro e w2 ⟨v8, rfl, ho8, hb2⟩
      have hz2 := hb2.size
      have s8 := Lib.hid (own_SL ho8)
      have s5' := Lib.hid ((s5.out.below (HB1.out.trans (hb2.mono hzo1))).mono (Nat.le_trans hzo1 hz2))
      have B2 := Lib.hid hb2
      obtain ⟨A8, cap8, rfl⟩ := own_form ho8
      clear hb2
      replace ho8 := Lib.hid ho8
      go_wp2_with fail
      refine (same_is _ _ ms ms true (by simp) (by omega) _ s8.out s5'.out).mono ?_
      rintro e w3 ⟨rfl, hb3⟩
      have ho9 := ownsRow_below ho8.out hb3
      have B3 := Lib.hid (B2.out.trans (hb3.mono hz2))
      have hz3 := B3.out.size
      clear hb3 B2 s8 s5' ho8
      replace ho9 := Lib.hid ho9
      go_wp2_with fail
      go_loopw [10] (fun i wr => ∃ (j : Nat) (xs : List Value), j ≤ ms.length ∧ i = .int .i64 j ∧ wr.ownsRow wo.heap.size 9 1 (.slice A8 ms.length cap8) ms.length xs ∧ Hid (Below wo.heap.size wo wr)) (fun i _ => ms.length - (intOf i).toNat)
      case atStart => exact ⟨0, _, Nat.zero_le _, rfl, ho9.out, B3.out⟩
      case round =>
        obtain ⟨j, xs, hj, rfl, hox, HX⟩ := hrel
        by_cases hjl : j < ms.length
        · rcases hox.2 with ⟨_, h0⟩ | ⟨g, cap', cur, hvv, hg, _⟩
          · omega
          · injection hvv with g1 g2 g3
            subst g1
            have hxl : xs.length = ms.length := by have := hox.1; omega
            have hcell : wr.cell? ⟨g, j, none⟩ = some xs[j] := by rw [hox.cellAt j (by omega)]; exact List.getElem?_eq_getElem (by omega)
            have hfr : wr.frozen? ⟨g, j, none⟩ = false := hox.frozenAt j
            have hst := hox.stored j (.string ⟨#[115, 112, 111, 105, 108, 116]⟩)
            have HX2 := Lib.hid (HX.out.setCell (p := ⟨g, j, none⟩) hg (.string ⟨#[115, 112, 111, 105, 108, 116]⟩))
            obtain ⟨x, hx⟩ : ∃ x, xs[j] = x := ⟨_, rfl⟩
            rw [hx] at hcell
            clear hx g2 g3 hox
            replace hst := Lib.hid hst.1
            replace hxl := Lib.hid hxl
            go_wp2
            go_roundw
            case rel => exact ⟨j + 1, xs.set j (.string ⟨#[115, 112, 111, 105, 108, 116]⟩), by omega, by go_num, hst.out, HX2⟩
            case measure => simp [intOf]; omega
        · have D1 := Lib.hid (HB.out.trans (HX.out.mono hzo))
          have D2 := Lib.hid (HB1.out.trans (HX.out.mono hzo1))
          go_wp2
          go_roundw
          case rel => exact ⟨k + 1, by omega, by go_num, D1, D2⟩
          case measure => simp [intOf]; omega
    · have v1 := Lib.hid ((hv.out.below HB.out).mono HB.out.size)
      go_wp2_with fail
      refine (c3.out _ v1.out).mono ?_
      rintro e w2 ⟨rfl, hb2⟩
      have B2 := Lib.hid (HB.out.trans (hb2.mono HB.out.size))
      have v2 := Lib.hid ((v1.out.below hb2).mono hb2.size)
      clear hb2 v1
      go_wp2_with fail
      refine (c4.out _ v2.out).mono ?_
      rintro e w3 ⟨rfl, hb3⟩
      have B3 := Lib.hid (B2.out.trans (hb3.mono B2.out.size))
      clear hb3 B2 v2
      go_wp2_with fail
      refine (fixed_any _).mono ?_
      rintro e w4 ⟨rfl, hb4⟩
      have B4 := Lib.hid (B3.out.trans (hb4.mono B3.out.size))
      clear hb4 B3
      go_wp2
      go_ret
      exact ⟨rfl, B4.out⟩
end Go.Proofs.Ytcgdocdpdapglaa.wordsPaths
