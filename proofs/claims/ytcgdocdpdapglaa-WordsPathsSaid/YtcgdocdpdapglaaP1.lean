/- The document's answer: the path of names, the names of a path. -/
import Derived.Test.YtcgdocdpdapglaaR3
import Derived.Test.YtcgdocdpdapglaaPaths
namespace Go.Proofs.Ytcgdocdpdapglaa
open Go.RowKit Go.Lib
theorem nameR_is (l : List UInt8) (b : Bool) (h : isName l = b) (w : World) : Calls Try.prog 14 #[.string (S l)] w fun e w' => e = .returned (.bool b) ∧ Below w.heap.size w w' := by
  subst h; exact nameR_any l w
theorem joinL_many {ss : List (List UInt8)} (h : 8 < ss.length) : joinL ss = none := by
  unfold joinL
  rw [if_neg (by intro h0; subst h0; simp at h), if_pos h]
theorem jn_pos (ss : List (List UInt8)) (h : ss ≠ []) : jn ss ≠ [] := by
  cases ss with
  | nil => exact absurd rfl h
  | cons a t => rw [jn_cons]; simp
set_option maxHeartbeats 6400000 in
theorem joinR_loop (A : Option Addr) (cap : Nat) (ss : List (List UInt8)) (hm : ss.length ≤ 1125899906842624) (w : World)
    (hr : ss ≠ [] → ∃ b off, A = some ⟨b, off, none⟩ ∧ b < w.heap.size ∧ ∀ k, k < ss.length → w.cell? ⟨b, off + k, none⟩ = some (.string (S (ss.getD k [])))) :
    Calls Try.prog 19 #[.slice A ss.length cap] w (JoinPost ss w) := by
  replace hr := Lib.hid hr
  go_enter Try.func19, Try.ntmps19
  go_wp2
  go_loopw [4, 5] (fun p i wr => ∃ k : Nat, k ≤ ss.length ∧ k ≤ 8 ∧ i = .int .i64 k ∧ p = .string (S (jn (ss.take k))) ∧ Hid (∀ j, j < k → isName (ss.getD j []) = true) ∧ Hid (Below w.heap.size w wr)) (fun _ i _ => ss.length - (intOf i).toNat)
  case atStart => exact ⟨0, Nat.zero_le _, by omega, rfl, rfl, fun j hj => absurd hj (by omega), Below.refl _ _⟩
  case round =>
    obtain ⟨k, hk, hk8, rfl, rfl, HN, HB⟩ := hrel
    by_cases hlt : k < ss.length
    · obtain ⟨b, off, rfl, hb, hc⟩ := hr.out (by intro h0; subst h0; simp at hlt)
      have hcell : wr.cell? ⟨b, off + k, none⟩ = some (.string (S (ss.getD k []))) := (HB.out.cell (p := ⟨b, off + k, none⟩) hb).trans (hc k hlt)
      replace hc := Lib.hid hc
      obtain ⟨x, hx⟩ : ∃ x, ss.getD k [] = x := ⟨_, rfl⟩
      rw [hx] at hcell
      replace hx := Lib.hid hx
      by_cases h8 : k = 8
      · have hj : joinL ss = none := joinL_many (by omega)
        have b8 : (8 : Int) ≤ (k : Int) := by omega
        replace hj := Lib.hid hj
        clear h8
        go_wp2
        go_ret2
        unfold JoinPost
        rw [hj.out]
        exact ⟨rfl, HB.out⟩
      · have b8 : (k : Int) < 8 := by omega
        clear h8
        cases hn : isName x with
        | true =>
          have z1 : (S x).size ≤ 24 := by rw [S_size]; exact isName_le hn
          have z2 : (S (jn (ss.take k))).size ≤ 200 := by rw [S_size]; have := jn_le ss k hk HN.out; omega
          replace hn := Lib.hid hn
          go_wp2_with fail
          refine (nameR_is x true hn.out _).mono ?_
          rintro e w1 ⟨rfl, hb1⟩
          have hcell1 : w1.cell? ⟨b, off + k, none⟩ = some (.string (S x)) := (hb1.cell (p := ⟨b, off + k, none⟩) (Nat.lt_of_lt_of_le hb HB.out.size)).trans hcell
          have B1 := Lib.hid (HB.out.trans (hb1.mono HB.out.size))
          clear hb1 hcell
          go_wp2
          go_roundw
          case rel =>
            refine ⟨k + 1, by omega, by omega, by go_num, ?_, ?_, B1⟩
            · rw [jn_snoc ss k hlt, hx.out, ← S_append]; rfl
            · intro j hj
              by_cases hjk : j < k
              · exact HN.out j hjk
              · have : j = k := by omega
                subst this; rw [hx.out]; exact hn.out
          case measure => simp [intOf]; omega
        | false =>
          have hj : joinL ss = none := joinL_no ss k hlt (by rw [hx.out]; exact hn)
          replace hj := Lib.hid hj
          replace hn := Lib.hid hn
          go_wp2_with fail
          refine (nameR_is x false hn.out _).mono ?_
          rintro e w1 ⟨rfl, hb1⟩
          have B1 := Lib.hid (HB.out.trans (hb1.mono HB.out.size))
          clear hb1
          go_wp2
          go_ret2
          unfold JoinPost
          rw [hj.out]
          exact ⟨rfl, B1.out⟩
    · have hkk : k = ss.length := by omega
      subst hkk
      rw [List.take_length] at *
      by_cases h0 : ss = []
      · have hj : joinL ss = some [47] := by rw [h0]; rfl
        have hjn : jn ss = [] := by rw [h0]; rfl
        have be : ((S (jn ss)).toList == []) = true := by rw [hjn, Lib.toList_data]; rfl
        have be2 : (S (jn ss)).toList.isEmpty = true := by rw [hjn, Lib.toList_data]; rfl
        replace hj := Lib.hid hj
        replace hjn := Lib.hid hjn
        replace h0 := Lib.hid h0
        go_wp2
        go_ret2
        unfold JoinPost
        rw [hj.out]
        exact ⟨rfl, HB.out⟩
      · have hj : joinL ss = some (jn ss) := joinL_yes ss (List.length_pos_iff.2 h0) (by omega) HN.out
        have be := beq_S_nil _ (jn_pos ss h0)
        have be2 := isEmpty_S _ (jn_pos ss h0)
        replace hj := Lib.hid hj
        replace h0 := Lib.hid h0
        go_wp2
        go_ret2
        unfold JoinPost
        rw [hj.out]
        exact ⟨rfl, HB.out⟩
theorem joinR_any (v : Value) (ss : List (List UInt8)) (hm : ss.length ≤ 1125899906842624) (w : World) (h : SL w w.heap.size v ss) : Calls Try.prog 19 #[v] w (JoinPost ss w) := by
  obtain ⟨A, cap, rfl, _, hr⟩ := h
  exact joinR_loop A cap ss hm w hr
end Go.Proofs.Ytcgdocdpdapglaa
