/- Walks of package words: the path of names. -/
import Derived.Test.YtcgdocdpdapglaaW4
namespace Go.Proofs.Ytcgdocdpdapglaa
open Go.RowKit Go.Lib
/-- A text as the model has it. -/
def S (l : List UInt8) : ByteArray := ⟨l.toArray⟩
theorem S_data (l : List UInt8) : (S l).data.toList = l := rfl
theorem S_of (s : ByteArray) : S s.data.toList = s := rfl
theorem S_size (l : List UInt8) : (S l).size = l.length := by rw [Lib.size_eq]; rfl
theorem name_L (l : List UInt8) (w : World) : Calls Try.prog 13 #[.string (S l)] w fun e w' => e = .returned (.bool (isName l)) ∧ Below w.heap.size w w' := name_any (S l) w
theorem S_append (a b : List UInt8) : S a ++ S b = S (a ++ b) := by
  apply ByteArray.ext
  apply Array.ext'
  show (S a ++ S b).data.toList = _
  rw [ByteArray.data_append]; simp [S]
/-- A slice that reads as these texts; what it holds lies below block B. -/
def SL (w : World) (B : Nat) (v : Value) (ss : List (List UInt8)) : Prop :=
  ∃ A cap, v = .slice A ss.length cap ∧ (A = none → ss = [] ∧ cap = 0) ∧ (ss ≠ [] → ∃ b off, A = some ⟨b, off, none⟩ ∧ b < B ∧ ∀ k, k < ss.length → w.cell? ⟨b, off + k, none⟩ = some (.string (S (ss.getD k []))))
theorem SL.below {w w' : World} {B : Nat} {v : Value} {ss : List (List UInt8)} (h : SL w B v ss) (hb : Below B w w') : SL w' B v ss := by
  obtain ⟨A, cap, hv, h0, hr⟩ := h
  refine ⟨A, cap, hv, h0, fun hne => ?_⟩
  obtain ⟨b, off, hA, hlt, hc⟩ := hr hne
  exact ⟨b, off, hA, hlt, fun k hk => (hb.cell (p := ⟨b, off + k, none⟩) hlt).trans (hc k hk)⟩
theorem SL.mono {w : World} {B B' : Nat} {v : Value} {ss : List (List UInt8)} (h : SL w B v ss) (hB : B ≤ B') : SL w B' v ss := by
  obtain ⟨A, cap, hv, h0, hr⟩ := h
  refine ⟨A, cap, hv, h0, fun hne => ?_⟩
  obtain ⟨b, off, hA, hlt, hc⟩ := hr hne
  exact ⟨b, off, hA, by omega, hc⟩
/-- A path and an error's number. -/
def PathR : Option (List UInt8) → Value
  | some p => .tuple #[.string (S p), .int .i64 0]
  | none => .tuple #[.string (S []), .int .i64 10]
def JoinPost (ss : List (List UInt8)) (w : World) (e : Ending) (w' : World) : Prop := e = .returned (PathR (joinL ss)) ∧ Below w.heap.size w w'
theorem join_none (A : Option Addr) (cap : Nat) (w : World) : Calls Try.prog 18 #[.slice A 0 cap] w (JoinPost [] w) := by
  go_enter Try.func18, Try.ntmps18
  go_wp2
  go_ret2
  exact ⟨rfl, Below.refl _ _⟩
theorem join_many (A : Option Addr) (cap : Nat) (ss : List (List UInt8)) (h8 : 8 < ss.length) (hm : ss.length ≤ 1125899906842624) (w : World) : Calls Try.prog 18 #[.slice A ss.length cap] w (JoinPost ss w) := by
  have e : Hid (joinL ss = none) := by
    show _ = _
    unfold joinL
    rw [if_neg (by intro h0; subst h0; simp at h8), if_pos h8]
  have b0 : ((ss.length : Int) == 0) = false := by rw [beq_eq_false_iff_ne]; omega
  go_enter Try.func18, Try.ntmps18
  go_wp2
  go_ret2
  refine ⟨?_, Below.refl _ _⟩
  rw [e.out]; rfl
def jn (ss : List (List UInt8)) : List UInt8 := ss.flatMap fun n => 47 :: n
theorem take_snocD (ss : List (List UInt8)) (k : Nat) (h : k < ss.length) : ss.take (k + 1) = ss.take k ++ [ss.getD k []] := by
  rw [List.take_succ_eq_append_getElem h]; simp [h]
theorem jn_snoc (ss : List (List UInt8)) (k : Nat) (h : k < ss.length) : jn (ss.take (k + 1)) = jn (ss.take k) ++ 47 :: ss.getD k [] := by
  rw [take_snocD ss k h]; unfold jn; rw [List.flatMap_append]; simp
theorem joinL_no (ss : List (List UInt8)) (k : Nat) (h : k < ss.length) (hn : isName (ss.getD k []) = false) : joinL ss = none := by
  unfold joinL
  rw [if_neg (by intro h0; subst h0; simp at h)]
  split
  · rfl
  · rw [if_neg]
    intro ha
    rw [List.all_eq_true] at ha
    have := ha (ss.getD k []) (by rw [show ss.getD k [] = ss[k] by simp [h]]; exact List.getElem_mem h)
    rw [hn] at this; cases this
theorem joinL_yes (ss : List (List UInt8)) (h0 : 0 < ss.length) (h8 : ss.length ≤ 8) (hn : ∀ j, j < ss.length → isName (ss.getD j []) = true) : joinL ss = some (jn ss) := by
  unfold joinL
  rw [if_neg (by intro h1; subst h1; simp at h0), if_neg (by omega), if_pos]
  · rfl
  · rw [List.all_eq_true]
    intro x hx
    obtain ⟨i, hi, rfl⟩ := List.getElem_of_mem hx
    have := hn i hi
    rwa [show ss.getD i [] = ss[i] by simp [hi]] at this
theorem isName_le {l : List UInt8} (h : isName l = true) : l.length ≤ 24 := by
  unfold isName at h
  simp only [Bool.and_eq_true, decide_eq_true_eq] at h
  exact h.2.1
theorem jn_le (ss : List (List UInt8)) : ∀ k, k ≤ ss.length → (∀ j, j < k → isName (ss.getD j []) = true) → (jn (ss.take k)).length ≤ 25 * k
  | 0, _, _ => by simp [jn]
  | k + 1, hk, h => by
    have := jn_le ss k (by omega) (fun j hj => h j (by omega))
    have h2 := isName_le (h k (by omega))
    rw [jn_snoc ss k (by omega), List.length_append, List.length_cons]
    omega
set_option maxHeartbeats 1600000 in
theorem join_loop (b off cap : Nat) (ss : List (List UInt8)) (h0 : 0 < ss.length) (h8 : ss.length ≤ 8) (w : World) (hb : b < w.heap.size)
    (hc : ∀ k, k < ss.length → w.cell? ⟨b, off + k, none⟩ = some (.string (S (ss.getD k [])))) :
    Calls Try.prog 18 #[.slice (some ⟨b, off, none⟩) ss.length cap] w (JoinPost ss w) := by
  have b0 : ((ss.length : Int) == 0) = false := by rw [beq_eq_false_iff_ne]; omega
  replace hc := Lib.hid hc
  go_enter Try.func18, Try.ntmps18
  go_wp2
  go_loopw [4, 6, 15] (fun p _ i wr => ∃ k : Nat, k ≤ ss.length ∧ i = .int .i64 k ∧ p = .string (S (jn (ss.take k))) ∧ Hid (∀ j, j < k → isName (ss.getD j []) = true) ∧ Hid (Below w.heap.size w wr)) (fun _ _ i _ => ss.length - (intOf i).toNat)
  case atStart => exact ⟨0, Nat.zero_le _, rfl, rfl, fun j hj => absurd hj (by omega), Below.refl _ _⟩
  case round =>
    obtain ⟨k, hk, rfl, rfl, HN, HB⟩ := hrel
    by_cases hlt : k < ss.length
    · have hcell : wr.cell? ⟨b, off + k, none⟩ = some (.string (S (ss.getD k []))) := (HB.out.cell (p := ⟨b, off + k, none⟩) hb).trans (hc.out k hlt)
      obtain ⟨x, hx⟩ : ∃ x, ss.getD k [] = x := ⟨_, rfl⟩
      rw [hx] at hcell
      replace hx := Lib.hid hx
      cases hn : isName x with
      | true =>
        have z1 : (S x).size ≤ 24 := by rw [S_size]; exact isName_le hn
        have z2 : (S (jn (ss.take k))).size ≤ 200 := by rw [S_size]; have := jn_le ss k hk HN.out; omega
        replace hn := Lib.hid hn
        go_wp2_with fail
        refine (name_L _ _).mono ?_
        rw [hn.out]
        rintro e w1 ⟨rfl, hb1⟩
        replace hb1 := Lib.hid hb1
        go_wp2
        go_roundw
        case rel =>
          refine ⟨k + 1, by omega, by go_num, ?_, ?_, ?_⟩
          · rw [jn_snoc ss k hlt, hx.out, ← S_append]; rfl
          · intro j hj
            by_cases hjk : j < k
            · exact HN.out j hjk
            · have : j = k := by omega
              subst this; rw [hx.out]; exact hn.out
          · exact HB.out.trans (hb1.out.mono HB.out.size)
        case measure => simp [intOf]; omega
      | false =>
        replace hn := Lib.hid hn
        go_wp2_with fail
        refine (name_L _ _).mono ?_
        rw [hn.out]
        rintro e w1 ⟨rfl, hb1⟩
        replace hb1 := Lib.hid hb1
        go_wp2
        go_ret2
        refine ⟨?_, HB.out.trans (hb1.out.mono HB.out.size)⟩
        rw [joinL_no ss k hlt (by rw [hx.out]; exact hn.out)]; rfl
    · have hkk : k = ss.length := by omega
      subst hkk
      go_wp2
      go_ret2
      refine ⟨?_, HB.out⟩
      rw [joinL_yes ss h0 h8 HN.out]; simp [PathR]
/-- Join: the path of names that are read from a slice. -/
theorem join_any (v : Value) (ss : List (List UInt8)) (hm : ss.length ≤ 1125899906842624) (w : World) (h : SL w w.heap.size v ss) : Calls Try.prog 18 #[v] w (JoinPost ss w) := by
  obtain ⟨A, cap, rfl, _, hr⟩ := h
  by_cases h0 : ss = []
  · subst h0; exact join_none A cap w
  · by_cases h8 : 8 < ss.length
    · exact join_many A cap ss h8 hm w
    · obtain ⟨b, off, rfl, hb, hc⟩ := hr h0
      exact join_loop b off cap ss (List.length_pos_iff.2 h0) (by omega) w hb hc
end Go.Proofs.Ytcgdocdpdapglaa
