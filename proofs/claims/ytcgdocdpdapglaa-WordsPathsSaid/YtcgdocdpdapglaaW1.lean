/- The first walks of package words: what is plain, where a character stands, what is a text. -/
import Derived.Test.YtcgdocdpdapglaaProg
import Derived.Test.YtcgdocdpdapglaaPlain
import Derived.WalkKit
import Derived.WalkSpells
import Derived.Deep.QuietTactic
import Derived.BigQuiet
import Derived.Outline
import Derived.Lib.Hide
import Derived.Lib.OthersKept
import Derived.RowKit3
namespace Go.Proofs.Ytcgdocdpdapglaa
open Go.RowKit Go.Lib
def plainZ (r : Int) : Bool := decide (32 ≤ r) && (decide (r < 127) || decide (159 < r)) && !decide (r = 92)
theorem plainZ_nat (r : Nat) : plainZ (r : Int) = plainN r := by
  have e1 : decide ((32 : Int) ≤ (r : Int)) = decide (32 ≤ r) := decide_eq_decide.2 (by omega)
  have e2 : decide ((r : Int) < 127) = decide (r < 127) := decide_eq_decide.2 (by omega)
  have e3 : decide ((159 : Int) < (r : Int)) = decide (159 < r) := decide_eq_decide.2 (by omega)
  have e4 : decide ((r : Int) = 92) = decide (r = 92) := decide_eq_decide.2 (by omega)
  unfold plainZ plainN
  rw [e1, e2, e3, e4]
theorem bool_ret {a b : Bool} (h : a = b) : Ending.returned (.bool a) = .returned (.bool b) := by rw [h]
theorem int_ret {k : IntKind} {a b : Int} (h : a = b) : Ending.returned (.int k a) = .returned (.int k b) := by rw [h]
set_option maxHeartbeats 400000 in
theorem plain_any (r : Int) (w : World) : Calls Try.prog 26 #[.int .i32 r] w fun e w' => e = .returned (.bool (plainZ r)) ∧ w = w' := by
  by_cases h1 : r < 32
  · go_enter Try.func26, Try.ntmps26
    go_wp2
    go_ret
    exact ⟨bool_ret (by unfold plainZ; rw [decide_eq_false (by omega)]; rfl), rfl⟩
  by_cases h2 : r < 127
  · by_cases h3 : r = 92
    · subst h3
      go_enter Try.func26, Try.ntmps26
      go_wp2
      go_ret
      exact ⟨rfl, rfl⟩
    · have e : Hid (plainZ r = true) := by show plainZ r = true; unfold plainZ; simp; omega
      have h4 : (r != 92) = true := by simpa using h3
      go_enter Try.func26, Try.ntmps26
      go_wp2
      go_ret
      exact ⟨bool_ret e.out.symm, rfl⟩
  by_cases h3 : r ≤ 159
  · have e : Hid (plainZ r = false) := by show plainZ r = false; unfold plainZ; simp; omega
    go_enter Try.func26, Try.ntmps26
    go_wp2
    go_ret
    exact ⟨bool_ret e.out.symm, rfl⟩
  · have e : Hid (plainZ r = true) := by show plainZ r = true; unfold plainZ; simp; omega
    have h4 : (r != 92) = true := by simp; omega
    go_enter Try.func26, Try.ntmps26
    go_wp2
    go_ret
    exact ⟨bool_ret e.out.symm, rfl⟩
set_option maxHeartbeats 400000 in
theorem stands_other (s : ByteArray) (i r : Int) (hr : (r != 65533) = true) (w : World) : Calls Try.prog 24 #[.string s, .int .i64 i, .int .i32 r] w fun e w' => e = .returned (.bool true) ∧ w = w' := by
  go_enter Try.func24, Try.ntmps24
  go_wp2
  go_ret
  exact ⟨rfl, rfl⟩
theorem beq_dec (a b : List UInt8) : (a == b) = decide (a = b) := by
  by_cases h : a = b <;> simp [h]
theorem take_all {l : List UInt8} {i n : Nat} (h : l.length ≤ i + n) : (l.drop i).take n = l.drop i := List.take_of_length_le (by rw [List.length_drop]; omega)
set_option maxHeartbeats 400000 in
theorem stands_unknown (s : ByteArray) (i : Nat) (hi : i < s.size) (hs : s.size ≤ 1125899906842624) (w : World) : Calls Try.prog 24 #[.string s, .int .i64 i, .int .i32 65533] w fun e w' => e = .returned (.bool (decide ((s.data.toList.drop i).take 3 = [239, 191, 189]))) ∧ w = w' := by
  by_cases h3 : i + 3 ≤ s.size
  · go_enter Try.func24, Try.ntmps24
    go_wp2
    go_ret
    refine ⟨bool_ret ?_, rfl⟩
    rw [Lib.extract_toList, beq_dec, show i + 3 - i = 3 by omega]
  · go_enter Try.func24, Try.ntmps24
    go_wp2
    go_ret
    refine ⟨bool_ret ?_, rfl⟩
    rw [Lib.extract_toList, beq_dec, take_all (by rw [← Lib.size_eq]; omega), take_all (by rw [← Lib.size_eq]; omega)]
theorem drop_ne {s : ByteArray} {i : Nat} (hi : i < s.size) : s.data.toList.drop i ≠ [] := by
  intro h0
  have := congrArg List.length h0
  rw [List.length_drop, ← Lib.size_eq] at this
  simp at this; omega
theorem stands_any (s : ByteArray) (i : Nat) (hi : i < s.size) (hs : s.size ≤ 1125899906842624) (w : World) : Calls Try.prog 24 #[.string s, .int .i64 i, .int .i32 (Utf8.decode s i).1] w fun e w' => e = .returned (.bool (good (s.data.toList.drop i))) ∧ w = w' := by
  by_cases h : (Utf8.decode s i).1 = 65533
  · rw [h]
    refine (stands_unknown s i hi hs w).mono fun e w' ⟨he, hw⟩ => ⟨?_, hw⟩
    rw [he, good_unknown _ (drop_ne hi) (by rw [Lib.decodeL_drop]; exact h)]
  · refine (stands_other s i _ (by simp; omega) w).mono fun e w' ⟨he, hw⟩ => ⟨?_, hw⟩
    rw [he, good_of_ne _ (by rw [Lib.decodeL_drop]; exact h)]

/-! ### Text -/
def IterW (s : ByteArray) (w w' : World) : Prop := ∃ pos, w' = w.iter s pos
theorem Below.iter {B : Nat} {a w : World} (h : Below B a w) (hB : B ≤ w.heap.size) (s : ByteArray) (pos : Nat) : Below B a (w.iter s pos) := h.alloc hB _
set_option maxHeartbeats 800000 in
theorem text_any (s : ByteArray) (hs : s.size ≤ 1125899906842624) (w : World) :
    Calls Try.prog 11 #[.string s] w fun e w' => e = .returned (.bool (validD s.data.toList)) ∧ Below w.heap.size w w' := by
  go_enter Try.func11, Try.ntmps11
  go_wp2
  go_loopw [3, 4] (fun _ _ wr => ∃ pos : Nat, wr = w.iter s pos ∧ Hid (validD (s.data.toList.drop pos) = validD s.data.toList)) (fun _ _ wr => s.size - wr.iterPos w.heap.size)
  case atStart => exact ⟨0, rfl, rfl⟩
  case round =>
    obtain ⟨pos, rfl, H⟩ := hrel
    by_cases hp : pos < s.size
    · have hnx : ∀ ty, (Instr.next (.pointer (some ⟨w.heap.size, 0, none⟩)) true ty).run Try.prog (w.iter s pos) = _ := fun ty => run_next_any w s pos ty hp
      have hst := text_step _ (drop_ne hp)
      rw [Lib.decodeL_drop, List.drop_drop] at hst
      have H2 : Hid (validD (s.data.toList.drop pos) = (good (s.data.toList.drop pos) && validD (s.data.toList.drop (pos + (Utf8.decode s pos).2)))) := hst
      clear hst
      have hw := Lib.width_pos s pos
      cases hg : good (s.data.toList.drop pos) with
      | true =>
        rw [hg] at H2
        have HG : Hid (good (s.data.toList.drop pos) = true) := hg
        clear hg
        go_wp2_with (go_at_call 24; refine (stands_any s pos hp hs _).mono ?_; rw [HG.out]; rintro e w' ⟨rfl, rfl⟩)
        go_roundw
        case rel => exact ⟨pos + (Utf8.decode s pos).2, rfl, by rw [← H.out, H2.out]; rfl⟩
        case measure => simp; omega
      | false =>
        rw [hg] at H2
        have HG : Hid (good (s.data.toList.drop pos) = false) := hg
        clear hg
        go_wp2_with (go_at_call 24; refine (stands_any s pos hp hs _).mono ?_; rw [HG.out]; rintro e w' ⟨rfl, rfl⟩)
        go_ret
        exact ⟨bool_ret (by rw [← H.out, H2.out]; rfl), Below.iter (Below.refl _ _) (Nat.le_refl _) _ _⟩
    · have hnx : ∀ ty, (Instr.next (.pointer (some ⟨w.heap.size, 0, none⟩)) true ty).run Try.prog (w.iter s pos) = _ := fun ty => run_next_end w s pos ty hp
      go_wp2
      go_ret
      refine ⟨bool_ret ?_, Below.iter (Below.refl _ _) (Nat.le_refl _) _ _⟩
      rw [← H.out, List.drop_eq_nil_of_le (by rw [← Lib.size_eq]; omega)]
      rfl
end Go.Proofs.Ytcgdocdpdapglaa
