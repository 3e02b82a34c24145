/- Plain facts on escapes: how long they are. No program is spoken of. -/
import Derived.Test.YtcgdocdpdapglaaPlain2
namespace Go.Proofs.Ytcgdocdpdapglaa
open Go.Lib
theorem hexs_len (m : List UInt8) : (m.flatMap hexB).length = 4 * m.length := by
  induction m with
  | nil => rfl
  | cons a t ih => rw [List.flatMap_cons, List.length_append, ih]; simp [hexB]; omega
theorem escStep_len (l : List UInt8) (hne : l ≠ []) : (escStep l).length ≤ 4 * (decodeL l).2 := by
  have hw := decodeL_width l
  have hle := decodeL_le l hne
  have ht : (l.take (decodeL l).2).length = (decodeL l).2 := by rw [List.length_take]; exact Nat.min_eq_left hle
  unfold escStep
  repeat' split
  all_goals first | (rw [ht]; omega) | (rw [hexs_len, ht]; omega) | (simp; omega)
theorem esc_len : ∀ l, (esc l).length ≤ 4 * l.length := by
  refine heads_ind (by simp [esc_nil]) (fun l hne ih => ?_)
  have h1 := escStep_len l hne
  have h2 := decodeL_le l hne
  rw [List.length_drop] at ih
  rw [esc_step l hne, List.length_append]
  omega
theorem escStep_ge (l : List UInt8) (hne : l ≠ []) : (decodeL l).2 ≤ (escStep l).length := by
  have hle := decodeL_le l hne
  have ht : (l.take (decodeL l).2).length = (decodeL l).2 := by rw [List.length_take]; exact Nat.min_eq_left hle
  unfold escStep
  split
  · split
    · rw [ht]; exact Nat.le_refl _
    · split
      · rename_i h; rw [low_char l hne 92 (by omega) h] at ht; simp at ht; simp; omega
      · split
        · rename_i h; rw [low_char l hne 10 (by omega) h] at ht; simp at ht; simp; omega
        · rw [hexs_len, ht]; omega
  · rw [hexs_len, ht]; omega
theorem esc_ge : ∀ l, l.length ≤ (esc l).length := by
  refine heads_ind (by simp) (fun l hne ih => ?_)
  have h1 := escStep_ge l hne
  rw [List.length_drop] at ih
  rw [esc_step l hne, List.length_append]
  omega
end Go.Proofs.Ytcgdocdpdapglaa
