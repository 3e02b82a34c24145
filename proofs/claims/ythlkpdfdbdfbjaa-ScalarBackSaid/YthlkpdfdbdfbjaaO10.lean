/- The law package's own small numbers for package scalar. -/
import Derived.Test.YthlkpdfdbdfbjaaO9
set_option linter.unusedSimpArgs false
set_option linter.unusedVariables false
namespace Go.Proofs.Ythlkpdfdbdfbjaa
open Go.RowKit
theorem num_any (X : Nat) (hX : X < 256) (wS : World) : Calls Try.prog 19 #[.int .u8 (X : Int)] wS fun e w' => e = .returned (.string (S (scB X))) ∧ Below wS.heap.size wS w' := by
  have H := (SM.start wS).new [X]
  have cM := Kept.mk fun w h => Mod_any [X] 1 rfl (by omega) (fun x hx => by simp at hx; omega) wS.heap.size 1 w h
  have e : valB 256 [X] = X := by simp [valB]
  rw [e] at cM
  have kx' : wrap64 (X : Int) = (X : Int) := ws_64 _ (by omega) (by omega)
  clear e
  generalize scB X = r at cM ⊢
  go_enter Try.func19, Try.ntmps19
  go_wp2_with (go_at_call 26; refine s_call H (cM.out _ (H.holds _ [X] (.head _))) ?_; intro w H)
  go_ret
  exact ⟨rfl, H.below⟩
end Go.Proofs.Ythlkpdfdbdfbjaa
