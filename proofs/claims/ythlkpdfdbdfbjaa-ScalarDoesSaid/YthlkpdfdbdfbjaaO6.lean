/- The document's answer for package scalar: its calls Is, Reduce, walked. -/
import Derived.Test.YthlkpdfdbdfbjaaO5
set_option linter.unusedSimpArgs false
set_option linter.unusedVariables false
namespace Go.Proofs.Ythlkpdfdbdfbjaa
open Go.RowKit
section
variable {w0 w : World} {L : List (Nat × List Nat)} {f : FuncId} {args : Array Value} {Q : Ending → World → Prop} {l : List Nat} {v : Value}
theorem s_dg (H : SM w0 w L) (c : Calls Try.prog f args w (DgPost l w)) (h : ∀ g c w', SM w0 w' ((g, l) :: L) → Q (.returned (.slice (some ⟨g, 0, none⟩) l.length c)) w') : Calls Try.prog f args w Q :=
  c.mono fun _ w' ⟨g, c, he, hb, hg, hA⟩ => he ▸ h g c w' (H.more hb hg hA)
theorem s_call (H : SM w0 w L) (c : Calls Try.prog f args w fun e w' => e = .returned v ∧ Below w.heap.size w w') (h : ∀ w', SM w0 w' L → Q (.returned v) w') : Calls Try.prog f args w Q :=
  c.mono fun _ w' ⟨he, hb⟩ => he ▸ h w' (H.grow hb)
end
/-- The number of bytes. -/
def numB (l : List UInt8) : Nat := valB 256 (digs l)
/-- The scalar of a number. -/
def scB (n : Nat) : List UInt8 := (limbs 256 32 (n % oN)).map UInt8.ofNat
theorem modB_num (a : List Nat) : modB a = scB (valB 256 a) := rfl
theorem scB_len (n : Nat) : (scB n).length = 32 := by rw [scB, List.length_map, limbs_len]
theorem scB_num (n : Nat) : numB (scB n) = n % oN := by
  have h := modB_nat (limbs 256 33 (n % oN))
  have hb : n % oN < 256 ^ 32 := Nat.lt_trans (Nat.mod_lt _ o_pos) (by decide +kernel)
  rw [modB_num, val_limbs, Nat.mod_eq_of_lt (Nat.lt_trans hb (by decide +kernel)), scB, Nat.mod_mod] at h
  rw [numB, digs, scB, h, val_limbs, Nat.mod_eq_of_lt hb]
/-- Is it a scalar's? -/
def isSc (l : List UInt8) : Bool := decide (l.length = 32) && decide (numB l < oN)
theorem scB_is (n : Nat) : isSc (scB n) = true := by
  unfold isSc
  rw [scB_len, scB_num]
  simp [Nat.mod_lt _ o_pos]
theorem back_lt (l : List UInt8) : (digs l).map UInt8.ofNat = l := by
  rw [digs, List.map_map]
  conv => rhs; rw [← List.map_id l]
  exact List.map_congr_left fun x _ => by simp
theorem scB_self (l : List UInt8) (h : isSc l = true) : scB (numB l) = l := by
  unfold isSc at h
  rw [Bool.and_eq_true, decide_eq_true_eq, decide_eq_true_eq] at h
  have e := limbs_val (B := 256) (by decide) (digs l) (digs_lt l)
  rw [digs_len, h.1] at e
  rw [scB, Nat.mod_eq_of_lt h.2]
  show (limbs 256 32 (valB 256 (digs l))).map UInt8.ofNat = l
  rw [e, back_lt]
theorem is_same (l : List UInt8) (h : l.length = 32) : ((S (modB (digs l))).toList == (S l).toList) = isSc l := by
  rw [S_beq]
  by_cases hi : isSc l = true
  · rw [hi, decide_eq_true]
    exact scB_self l hi
  · rw [Bool.not_eq_true] at hi
    rw [hi, decide_eq_false]
    intro e
    rw [← e, modB_num, scB_is] at hi
    cases hi
def StrPost (l : List UInt8) (n : Int) (w : World) (e : Ending) (w' : World) : Prop := e = .returned (.tuple #[.string (S l), .int .i64 n]) ∧ Below w.heap.size w w'
theorem Mod_any (a : List Nat) (n : Nat) (hal : a.length = n) (hn : n ≤ 4096) (haW : ∀ x ∈ a, x < 256) (ga ca : Nat) (wS : World) (hA : AtS wS ga a) :
    Calls Try.prog 26 #[.slice (some ⟨ga, 0, none⟩) n ca] wS fun e w' => e = .returned (.string (S (scB (valB 256 a)))) ∧ Below wS.heap.size wS w' := Mod_walk a ga n ca hal hn haW wS hA
theorem IsR_any (l : List UInt8) (wS : World) : Calls Try.prog 14 #[.string (S l)] wS fun e w' => e = .returned (.bool (isSc l)) ∧ Below wS.heap.size wS w' := by
  have H := SM.start wS
  by_cases hl : l.length = 32
  · have hsz : (S l).size = 32 := by rw [S_size, hl]
    have cD := Kept.mk fun w => Digits_any l (by omega) w
    have cM := Kept.mk fun ga ca w h => Mod_walk (digs l) ga (digs l).length ca rfl (by rw [digs_len]; omega) (digs_lt l) w h
    have hs := is_same l hl
    generalize isSc l = b at hs ⊢
    generalize modB (digs l) = r at hs cM
    generalize digs l = d at cD cM
    clear hl
    go_enter Try.func14, Try.ntmps14
    go_wp2_with (first
      | (go_at_call 27; refine s_dg (by assumption) (cD.out _) ?_; intro g c w H)
      | (go_at_call 26; refine s_call (by assumption) (cM.out _ _ _ (H.holds _ d (.head _))) ?_; intro w H))
    go_ret
    exact ⟨rfl, H.below⟩
  · have e : isSc l = false := by unfold isSc; simp [hl]
    have hsz : (((S l).size : Int) == 32) = false := by rw [S_size]; simp; omega
    rw [e]
    clear e hl
    go_enter Try.func14, Try.ntmps14
    go_wp2
    go_ret
    exact ⟨rfl, H.below⟩
theorem ReduceR_ok (l : List UInt8) (hl : l.length ≤ 64) (wS : World) : Calls Try.prog 11 #[.string (S l)] wS (StrPost (scB (numB l)) 0 wS) := by
  have H := SM.start wS
  have hsz : ¬ (64 : Int) < ((S l).size : Int) := by rw [S_size]; omega
  have cD := Kept.mk fun w => Digits_any l (by omega) w
  have cM := Kept.mk fun ga ca w h => Mod_any (digs l) (digs l).length rfl (by rw [digs_len]; omega) (digs_lt l) ga ca w h
  unfold numB StrPost
  generalize scB (valB 256 (digs l)) = r at cM ⊢
  generalize digs l = d at cD cM
  clear hl
  go_enter Try.func11, Try.ntmps11
  go_wp2_with (first
    | (go_at_call 27; refine s_dg (by assumption) (cD.out _) ?_; intro g c w H)
    | (go_at_call 26; refine s_call (by assumption) (cM.out _ _ _ (H.holds _ d (.head _))) ?_; intro w H))
  go_ret2
  exact ⟨rfl, H.below⟩
theorem ReduceR_bad (l : List UInt8) (hl : 64 < l.length) (wS : World) : Calls Try.prog 11 #[.string (S l)] wS (StrPost [] 50 wS) := by
  have H := SM.start wS
  have hsz : (64 : Int) < ((S l).size : Int) := by rw [S_size]; omega
  clear hl
  unfold StrPost
  go_enter Try.func11, Try.ntmps11
  go_wp2
  go_ret2
  exact ⟨rfl, H.below⟩
end Go.Proofs.Ythlkpdfdbdfbjaa
