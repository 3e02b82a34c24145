/- Package sha2's law package: Sha2Ones. -/
import Derived.Test.YtbkaemekcjinaaaDoorS14
import Derived.Test.YtbkaemekcjinaaaDoorE10
set_option linter.unusedSimpArgs false
set_option linter.unusedVariables false
namespace Go.Proofs.YtbkaemekcjinaaaDoor
open Go.RowKit Go.Lib
def Told (r : ByteArray) (n : Int) (w : World) (e : Ending) (w' : World) : Prop := e = .returned (.tuple #[.string r, .int .i64 n]) ∧ Below w.heap.size w w'
theorem ones_short (k : Int) (s r : ByteArray) (n : Int) (hs : s.size ≤ 2000) (c1 : ∀ w, Vars w → Calls Tryd.prog 7 #[.int .i64 k, .string s] w (Told r n w)) (c2 : ∀ w, Calls Tryd.prog 8 #[.int .i64 k, .string s] w (Told r n w))
    (w : World) (hv : Vars w) : Calls Tryd.prog 3 #[.int .i64 k, .string s] w fun e w' => e = .returned (.bool true) ∧ Below w.heap.size w w' := by
  have C1 := Lib.hid c1
  have C2 := Lib.hid c2
  have HV := Lib.hid hv
  have hsI : (s.size : Int) ≤ 2000 := by omega
  have hn : ¬ (2000 < s.size) := by omega
  clear c1 c2 hv
  go_enter Tryd.func3, Tryd.ntmps3
  go_wp2_with (first
    | (go_at_call 7; refine (C1.out _ HV.out).mono ?_; rintro e w1 ⟨rfl, hb1⟩; have F1 := Lib.hid (FW.mk hb1 (HV.out.from hb1)); clear hb1)
    | (go_at_call 8; refine (C2.out _).mono ?_; rintro e w2 ⟨rfl, hb2⟩; have F2 := Lib.hid (F1.out.from hb2); clear hb2)
    | (go_at_call 9; refine (fixed_any _ F2.out.v).mono ?_; rintro e w3 ⟨rfl, hb3⟩; have F3 := Lib.hid (F2.out.from hb3); clear hb3))
  go_ret
  exact ⟨rfl, F3.out.b⟩
theorem ones_long (k : Int) (s x r : ByteArray) (n : Int) (hs : 2000 < s.size) (hx : s.extract 0 2000 = x) (c1 : ∀ w, Vars w → Calls Tryd.prog 7 #[.int .i64 k, .string x] w (Told r n w)) (c2 : ∀ w, Calls Tryd.prog 8 #[.int .i64 k, .string x] w (Told r n w))
    (w : World) (hv : Vars w) : Calls Tryd.prog 3 #[.int .i64 k, .string s] w fun e w' => e = .returned (.bool true) ∧ Below w.heap.size w w' := by
  have C1 := Lib.hid c1
  have C2 := Lib.hid c2
  have HV := Lib.hid hv
  have hsI : (2000 : Int) < (s.size : Int) := by omega
  clear c1 c2 hv
  go_enter Tryd.func3, Tryd.ntmps3
  go_wp2_with (first
    | (go_at_call 7; refine (C1.out _ HV.out).mono ?_; rintro e w1 ⟨rfl, hb1⟩; have F1 := Lib.hid (FW.mk hb1 (HV.out.from hb1)); clear hb1)
    | (go_at_call 8; refine (C2.out _).mono ?_; rintro e w2 ⟨rfl, hb2⟩; have F2 := Lib.hid (F1.out.from hb2); clear hb2)
    | (go_at_call 9; refine (fixed_any _ F2.out.v).mono ?_; rintro e w3 ⟨rfl, hb3⟩; have F3 := Lib.hid (F2.out.from hb3); clear hb3))
  go_ret
  exact ⟨rfl, F3.out.b⟩
/-- What both tell of bytes. -/
theorem both (k : Int) (x : ByteArray) (hx : x.size ≤ 2000) : ∃ r n, (∀ w, Vars w → Calls Tryd.prog 7 #[.int .i64 k, .string x] w (Told r n w)) ∧ (∀ w, Calls Tryd.prog 8 #[.int .i64 k, .string x] w (Told r n w)) := by
  have hl : x.data.toList.length ≤ 2000 := by rw [← Lib.size_eq]; exact hx
  by_cases h0 : k = 0
  · subst h0
    exact ⟨_, _, fun w hv => one_any false x.data.toList w hv (by omega), fun w => ref_one false x.data.toList hl w⟩
  by_cases h1 : k = 1
  · subst h1
    exact ⟨_, _, fun w hv => one_any true x.data.toList w hv (by omega), fun w => ref_one true x.data.toList hl w⟩
  exact ⟨_, _, fun w _ => (one_bad k x w h0 h1).mono fun e w' ⟨he, hw⟩ => ⟨he, hw ▸ Below.refl _ _⟩, fun w => (ref_bad k x w h0 h1).mono fun e w' ⟨he, hw⟩ => ⟨he, hw ▸ Below.refl _ _⟩⟩
theorem ones_any (k : Int) (s : ByteArray) (w : World) (hv : Vars w) : Calls Tryd.prog 3 #[.int .i64 k, .string s] w fun e w' => e = .returned (.bool true) ∧ Below w.heap.size w w' := by
  by_cases h : s.size ≤ 2000
  · obtain ⟨r, n, c1, c2⟩ := both k s h
    exact ones_short k s r n h c1 c2 w hv
  · obtain ⟨r, n, c1, c2⟩ := both k (s.extract 0 2000) (by rw [ByteArray.size_extract]; omega)
    exact ones_long k s _ r n (by omega) rfl c1 c2 w hv
end Go.Proofs.YtbkaemekcjinaaaDoor
