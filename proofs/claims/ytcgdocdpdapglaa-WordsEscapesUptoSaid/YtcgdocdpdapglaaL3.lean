/- WordsEscapes, for every text of at most 1048576 bytes (with its count): the law answers true; how bytes are escaped, and what a text says, is as the document says. -/
import Derived.Test.YtcgdocdpdapglaaRows
import Derived.Test.YtcgdocdpdapglaaR5
import Derived.Test.YtcgdocdpdapglaaRow
import Derived.ProofKit
import Derived.OpenShut
import Derived.JoinedCond
namespace Go.Proofs.Ytcgdocdpdapglaa.wordsEscapes
open Go.ChangeShapes Go.WideShapes Go.ChangeAt Go.RowKit Go.Lib
open Go.ChangeMaps (open_string shut_string)
theorem unR_some (l p : List UInt8) (h : un l = some p) (hs : l.length ≤ 274877906944) (w : World) : Calls Try.prog 21 #[.string (S l)] w fun e w' => e = .returned (.tuple #[.string (S p), .int .i64 0]) ∧ Below w.heap.size w w' := by
  refine (unescapeR_any l hs w).mono fun e w' hp => ?_
  unfold UnPost at hp
  rw [h] at hp
  exact hp
theorem unR_none (l : List UInt8) (h : un l = none) (hs : l.length ≤ 274877906944) (w : World) : Calls Try.prog 21 #[.string (S l)] w fun e w' => e = .returned (.tuple #[.string (S []), .int .i64 11]) ∧ Below w.heap.size w w' := by
  refine (unescapeR_any l hs w).mono fun e w' hp => ?_
  unfold UnPost at hp
  rw [h] at hp
  exact hp
/-- Both tell the same. -/
theorem both (l : List UInt8) (hs : l.length ≤ 274877906944) : ∃ (p : List UInt8) (n : Int), (∀ w, Calls Try.prog 20 #[.string (S l)] w fun e w' => e = .returned (.tuple #[.string (S p), .int .i64 n]) ∧ Below w.heap.size w w') ∧
    (∀ w, Calls Try.prog 21 #[.string (S l)] w fun e w' => e = .returned (.tuple #[.string (S p), .int .i64 n]) ∧ Below w.heap.size w w') := by
  cases h : un l with
  | none => exact ⟨[], 11, un_none l h hs, unR_none l h hs⟩
  | some p => exact ⟨p, 0, un_some l p h hs, unR_some l p h hs⟩
set_option maxHeartbeats 3200000 in
theorem walk (s : List UInt8) (hl : s.length ≤ 1048576) (w : World) :
    Calls Try.prog 5 #[.string (S s)] w fun e w' => e = .returned (.bool true) ∧ Below w.heap.size w w' := by
  obtain ⟨p, n, c1, c2⟩ := both s (by omega)
  obtain ⟨m, hm⟩ : ∃ m, esc s = m := ⟨_, rfl⟩
  have c3 := fun w => esc_is s m hm (by omega) w
  have c4 := fun w => escR_is s m hm (by omega) w
  have e1 : ((S m).toList == (S m).toList) = true := by simp
  have e2 : ((S p).toList == (S p).toList) = true := by simp
  have e3 : (n == n) = true := by simp
  clear hm
  replace c1 := Lib.hid c1
  replace c2 := Lib.hid c2
  replace c3 := Lib.hid c3
  replace c4 := Lib.hid c4
  go_enter Try.func5, Try.ntmps5
  go_wp2_with fail
  refine (c1.out _).mono ?_
  rintro e w1 ⟨rfl, hb1⟩
  have B1 := Lib.hid hb1
  clear hb1
  go_wp2_with fail
  refine (c2.out _).mono ?_
  rintro e w2 ⟨rfl, hb2⟩
  have B2 := Lib.hid (B1.out.trans (hb2.mono B1.out.size))
  clear hb2 B1
  go_wp2_with fail
  refine (fixed_any _).mono ?_
  rintro e w3 ⟨rfl, hb3⟩
  have B3 := Lib.hid (B2.out.trans (hb3.mono B2.out.size))
  clear hb3 B2
  go_wp2_with fail
  refine (c3.out _).mono ?_
  rintro e w4 ⟨rfl, hb4⟩
  have B4 := Lib.hid (B3.out.trans (hb4.mono B3.out.size))
  clear hb4 B3
  go_wp2_with fail
  refine (c4.out _).mono ?_
  rintro e w5 ⟨rfl, hb5⟩
  have B5 := Lib.hid (B4.out.trans (hb5.mono B4.out.size))
  clear hb5 B4
  go_wp2
  go_ret
  exact ⟨rfl, B5.out⟩

theorem own : ownKnob Try.prog.godebug = none := by kernel_rfl
theorem short {H : Type} {s : ByteArray} (hk : Rows.uptoSmall H [.lit (.string s.data.toList)] = true) : s.data.toList.length ≤ 1048576 := by
  have h : Rows.uptoBulkAll [DataW.lit (H := H) (.string s.data.toList)] ≤ 1048576 := of_decide_eq_true hk
  simp only [Rows.uptoBulkAll, Rows.uptoBulk] at h
  omega
theorem contract (H : Type) (enc : TypeId × Value → H) (W : World) (base : Nat) (args : Array Value) (ds gs : List (DataW H)) (before : List MemPlace)
    (hval : ∀ (j : Nat) t v, Try.f5.params[j]? = some t → args[j]? = some v → Value.okWide Try.prog W .any base t v)
    (hW : DataW.Whole enc Try.prog Try.f5.params.toList Rows.wordsEscapesSpec.vars false W args.toList ds gs before) (hk : Rows.uptoSmall H (ds ++ gs) = true) :
    Calls Try.prog 5 args W fun e W' => ∃ v, e = .returned v ∧ Rows.wordsEscapesSpec.post enc Try.prog Try.f5 false true false false W args v W' := by
  have hW' := hW
  obtain ⟨p, q, hA0, hV, rfl, hfz, hnd⟩ := hW
  have hA : DataW.TrodAll enc Try.prog W 0 (fun _ => true) true Try.f5.params.toList args.toList ds p := hA0
  rw [Try.params5] at hA hval
  obtain ⟨v0, vs0, d0, ds0, p0, q0, hargs, rfl, rfl, h0, r0⟩ := trodAll_cons hA
  obtain ⟨rfl, rfl, rfl⟩ := trodAll_nil r0
  obtain rfl : args = #[v0] := by cases args; simp_all
  obtain ⟨rfl, rfl⟩ := trodVars_none hV
  obtain ⟨s, rfl, rfl, rfl, hs⟩ := open_string Try.underlying9 (hval 0 9 v0 rfl rfl) h0
  clear hA0
  simp only [List.append_nil] at hW' hk
  refine (walk s.data.toList (short hk) W).mono fun e W' ⟨he, hg⟩ => ?_
  subst he
  exact ⟨_, rfl, post_below (pa := []) (pv := []) hW' hg (fun _ _ _ => trodAll_cons_mk (shut_bool Try.underlying4 _) trodAll_mk0) (fun _ _ => trodAll_cons_mk (shut_string Try.underlying9 hs) trodAll_mk0) (fun _ _ => rfl) rfl
    (ok_one (by kernel_rfl) rfl (okWide_bool_mk Try.underlying4 _))⟩
set_option maxRecDepth 100000 in
theorem lifted (os : Os) (started : os.Started) (H : Type) (enc : TypeId × Value → H) (F : Stop.Interp) :
    ReturnsInHanded {} Try.checked os 5 .any ((Rows.OpenSpec.upto Rows.wordsEscapesSpec).pre6 enc Try.prog Try.f5 Rows.wordsEscapesUptoRow.domain false) (((Rows.OpenSpec.upto Rows.wordsEscapesSpec).at F).post enc Try.prog Try.f5 false true false false) := by
  refine returnsInHanded_of_cond (C := Try.checked) (s := Rows.OpenSpec.upto Rows.wordsEscapesSpec) (k := Rows.uptoSmall) rfl own started (by kernel_rfl) Try.func5
    (OpenSpec.witness (enc := enc) (C := Try.checked) (s := Rows.OpenSpec.upto Rows.wordsEscapesSpec) (k := Rows.uptoSmall) rfl false ⟨#[], #[.string .empty], []⟩ 8 (by kernel_rfl) (by kernel_rfl) (by kernel_rfl)
      (x := ([.lit (.string [])], [], [])) (by kernel_rfl) rfl (by kernel_rfl)) ?_
  intro W base args ds gs before hval hW _ hk _
  exact contract H enc W base args ds gs before hval hW hk
theorem proved : Rows.WordsEscapesUptoSaid :=
  OpenClaim.holds_of_cond 5 Try.f5 rfl rfl rfl rfl rfl rfl rfl ⟨rfl, rfl, rfl, rfl, rfl⟩ rfl rfl rfl rfl rfl (by kernel_rfl) Try.func5 (by kernel_rfl)
    (of_decide_eq_true (by kernel_rfl)) (by unfold Func.isWrapper; first | (rw [if_pos (by decide +kernel)]; kernel_rfl) | (rw [if_neg (by decide +kernel)]; exact ⟨rfl, rfl⟩))
    (fun os started H enc _ F => lifted os started H enc F)
#print axioms proved
end Go.Proofs.Ytcgdocdpdapglaa.wordsEscapes
