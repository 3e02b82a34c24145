/- WordsBack, for all texts that hold together at most 1048576 bytes (with their counts): the law answers true; what is escaped says what it was, no other text says it, and it is a text of one line. -/
import Derived.Test.YtcgdocdpdapglaaRows
import Derived.Test.YtcgdocdpdapglaaPlain3
import Derived.Test.YtcgdocdpdapglaaW10
import Derived.Test.YtcgdocdpdapglaaRow
import Derived.ProofKit
import Derived.OpenShut
import Derived.JoinedCond
namespace Go.Proofs.Ytcgdocdpdapglaa.wordsBack
open Go.ChangeShapes Go.WideShapes Go.ChangeAt Go.RowKit Go.Lib
open Go.ChangeMaps (open_string shut_string)
theorem byte_of (l : List UInt8) (k : Nat) (h : k < (S l).size) : (S l)[k] ∈ l := by
  have h2 : k < l.length := by rw [← S_size]; exact h
  exact (List.getElem_mem h2 : l[k] ∈ l)
theorem S_nil_beq (l : List UInt8) : ((S l).toList == []) = decide (l = []) := by rw [toList_beq]; rfl
set_option maxHeartbeats 6400000 in
theorem walk (a o : List UInt8) (hl : a.length + o.length ≤ 1048576) (w : World) :
    Calls Try.prog 6 #[.string (S a), .string (S o)] w fun e w' => e = .returned (.bool true) ∧ Below w.heap.size w w' := by
  obtain ⟨t, ht⟩ : ∃ t, esc a = t := ⟨_, rfl⟩
  have hun : un t = some a := by rw [← ht]; exact un_esc a
  have htx : validD t = true := by rw [← ht]; exact esc_text a
  have htl : t.length ≤ 4194304 := by rw [← ht]; have := esc_len a; omega
  have hby : ∀ k (h : k < (S t).size), 32 ≤ (S t)[k].toNat ∧ (S t)[k].toNat ≠ 127 := fun k h => by
    have := byte_of t k h
    exact esc_bytes a _ (by rw [ht]; exact this)
  have haa : ((S a).toList == (S a).toList) = true := by simp
  have htsz : (S t).size ≤ 4194304 := by rw [S_size]; exact htl
  replace ht := Lib.hid ht
  replace hby := Lib.hid hby
  go_enter Try.func6, Try.ntmps6
  go_wp2_with fail
  refine (esc_is a t ht.out (by omega) _).mono ?_
  rintro e w1 ⟨rfl, hb1⟩
  have B1 := Lib.hid hb1
  clear hb1
  go_wp2_with fail
  refine (un_some t a hun (by omega) _).mono ?_
  rintro e w2 ⟨rfl, hb2⟩
  have B2 := Lib.hid (B1.out.trans (hb2.mono B1.out.size))
  clear hb2 B1
  go_wp2_with fail
  refine (fixed_any _).mono ?_
  rintro e w3 ⟨rfl, hb3⟩
  have B3 := Lib.hid (B2.out.trans (hb3.mono B2.out.size))
  clear hb3 B2
  go_wp2_with fail
  refine (text_is t true htx (by omega) _).mono ?_
  rintro e w4 ⟨rfl, hb4⟩
  have B4 := Lib.hid (B3.out.trans (hb4.mono B3.out.size))
  clear hb4 B3
  go_wp2_with fail
  go_loop [8] (fun i => ∃ k : Nat, k ≤ t.length ∧ i = .int .i64 k) (fun i => t.length - (intOf i).toNat)
  case atStart => exact ⟨0, Nat.zero_le _, rfl⟩
  case round =>
    obtain ⟨k, hk, rfl⟩ := hrel
    by_cases hlt : k < t.length
    · have hlt2 : k < (S t).size := by rw [S_size]; exact hlt
      obtain ⟨h32, h127⟩ := hby.out k hlt2
      have b127 : (((S t)[k].toNat : Int) == 127) = false := by rw [beq_eq_false_iff_ne]; omega
      have b32 : (32 : Int) ≤ ((S t)[k].toNat : Int) := by omega
      clear h32 h127
      go_wp2
      go_round
      case rel => exact ⟨k + 1, by omega, by go_num⟩
      case measure => simp [intOf]; omega
    · have hge : ¬ k < (S t).size := by rw [S_size]; exact hlt
      cases ho : un o with
      | none =>
        go_wp2_with fail
        refine (un_none o ho (by omega) _).mono ?_
        rintro e w5 ⟨rfl, hb5⟩
        have B5 := Lib.hid (B4.out.trans (hb5.mono B4.out.size))
        have bn : ((S []).toList == []) = true := by rw [S_nil_beq]; rfl
        have bn2 : (S []).toList.isEmpty = true := by rw [Lib.toList_data]; rfl
        clear hb5
        go_wp2
        go_ret
        exact ⟨rfl, B5.out⟩
      | some v =>
        have hvo : esc v = o := esc_of_un ho
        have hvl : v.length ≤ 1099511627776 := by have := esc_ge v; rw [hvo] at this; omega
        have bvo : ((S o).toList == (S o).toList) = true := by simp
        have hcmp : ((S v).toList == (S a).toList) = ((S o).toList == (S t).toList) := by
          rw [S_beq, S_beq, ← hvo, ← ht.out]; exact decide_eq_decide.2 ⟨fun h => by rw [h], esc_inj⟩
        obtain ⟨b, hb⟩ : ∃ b, ((S o).toList == (S t).toList) = b := ⟨_, rfl⟩
        rw [hb] at hcmp
        go_wp2_with fail
        refine (un_some o v ho (by omega) _).mono ?_
        rintro e w5 ⟨rfl, hb5⟩
        have B5 := Lib.hid (B4.out.trans (hb5.mono B4.out.size))
        clear hb5
        cases b <;>
        · go_wp2_with fail
          refine (esc_is v o hvo hvl _).mono ?_
          rintro e w6 ⟨rfl, hb6⟩
          have B6 := Lib.hid (B5.out.trans (hb6.mono B5.out.size))
          clear hb6
          go_wp2
          go_ret
          exact ⟨rfl, B6.out⟩

theorem own : ownKnob Try.prog.godebug = none := by kernel_rfl
theorem short {H : Type} {s t : ByteArray} (hk : Rows.uptoSmall H [.lit (.string s.data.toList), .lit (.string t.data.toList)] = true) : s.data.toList.length + t.data.toList.length ≤ 1048576 := by
  have h : Rows.uptoBulkAll [DataW.lit (H := H) (.string s.data.toList), DataW.lit (H := H) (.string t.data.toList)] ≤ 1048576 := of_decide_eq_true hk
  simp only [Rows.uptoBulkAll, Rows.uptoBulk] at h
  omega
theorem contract (H : Type) (enc : TypeId × Value → H) (W : World) (base : Nat) (args : Array Value) (ds gs : List (DataW H)) (before : List MemPlace)
    (hval : ∀ (j : Nat) t v, Try.f6.params[j]? = some t → args[j]? = some v → Value.okWide Try.prog W .any base t v)
    (hW : DataW.Whole enc Try.prog Try.f6.params.toList Rows.wordsBackSpec.vars false W args.toList ds gs before) (hk : Rows.uptoSmall H (ds ++ gs) = true) :
    Calls Try.prog 6 args W fun e W' => ∃ v, e = .returned v ∧ Rows.wordsBackSpec.post enc Try.prog Try.f6 false true false false W args v W' := by
  have hW' := hW
  obtain ⟨p, q, hA0, hV, rfl, hfz, hnd⟩ := hW
  have hA : DataW.TrodAll enc Try.prog W 0 (fun _ => true) true Try.f6.params.toList args.toList ds p := hA0
  rw [Try.params6] at hA hval
  obtain ⟨v0, vs0, d0, ds0, p0, q0, hargs, rfl, rfl, h0, r0⟩ := trodAll_cons hA
  obtain ⟨v1, vs1, d1, ds1, p1, q1, rfl, rfl, rfl, h1, r1⟩ := trodAll_cons r0
  obtain ⟨rfl, rfl, rfl⟩ := trodAll_nil r1
  obtain rfl : args = #[v0, v1] := by cases args; simp_all
  obtain ⟨rfl, rfl⟩ := trodVars_none hV
  obtain ⟨s, rfl, rfl, rfl, hs⟩ := open_string Try.underlying9 (hval 0 9 v0 rfl rfl) h0
  obtain ⟨t, rfl, rfl, rfl, ht⟩ := open_string Try.underlying9 (hval 1 9 v1 rfl rfl) h1
  clear hA0
  simp only [List.append_nil] at hW' hk
  refine (walk s.data.toList t.data.toList (short hk) W).mono fun e W' ⟨he, hg⟩ => ?_
  subst he
  exact ⟨_, rfl, post_below (pa := []) (pv := []) hW' hg (fun _ _ _ => trodAll_cons_mk (shut_bool Try.underlying4 _) trodAll_mk0) (fun _ _ => trodAll_cons_mk (shut_string Try.underlying9 hs) (trodAll_cons_mk (shut_string Try.underlying9 ht) trodAll_mk0)) (fun _ _ => rfl) rfl
    (ok_one (by kernel_rfl) rfl (okWide_bool_mk Try.underlying4 _))⟩
set_option maxRecDepth 100000 in
theorem lifted (os : Os) (started : os.Started) (H : Type) (enc : TypeId × Value → H) (F : Stop.Interp) :
    ReturnsInHanded {} Try.checked os 6 .any ((Rows.OpenSpec.upto Rows.wordsBackSpec).pre6 enc Try.prog Try.f6 Rows.wordsBackUptoRow.domain false) (((Rows.OpenSpec.upto Rows.wordsBackSpec).at F).post enc Try.prog Try.f6 false true false false) := by
  refine returnsInHanded_of_cond (C := Try.checked) (s := Rows.OpenSpec.upto Rows.wordsBackSpec) (k := Rows.uptoSmall) rfl own started (by kernel_rfl) Try.func6
    (OpenSpec.witness (enc := enc) (C := Try.checked) (s := Rows.OpenSpec.upto Rows.wordsBackSpec) (k := Rows.uptoSmall) rfl false ⟨#[], #[.string .empty, .string .empty], []⟩ 8 (by kernel_rfl) (by kernel_rfl) (by kernel_rfl)
      (x := ([.lit (.string []), .lit (.string [])], [], [])) (by kernel_rfl) rfl (by kernel_rfl)) ?_
  intro W base args ds gs before hval hW _ hk _
  exact contract H enc W base args ds gs before hval hW hk
theorem proved : Rows.WordsBackUptoSaid :=
  OpenClaim.holds_of_cond 6 Try.f6 rfl rfl rfl rfl rfl rfl rfl ⟨rfl, rfl, rfl, rfl, rfl⟩ rfl rfl rfl rfl rfl (by kernel_rfl) Try.func6 (by kernel_rfl)
    (of_decide_eq_true (by kernel_rfl)) (by unfold Func.isWrapper; first | (rw [if_pos (by decide +kernel)]; kernel_rfl) | (rw [if_neg (by decide +kernel)]; exact ⟨rfl, rfl⟩))
    (fun os started H enc _ F => lifted os started H enc F)
#print axioms proved
end Go.Proofs.Ytcgdocdpdapglaa.wordsBack
