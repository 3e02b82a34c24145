/- WordsJoin, for every slice of texts and every text that can be read: the law answers true; a path's names make the path, the names of a path are names, and one name more makes a longer path, up to eight. -/
import Derived.Test.YtcgdocdpdapglaaRows
import Derived.Test.YtcgdocdpdapglaaJ6
import Derived.Test.YtcgdocdpdapglaaArgs
import Derived.Test.YtcgdocdpdapglaaRow
import Derived.SizedLaws
import Derived.JoinedOf
import Derived.JoinedAt
namespace Go.Proofs.Ytcgdocdpdapglaa.wordsJoin
open Go.ChangeShapes Go.WideShapes Go.ChangeAt Go.RowKit Go.Lib
open Go.ChangeMaps (open_string shut_string)
theorem own : ownKnob Try.prog.godebug = none := by kernel_rfl
theorem contract (H : Type) (enc : TypeId × Value → H) (W : World) (base : Nat) (args : Array Value) (ds gs : List (DataW H)) (before : List MemPlace)
    (hval : ∀ (j : Nat) t v, Try.f7.params[j]? = some t → args[j]? = some v → Value.okWide Try.prog W .any base t v)
    (hW : DataW.Whole enc Try.prog Try.f7.params.toList Rows.wordsJoinSpec.vars false W args.toList ds gs before)
    (hsz : (DataW.weightsEach Try.prog (Try.f7.params.toList ++ Rows.wordsJoinSpec.plain.varTypes Try.prog) (ds ++ gs)).all (· ≤ reachBytes) = true) :
    Calls Try.prog 7 args W fun e W' => ∃ v, e = .returned v ∧ Rows.wordsJoinSpec.post enc Try.prog Try.f7 false true false false W args v W' := by
  have hW' := hW
  obtain ⟨p, q, hA0, hV, rfl, hfz, hnd⟩ := hW
  have hA : DataW.TrodAll enc Try.prog W 0 (fun _ => true) true Try.f7.params.toList args.toList ds p := hA0
  rw [Try.params7] at hA hval hsz
  obtain ⟨v0, vs0, d0, ds0, p0, q0, hargs, rfl, rfl, h0, r0⟩ := trodAll_cons hA
  obtain ⟨v1, vs1, d1, ds1, p1, q1, rfl, rfl, rfl, h1, r1⟩ := trodAll_cons r0
  obtain ⟨rfl, rfl, rfl⟩ := trodAll_nil r1
  obtain rfl : args = #[v0, v1] := by cases args; simp_all
  obtain ⟨rfl, rfl⟩ := trodVars_none hV
  obtain ⟨A, len, cap, rfl⟩ := okWide_slice Try.underlying24 (hval 0 24 v0 rfl rfl)
  obtain ⟨nm, rfl, rfl, rfl, ht⟩ := open_string Try.underlying9 (hval 1 9 v1 rfl rfl) h1
  have h0k := h0
  obtain ⟨fuel0, hf0⟩ := h0
  obtain ⟨ss, rfl, hSL, hshape⟩ := open_texts hf0
  clear hA0
  simp only [List.append_nil] at hW' hsz
  have hlt : ∀ x ∈ p0, x.block < W.heap.size := fun x hx => by simpa using hW'.lt x hx
  have hlen : ss.length ≤ 1125899906842624 := by
    rcases hshape with h0 | ⟨spare, hd0⟩
    · omega
    · have := sized_slice hsz (j := 0) (t := 24) (e := 9) rfl (by rw [show d0 = _ from hd0]; rfl) Try.underlying24
      rw [bytes9] at this
      simp only [List.length_map, reachBytes] at this
      omega
  have fin : ∀ W', Below W.heap.size W W' → Rows.wordsJoinSpec.post enc Try.prog Try.f7 false true false false W #[.slice A ss.length cap, .string nm] (.bool true) W' := fun W' hg =>
    post_below (pa := p0) (pv := []) hW' hg (fun _ _ _ => trodAll_cons_mk (shut_bool Try.underlying4 _) trodAll_mk0)
      (fun sp hsp => by
        have hx := trodAll_cons_mk (WideElems.Trod_stays (sp' := sp) laidOut (by kernel_rfl) (of_decide_eq_true (by kernel_rfl)) h0k (fun x hx => hg.same (hlt x hx)) (fun x hx => hsp x hx)) (trodAll_cons_mk (shut_string Try.underlying9 ht) trodAll_mk0)
        rw [List.append_nil, List.append_nil] at hx
        exact hx) (fun _ _ => rfl) (List.append_nil p0).symm
      (ok_one (by kernel_rfl) rfl (okWide_bool_mk Try.underlying4 _))
  cases hj : joinL ss with
  | none => exact (walk_none _ ss nm hlen W hSL hj).mono fun e W' ⟨he, hg⟩ => ⟨_, he, fin W' hg⟩
  | some p => exact (walk_some _ ss nm.data.toList p W hSL hj).mono fun e W' ⟨he, hg⟩ => ⟨_, he, fin W' hg⟩
set_option maxRecDepth 100000 in
theorem lifted (os : Os) (started : os.Started) (H : Type) (enc : TypeId × Value → H) :
    ReturnsInHanded {} Try.checked os 7 .any (Rows.wordsJoinSpec.pre6 enc Try.prog Try.f7 Rows.wordsJoinRow.domain false) (Rows.wordsJoinSpec.post enc Try.prog Try.f7 false true false false) := by
  refine returnsInHanded_of_change_sized (C := Try.checked) own started (by kernel_rfl) Try.func7
    (ChangeSpec.witness6 (enc := enc) (C := Try.checked) false ⟨#[], #[.slice none 0 0, .string ⟨#[]⟩], []⟩ 8 (by kernel_rfl) (by kernel_rfl) (by kernel_rfl) (by kernel_rfl)) ?_
  intro W base args ds gs before hval hW _ hsz _
  exact contract H enc W base args ds gs before hval hW hsz
theorem proved : Rows.WordsJoinSaid :=
  OpenClaim.holds_of_wide 7 Try.f7 rfl rfl rfl rfl rfl rfl rfl ⟨rfl, rfl, rfl, rfl, rfl⟩ rfl rfl rfl rfl rfl (by kernel_rfl) Try.func7 (by kernel_rfl)
    (of_decide_eq_true (by kernel_rfl)) (by unfold Func.isWrapper; first | (rw [if_pos (by decide +kernel)]; kernel_rfl) | (rw [if_neg (by decide +kernel)]; exact ⟨rfl, rfl⟩))
    (fun os started H enc _ => lifted os started H enc)
#print axioms proved
end Go.Proofs.Ytcgdocdpdapglaa.wordsJoin
