/- WordsPaths, for every string and every slice of texts that can be read: the law answers true; which names any path has, and the path of any names, is as the document says, and what is told is its owner's. -/
import Derived.Test.YtcgdocdpdapglaaRows
import Derived.Test.YtcgdocdpdapglaaJ2
import Derived.Test.YtcgdocdpdapglaaArgs
import Derived.Test.YtcgdocdpdapglaaRow
import Derived.SizedLaws
import Derived.JoinedOf
import Derived.JoinedAt
namespace Go.Proofs.Ytcgdocdpdapglaa.wordsPaths
open Go.ChangeShapes Go.WideShapes Go.ChangeAt Go.RowKit Go.Lib
open Go.ChangeMaps (open_string shut_string)
theorem own : ownKnob Try.prog.godebug = none := by kernel_rfl
theorem contract (H : Type) (enc : TypeId × Value → H) (W : World) (base : Nat) (args : Array Value) (ds gs : List (DataW H)) (before : List MemPlace)
    (hval : ∀ (j : Nat) t v, Try.f4.params[j]? = some t → args[j]? = some v → Value.okWide Try.prog W .any base t v)
    (hW : DataW.Whole enc Try.prog Try.f4.params.toList Rows.wordsPathsSpec.vars false W args.toList ds gs before)
    (hsz : (DataW.weightsEach Try.prog (Try.f4.params.toList ++ Rows.wordsPathsSpec.plain.varTypes Try.prog) (ds ++ gs)).all (· ≤ reachBytes) = true) :
    Calls Try.prog 4 args W fun e W' => ∃ v, e = .returned v ∧ Rows.wordsPathsSpec.post enc Try.prog Try.f4 false true false false W args v W' := by
  have hW' := hW
  obtain ⟨p, q, hA0, hV, rfl, hfz, hnd⟩ := hW
  have hA : DataW.TrodAll enc Try.prog W 0 (fun _ => true) true Try.f4.params.toList args.toList ds p := hA0
  rw [Try.params4] at hA hval hsz
  obtain ⟨v0, vs0, d0, ds0, p0, q0, hargs, rfl, rfl, h0, r0⟩ := trodAll_cons hA
  obtain ⟨v1, vs1, d1, ds1, p1, q1, rfl, rfl, rfl, h1, r1⟩ := trodAll_cons r0
  obtain ⟨rfl, rfl, rfl⟩ := trodAll_nil r1
  obtain rfl : args = #[v0, v1] := by cases args; simp_all
  obtain ⟨rfl, rfl⟩ := trodVars_none hV
  obtain ⟨s, rfl, rfl, rfl, hs⟩ := open_string Try.underlying9 (hval 0 9 v0 rfl rfl) h0
  obtain ⟨A, len, cap, rfl⟩ := okWide_slice Try.underlying24 (hval 1 24 v1 rfl rfl)
  have h1k := h1
  obtain ⟨fuel1, hf1⟩ := h1
  obtain ⟨ss, rfl, hSL, hshape⟩ := open_texts hf1
  clear hA0
  simp only [List.append_nil, List.nil_append] at hW' hsz
  have hlt : ∀ x ∈ p1, x.block < W.heap.size := fun x hx => by simpa using hW'.lt x hx
  have hlen : ss.length ≤ 1125899906842624 := by
    rcases hshape with h0 | ⟨spare, hd0⟩
    · omega
    · have := sized_slice hsz (j := 1) (t := 24) (e := 9) rfl (by rw [show d1 = _ from hd0]; rfl) Try.underlying24
      rw [bytes9] at this
      simp only [List.length_map, reachBytes] at this
      omega
  have hslen : s.data.toList.length ≤ 1125899906842624 := by
    have := sized_string hsz (j := 0) (t := 9) rfl rfl
    simp only [reachBytes] at this
    omega
  have fin : ∀ W', Below W.heap.size W W' → Rows.wordsPathsSpec.post enc Try.prog Try.f4 false true false false W #[.string s, .slice A ss.length cap] (.bool true) W' := fun W' hg =>
    post_below (pa := p1) (pv := []) hW' hg (fun _ _ _ => trodAll_cons_mk (shut_bool Try.underlying4 _) trodAll_mk0)
      (fun sp hsp => by
        have hx := trodAll_cons_mk (shut_string Try.underlying9 hs) (trodAll_cons_mk (WideElems.Trod_stays (sp' := sp) laidOut (by kernel_rfl) (of_decide_eq_true (by kernel_rfl)) h1k (fun x hx => hg.same (hlt x hx)) (fun x hx => hsp x hx)) trodAll_mk0)
        rw [List.append_nil, List.nil_append] at hx
        exact hx) (fun _ _ => rfl) (List.append_nil p1).symm
      (ok_one (by kernel_rfl) rfl (okWide_bool_mk Try.underlying4 _))
  exact (walk s.data.toList _ ss hslen hlen W hSL).mono fun e W' ⟨he, hg⟩ => ⟨_, he, fin W' hg⟩
set_option maxRecDepth 100000 in
theorem lifted (os : Os) (started : os.Started) (H : Type) (enc : TypeId × Value → H) :
    ReturnsInHanded {} Try.checked os 4 .any (Rows.wordsPathsSpec.pre6 enc Try.prog Try.f4 Rows.wordsPathsRow.domain false) (Rows.wordsPathsSpec.post enc Try.prog Try.f4 false true false false) := by
  refine returnsInHanded_of_change_sized (C := Try.checked) own started (by kernel_rfl) Try.func4
    (ChangeSpec.witness6 (enc := enc) (C := Try.checked) false ⟨#[], #[.string ⟨#[]⟩, .slice none 0 0], []⟩ 8 (by kernel_rfl) (by kernel_rfl) (by kernel_rfl) (by kernel_rfl)) ?_
  intro W base args ds gs before hval hW _ hsz _
  exact contract H enc W base args ds gs before hval hW hsz
theorem proved : Rows.WordsPathsSaid :=
  OpenClaim.holds_of_wide 4 Try.f4 rfl rfl rfl rfl rfl rfl rfl ⟨rfl, rfl, rfl, rfl, rfl⟩ rfl rfl rfl rfl rfl (by kernel_rfl) Try.func4 (by kernel_rfl)
    (of_decide_eq_true (by kernel_rfl)) (by unfold Func.isWrapper; first | (rw [if_pos (by decide +kernel)]; kernel_rfl) | (rw [if_neg (by decide +kernel)]; exact ⟨rfl, rfl⟩))
    (fun os started H enc _ => lifted os started H enc)
#print axioms proved
end Go.Proofs.Ytcgdocdpdapglaa.wordsPaths
