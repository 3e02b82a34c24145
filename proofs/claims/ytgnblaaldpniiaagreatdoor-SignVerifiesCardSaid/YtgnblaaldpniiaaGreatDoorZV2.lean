/- The document's answer for package sign, walked: its calls over letters.
Rows of stage 7 from what package sign answers: over letters.
The document's answer for package sign, by lists and points.
What package sign answers, by lists and points; the six rows of stage 7 from it.
What package sign answers: the developers' calls, by lists and points. -/
import Derived.Test.YtgnblaaldpniiaaGreatDoorZV1
import Derived.Test.YtgnblaaldpniiaaGreatDoorP10
import Derived.Test.YtgnblaaldpniiaaGreatDoorZK3
import Derived.Test.YtgnblaaldpniiaaGreatDoorZM5
import Derived.Test.YtgnblaaldpniiaaGreatDoorZM9
section
set_option linter.unusedSimpArgs false
set_option linter.unusedVariables false
set_option maxRecDepth 100000
namespace Go.Proofs.YtgnblaaldpniiaaGreatDoor.Sg
open Go.RowKit
set_option maxHeartbeats 4000000 in
theorem verR_core (k m g r t bs x h y z : ByteArray) (o : Bool) (hg : g.size = 64) (e1 : g.extract 0 32 = r) (e2 : g.extract 32 64 = t) (hk : k.size = 32) (hm : m.size ≤ 1000) (hr : r.size = 32) (hrk : (r ++ k).size = 64) (ho : (x.toList == z.toList) = o) (i1 : ∀ w, Calls Tryz.prog 26 #[.string k] w (RetV (.bool true) w)) (i2 : ∀ w, Calls Tryz.prog 26 #[.string r] w (RetV (.bool true) w)) (i3 : ∀ w, Calls Tryz.prog 27 #[.string t] w (RetV (.bool true) w)) (cB : ∀ w, Calls Tryz.prog 17 #[] w (RetV (.string bs) w)) (m1 : ∀ w, Calls Tryz.prog 16 #[.string t, .string bs] w (RetV (.tuple #[.string x, .int .i64 0]) w)) (c1 : ∀ w, Calls Tryz.prog 20 #[.string (r ++ k ++ m)] w (RetV (.string h) w)) (m2 : ∀ w, Calls Tryz.prog 16 #[.string h, .string k] w (RetV (.tuple #[.string y, .int .i64 0]) w)) (cA : ∀ w, Calls Tryz.prog 28 #[.string r, .string y] w (RetV (.tuple #[.string z, .int .i64 0]) w)) (wS : World) : Calls Tryz.prog 12 #[.string k, .string m, .string g] wS (RetV (.bool o) wS) := by
  have H := RMem.start wS
  replace i1 := Kept.mk i1
  replace i2 := Kept.mk i2
  replace i3 := Kept.mk i3
  replace cB := Kept.mk cB
  replace m1 := Kept.mk m1
  replace c1 := Kept.mk c1
  replace m2 := Kept.mk m2
  replace cA := Kept.mk cA
  go_enter Tryz.func12, Tryz.ntmps12
  go_wp2_with (first
    | (go_at_call 26; (with_reducible refine r_call (by assumption) (i1.out _) ?_); intro w H)
    | (go_at_call 26; (with_reducible refine r_call (by assumption) (i2.out _) ?_); intro w H)
    | (go_at_call 27; (with_reducible refine r_call (by assumption) (i3.out _) ?_); intro w H))
  refine wp_region_from (by kernel_rfl) (by kernel_rfl) ?_
  repeat (go_big_quiet_step ((first | (go_at_call 17; (with_reducible exact held_call _ (cB.out _))) | (go_at_call 16; (with_reducible exact held_call _ (m1.out _))))))
  refine wpQuiet_nil ?_
  intro w5 hw5
  have H := H.from hw5
  clear hw5
  go_wp2_with (first
    | (go_at_call 20; (with_reducible refine r_call (by assumption) (c1.out _) ?_); intro w H)
    | (go_at_call 16; (with_reducible refine r_call (by assumption) (m2.out _) ?_); intro w H)
    | (go_at_call 28; (with_reducible refine r_call (by assumption) (cA.out _) ?_); intro w H))
  go_ret
  exact ⟨rfl, H.below⟩
set_option maxHeartbeats 1000000 in
theorem verR_len (k m g : ByteArray) (hg : ((g.size : Int) != 64) = true) (wS : World) : Calls Tryz.prog 12 #[.string k, .string m, .string g] wS (RetV (.bool false) wS) := by
  have H := RMem.start wS
  go_enter Tryz.func12, Tryz.ntmps12
  go_wp2
  go_ret
  exact ⟨rfl, H.below⟩
set_option maxHeartbeats 4000000 in
theorem verR_key (k m g r t : ByteArray) (hg : g.size = 64) (e1 : g.extract 0 32 = r) (e2 : g.extract 32 64 = t) (i1 : ∀ w, Calls Tryz.prog 26 #[.string k] w (RetV (.bool false) w)) (wS : World) : Calls Tryz.prog 12 #[.string k, .string m, .string g] wS (RetV (.bool false) wS) := by
  have H := RMem.start wS
  replace i1 := Kept.mk i1
  go_enter Tryz.func12, Tryz.ntmps12
  go_wp2_with (first
    | (go_at_call 26; (with_reducible refine r_call (by assumption) (i1.out _) ?_); intro w H))
  go_ret
  exact ⟨rfl, H.below⟩
set_option maxHeartbeats 4000000 in
theorem verR_r (k m g r t : ByteArray) (hg : g.size = 64) (e1 : g.extract 0 32 = r) (e2 : g.extract 32 64 = t) (i1 : ∀ w, Calls Tryz.prog 26 #[.string k] w (RetV (.bool true) w)) (i2 : ∀ w, Calls Tryz.prog 26 #[.string r] w (RetV (.bool false) w)) (wS : World) : Calls Tryz.prog 12 #[.string k, .string m, .string g] wS (RetV (.bool false) wS) := by
  have H := RMem.start wS
  replace i1 := Kept.mk i1
  replace i2 := Kept.mk i2
  go_enter Tryz.func12, Tryz.ntmps12
  go_wp2_with (first
    | (go_at_call 26; (with_reducible refine r_call (by assumption) (i1.out _) ?_); intro w H)
    | (go_at_call 26; (with_reducible refine r_call (by assumption) (i2.out _) ?_); intro w H))
  go_ret
  exact ⟨rfl, H.below⟩
set_option maxHeartbeats 4000000 in
theorem verR_s (k m g r t : ByteArray) (hg : g.size = 64) (e1 : g.extract 0 32 = r) (e2 : g.extract 32 64 = t) (i1 : ∀ w, Calls Tryz.prog 26 #[.string k] w (RetV (.bool true) w)) (i2 : ∀ w, Calls Tryz.prog 26 #[.string r] w (RetV (.bool true) w)) (i3 : ∀ w, Calls Tryz.prog 27 #[.string t] w (RetV (.bool false) w)) (wS : World) : Calls Tryz.prog 12 #[.string k, .string m, .string g] wS (RetV (.bool false) wS) := by
  have H := RMem.start wS
  replace i1 := Kept.mk i1
  replace i2 := Kept.mk i2
  replace i3 := Kept.mk i3
  go_enter Tryz.func12, Tryz.ntmps12
  go_wp2_with (first
    | (go_at_call 26; (with_reducible refine r_call (by assumption) (i1.out _) ?_); intro w H)
    | (go_at_call 26; (with_reducible refine r_call (by assumption) (i2.out _) ?_); intro w H)
    | (go_at_call 27; (with_reducible refine r_call (by assumption) (i3.out _) ?_); intro w H))
  go_ret
  exact ⟨rfl, H.below⟩
end Go.Proofs.YtgnblaaldpniiaaGreatDoor.Sg
end
section
set_option linter.unusedSimpArgs false
set_option linter.unusedVariables false
set_option maxRecDepth 100000
namespace Go.Proofs.YtgnblaaldpniiaaGreatDoor.Sg
open Go.RowKit
set_option maxHeartbeats 1000000 in
theorem short_le (s : ByteArray) (h : s.size ≤ 1000) (hm : min (s.size : Int) 1000 = (s.size : Int)) (wS : World) : Calls Tryz.prog 5 #[.string s] wS (RetV (.string s) wS) := by
  have HB := Kept.mk (Below.refl wS.heap.size wS)
  go_enter Tryz.func5, Tryz.ntmps5
  go_wp2
  go_ret
  exact ⟨rfl, HB.out⟩
set_option maxHeartbeats 1000000 in
theorem short_gt (s : ByteArray) (h : 1000 < s.size) (hm : min (s.size : Int) 1000 = 1000) (wS : World) : Calls Tryz.prog 5 #[.string s] wS (RetV (.string (s.extract 0 1000)) wS) := by
  have HB := Kept.mk (Below.refl wS.heap.size wS)
  go_enter Tryz.func5, Tryz.ntmps5
  go_wp2
  go_ret
  exact ⟨rfl, HB.out⟩
set_option maxHeartbeats 6400000 in
theorem fix_core (k g ek eg : ByteArray) (hk : k.size = 32) (hg : g.size = 64) (xk : k.extract 0 4 = ek) (xg : g.extract 0 4 = eg) (yk : (ek.toList == [215, 90, 152, 1]) = true) (yg : (eg.toList == [229, 86, 67, 0]) = true) (c1 : ∀ w, Sh.Vars w → Calls Tryz.prog 6 #[.string ⟨#[157, 97, 177, 157, 239, 253, 90, 96, 186, 132, 74, 244, 146, 236, 44, 196, 68, 73, 197, 105, 123, 50, 105, 25, 112, 59, 172, 3, 28, 174, 127, 96]⟩] w (RetV (.tuple #[.string k, .int .i64 0]) w)) (c2 : ∀ w, Sh.Vars w → Calls Tryz.prog 8 #[.string ⟨#[157, 97, 177, 157, 239, 253, 90, 96, 186, 132, 74, 244, 146, 236, 44, 196, 68, 73, 197, 105, 123, 50, 105, 25, 112, 59, 172, 3, 28, 174, 127, 96]⟩, .string ⟨#[]⟩] w (RetV (.tuple #[.string g, .int .i64 0]) w)) (c3 : ∀ w, Sh.Vars w → Calls Tryz.prog 6 #[.string ⟨#[]⟩] w (RetV (.tuple #[.string ⟨#[]⟩, .int .i64 70]) w)) (c4 : ∀ w, Sh.Vars w → Calls Tryz.prog 8 #[.string ⟨#[120]⟩, .string ⟨#[]⟩] w (RetV (.tuple #[.string ⟨#[]⟩, .int .i64 70]) w)) (c5 : ∀ w, Sh.Vars w → Calls Tryz.prog 11 #[.string k, .string ⟨#[]⟩, .string g] w (RetV (.bool true) w)) (c6 : ∀ w, Sh.Vars w → Calls Tryz.prog 11 #[.string k, .string ⟨#[120]⟩, .string g] w (RetV (.bool false) w)) (c7 : ∀ w, Sh.Vars w → Calls Tryz.prog 11 #[.string k, .string ⟨#[]⟩, .string ⟨#[]⟩] w (RetV (.bool false) w))  (wS : World) (hv : Sh.Vars wS) : Calls Tryz.prog 10 #[] wS (RetV (.bool true) wS) := by
  have HB := Kept.mk (Below.refl wS.heap.size wS)
  replace hv := Kept.mk hv
  replace c1 := Kept.mk c1
  replace c2 := Kept.mk c2
  replace c3 := Kept.mk c3
  replace c4 := Kept.mk c4
  replace c5 := Kept.mk c5
  replace c6 := Kept.mk c6
  replace c7 := Kept.mk c7
  go_enter Tryz.func10, Tryz.ntmps10
  go_wp2_with (first
    | (go_at_call 6; (with_reducible refine (c1.out _ (hv.out.from HB.out)).mono ?_); rintro _ w2 ⟨rfl, hb2⟩; have HB := Kept.mk (HB.out.trans (hb2.mono HB.out.size)); clear hb2)
    | (go_at_call 8; (with_reducible refine (c2.out _ (hv.out.from HB.out)).mono ?_); rintro _ w2 ⟨rfl, hb2⟩; have HB := Kept.mk (HB.out.trans (hb2.mono HB.out.size)); clear hb2)
    | (go_at_call 6; (with_reducible refine (c3.out _ (hv.out.from HB.out)).mono ?_); rintro _ w2 ⟨rfl, hb2⟩; have HB := Kept.mk (HB.out.trans (hb2.mono HB.out.size)); clear hb2)
    | (go_at_call 8; (with_reducible refine (c4.out _ (hv.out.from HB.out)).mono ?_); rintro _ w2 ⟨rfl, hb2⟩; have HB := Kept.mk (HB.out.trans (hb2.mono HB.out.size)); clear hb2)
    | (go_at_call 11; (with_reducible refine (c5.out _ (hv.out.from HB.out)).mono ?_); rintro _ w2 ⟨rfl, hb2⟩; have HB := Kept.mk (HB.out.trans (hb2.mono HB.out.size)); clear hb2)
    | (go_at_call 11; (with_reducible refine (c6.out _ (hv.out.from HB.out)).mono ?_); rintro _ w2 ⟨rfl, hb2⟩; have HB := Kept.mk (HB.out.trans (hb2.mono HB.out.size)); clear hb2)
    | (go_at_call 11; (with_reducible refine (c7.out _ (hv.out.from HB.out)).mono ?_); rintro _ w2 ⟨rfl, hb2⟩; have HB := Kept.mk (HB.out.trans (hb2.mono HB.out.size)); clear hb2))
  go_ret
  exact ⟨rfl, HB.out⟩
set_option maxHeartbeats 6400000 in
theorem verifies_core (k m g n : ByteArray) (o : Bool) (cF : ∀ w, Sh.Vars w → Calls Tryz.prog 10 #[] w (RetV (.bool true) w)) (cH : ∀ w, Calls Tryz.prog 5 #[.string m] w (RetV (.string n) w)) (c1 : ∀ w, Sh.Vars w → Calls Tryz.prog 11 #[.string k, .string n, .string g] w (RetV (.bool o) w)) (c2 : ∀ w, Calls Tryz.prog 12 #[.string k, .string n, .string g] w (RetV (.bool o) w))  (wS : World) (hv : Sh.Vars wS) : Calls Tryz.prog 4 #[.string k, .string m, .string g] wS (RetV (.bool true) wS) := by
  have HB := Kept.mk (Below.refl wS.heap.size wS)
  replace hv := Kept.mk hv
  replace cF := Kept.mk cF
  replace cH := Kept.mk cH
  replace c1 := Kept.mk c1
  replace c2 := Kept.mk c2
  go_enter Tryz.func4, Tryz.ntmps4
  go_wp2_with (first
    | (go_at_call 10; (with_reducible refine (cF.out _ (hv.out.from HB.out)).mono ?_); rintro _ w2 ⟨rfl, hb2⟩; have HB := Kept.mk (HB.out.trans (hb2.mono HB.out.size)); clear hb2)
    | (go_at_call 5; (with_reducible refine (cH.out _).mono ?_); rintro _ w2 ⟨rfl, hb2⟩; have HB := Kept.mk (HB.out.trans (hb2.mono HB.out.size)); clear hb2)
    | (go_at_call 11; (with_reducible refine (c1.out _ (hv.out.from HB.out)).mono ?_); rintro _ w2 ⟨rfl, hb2⟩; have HB := Kept.mk (HB.out.trans (hb2.mono HB.out.size)); clear hb2)
    | (go_at_call 12; (with_reducible refine (c2.out _).mono ?_); rintro _ w2 ⟨rfl, hb2⟩; have HB := Kept.mk (HB.out.trans (hb2.mono HB.out.size)); clear hb2))
  cases o <;> (go_ret; exact ⟨rfl, HB.out⟩)
end Go.Proofs.YtgnblaaldpniiaaGreatDoor.Sg
end
section
set_option linter.unusedSimpArgs false
set_option linter.unusedVariables false
set_option maxRecDepth 100000
namespace Go.Proofs.YtgnblaaldpniiaaGreatDoor.Sg
open Go.RowKit
theorem scB_leB (x : Nat) : Sc.scB x = leB (x % oL) := by
  have h := leB_numB (Sc.scB x) (Sc.scB_len x) (numB_lt _ (Sc.scB_len x))
  rw [← h]
  exact congrArg leB (Sc.scB_num x)
theorem isSc_is {l : List UInt8} (hl : l.length = 32) : Sc.isSc l = decide (numB l < oL) := by
  unfold Sc.isSc
  rw [decide_eq_true hl, Bool.true_and]
  rfl
theorem redR (s : List UInt8) (hs : s.length ≤ 2000) (w : World) : Calls Tryz.prog 20 #[.string (S s)] w (RetV (.string (S (leB (redN H5 s)))) w) := by
  have h := reduced_core s (H5 s) (by rw [H5_len]; omega) (fun w => oneR s w hs) w
  rw [scB_leB] at h
  exact h
theorem baseR (w : World) : Calls Tryz.prog 17 #[] w (RetV (.string (S (encP pbase))) w) := by rw [enc_base]; exact BaseS_any w
theorem keyL_len (s : List UInt8) : (keyL H5 s).length = 32 := encP_len _
theorem redN_lt (l : List UInt8) : redN H5 l < oL := Nat.mod_lt _ oL_pos
theorem num_red (l : List UInt8) : numB (leB (redN H5 l)) = redN H5 l := numB_leB _ (Nat.lt_trans (redN_lt l) oL_big)
theorem isPt_of {l : List UInt8} {P : Pt} (h : dec l = some P) : isPt l = true := by unfold isPt; rw [h]; rfl
theorem isPt_none {l : List UInt8} (h : dec l = none) : isPt l = false := by unfold isPt; rw [h]; rfl
theorem dec_len {l : List UInt8} {P : Pt} (h : dec l = some P) : l.length = 32 := by
  unfold dec at h
  by_cases hl : l.length = 32
  · exact hl
  · rw [if_neg hl] at h; cases h
theorem isC_yes {l : List UInt8} {P : Pt} (h : dec l = some P) (w : World) : Calls Tryz.prog 26 #[.string (S l)] w (RetV (.bool true) w) := by have c := IsC_any l w; rw [isPt_of h] at c; exact c
theorem isC_no {l : List UInt8} (h : dec l = none) (w : World) : Calls Tryz.prog 26 #[.string (S l)] w (RetV (.bool false) w) := by have c := IsC_any l w; rw [isPt_none h] at c; exact c
theorem isR_is {l : List UInt8} (hl : l.length = 32) (w : World) : Calls Tryz.prog 27 #[.string (S l)] w (RetV (.bool (decide (numB l < oL))) w) := by have c := Sc.IsR_any l w; rw [isSc_is hl] at c; exact c
theorem VerR_any (k m g : List UInt8) (hm : m.length ≤ 1000) (w : World) : Calls Tryz.prog 12 #[.string (S k), .string (S m), .string (S g)] w (RetV (.bool (verB H5 k m g)) w) := by
  by_cases hg : g.length = 64
  · have hsz : (S g).size = 64 := by rw [S_size, hg]
    have e1 := take_S g 32 (by omega)
    have e2 := drop_S g 32 64 hg
    have hdl : (g.drop 32).length = 32 := by rw [List.length_drop, hg]
    cases hA : dec k with
    | none => rw [ver_key H5 hA]; exact verR_key _ _ _ _ _ hsz e1 e2 (isC_no hA) w
    | some A =>
      cases hR : dec (g.take 32) with
      | none => rw [ver_r H5 hR]; exact verR_r _ _ _ _ _ hsz e1 e2 (isC_yes hA) (isC_no hR) w
      | some P =>
        have i3 := fun w => isR_is hdl w
        by_cases hs : numB (g.drop 32) < oL
        · rw [decide_eq_true hs] at i3
          rw [ver_some H5 hg hA hR hs]
          have oA := (dec_some hA).1
          have oP := (dec_some hR).1
          have m1 := fun w => MulC_ok hdl (dec_enc pbase_on) w
          have c1 := fun w => redR (g.take 32 ++ k ++ m) (by rw [List.length_append, List.length_append, dec_len hR, dec_len hA]; omega) w
          rw [← S_append, ← S_append] at c1
          have m2 := fun w => MulC_ok (k := leB (redN H5 (g.take 32 ++ k ++ m))) (leB_len _) hA w
          rw [num_red] at m2
          have cA := fun w => AddC_ok hR (dec_enc (pmul_on oA (redN H5 (g.take 32 ++ k ++ m)))) w
          exact verR_core _ _ _ _ _ _ _ _ _ _ _ hsz e1 e2 (by rw [S_size, dec_len hA]) (by rw [S_size]; exact hm) (by rw [S_size, dec_len hR]) (by rw [S_append, S_size, List.length_append, dec_len hR, dec_len hA]) (S_beq _ _) (isC_yes hA) (isC_yes hR) i3 baseR m1 c1 m2 cA w
        · rw [decide_eq_false hs] at i3
          rw [ver_s H5 hs]
          exact verR_s _ _ _ _ _ hsz e1 e2 (isC_yes hA) (isC_yes hR) i3 w
  · rw [ver_len H5 hg]
    exact verR_len _ _ _ (by rw [S_size]; simp; omega) w
end Go.Proofs.YtgnblaaldpniiaaGreatDoor.Sg
end
section
set_option linter.unusedSimpArgs false
set_option linter.unusedVariables false
set_option maxRecDepth 100000
namespace Go.Proofs.YtgnblaaldpniiaaGreatDoor.Sg
open Go.RowKit
structure SignOk : Prop where
  pub : ∀ s : List UInt8, s.length = 32 → ∀ w, Sh.Vars w → Calls Tryz.prog 6 #[.string (S s)] w (RetV (.tuple #[.string (S (keyL H5 s)), .int .i64 0]) w)
  pub0 : ∀ s : List UInt8, s.length ≠ 32 → ∀ w, Sh.Vars w → Calls Tryz.prog 6 #[.string (S s)] w (RetV (.tuple #[.string ⟨#[]⟩, .int .i64 70]) w)
  sig : ∀ s m : List UInt8, s.length = 32 → m.length ≤ 1000 → ∀ w, Sh.Vars w → Calls Tryz.prog 8 #[.string (S s), .string (S m)] w (RetV (.tuple #[.string (S (sigL H5 s m)), .int .i64 0]) w)
  sig0 : ∀ s m : List UInt8, s.length ≠ 32 → m.length ≤ 1000 → ∀ w, Sh.Vars w → Calls Tryz.prog 8 #[.string (S s), .string (S m)] w (RetV (.tuple #[.string ⟨#[]⟩, .int .i64 70]) w)
  ver : ∀ k m g : List UInt8, m.length ≤ 1000 → ∀ w, Sh.Vars w → Calls Tryz.prog 11 #[.string (S k), .string (S m), .string (S g)] w (RetV (.bool (verB H5 k m g)) w)
theorem short_any (m : List UInt8) (w : World) : Calls Tryz.prog 5 #[.string (S m)] w (RetV (.string (S (m.take 1000))) w) := by
  by_cases h : m.length ≤ 1000
  · have hc := short_le (S m) (by rw [S_size]; exact h) (by rw [S_size]; omega) w
    rw [List.take_of_length_le h]
    exact hc
  · have hc := short_gt (S m) (by rw [S_size]; omega) (by rw [S_size]; omega) w
    rw [take_S m 1000 (by omega)] at hc
    exact hc
theorem take_le (m : List UInt8) : (m.take 1000).length ≤ 1000 := by rw [List.length_take]; omega
theorem lit_seed : (⟨#[157, 97, 177, 157, 239, 253, 90, 96, 186, 132, 74, 244, 146, 236, 44, 196, 68, 73, 197, 105, 123, 50, 105, 25, 112, 59, 172, 3, 28, 174, 127, 96]⟩ : ByteArray) = S seed1 := by decide +kernel
theorem lit_x : (⟨#[120]⟩ : ByteArray) = S [120] := by decide +kernel
theorem lit_0 : (⟨#[]⟩ : ByteArray) = S [] := rfl
theorem seed1_len : seed1.length = 32 := rfl
theorem law_fix (c : SignOk) (w : World) (hv : Sh.Vars w) : Calls Tryz.prog 10 #[] w (RetV (.bool true) w) := by
  have hk : keyL H5 seed1 = keyB1 := one_key h5_1
  have hr : rL H5 seed1 [] = rB1 := one_rL h5_1 h5_2
  have c1 := c.pub seed1 seed1_len
  have c2 := c.sig seed1 [] seed1_len (by decide)
  have c3 := c.pub0 [] (by decide)
  have c4 := c.sig0 [120] [] (by decide) (by decide)
  have c5 := c.ver (keyL H5 seed1) [] (sigL H5 seed1 []) (by decide)
  have c6 := c.ver (keyL H5 seed1) [120] (sigL H5 seed1 []) (by decide)
  have c7 := c.ver (keyL H5 seed1) [] [] (by decide)
  rw [ver_sig] at c5
  rw [one_no h5_1 h5_2 h5_3 h5_4] at c6
  rw [ver_len H5 (by decide)] at c7
  rw [← lit_seed, ← lit_0] at c2
  rw [← lit_seed] at c1
  rw [← lit_0] at c3 c5 c7
  rw [← lit_x, ← lit_0] at c4
  rw [← lit_x] at c6
  have hkl : (keyL H5 seed1).length = 32 := keyL_len seed1
  have hgl : (sigL H5 seed1 []).length = 64 := sigL_len H5 seed1 []
  have xk := take_S (keyL H5 seed1) 4 (by omega)
  have xg := take_S (sigL H5 seed1 []) 4 (by omega)
  have yk : ((S ((keyL H5 seed1).take 4)).toList == [215, 90, 152, 1]) = true := by rw [hk]; decide +kernel
  have yg : ((S ((sigL H5 seed1 []).take 4)).toList == [229, 86, 67, 0]) = true := by
    unfold sigL
    rw [List.take_append_of_le_length (by rw [rL_len]; omega), hr]
    decide +kernel
  exact fix_core _ _ _ _ (by rw [S_size, hkl]) (by rw [S_size, hgl]) xk xg yk yg c1 c2 c3 c4 c5 c6 c7 w hv
theorem law_verifies (c : SignOk) (k m g : List UInt8) (w : World) (hv : Sh.Vars w) : Calls Tryz.prog 4 #[.string (S k), .string (S m), .string (S g)] w (RetV (.bool true) w) := by
  exact verifies_core (S k) (S m) (S g) _ _ (law_fix c) (short_any m) (c.ver k _ g (take_le m)) (VerR_any k _ g (take_le m)) w hv
end Go.Proofs.YtgnblaaldpniiaaGreatDoor.Sg
end
section
set_option linter.unusedSimpArgs false
set_option linter.unusedVariables false
set_option maxRecDepth 100000
namespace Go.Proofs.YtgnblaaldpniiaaGreatDoor.Sg
open Go.RowKit
theorem back_zero {A : Pt} (hA : OnC A) (n : Nat) : padd (pmul n (pneg A)) (pmul n A) = pzero := by
  rw [← pmul_padd (pneg_on hA) hA, padd_comm, padd_neg hA, pmul_pzero]
theorem ver_solved (k m g : List UInt8) (hl : g.length = 64) {A : Pt} (hA : dec k = some A) (hs : numB (g.drop 32) < oL) :
    verB H5 k m g = decide (g.take 32 = encP (padd (pmul (kN H5 (g.take 32) k m) (pneg A)) (pmul (numB (g.drop 32)) pbase))) := by
  have oA := (dec_some hA).1
  have z := back_zero oA (kN H5 (g.take 32) k m)
  have hn := pmul_on (pneg_on oA) (kN H5 (g.take 32) k m)
  have hm := pmul_on oA (kN H5 (g.take 32) k m)
  have hb := pmul_on pbase_on (numB (g.drop 32))
  cases hR : dec (g.take 32) with
  | none =>
    rw [ver_r H5 hR]
    refine (decide_eq_false fun h => ?_).symm
    rw [h, dec_enc (padd_on hn hb)] at hR
    cases hR
  | some R =>
    rw [ver_some H5 hl hA hR hs]
    obtain ⟨oR, eR⟩ := dec_some hR
    generalize pmul (kN H5 (g.take 32) k m) (pneg A) = N at z hn ⊢
    generalize pmul (kN H5 (g.take 32) k m) A = K at z hm ⊢
    generalize pmul (numB (g.drop 32)) pbase = B at hb ⊢
    refine decide_eq_decide.2 ⟨fun h => ?_, fun h => ?_⟩
    · have h2 := enc_inj hb (padd_on oR hm) h
      rw [h2, padd_comm R K, ← padd_assoc hn hm oR, z, zero_padd oR]
      exact eR.symm
    · rw [h, dec_enc (padd_on hn hb)] at hR
      injection hR with hR
      rw [← hR, padd_assoc hn hb hm, padd_comm B K, ← padd_assoc hn hm hb, z, zero_padd hb]
theorem tb_any (k : List UInt8) (hk : k.length = 32) (w : World) : Calls Tryz.prog 14 #[.string (S k)] w (RetV (.string (S (encP (pmul (numB k) pbase)))) w) :=
  tb_core _ _ _ curveOk.base (fun w => curveOk.mul hk (dec_enc pbase_on) w) w
theorem redP (l : List UInt8) (w : World) : Calls Tryz.prog 40 #[.string (S (H5 l))] w (RetV (.tuple #[.string (S (leB (redN H5 l))), .int .i64 0]) w) := by
  have h := Sc.Reduce_ok (H5 l) (by rw [H5_len]; omega) w
  rw [scB_leB] at h
  exact h
theorem hs2 (p m : List UInt8) (hp : p.length ≤ 2000) (hm : m.length ≤ 2000) (gs : Nat) (w : World) (n2 : Nat) (hn : n2 = 2) (hv : Sh.Vars w) (hs : w.heap[gs]? = some (.cells ([.string (S p), .string (S m)] : List Value).toArray 9 (0, 0))) :
    Calls Tryz.prog 18 #[.slice (some ⟨gs, 0, none⟩) n2 n2] w (RetV (.string (S (leB (redN H5 (p ++ m))))) w) :=
  by subst hn; exact hs_core _ _ _ (redP _) w (hashW2 p m hp hm gs w hv hs)
theorem hs3 (r k m : List UInt8) (hr : r.length ≤ 2000) (hk : k.length ≤ 2000) (hm : m.length ≤ 2000) (gs : Nat) (w : World) (n2 : Nat) (hn : n2 = 3) (hv : Sh.Vars w) (hs : w.heap[gs]? = some (.cells ([.string (S r), .string (S k), .string (S m)] : List Value).toArray 9 (0, 0))) :
    Calls Tryz.prog 18 #[.slice (some ⟨gs, 0, none⟩) n2 n2] w (RetV (.string (S (leB (redN H5 (r ++ k ++ m))))) w) :=
  by subst hn; exact hs_core _ _ _ (redP _) w (hashW3 r k m hr hk hm gs w hv hs)
theorem secN_len (s : List UInt8) : (secB (H5 s)).length = 32 := secB_len _ (H5_len s)
theorem pre_len (s : List UInt8) : ((H5 s).drop 32).length = 32 := by rw [List.length_drop, H5_len]
theorem red_num (l : List UInt8) : numB (leB (redN H5 l)) = redN H5 l := numB_leB _ (Nat.lt_trans (Nat.mod_lt _ oL_pos) oL_big)
theorem pub_ok (s : List UInt8) (hs : s.length = 32) (w : World) (hv : Sh.Vars w) : Calls Tryz.prog 6 #[.string (S s)] w (RetV (.tuple #[.string (S (keyL H5 s)), .int .i64 0]) w) :=
  pub_core _ _ _ _ (by rw [S_size, hs]) (fun w hv => divided_any s (by omega) w hv) (fun w => tb_any _ (secN_len s) w) w hv
theorem pp_any (s m : List UInt8) (w : World) : Calls Tryz.prog 19 #[.string (S (leB (rN H5 s m))), .string (S (leB (kN H5 (rL H5 s m) (keyL H5 s) m))), .string (S (secB (H5 s)))] w (RetV (.string (S (leB (sN H5 s m)))) w) := by
  have cU := fun w => Sc.Mul_ok (leB (kN H5 (rL H5 s m) (keyL H5 s) m)) (secB (H5 s)) (leB_len _) (secN_len s) w
  have cA := fun w => Sc.Add_ok (leB (rN H5 s m)) (Sc.scB (Sc.numB (leB (kN H5 (rL H5 s m) (keyL H5 s) m)) * Sc.numB (secB (H5 s)))) (leB_len _) (Sc.scB_len _) w
  have e : Sc.scB (Sc.numB (leB (rN H5 s m)) + Sc.numB (Sc.scB (Sc.numB (leB (kN H5 (rL H5 s m) (keyL H5 s) m)) * Sc.numB (secB (H5 s))))) = leB (sN H5 s m) := by
    rw [scB_leB]
    refine congrArg leB ?_
    rw [Sc.scB_num]
    have h1 : Sc.numB (leB (rN H5 s m)) = rN H5 s m := red_num _
    have h2 : Sc.numB (leB (kN H5 (rL H5 s m) (keyL H5 s) m)) = kN H5 (rL H5 s m) (keyL H5 s) m := red_num _
    rw [h1, h2]
    show (rN H5 s m + (kN H5 (rL H5 s m) (keyL H5 s) m * secN H5 s) % oL) % oL = _
    rw [Nat.add_mod_mod]
    rfl
  rw [e] at cA
  exact pp_core _ _ _ _ _ cU cA w
theorem sig_ok (s m : List UInt8) (hs : s.length = 32) (hm : m.length ≤ 1000) (w : World) (hv : Sh.Vars w) : Calls Tryz.prog 8 #[.string (S s), .string (S m)] w (RetV (.tuple #[.string (S (sigL H5 s m)), .int .i64 0]) w) := by
  have c1 := hs2 ((H5 s).drop 32) m (by rw [pre_len]; omega) (by omega)
  have cq := fun w => tb_any (leB (redN H5 ((H5 s).drop 32 ++ m))) (leB_len _) w
  rw [red_num] at cq
  have c3 := hs3 (rL H5 s m) (keyL H5 s) m (by rw [rL_len]; omega) (by rw [show (keyL H5 s).length = 32 from encP_len _]; omega) (by omega)
  have cp := fun w => pp_any s m w
  unfold sigL
  rw [← S_append]
  exact sig_core _ _ _ _ _ _ _ _ _ (by rw [S_size, hs]) (by rw [S_size]; exact encP_len _) (by rw [S_size, leB_len]) (fun w hv => divided_any s (by omega) w hv) c1 cq (fun w => tb_any _ (secN_len s) w) c3 cp w hv
theorem sz_no {s : List UInt8} (h : s.length ≠ 32) : (((S s).size : Int) != 32) = true := by rw [S_size]; simp; omega
theorem ver_ok (k m g : List UInt8) (hm : m.length ≤ 1000) (w : World) (hv : Sh.Vars w) : Calls Tryz.prog 11 #[.string (S k), .string (S m), .string (S g)] w (RetV (.bool (verB H5 k m g)) w) := by
  cases hA : dec k with
  | none =>
    rw [ver_key H5 hA]
    exact ver_key_core _ _ _ (curveOk.neg0 hA) w hv
  | some A =>
    have cN := fun w => curveOk.neg hA w
    by_cases hg : g.length = 64
    · have hsz : (S g).size = 64 := by rw [S_size, hg]
      have e1 := take_S g 32 (by omega)
      have e2 := drop_S g 32 64 hg
      have hdl : (g.drop 32).length = 32 := by rw [List.length_drop, hg]
      have cI := fun w => Sc.Is_any (g.drop 32) w
      rw [isSc_is hdl] at cI
      by_cases hs : numB (g.drop 32) < oL
      · rw [decide_eq_true hs] at cI
        rw [ver_solved k m g hg hA hs]
        have oA := (dec_some hA).1
        have hkl : k.length = 32 := by
          unfold dec at hA
          by_cases hl : k.length = 32
          · exact hl
          · rw [if_neg hl] at hA; cases hA
        have c3 := hs3 (g.take 32) k m (by rw [List.length_take]; omega) (by omega) (by omega)
        have cB := fun w => curveOk.both (a := leB (redN H5 (g.take 32 ++ k ++ m))) (leB_len _) (dec_enc (pneg_on oA)) hdl w
        rw [red_num] at cB
        exact ver_core _ _ _ _ _ _ _ _ _ hsz e1 e2 (S_beq _ _) cN cI c3 cB w hv
      · rw [decide_eq_false hs] at cI
        rw [ver_s H5 hs]
        exact ver_s_core _ _ _ _ _ _ hsz e1 e2 cN cI w hv
    · rw [ver_len H5 hg]
      exact ver_len_core _ _ _ _ (by rw [S_size]; simp; omega) cN w hv
theorem signOk : SignOk where
  pub := pub_ok
  pub0 := fun s hs w _ => pub_no (S s) (sz_no hs) w
  sig := sig_ok
  sig0 := fun s m hs _ w _ => sig_no (S s) (S m) (sz_no hs) w
  ver := ver_ok
end Go.Proofs.YtgnblaaldpniiaaGreatDoor.Sg
end
