/- What package sign answers, by lists and points; the six rows of stage 7 from it.
What package sign answers: the developers' calls, by lists and points. -/
import Derived.Test.YtgnblaaldpniiaaGreatDoorZV2
import Derived.Test.YtgnblaaldpniiaaGreatDoorZO5
import Derived.Test.YtgnblaaldpniiaaGreatDoorZK3
import Derived.Test.YtgnblaaldpniiaaGreatDoorZM5
import Derived.Test.YtgnblaaldpniiaaGreatDoorZM9
section
set_option linter.unusedSimpArgs false
set_option linter.unusedVariables false
set_option maxRecDepth 100000
namespace Go.Proofs.YtgnblaaldpniiaaGreatDoor.Sg
open Go.RowKit
structure SignOk : Prop where
  pub : ∀ s : List UInt8, s.length = 32 → ∀ w, Sh.Vars w → Calls Tryz.prog 6 #[.string (S s)] w (RetV (.tuple #[.string (S (keyL H5 s)), .int .i64 0]) w)
  pub0 : ∀ s : List UInt8, s.length ≠ 32 → ∀ w, Sh.Vars w → Calls Tryz.prog 6 #[.string (S s)] w (RetV (.tuple #[.string ⟨#[]⟩, .int .i64 70]) w)
  sig : ∀ s m : List UInt8, s.length = 32 → m.length ≤ 1000 → ∀ w, Sh.Vars w → Calls Tryz.prog 8 #[.string (S s), .string (S m)] w (RetV (.tuple #[.string (S (sigL H5 s m)), .int .i64 0]) w)
  sig0 : ∀ s m : List UInt8, s.length ≠ 32 → m.length ≤ 1000 → ∀ w, Sh.Vars w → Calls Tryz.prog 8 #[.string (S s), .string (S m)] w (RetV (.tuple #[.string ⟨#[]⟩, .int .i64 70]) w)
  ver : ∀ k m g : List UInt8, m.length ≤ 1000 → ∀ w, Sh.Vars w → Calls Tryz.prog 11 #[.string (S k), .string (S m), .string (S g)] w (RetV (.bool (verB H5 k m g)) w)
theorem short_any (m : List UInt8) (w : World) : Calls Tryz.prog 5 #[.string (S m)] w (RetV (.string (S (m.take 1000))) w) := by
  by_cases h : m.length ≤ 1000
  · have hc := short_le (S m) (by rw [S_size]; exact h) (by rw [S_size]; omega) w
    rw [List.take_of_length_le h]
    exact hc
  · have hc := short_gt (S m) (by rw [S_size]; omega) (by rw [S_size]; omega) w
    rw [take_S m 1000 (by omega)] at hc
    exact hc
theorem take_le (m : List UInt8) : (m.take 1000).length ≤ 1000 := by rw [List.length_take]; omega
theorem lit_seed : (⟨#[157, 97, 177, 157, 239, 253, 90, 96, 186, 132, 74, 244, 146, 236, 44, 196, 68, 73, 197, 105, 123, 50, 105, 25, 112, 59, 172, 3, 28, 174, 127, 96]⟩ : ByteArray) = S seed1 := by decide +kernel
theorem lit_x : (⟨#[120]⟩ : ByteArray) = S [120] := by decide +kernel
theorem lit_0 : (⟨#[]⟩ : ByteArray) = S [] := rfl
theorem seed1_len : seed1.length = 32 := rfl
theorem law_fix (c : SignOk) (w : World) (hv : Sh.Vars w) : Calls Tryz.prog 10 #[] w (RetV (.bool true) w) := by
  have hk : keyL H5 seed1 = keyB1 := one_key h5_1
  have hr : rL H5 seed1 [] = rB1 := one_rL h5_1 h5_2
  have c1 := c.pub seed1 seed1_len
  have c2 := c.sig seed1 [] seed1_len (by decide)
  have c3 := c.pub0 [] (by decide)
  have c4 := c.sig0 [120] [] (by decide) (by decide)
  have c5 := c.ver (keyL H5 seed1) [] (sigL H5 seed1 []) (by decide)
  have c6 := c.ver (keyL H5 seed1) [120] (sigL H5 seed1 []) (by decide)
  have c7 := c.ver (keyL H5 seed1) [] [] (by decide)
  rw [ver_sig] at c5
  rw [one_no h5_1 h5_2 h5_3 h5_4] at c6
  rw [ver_len H5 (by decide)] at c7
  rw [← lit_seed, ← lit_0] at c2
  rw [← lit_seed] at c1
  rw [← lit_0] at c3 c5 c7
  rw [← lit_x, ← lit_0] at c4
  rw [← lit_x] at c6
  have hkl : (keyL H5 seed1).length = 32 := keyL_len seed1
  have hgl : (sigL H5 seed1 []).length = 64 := sigL_len H5 seed1 []
  have xk := take_S (keyL H5 seed1) 4 (by omega)
  have xg := take_S (sigL H5 seed1 []) 4 (by omega)
  have yk : ((S ((keyL H5 seed1).take 4)).toList == [215, 90, 152, 1]) = true := by rw [hk]; decide +kernel
  have yg : ((S ((sigL H5 seed1 []).take 4)).toList == [229, 86, 67, 0]) = true := by
    unfold sigL
    rw [List.take_append_of_le_length (by rw [rL_len]; omega), hr]
    decide +kernel
  exact fix_core _ _ _ _ (by rw [S_size, hkl]) (by rw [S_size, hgl]) xk xg yk yg c1 c2 c3 c4 c5 c6 c7 w hv
theorem law_signs (c : SignOk) (s m : List UInt8) (w : World) (hv : Sh.Vars w) : Calls Tryz.prog 3 #[.string (S s), .string (S m)] w (RetV (.bool true) w) := by
  by_cases hs : s.length = 32
  · exact signs_core (S s) (S m) _ _ _ _ _ (law_fix c) (short_any m) (c.pub s hs) (PubR_ok s hs) (c.sig s _ hs (take_le m)) (SigR_ok s _ hs (take_le m)) w hv
  · exact signs_core (S s) (S m) _ _ _ _ _ (law_fix c) (short_any m) (c.pub0 s hs) (PubR_no s hs) (c.sig0 s _ hs (take_le m)) (SigR_no s _ hs) w hv
end Go.Proofs.YtgnblaaldpniiaaGreatDoor.Sg
end
section
set_option linter.unusedSimpArgs false
set_option linter.unusedVariables false
set_option maxRecDepth 100000
namespace Go.Proofs.YtgnblaaldpniiaaGreatDoor.Sg
open Go.RowKit
theorem back_zero {A : Pt} (hA : OnC A) (n : Nat) : padd (pmul n (pneg A)) (pmul n A) = pzero := by
  rw [← pmul_padd (pneg_on hA) hA, padd_comm, padd_neg hA, pmul_pzero]
theorem ver_solved (k m g : List UInt8) (hl : g.length = 64) {A : Pt} (hA : dec k = some A) (hs : numB (g.drop 32) < oL) :
    verB H5 k m g = decide (g.take 32 = encP (padd (pmul (kN H5 (g.take 32) k m) (pneg A)) (pmul (numB (g.drop 32)) pbase))) := by
  have oA := (dec_some hA).1
  have z := back_zero oA (kN H5 (g.take 32) k m)
  have hn := pmul_on (pneg_on oA) (kN H5 (g.take 32) k m)
  have hm := pmul_on oA (kN H5 (g.take 32) k m)
  have hb := pmul_on pbase_on (numB (g.drop 32))
  cases hR : dec (g.take 32) with
  | none =>
    rw [ver_r H5 hR]
    refine (decide_eq_false fun h => ?_).symm
    rw [h, dec_enc (padd_on hn hb)] at hR
    cases hR
  | some R =>
    rw [ver_some H5 hl hA hR hs]
    obtain ⟨oR, eR⟩ := dec_some hR
    generalize pmul (kN H5 (g.take 32) k m) (pneg A) = N at z hn ⊢
    generalize pmul (kN H5 (g.take 32) k m) A = K at z hm ⊢
    generalize pmul (numB (g.drop 32)) pbase = B at hb ⊢
    refine decide_eq_decide.2 ⟨fun h => ?_, fun h => ?_⟩
    · have h2 := enc_inj hb (padd_on oR hm) h
      rw [h2, padd_comm R K, ← padd_assoc hn hm oR, z, zero_padd oR]
      exact eR.symm
    · rw [h, dec_enc (padd_on hn hb)] at hR
      injection hR with hR
      rw [← hR, padd_assoc hn hb hm, padd_comm B K, ← padd_assoc hn hm hb, z, zero_padd hb]
theorem tb_any (k : List UInt8) (hk : k.length = 32) (w : World) : Calls Tryz.prog 14 #[.string (S k)] w (RetV (.string (S (encP (pmul (numB k) pbase)))) w) :=
  tb_core _ _ _ curveOk.base (fun w => curveOk.mul hk (dec_enc pbase_on) w) w
theorem redP (l : List UInt8) (w : World) : Calls Tryz.prog 40 #[.string (S (H5 l))] w (RetV (.tuple #[.string (S (leB (redN H5 l))), .int .i64 0]) w) := by
  have h := Sc.Reduce_ok (H5 l) (by rw [H5_len]; omega) w
  rw [scB_leB] at h
  exact h
theorem hs2 (p m : List UInt8) (hp : p.length ≤ 2000) (hm : m.length ≤ 2000) (gs : Nat) (w : World) (n2 : Nat) (hn : n2 = 2) (hv : Sh.Vars w) (hs : w.heap[gs]? = some (.cells ([.string (S p), .string (S m)] : List Value).toArray 9 (0, 0))) :
    Calls Tryz.prog 18 #[.slice (some ⟨gs, 0, none⟩) n2 n2] w (RetV (.string (S (leB (redN H5 (p ++ m))))) w) :=
  by subst hn; exact hs_core _ _ _ (redP _) w (hashW2 p m hp hm gs w hv hs)
theorem hs3 (r k m : List UInt8) (hr : r.length ≤ 2000) (hk : k.length ≤ 2000) (hm : m.length ≤ 2000) (gs : Nat) (w : World) (n2 : Nat) (hn : n2 = 3) (hv : Sh.Vars w) (hs : w.heap[gs]? = some (.cells ([.string (S r), .string (S k), .string (S m)] : List Value).toArray 9 (0, 0))) :
    Calls Tryz.prog 18 #[.slice (some ⟨gs, 0, none⟩) n2 n2] w (RetV (.string (S (leB (redN H5 (r ++ k ++ m))))) w) :=
  by subst hn; exact hs_core _ _ _ (redP _) w (hashW3 r k m hr hk hm gs w hv hs)
theorem secN_len (s : List UInt8) : (secB (H5 s)).length = 32 := secB_len _ (H5_len s)
theorem pre_len (s : List UInt8) : ((H5 s).drop 32).length = 32 := by rw [List.length_drop, H5_len]
theorem red_num (l : List UInt8) : numB (leB (redN H5 l)) = redN H5 l := numB_leB _ (Nat.lt_trans (Nat.mod_lt _ oL_pos) oL_big)
theorem pub_ok (s : List UInt8) (hs : s.length = 32) (w : World) (hv : Sh.Vars w) : Calls Tryz.prog 6 #[.string (S s)] w (RetV (.tuple #[.string (S (keyL H5 s)), .int .i64 0]) w) :=
  pub_core _ _ _ _ (by rw [S_size, hs]) (fun w hv => divided_any s (by omega) w hv) (fun w => tb_any _ (secN_len s) w) w hv
theorem pp_any (s m : List UInt8) (w : World) : Calls Tryz.prog 19 #[.string (S (leB (rN H5 s m))), .string (S (leB (kN H5 (rL H5 s m) (keyL H5 s) m))), .string (S (secB (H5 s)))] w (RetV (.string (S (leB (sN H5 s m)))) w) := by
  have cU := fun w => Sc.Mul_ok (leB (kN H5 (rL H5 s m) (keyL H5 s) m)) (secB (H5 s)) (leB_len _) (secN_len s) w
  have cA := fun w => Sc.Add_ok (leB (rN H5 s m)) (Sc.scB (Sc.numB (leB (kN H5 (rL H5 s m) (keyL H5 s) m)) * Sc.numB (secB (H5 s)))) (leB_len _) (Sc.scB_len _) w
  have e : Sc.scB (Sc.numB (leB (rN H5 s m)) + Sc.numB (Sc.scB (Sc.numB (leB (kN H5 (rL H5 s m) (keyL H5 s) m)) * Sc.numB (secB (H5 s))))) = leB (sN H5 s m) := by
    rw [scB_leB]
    refine congrArg leB ?_
    rw [Sc.scB_num]
    have h1 : Sc.numB (leB (rN H5 s m)) = rN H5 s m := red_num _
    have h2 : Sc.numB (leB (kN H5 (rL H5 s m) (keyL H5 s) m)) = kN H5 (rL H5 s m) (keyL H5 s) m := red_num _
    rw [h1, h2]
    show (rN H5 s m + (kN H5 (rL H5 s m) (keyL H5 s) m * secN H5 s) % oL) % oL = _
    rw [Nat.add_mod_mod]
    rfl
  rw [e] at cA
  exact pp_core _ _ _ _ _ cU cA w
theorem sig_ok (s m : List UInt8) (hs : s.length = 32) (hm : m.length ≤ 1000) (w : World) (hv : Sh.Vars w) : Calls Tryz.prog 8 #[.string (S s), .string (S m)] w (RetV (.tuple #[.string (S (sigL H5 s m)), .int .i64 0]) w) := by
  have c1 := hs2 ((H5 s).drop 32) m (by rw [pre_len]; omega) (by omega)
  have cq := fun w => tb_any (leB (redN H5 ((H5 s).drop 32 ++ m))) (leB_len _) w
  rw [red_num] at cq
  have c3 := hs3 (rL H5 s m) (keyL H5 s) m (by rw [rL_len]; omega) (by rw [show (keyL H5 s).length = 32 from encP_len _]; omega) (by omega)
  have cp := fun w => pp_any s m w
  unfold sigL
  rw [← S_append]
  exact sig_core _ _ _ _ _ _ _ _ _ (by rw [S_size, hs]) (by rw [S_size]; exact encP_len _) (by rw [S_size, leB_len]) (fun w hv => divided_any s (by omega) w hv) c1 cq (fun w => tb_any _ (secN_len s) w) c3 cp w hv
theorem sz_no {s : List UInt8} (h : s.length ≠ 32) : (((S s).size : Int) != 32) = true := by rw [S_size]; simp; omega
theorem ver_ok (k m g : List UInt8) (hm : m.length ≤ 1000) (w : World) (hv : Sh.Vars w) : Calls Tryz.prog 11 #[.string (S k), .string (S m), .string (S g)] w (RetV (.bool (verB H5 k m g)) w) := by
  cases hA : dec k with
  | none =>
    rw [ver_key H5 hA]
    exact ver_key_core _ _ _ (curveOk.neg0 hA) w hv
  | some A =>
    have cN := fun w => curveOk.neg hA w
    by_cases hg : g.length = 64
    · have hsz : (S g).size = 64 := by rw [S_size, hg]
      have e1 := take_S g 32 (by omega)
      have e2 := drop_S g 32 64 hg
      have hdl : (g.drop 32).length = 32 := by rw [List.length_drop, hg]
      have cI := fun w => Sc.Is_any (g.drop 32) w
      rw [isSc_is hdl] at cI
      by_cases hs : numB (g.drop 32) < oL
      · rw [decide_eq_true hs] at cI
        rw [ver_solved k m g hg hA hs]
        have oA := (dec_some hA).1
        have hkl : k.length = 32 := by
          unfold dec at hA
          by_cases hl : k.length = 32
          · exact hl
          · rw [if_neg hl] at hA; cases hA
        have c3 := hs3 (g.take 32) k m (by rw [List.length_take]; omega) (by omega) (by omega)
        have cB := fun w => curveOk.both (a := leB (redN H5 (g.take 32 ++ k ++ m))) (leB_len _) (dec_enc (pneg_on oA)) hdl w
        rw [red_num] at cB
        exact ver_core _ _ _ _ _ _ _ _ _ hsz e1 e2 (S_beq _ _) cN cI c3 cB w hv
      · rw [decide_eq_false hs] at cI
        rw [ver_s H5 hs]
        exact ver_s_core _ _ _ _ _ _ hsz e1 e2 cN cI w hv
    · rw [ver_len H5 hg]
      exact ver_len_core _ _ _ _ (by rw [S_size]; simp; omega) cN w hv
theorem signOk : SignOk where
  pub := pub_ok
  pub0 := fun s hs w _ => pub_no (S s) (sz_no hs) w
  sig := sig_ok
  sig0 := fun s m hs _ w _ => sig_no (S s) (S m) (sz_no hs) w
  ver := ver_ok
end Go.Proofs.YtgnblaaldpniiaaGreatDoor.Sg
end
