/- The document's answer for package curve: the point of bytes.
The document's answer for package curve: the point of bytes with the highest bit. -/
import Derived.Test.YtgnblaaldpniiaaGreatDoorZM3
import Derived.Test.YtgnblaaldpniiaaGreatDoorZK2
import Derived.Test.YtgnblaaldpniiaaGreatDoorZA7
section
set_option linter.unusedSimpArgs false
set_option linter.unusedVariables false
set_option maxRecDepth 100000
namespace Go.Proofs.YtgnblaaldpniiaaGreatDoor
open Go.RowKit
theorem p_loadN_g {ops : Array Oper} {rest : List Oper} {o : Oper} {a : Act} {w0 w : World} {Q : Exit → Act → World → Prop} {L : List Cells} (hw : Region.wanted o (yielded ops a.tmps) = true) (v : Operand) (ho : o.op = .load 40 v) (g x : Nat) (hv : a.eval v = .pointer (some ⟨g, 0, none⟩)) (H : RMem w0 w L) (hm : (g, 40, nC x) ∈ L)
    (h : wpList Tryz.prog ops Q rest (a.put o.dst (.agg (nC x).toArray)) w) : wpList Tryz.prog ops Q (o :: rest) a w := by
  unfold wpList
  rw [if_pos hw]
  exact .inl (wp_load_row 40 v ho g hv 40 (nC x).toArray (0, 0) _ (H.holds g _ _ hm) Tryz.underlying40 rfl (by rw [List.size_toArray, nC_len]; exact infoN') h)
theorem p_build0 {ops : Array Oper} {rest : List Oper} {o : Oper} {a : Act} {w : World} {Q : Exit → Act → World → Prop} (hg : o.guard = none) (parts : Array (Nat × Operand)) (ho : o.op = .build 42 parts) (e : (parts.map fun (i, x) => (i, a.eval x)).toList = [])
    (h : wpList Tryz.prog ops Q rest (a.put o.dst (.agg (ptC 0 0 0).toArray)) w) : wpList Tryz.prog ops Q (o :: rest) a w := r_build hg _ parts ho _ e _ (congrFun built_pt []) h
theorem p_ret2 {fn : Func} {p q : Tmp} {x y z : Nat} {v : Value} {g : Nat} {w0 w : World} {L : List Cells} (hr : fn.results = #[.cell p 42, .tmp q]) (a : Act) (hp : a.tmps.getD p undef = .pointer (some ⟨g, 0, none⟩)) (hq : a.tmps.getD q undef = v) (hd : a.defers = []) (H : RMem w0 w L) (hm : (g, 42, ptC x y z) ∈ L) :
    bodyPost Tryz.prog fn (RetV (.tuple #[.agg (ptC x y z).toArray, v]) w0) .ret a w := by
  have hp' : a.tmps[p]?.getD undef = .pointer (some ⟨g, 0, none⟩) := by simpa using hp
  have hq' : a.tmps[q]?.getD undef = v := by simpa using hq
  have hl := run_loadVar_row (P := Tryz.prog) w g 42 42 (ptC x y z).toArray (0, 0) _ (H.holds g _ _ hm) Tryz.underlying42 rfl (by rw [List.size_toArray, ptC_len]; exact infoPt)
  refine bodyPost_ret (v := .tuple #[.agg (ptC x y z).toArray, v]) ?_ hd ⟨rfl, H.below⟩
  simp [results, hr, hp', hq', asAddr, hl]
theorem wpAny_rest {P : Program} {md : Region.Mode} {l : List Oper} {Q : Exit → Act → World → Prop} {listed : Array Bool} {a : Act} {w : World} (n f : Nat) (hf : f = (l.drop n).length) (hB : Region.seqB md l.toArray (l.drop n).length n listed = true) (h : wpList P l.toArray Q (l.drop n) a w) : wpAny P md l.toArray Q f listed a w := by
  subst hf
  exact wpAny_of_seq (md := md) (Q' := Q) (l.drop n) n listed a w (fun j => by simp [List.getElem?_drop]) hB h
def sqY (y : Nat) : Nat := ml (sb (ml y y) 1) (fi (ad 1 (ml dF (ml y y))))
def rootX (q : Nat) : Nat := if cand q * cand q % pF = q then evenN (cand q) else 0
theorem rootX_lt (q : Nat) : rootX q < pF := by
  unfold rootX
  split
  · exact even_lt q
  · decide +kernel
theorem rootsD (q : Nat) (hq : q < pF) (w : World) : Calls Tryz.prog 60 #[.agg (nC q).toArray] w (RetV (.tuple #[.agg (nC (rootX q)).toArray, .bool (rootB q)]) w) := by
  have h := Roots_any q hq w
  have e : rootL q = Md (rootX q) := by
    unfold rootL rootX
    split
    · rfl
    · rfl
  rw [e] at h
  exact h
theorem numD (t : List UInt8) (ht : isEl t = true) (w : World) : Calls Tryz.prog 59 #[.string (S t)] w (RetV (.agg (nC (numB t)).toArray) w) := by
  have h := Num_any t (isEl_len ht) w
  rw [Nat.mod_eq_of_lt (isEl_lt ht)] at h
  exact h
theorem conv_one {w : World} (b : UInt8) : (convert 37 9 (.slice (some ⟨w.heap.size, 0, none⟩) 1 1)).run Tryz.prog (w.alloc (.cells #[.int .u8 (b.toNat : Int)] 5)) = .ok (.string (S [b])) (w.alloc (.cells #[.int .u8 (b.toNat : Int)] 5)) :=
  run_convert_bytes_back (P := Tryz.prog) _ 37 9 5 ⟨w.heap.size, 0, none⟩ 1 [b] Tryz.underlying37 Tryz.underlying5 Tryz.underlying9 (fun j hj => row_new w [_] 5 j _ (by
    obtain rfl : j = 0 := by simp at hj; omega
    rfl))
set_option maxHeartbeats 4000000 in
theorem parse_short (l : List UInt8) (hl : l.length ≠ 32) (wS : World) : Calls Tryz.prog 33 #[.string (S l)] wS (RetV (.tuple #[.agg (ptC 0 0 0).toArray, .bool false]) wS) := by
  have H := RMem.start wS
  have hsz : (((S l).size : Int) != 32) = true := by rw [S_size]; simp; omega
  clear hl
  go_enter Tryz.func33, Tryz.ntmps33
  go_wp2_with (first
    | (refine p_allocP rfl rfl (by assumption) ?_; intro g w H; try simp only [Act.put, yI, yC, yZ])
    | (refine p_storeP0 rfl _ _ rfl _ _ _ _ _ _ _ rfl rfl _ (by assumption) ?_; intro w H; try simp only [Act.put, yI, yC, yZ])
    | (refine p_build0 rfl _ rfl (by rw [Array.toList_map]; rfl) ?_; try simp only [Act.put, yI, yC, yZ]))
  exact p_ret2 Tryz.results33 _ rfl rfl rfl H (.head _)
set_option maxHeartbeats 4000000 in
theorem parse_even_noel (sl : ByteArray) (b : UInt8) (hsz : sl.size = 32) (hs31 : 31 < sl.size) (g31 : sl[31] = b) (hb : ¬ (128 : Int) ≤ (b.toNat : Int)) (cI : ∀ w, Calls Tryz.prog 58 #[.string sl] w (RetV (.bool false) w)) (wS : World) : Calls Tryz.prog 33 #[.string sl] wS (RetV (.tuple #[.agg (ptC 0 0 0).toArray, .bool false]) wS) := by
  have H := RMem.start wS
  replace cI := Kept.mk cI
  go_enter Tryz.func33, Tryz.ntmps33
  go_wp2_with (first
    | (refine p_allocP rfl rfl (by assumption) ?_; intro g w H; try simp only [Act.put, yI, yC, yZ])
    | (refine p_storeP0 rfl _ _ rfl _ _ _ _ _ _ _ rfl rfl _ (by assumption) ?_; intro w H; try simp only [Act.put, yI, yC, yZ])
    | (refine p_build0 rfl _ rfl (by rw [Array.toList_map]; rfl) ?_; try simp only [Act.put, yI, yC, yZ])
    | (go_at_call 58; with_reducible refine r_call (by assumption) (cI.out _) ?_; intro w H))
  exact p_ret2 Tryz.results33 _ rfl rfl rfl H (by (repeat (first | exact .head _ | refine .tail _ ?_)))
set_option maxHeartbeats 4000000 in
theorem parse_even_noroot (sl : ByteArray) (b : UInt8) (hsz : sl.size = 32) (hs31 : 31 < sl.size) (g31 : sl[31] = b) (hb : ¬ (128 : Int) ≤ (b.toNat : Int)) (cI : ∀ w, Calls Tryz.prog 58 #[.string sl] w (RetV (.bool true) w)) (y : Nat) (cN : ∀ w, Calls Tryz.prog 59 #[.string sl] w (RetV (.agg (nC y).toArray) w)) (hy : y < pF) (x : Nat) (hx : x < pF) (cR : ∀ w, Calls Tryz.prog 60 #[.agg (nC (sqY y)).toArray] w (RetV (.tuple #[.agg (nC x).toArray, .bool false]) w)) (wS : World) : Calls Tryz.prog 33 #[.string sl] wS (RetV (.tuple #[.agg (ptC 0 0 0).toArray, .bool false]) wS) := by
  have H := RMem.start wS
  have t1 := Kept.mk fun w => timesD y y hy hy w
  have s1' := Kept.mk fun w => small_at 1 (by omega) 1 rfl w
  have cD := Kept.mk fun w => D_any w
  have m1 := Kept.mk fun w => minusD (ml y y) 1 (ml_lt _ _) (by decide +kernel) w
  have t2 := Kept.mk fun w => timesD dF (ml y y) (by decide +kernel) (ml_lt _ _) w
  have p1 := Kept.mk fun w => plusD 1 (ml dF (ml y y)) (by decide +kernel) (ml_lt _ _) w
  have i1 := Kept.mk fun w => inverseD (ad 1 (ml dF (ml y y))) (ad_lt _ _) w
  have t3 := Kept.mk fun w => timesD (sb (ml y y) 1) (fi (ad 1 (ml dF (ml y y)))) (sb_lt _ _) (fi_lt _) w
  have ro := Kept.mk fun w => cR w
  unfold sqY at ro
  clear cR hx hy
  generalize ml (sb (ml y y) 1) (fi (ad 1 (ml dF (ml y y)))) = q at t3 ro
  generalize fi (ad 1 (ml dF (ml y y))) = f at i1 t3
  generalize ad 1 (ml dF (ml y y)) = e at p1 i1
  generalize sb (ml y y) 1 = yy1 at m1 t3
  generalize ml dF (ml y y) = dyy at t2 p1
  generalize ml y y = yy at t1 m1 t2
  replace cI := Kept.mk cI
  replace cN := Kept.mk cN
  go_enter Tryz.func33, Tryz.ntmps33
  go_wp2_with (first
    | (refine p_allocN rfl rfl (by assumption) ?_; intro g w H; try simp only [Act.put, yI, yC, yZ])
    | (refine p_allocP rfl rfl (by assumption) ?_; intro g w H; try simp only [Act.put, yI, yC, yZ])
    | (refine p_loadN rfl _ rfl _ _ rfl (by assumption) (by (repeat (first | exact .head _ | refine .tail _ ?_))) ?_; try simp only [Act.put, yI, yC, yZ])
    | (refine p_storeN0 rfl _ _ rfl _ _ _ rfl rfl _ (by assumption) ?_; intro w H; try simp only [Act.put, yI, yC, yZ])
    | (go_at_call 58; with_reducible refine r_call (by assumption) (cI.out _) ?_; intro w H)
    | (go_at_call 59; with_reducible refine r_call (by assumption) (cN.out _) ?_; intro w H)
    | (go_at_call 37; with_reducible refine r_call (by assumption) (t1.out _) ?_; intro w H)
    | (go_at_call 38; with_reducible refine r_call (by assumption) (s1'.out _) ?_; intro w H))
  refine wp_region_from_allocL 15 14 13 _ _ _ _ 40 (nC 0).toArray rfl rfl rfl rfl rfl zero_nC (by kernel_rfl) (by kernel_rfl) (by kernel_rfl) (fun _ _ _ _ h => h) ?_
  apply Exists.intro
  refine And.intro ?_ (And.intro ?_ ?_)
  · intro u hu x
    simp only [List.take_succ_cons, List.take_zero, List.eraseIdx_cons_succ, List.eraseIdx_cons_zero, Act.put, yI, yC, yZ]
    repeat (first
      | (go_big_quiet_want; (first
        | (refine q_loadN _ rfl _ _ _ hu rfl (by assumption) (by (repeat (first | exact .head _ | refine .tail _ ?_))) ?_)); try simp only [Act.put, yI, yC, yZ]; go_big_quiet_on)
      | go_big_quiet_step (((first | (go_at_call 52; with_reducible exact held_call _ (cD.out _)) | (go_at_call 61; with_reducible exact held_call _ (m1.out _)) | (go_at_call 37; with_reducible exact held_call _ (t2.out _)) | (go_at_call 62; with_reducible exact held_call _ (p1.out _)) | (go_at_call 39; with_reducible exact held_call _ (i1.out _)) | (go_at_call 37; with_reducible exact held_call _ (t3.out _)) | (go_at_call 60; with_reducible exact held_call _ (ro.out _))))))
    exact wpQuiet_nil rfl
  · exact fun _ => rfl
  intro x w5 hw5 hF
  have H := H.extra hw5 hF
  simp only [List.drop_succ_cons, List.drop_zero]
  go_wp2_with (first
    | (refine p_storeN0 rfl _ _ rfl _ _ _ rfl rfl _ (by assumption) ?_; intro w H; try simp only [Act.put, yI, yC, yZ])
    | (refine p_build0 rfl _ rfl (by rw [Array.toList_map]; rfl) ?_; try simp only [Act.put, yI, yC, yZ])
    | (refine p_storeP_fin rfl _ _ rfl _ _ _ _ _ _ _ rfl rfl (by assumption) (by (repeat (first | exact .head _ | refine .tail _ ?_))) ?_; intro w H; try simp only [Act.put, yI, yC, yZ]))
  exact p_ret2 Tryz.results33 _ rfl rfl rfl H (by (repeat (first | exact .head _ | refine .tail _ ?_)))
set_option maxHeartbeats 4000000 in
theorem parse_even_ok (sl : ByteArray) (b : UInt8) (hsz : sl.size = 32) (hs31 : 31 < sl.size) (g31 : sl[31] = b) (hb : ¬ (128 : Int) ≤ (b.toNat : Int)) (cI : ∀ w, Calls Tryz.prog 58 #[.string sl] w (RetV (.bool true) w)) (y : Nat) (cN : ∀ w, Calls Tryz.prog 59 #[.string sl] w (RetV (.agg (nC y).toArray) w)) (hy : y < pF) (x : Nat) (hx : x < pF) (cR : ∀ w, Calls Tryz.prog 60 #[.agg (nC (sqY y)).toArray] w (RetV (.tuple #[.agg (nC x).toArray, .bool true]) w)) (wS : World) : Calls Tryz.prog 33 #[.string sl] wS (RetV (.tuple #[.agg (ptC x y 1).toArray, .bool true]) wS) := by
  have H := RMem.start wS
  have t1 := Kept.mk fun w => timesD y y hy hy w
  have s1' := Kept.mk fun w => small_at 1 (by omega) 1 rfl w
  have cD := Kept.mk fun w => D_any w
  have m1 := Kept.mk fun w => minusD (ml y y) 1 (ml_lt _ _) (by decide +kernel) w
  have t2 := Kept.mk fun w => timesD dF (ml y y) (by decide +kernel) (ml_lt _ _) w
  have p1 := Kept.mk fun w => plusD 1 (ml dF (ml y y)) (by decide +kernel) (ml_lt _ _) w
  have i1 := Kept.mk fun w => inverseD (ad 1 (ml dF (ml y y))) (ad_lt _ _) w
  have t3 := Kept.mk fun w => timesD (sb (ml y y) 1) (fi (ad 1 (ml dF (ml y y)))) (sb_lt _ _) (fi_lt _) w
  have ro := Kept.mk fun w => cR w
  unfold sqY at ro
  have cA := Kept.mk fun w => At_any x y w
  clear cR hx hy
  generalize ml (sb (ml y y) 1) (fi (ad 1 (ml dF (ml y y)))) = q at t3 ro
  generalize fi (ad 1 (ml dF (ml y y))) = f at i1 t3
  generalize ad 1 (ml dF (ml y y)) = e at p1 i1
  generalize sb (ml y y) 1 = yy1 at m1 t3
  generalize ml dF (ml y y) = dyy at t2 p1
  generalize ml y y = yy at t1 m1 t2
  replace cI := Kept.mk cI
  replace cN := Kept.mk cN
  go_enter Tryz.func33, Tryz.ntmps33
  go_wp2_with (first
    | (refine p_allocN rfl rfl (by assumption) ?_; intro g w H; try simp only [Act.put, yI, yC, yZ])
    | (refine p_allocP rfl rfl (by assumption) ?_; intro g w H; try simp only [Act.put, yI, yC, yZ])
    | (refine p_loadN rfl _ rfl _ _ rfl (by assumption) (by (repeat (first | exact .head _ | refine .tail _ ?_))) ?_; try simp only [Act.put, yI, yC, yZ])
    | (refine p_storeN0 rfl _ _ rfl _ _ _ rfl rfl _ (by assumption) ?_; intro w H; try simp only [Act.put, yI, yC, yZ])
    | (go_at_call 58; with_reducible refine r_call (by assumption) (cI.out _) ?_; intro w H)
    | (go_at_call 59; with_reducible refine r_call (by assumption) (cN.out _) ?_; intro w H)
    | (go_at_call 37; with_reducible refine r_call (by assumption) (t1.out _) ?_; intro w H)
    | (go_at_call 38; with_reducible refine r_call (by assumption) (s1'.out _) ?_; intro w H))
  refine wp_region_from_allocL 15 14 13 _ _ _ _ 40 (nC 0).toArray rfl rfl rfl rfl rfl zero_nC (by kernel_rfl) (by kernel_rfl) (by kernel_rfl) (fun _ _ _ _ h => h) ?_
  apply Exists.intro
  refine And.intro ?_ (And.intro ?_ ?_)
  · intro u hu x
    simp only [List.take_succ_cons, List.take_zero, List.eraseIdx_cons_succ, List.eraseIdx_cons_zero, Act.put, yI, yC, yZ]
    repeat (first
      | (go_big_quiet_want; (first
        | (refine q_loadN _ rfl _ _ _ hu rfl (by assumption) (by (repeat (first | exact .head _ | refine .tail _ ?_))) ?_)); try simp only [Act.put, yI, yC, yZ]; go_big_quiet_on)
      | go_big_quiet_step (((first | (go_at_call 52; with_reducible exact held_call _ (cD.out _)) | (go_at_call 61; with_reducible exact held_call _ (m1.out _)) | (go_at_call 37; with_reducible exact held_call _ (t2.out _)) | (go_at_call 62; with_reducible exact held_call _ (p1.out _)) | (go_at_call 39; with_reducible exact held_call _ (i1.out _)) | (go_at_call 37; with_reducible exact held_call _ (t3.out _)) | (go_at_call 60; with_reducible exact held_call _ (ro.out _))))))
    exact wpQuiet_nil rfl
  · exact fun _ => rfl
  intro x w5 hw5 hF
  have H := H.extra hw5 hF
  simp only [List.drop_succ_cons, List.drop_zero]
  go_wp2_with (first
    | (refine p_loadN rfl _ rfl _ _ rfl (by assumption) (by (repeat (first | exact .head _ | refine .tail _ ?_))) ?_; try simp only [Act.put, yI, yC, yZ])
    | (refine p_storeN0 rfl _ _ rfl _ _ _ rfl rfl _ (by assumption) ?_; intro w H; try simp only [Act.put, yI, yC, yZ])
    | (go_at_call 64; with_reducible refine r_call (by assumption) (cA.out _) ?_; intro w H)
    | (refine p_storeP_fin rfl _ _ rfl _ _ _ _ _ _ _ rfl rfl (by assumption) (by (repeat (first | exact .head _ | refine .tail _ ?_))) ?_; intro w H; try simp only [Act.put, yI, yC, yZ]))
  exact p_ret2 Tryz.results33 _ rfl rfl rfl H (by (repeat (first | exact .head _ | refine .tail _ ?_)))
end Go.Proofs.YtgnblaaldpniiaaGreatDoor
end
section
set_option linter.unusedSimpArgs false
set_option linter.unusedVariables false
set_option maxRecDepth 100000
namespace Go.Proofs.YtgnblaaldpniiaaGreatDoor
open Go.RowKit
set_option maxHeartbeats 4000000 in
theorem parse_odd_noel (sl st s1 : ByteArray) (b b1 : UInt8) (hsz : sl.size = 32) (hs31 : 31 < sl.size) (g31 : sl[31] = b) (hb : (128 : Int) ≤ (b.toNat : Int)) (hb1 : (b.toNat : Int) - 128 = (b1.toNat : Int)) (hs1 : S [b1] = s1) (hcat : sl.extract 0 31 ++ s1 = st) (cI : ∀ w, Calls Tryz.prog 58 #[.string st] w (RetV (.bool false) w)) (wS : World) : Calls Tryz.prog 33 #[.string sl] wS (RetV (.tuple #[.agg (ptC 0 0 0).toArray, .bool false]) wS) := by
  have H := RMem.start wS
  replace cI := Kept.mk cI
  have hs1z : s1.size = 1 := by rw [← hs1]; rfl
  replace hs1 := Kept.mk hs1
  replace hcat := Kept.mk hcat
  go_enter Tryz.func33, Tryz.ntmps33
  go_wp2_with (first
    | (refine p_allocP rfl rfl (by assumption) ?_; intro g w H; try simp only [Act.put, yI, yC, yZ]))
  refine wp_region_any (by kernel_rfl) ?_
  have H := H.grow (Below.refl _ _).drew
  refine wpAny_take (i := 0) (v := .string sl) rfl (by kernel_rfl) (by kernel_rfl) (by kernel_rfl) (fun _ _ _ h => h) (Or.inl ⟨by rfl, fun w => by rfl⟩) ?_
  try simp only [Act.put, yI, yC, yZ]
  refine wpAny_take (i := 1) (v := .string (sl.extract 0 31)) rfl (by kernel_rfl) (by kernel_rfl) (by kernel_rfl) (fun _ _ _ h => h) (Or.inl ⟨by rfl, fun w => by simp [execOp, Act.eval, go_sem, hsz]⟩) ?_
  try simp only [Act.put, yI, yC, yZ]
  refine wpAny_rest 2 _ rfl (by kernel_rfl) ?_
  simp only [List.drop_succ_cons, List.drop_zero]
  refine (show wpList _ _ _ _ _ (World.drew w) from ?_)
  generalize World.drew w = wd at H ⊢
  have hm : (b1.toNat : Int) % 256 = (b1.toNat : Int) := by have := b1.toNat_lt; omega
  have hcv := conv_one (w := wd) b1
  rw [hs1.out] at hcv
  have H := H.grow ((Below.refl _ wd).alloc (Nat.le_refl _) (.cells #[.int .u8 (b1.toNat : Int)] 5))
  have hcat := hcat.out
  go_wp2_with (first
    | (refine p_storeP0 rfl _ _ rfl _ _ _ _ _ _ _ rfl rfl _ (by assumption) ?_; intro w H; try simp only [Act.put, yI, yC, yZ])
    | (refine p_build0 rfl _ rfl (by rw [Array.toList_map]; rfl) ?_; try simp only [Act.put, yI, yC, yZ])
    | (go_at_call 58; with_reducible refine r_call (by assumption) (cI.out _) ?_; intro w H))
  exact p_ret2 Tryz.results33 _ rfl rfl rfl H (by (repeat (first | exact .head _ | refine .tail _ ?_)))
set_option maxHeartbeats 4000000 in
theorem parse_odd_noroot (sl st s1 : ByteArray) (b b1 : UInt8) (hsz : sl.size = 32) (hs31 : 31 < sl.size) (g31 : sl[31] = b) (hb : (128 : Int) ≤ (b.toNat : Int)) (hb1 : (b.toNat : Int) - 128 = (b1.toNat : Int)) (hs1 : S [b1] = s1) (hcat : sl.extract 0 31 ++ s1 = st) (cI : ∀ w, Calls Tryz.prog 58 #[.string st] w (RetV (.bool true) w)) (y : Nat) (cN : ∀ w, Calls Tryz.prog 59 #[.string st] w (RetV (.agg (nC y).toArray) w)) (hy : y < pF) (x : Nat) (hx : x < pF) (cR : ∀ w, Calls Tryz.prog 60 #[.agg (nC (sqY y)).toArray] w (RetV (.tuple #[.agg (nC x).toArray, .bool false]) w)) (wS : World) : Calls Tryz.prog 33 #[.string sl] wS (RetV (.tuple #[.agg (ptC 0 0 0).toArray, .bool false]) wS) := by
  have H := RMem.start wS
  have t1 := Kept.mk fun w => timesD y y hy hy w
  have s1' := Kept.mk fun w => small_at 1 (by omega) 1 rfl w
  have cD := Kept.mk fun w => D_any w
  have m1 := Kept.mk fun w => minusD (ml y y) 1 (ml_lt _ _) (by decide +kernel) w
  have t2 := Kept.mk fun w => timesD dF (ml y y) (by decide +kernel) (ml_lt _ _) w
  have p1 := Kept.mk fun w => plusD 1 (ml dF (ml y y)) (by decide +kernel) (ml_lt _ _) w
  have i1 := Kept.mk fun w => inverseD (ad 1 (ml dF (ml y y))) (ad_lt _ _) w
  have t3 := Kept.mk fun w => timesD (sb (ml y y) 1) (fi (ad 1 (ml dF (ml y y)))) (sb_lt _ _) (fi_lt _) w
  have ro := Kept.mk fun w => cR w
  unfold sqY at ro
  clear cR hx hy
  generalize ml (sb (ml y y) 1) (fi (ad 1 (ml dF (ml y y)))) = q at t3 ro
  generalize fi (ad 1 (ml dF (ml y y))) = f at i1 t3
  generalize ad 1 (ml dF (ml y y)) = e at p1 i1
  generalize sb (ml y y) 1 = yy1 at m1 t3
  generalize ml dF (ml y y) = dyy at t2 p1
  generalize ml y y = yy at t1 m1 t2
  replace cI := Kept.mk cI
  replace cN := Kept.mk cN
  have hs1z : s1.size = 1 := by rw [← hs1]; rfl
  replace hs1 := Kept.mk hs1
  replace hcat := Kept.mk hcat
  go_enter Tryz.func33, Tryz.ntmps33
  go_wp2_with (first
    | (refine p_allocP rfl rfl (by assumption) ?_; intro g w H; try simp only [Act.put, yI, yC, yZ]))
  refine wp_region_any (by kernel_rfl) ?_
  have H := H.grow (Below.refl _ _).drew
  refine wpAny_take (i := 0) (v := .string sl) rfl (by kernel_rfl) (by kernel_rfl) (by kernel_rfl) (fun _ _ _ h => h) (Or.inl ⟨by rfl, fun w => by rfl⟩) ?_
  try simp only [Act.put, yI, yC, yZ]
  refine wpAny_take (i := 1) (v := .string (sl.extract 0 31)) rfl (by kernel_rfl) (by kernel_rfl) (by kernel_rfl) (fun _ _ _ h => h) (Or.inl ⟨by rfl, fun w => by simp [execOp, Act.eval, go_sem, hsz]⟩) ?_
  try simp only [Act.put, yI, yC, yZ]
  refine wpAny_rest 2 _ rfl (by kernel_rfl) ?_
  simp only [List.drop_succ_cons, List.drop_zero]
  refine (show wpList _ _ _ _ _ (World.drew w) from ?_)
  generalize World.drew w = wd at H ⊢
  have hm : (b1.toNat : Int) % 256 = (b1.toNat : Int) := by have := b1.toNat_lt; omega
  have hcv := conv_one (w := wd) b1
  rw [hs1.out] at hcv
  have H := H.grow ((Below.refl _ wd).alloc (Nat.le_refl _) (.cells #[.int .u8 (b1.toNat : Int)] 5))
  have hcat := hcat.out
  go_wp2_with (first
    | (refine p_allocN rfl rfl (by assumption) ?_; intro g w H; try simp only [Act.put, yI, yC, yZ])
    | (refine p_loadN rfl _ rfl _ _ rfl (by assumption) (by (repeat (first | exact .head _ | refine .tail _ ?_))) ?_; try simp only [Act.put, yI, yC, yZ])
    | (refine p_storeN0 rfl _ _ rfl _ _ _ rfl rfl _ (by assumption) ?_; intro w H; try simp only [Act.put, yI, yC, yZ])
    | (go_at_call 58; with_reducible refine r_call (by assumption) (cI.out _) ?_; intro w H)
    | (go_at_call 59; with_reducible refine r_call (by assumption) (cN.out _) ?_; intro w H)
    | (go_at_call 37; with_reducible refine r_call (by assumption) (t1.out _) ?_; intro w H)
    | (go_at_call 38; with_reducible refine r_call (by assumption) (s1'.out _) ?_; intro w H))
  refine wp_region_from_allocL 15 14 13 _ _ _ _ 40 (nC 0).toArray rfl rfl rfl rfl rfl zero_nC (by kernel_rfl) (by kernel_rfl) (by kernel_rfl) (fun _ _ _ _ h => h) ?_
  apply Exists.intro
  refine And.intro ?_ (And.intro ?_ ?_)
  · intro u hu x
    simp only [List.take_succ_cons, List.take_zero, List.eraseIdx_cons_succ, List.eraseIdx_cons_zero, Act.put, yI, yC, yZ]
    repeat (first
      | (go_big_quiet_want; (first
        | (refine q_loadN _ rfl _ _ _ hu rfl (by assumption) (by (repeat (first | exact .head _ | refine .tail _ ?_))) ?_)); try simp only [Act.put, yI, yC, yZ]; go_big_quiet_on)
      | go_big_quiet_step (((first | (go_at_call 52; with_reducible exact held_call _ (cD.out _)) | (go_at_call 61; with_reducible exact held_call _ (m1.out _)) | (go_at_call 37; with_reducible exact held_call _ (t2.out _)) | (go_at_call 62; with_reducible exact held_call _ (p1.out _)) | (go_at_call 39; with_reducible exact held_call _ (i1.out _)) | (go_at_call 37; with_reducible exact held_call _ (t3.out _)) | (go_at_call 60; with_reducible exact held_call _ (ro.out _))))))
    exact wpQuiet_nil rfl
  · exact fun _ => rfl
  intro x w5 hw5 hF
  have H := H.extra hw5 hF
  simp only [List.drop_succ_cons, List.drop_zero]
  go_wp2_with (first
    | (refine p_storeN0 rfl _ _ rfl _ _ _ rfl rfl _ (by assumption) ?_; intro w H; try simp only [Act.put, yI, yC, yZ])
    | (refine p_build0 rfl _ rfl (by rw [Array.toList_map]; rfl) ?_; try simp only [Act.put, yI, yC, yZ])
    | (refine p_storeP_fin rfl _ _ rfl _ _ _ _ _ _ _ rfl rfl (by assumption) (by (repeat (first | exact .head _ | refine .tail _ ?_))) ?_; intro w H; try simp only [Act.put, yI, yC, yZ]))
  exact p_ret2 Tryz.results33 _ rfl rfl rfl H (by (repeat (first | exact .head _ | refine .tail _ ?_)))
set_option maxHeartbeats 4000000 in
theorem parse_odd_zero (sl st s1 : ByteArray) (b b1 : UInt8) (hsz : sl.size = 32) (hs31 : 31 < sl.size) (g31 : sl[31] = b) (hb : (128 : Int) ≤ (b.toNat : Int)) (hb1 : (b.toNat : Int) - 128 = (b1.toNat : Int)) (hs1 : S [b1] = s1) (hcat : sl.extract 0 31 ++ s1 = st) (cI : ∀ w, Calls Tryz.prog 58 #[.string st] w (RetV (.bool true) w)) (y : Nat) (cN : ∀ w, Calls Tryz.prog 59 #[.string st] w (RetV (.agg (nC y).toArray) w)) (hy : y < pF) (x : Nat) (hx : x < pF) (cR : ∀ w, Calls Tryz.prog 60 #[.agg (nC (sqY y)).toArray] w (RetV (.tuple #[.agg (nC x).toArray, .bool true]) w)) (hz : (x = 0) = True) (wS : World) : Calls Tryz.prog 33 #[.string sl] wS (RetV (.tuple #[.agg (ptC 0 0 0).toArray, .bool false]) wS) := by
  have H := RMem.start wS
  have t1 := Kept.mk fun w => timesD y y hy hy w
  have s1' := Kept.mk fun w => small_at 1 (by omega) 1 rfl w
  have cD := Kept.mk fun w => D_any w
  have m1 := Kept.mk fun w => minusD (ml y y) 1 (ml_lt _ _) (by decide +kernel) w
  have t2 := Kept.mk fun w => timesD dF (ml y y) (by decide +kernel) (ml_lt _ _) w
  have p1 := Kept.mk fun w => plusD 1 (ml dF (ml y y)) (by decide +kernel) (ml_lt _ _) w
  have i1 := Kept.mk fun w => inverseD (ad 1 (ml dF (ml y y))) (ad_lt _ _) w
  have t3 := Kept.mk fun w => timesD (sb (ml y y) 1) (fi (ad 1 (ml dF (ml y y)))) (sb_lt _ _) (fi_lt _) w
  have ro := Kept.mk fun w => cR w
  unfold sqY at ro
  have cZ := fun w => Zero_at x hx w
  simp only [hz, decide_true, decide_false] at cZ
  replace cZ := Kept.mk cZ
  clear hz
  clear cR hx hy
  generalize ml (sb (ml y y) 1) (fi (ad 1 (ml dF (ml y y)))) = q at t3 ro
  generalize fi (ad 1 (ml dF (ml y y))) = f at i1 t3
  generalize ad 1 (ml dF (ml y y)) = e at p1 i1
  generalize sb (ml y y) 1 = yy1 at m1 t3
  generalize ml dF (ml y y) = dyy at t2 p1
  generalize ml y y = yy at t1 m1 t2
  replace cI := Kept.mk cI
  replace cN := Kept.mk cN
  have hs1z : s1.size = 1 := by rw [← hs1]; rfl
  replace hs1 := Kept.mk hs1
  replace hcat := Kept.mk hcat
  go_enter Tryz.func33, Tryz.ntmps33
  go_wp2_with (first
    | (refine p_allocP rfl rfl (by assumption) ?_; intro g w H; try simp only [Act.put, yI, yC, yZ]))
  refine wp_region_any (by kernel_rfl) ?_
  have H := H.grow (Below.refl _ _).drew
  refine wpAny_take (i := 0) (v := .string sl) rfl (by kernel_rfl) (by kernel_rfl) (by kernel_rfl) (fun _ _ _ h => h) (Or.inl ⟨by rfl, fun w => by rfl⟩) ?_
  try simp only [Act.put, yI, yC, yZ]
  refine wpAny_take (i := 1) (v := .string (sl.extract 0 31)) rfl (by kernel_rfl) (by kernel_rfl) (by kernel_rfl) (fun _ _ _ h => h) (Or.inl ⟨by rfl, fun w => by simp [execOp, Act.eval, go_sem, hsz]⟩) ?_
  try simp only [Act.put, yI, yC, yZ]
  refine wpAny_rest 2 _ rfl (by kernel_rfl) ?_
  simp only [List.drop_succ_cons, List.drop_zero]
  refine (show wpList _ _ _ _ _ (World.drew w) from ?_)
  generalize World.drew w = wd at H ⊢
  have hm : (b1.toNat : Int) % 256 = (b1.toNat : Int) := by have := b1.toNat_lt; omega
  have hcv := conv_one (w := wd) b1
  rw [hs1.out] at hcv
  have H := H.grow ((Below.refl _ wd).alloc (Nat.le_refl _) (.cells #[.int .u8 (b1.toNat : Int)] 5))
  have hcat := hcat.out
  go_wp2_with (first
    | (refine p_allocN rfl rfl (by assumption) ?_; intro g w H; try simp only [Act.put, yI, yC, yZ])
    | (refine p_loadN rfl _ rfl _ _ rfl (by assumption) (by (repeat (first | exact .head _ | refine .tail _ ?_))) ?_; try simp only [Act.put, yI, yC, yZ])
    | (refine p_storeN0 rfl _ _ rfl _ _ _ rfl rfl _ (by assumption) ?_; intro w H; try simp only [Act.put, yI, yC, yZ])
    | (go_at_call 58; with_reducible refine r_call (by assumption) (cI.out _) ?_; intro w H)
    | (go_at_call 59; with_reducible refine r_call (by assumption) (cN.out _) ?_; intro w H)
    | (go_at_call 37; with_reducible refine r_call (by assumption) (t1.out _) ?_; intro w H)
    | (go_at_call 38; with_reducible refine r_call (by assumption) (s1'.out _) ?_; intro w H))
  refine wp_region_from_allocL 15 14 13 _ _ _ _ 40 (nC 0).toArray rfl rfl rfl rfl rfl zero_nC (by kernel_rfl) (by kernel_rfl) (by kernel_rfl) (fun _ _ _ _ h => h) ?_
  apply Exists.intro
  refine And.intro ?_ (And.intro ?_ ?_)
  · intro u hu x
    simp only [List.take_succ_cons, List.take_zero, List.eraseIdx_cons_succ, List.eraseIdx_cons_zero, Act.put, yI, yC, yZ]
    repeat (first
      | (go_big_quiet_want; (first
        | (refine q_loadN _ rfl _ _ _ hu rfl (by assumption) (by (repeat (first | exact .head _ | refine .tail _ ?_))) ?_)); try simp only [Act.put, yI, yC, yZ]; go_big_quiet_on)
      | go_big_quiet_step (((first | (go_at_call 52; with_reducible exact held_call _ (cD.out _)) | (go_at_call 61; with_reducible exact held_call _ (m1.out _)) | (go_at_call 37; with_reducible exact held_call _ (t2.out _)) | (go_at_call 62; with_reducible exact held_call _ (p1.out _)) | (go_at_call 39; with_reducible exact held_call _ (i1.out _)) | (go_at_call 37; with_reducible exact held_call _ (t3.out _)) | (go_at_call 60; with_reducible exact held_call _ (ro.out _))))))
    exact wpQuiet_nil rfl
  · exact fun _ => rfl
  intro x w5 hw5 hF
  have H := H.extra hw5 hF
  simp only [List.drop_succ_cons, List.drop_zero]
  go_wp2_with (first
    | (refine p_storeN0 rfl _ _ rfl _ _ _ rfl rfl _ (by assumption) ?_; intro w H; try simp only [Act.put, yI, yC, yZ])
    | (refine p_build0 rfl _ rfl (by rw [Array.toList_map]; rfl) ?_; try simp only [Act.put, yI, yC, yZ])
    | (refine p_loadN_g (by rfl) _ rfl _ _ rfl (by assumption) (by (repeat (first | exact .head _ | refine .tail _ ?_))) ?_; try simp only [Act.put, yI, yC, yZ])
    | (go_at_call 63; with_reducible refine r_call (by assumption) (cZ.out _) ?_; intro w H)
    | (refine p_storeP_fin rfl _ _ rfl _ _ _ _ _ _ _ rfl rfl (by assumption) (by (repeat (first | exact .head _ | refine .tail _ ?_))) ?_; intro w H; try simp only [Act.put, yI, yC, yZ]))
  exact p_ret2 Tryz.results33 _ rfl rfl rfl H (by (repeat (first | exact .head _ | refine .tail _ ?_)))
set_option maxHeartbeats 4000000 in
theorem parse_odd_ok (sl st s1 : ByteArray) (b b1 : UInt8) (hsz : sl.size = 32) (hs31 : 31 < sl.size) (g31 : sl[31] = b) (hb : (128 : Int) ≤ (b.toNat : Int)) (hb1 : (b.toNat : Int) - 128 = (b1.toNat : Int)) (hs1 : S [b1] = s1) (hcat : sl.extract 0 31 ++ s1 = st) (cI : ∀ w, Calls Tryz.prog 58 #[.string st] w (RetV (.bool true) w)) (y : Nat) (cN : ∀ w, Calls Tryz.prog 59 #[.string st] w (RetV (.agg (nC y).toArray) w)) (hy : y < pF) (x : Nat) (hx : x < pF) (cR : ∀ w, Calls Tryz.prog 60 #[.agg (nC (sqY y)).toArray] w (RetV (.tuple #[.agg (nC x).toArray, .bool true]) w)) (hz : (x = 0) = False) (wS : World) : Calls Tryz.prog 33 #[.string sl] wS (RetV (.tuple #[.agg (ptC (sb 0 x) y 1).toArray, .bool true]) wS) := by
  have H := RMem.start wS
  have t1 := Kept.mk fun w => timesD y y hy hy w
  have s1' := Kept.mk fun w => small_at 1 (by omega) 1 rfl w
  have cD := Kept.mk fun w => D_any w
  have m1 := Kept.mk fun w => minusD (ml y y) 1 (ml_lt _ _) (by decide +kernel) w
  have t2 := Kept.mk fun w => timesD dF (ml y y) (by decide +kernel) (ml_lt _ _) w
  have p1 := Kept.mk fun w => plusD 1 (ml dF (ml y y)) (by decide +kernel) (ml_lt _ _) w
  have i1 := Kept.mk fun w => inverseD (ad 1 (ml dF (ml y y))) (ad_lt _ _) w
  have t3 := Kept.mk fun w => timesD (sb (ml y y) 1) (fi (ad 1 (ml dF (ml y y)))) (sb_lt _ _) (fi_lt _) w
  have ro := Kept.mk fun w => cR w
  unfold sqY at ro
  have cA := Kept.mk fun w => At_any (sb 0 x) y w
  have s0 := Kept.mk fun w => small_at 0 (by omega) 0 rfl w
  have mx := Kept.mk fun w => minusD 0 x (by decide +kernel) hx w
  have cZ := fun w => Zero_at x hx w
  simp only [hz, decide_true, decide_false] at cZ
  replace cZ := Kept.mk cZ
  clear hz
  clear cR hx hy
  generalize ml (sb (ml y y) 1) (fi (ad 1 (ml dF (ml y y)))) = q at t3 ro
  generalize fi (ad 1 (ml dF (ml y y))) = f at i1 t3
  generalize ad 1 (ml dF (ml y y)) = e at p1 i1
  generalize sb (ml y y) 1 = yy1 at m1 t3
  generalize ml dF (ml y y) = dyy at t2 p1
  generalize ml y y = yy at t1 m1 t2
  replace cI := Kept.mk cI
  replace cN := Kept.mk cN
  have hs1z : s1.size = 1 := by rw [← hs1]; rfl
  replace hs1 := Kept.mk hs1
  replace hcat := Kept.mk hcat
  go_enter Tryz.func33, Tryz.ntmps33
  go_wp2_with (first
    | (refine p_allocP rfl rfl (by assumption) ?_; intro g w H; try simp only [Act.put, yI, yC, yZ]))
  refine wp_region_any (by kernel_rfl) ?_
  have H := H.grow (Below.refl _ _).drew
  refine wpAny_take (i := 0) (v := .string sl) rfl (by kernel_rfl) (by kernel_rfl) (by kernel_rfl) (fun _ _ _ h => h) (Or.inl ⟨by rfl, fun w => by rfl⟩) ?_
  try simp only [Act.put, yI, yC, yZ]
  refine wpAny_take (i := 1) (v := .string (sl.extract 0 31)) rfl (by kernel_rfl) (by kernel_rfl) (by kernel_rfl) (fun _ _ _ h => h) (Or.inl ⟨by rfl, fun w => by simp [execOp, Act.eval, go_sem, hsz]⟩) ?_
  try simp only [Act.put, yI, yC, yZ]
  refine wpAny_rest 2 _ rfl (by kernel_rfl) ?_
  simp only [List.drop_succ_cons, List.drop_zero]
  refine (show wpList _ _ _ _ _ (World.drew w) from ?_)
  generalize World.drew w = wd at H ⊢
  have hm : (b1.toNat : Int) % 256 = (b1.toNat : Int) := by have := b1.toNat_lt; omega
  have hcv := conv_one (w := wd) b1
  rw [hs1.out] at hcv
  have H := H.grow ((Below.refl _ wd).alloc (Nat.le_refl _) (.cells #[.int .u8 (b1.toNat : Int)] 5))
  have hcat := hcat.out
  go_wp2_with (first
    | (refine p_allocN rfl rfl (by assumption) ?_; intro g w H; try simp only [Act.put, yI, yC, yZ])
    | (refine p_loadN rfl _ rfl _ _ rfl (by assumption) (by (repeat (first | exact .head _ | refine .tail _ ?_))) ?_; try simp only [Act.put, yI, yC, yZ])
    | (refine p_storeN0 rfl _ _ rfl _ _ _ rfl rfl _ (by assumption) ?_; intro w H; try simp only [Act.put, yI, yC, yZ])
    | (go_at_call 58; with_reducible refine r_call (by assumption) (cI.out _) ?_; intro w H)
    | (go_at_call 59; with_reducible refine r_call (by assumption) (cN.out _) ?_; intro w H)
    | (go_at_call 37; with_reducible refine r_call (by assumption) (t1.out _) ?_; intro w H)
    | (go_at_call 38; with_reducible refine r_call (by assumption) (s1'.out _) ?_; intro w H))
  refine wp_region_from_allocL 15 14 13 _ _ _ _ 40 (nC 0).toArray rfl rfl rfl rfl rfl zero_nC (by kernel_rfl) (by kernel_rfl) (by kernel_rfl) (fun _ _ _ _ h => h) ?_
  apply Exists.intro
  refine And.intro ?_ (And.intro ?_ ?_)
  · intro u hu x
    simp only [List.take_succ_cons, List.take_zero, List.eraseIdx_cons_succ, List.eraseIdx_cons_zero, Act.put, yI, yC, yZ]
    repeat (first
      | (go_big_quiet_want; (first
        | (refine q_loadN _ rfl _ _ _ hu rfl (by assumption) (by (repeat (first | exact .head _ | refine .tail _ ?_))) ?_)); try simp only [Act.put, yI, yC, yZ]; go_big_quiet_on)
      | go_big_quiet_step (((first | (go_at_call 52; with_reducible exact held_call _ (cD.out _)) | (go_at_call 61; with_reducible exact held_call _ (m1.out _)) | (go_at_call 37; with_reducible exact held_call _ (t2.out _)) | (go_at_call 62; with_reducible exact held_call _ (p1.out _)) | (go_at_call 39; with_reducible exact held_call _ (i1.out _)) | (go_at_call 37; with_reducible exact held_call _ (t3.out _)) | (go_at_call 60; with_reducible exact held_call _ (ro.out _))))))
    exact wpQuiet_nil rfl
  · exact fun _ => rfl
  intro x w5 hw5 hF
  have H := H.extra hw5 hF
  simp only [List.drop_succ_cons, List.drop_zero]
  go_wp2_with (first
    | (refine p_storeN0 rfl _ _ rfl _ _ _ rfl rfl _ (by assumption) ?_; intro w H; try simp only [Act.put, yI, yC, yZ])
    | (refine p_loadN_g (by rfl) _ rfl _ _ rfl (by assumption) (by (repeat (first | exact .head _ | refine .tail _ ?_))) ?_; try simp only [Act.put, yI, yC, yZ])
    | (go_at_call 63; with_reducible refine r_call (by assumption) (cZ.out _) ?_; intro w H))
  refine wp_region_from_tail 3 (by kernel_rfl) (by kernel_rfl) ?_
  simp only [List.take_succ_cons, List.take_zero, List.drop_succ_cons, List.drop_zero]
  repeat (first
    | (go_big_quiet_want; (first
      | (refine q_loadN _ rfl _ _ _ (From.refl _) rfl (by assumption) (by (repeat (first | exact .head _ | refine .tail _ ?_))) ?_)); try simp only [Act.put, yI, yC, yZ]; go_big_quiet_on)
    | go_big_quiet_step (((first | (go_at_call 38; exact held_call _ (s0.out _)) | (go_at_call 61; exact held_call _ (mx.out _))))))
  refine wpQuiet_nil ?_
  intro w5 hw5
  have H := H.from hw5
  clear hw5
  go_wp2_with (first
    | (refine p_loadN rfl _ rfl _ _ rfl (by assumption) (by (repeat (first | exact .head _ | refine .tail _ ?_))) ?_; try simp only [Act.put, yI, yC, yZ])
    | (refine p_storeN0 rfl _ _ rfl _ _ _ rfl rfl _ (by assumption) ?_; intro w H; try simp only [Act.put, yI, yC, yZ])
    | (go_at_call 64; with_reducible refine r_call (by assumption) (cA.out _) ?_; intro w H)
    | (refine p_storeP_fin rfl _ _ rfl _ _ _ _ _ _ _ rfl rfl (by assumption) (by (repeat (first | exact .head _ | refine .tail _ ?_))) ?_; intro w H; try simp only [Act.put, yI, yC, yZ]))
  exact p_ret2 Tryz.results33 _ rfl rfl rfl H (by (repeat (first | exact .head _ | refine .tail _ ?_)))
end Go.Proofs.YtgnblaaldpniiaaGreatDoor
end
