/- Package sign, walked: its calls over letters.
The document's answer for package sign, walked: its calls over letters.
Rows of stage 7 from what package sign answers: over letters.
The document's answer for package sign, by lists and points. -/
import Derived.Test.YtgnblaaldpniiaaGreatDoorZV1
import Derived.Test.YtgnblaaldpniiaaGreatDoorZS3
import Derived.Test.YtgnblaaldpniiaaGreatDoorZK3
import Derived.Great.Walk
section
set_option linter.unusedSimpArgs false
set_option linter.unusedVariables false
set_option maxRecDepth 100000
namespace Go.Proofs.YtgnblaaldpniiaaGreatDoor.Sg
open Go.RowKit
structure HW (w0 w : World) (g : Nat) (l : List UInt8) (B : Nat) : Prop where
  b : Below w0.heap.size w0 w
  v : Sh.Vars w
  h : Sh.IsHash w g true l
  lo : w0.heap.size ≤ g
  one : 1 < g
  ln : l.length ≤ B
theorem HW.start {w0 w : World} {g : Nat} (hb : Below w0.heap.size w0 w) (hv : Sh.Vars w0) (hh : Sh.IsHash w g true []) (hg : w0.heap.size ≤ g) : HW w0 w g [] 0 := ⟨hb, hv.from hb, hh, hg, Nat.lt_of_lt_of_le hv.1 hg, Nat.le_refl _⟩
theorem HW.write {w0 w w2 : World} {g B C : Nat} {l s : List UInt8} (H : HW w0 w g l B) (hs : s.length ≤ C) (hh : Sh.IsHash w2 g true (l ++ s)) (hc : Sh.Chg g w w2) : HW w0 w2 g (l ++ s) (B + C) := ⟨Sh.Chg.below H.b hc H.b.size H.lo, hc.vars H.v H.one, hh, H.lo, H.one, by rw [List.length_append]; exact Nat.add_le_add H.ln hs⟩
theorem HW.first {w0 w w2 : World} {g C : Nat} {s : List UInt8} (H : HW w0 w g [] 0) (hs : s.length ≤ C) (hh : Sh.IsHash w2 g true ([] ++ s)) (hc : Sh.Chg g w w2) : HW w0 w2 g s C := ⟨Sh.Chg.below H.b hc H.b.size H.lo, hc.vars H.v H.one, hh, H.lo, H.one, hs⟩
theorem HW.wr {w0 w : World} {g B C : Nat} {l s : List UInt8} (H : HW w0 w g l B) (hs : s.length ≤ C) (hB : B + C ≤ 1152921504606846976) : l.length + s.length ≤ 4611686018427387904 := Nat.le_trans (Nat.add_le_add H.ln hs) (Nat.le_trans hB (by decide))
theorem HW.sm {w0 w : World} {g B : Nat} {l : List UInt8} (H : HW w0 w g l B) (hB : B ≤ 1152921504606846976) : l.length ≤ 1152921504606846976 := Nat.le_trans H.ln hB
theorem r_callR {P : Program} {w0 w : World} {L : List Cells} {f : FuncId} {args : Array Value} {v : Value} {Q : Ending → World → Prop} (H : RMem w0 w L) (c : Calls P f args w (RetV v w)) (h : ∀ w', RMem w0 w' L → Q (.returned v) w') : Calls P f args w Q := r_call H c h
theorem mem_hd {p : Cells} {L : List Cells} : p ∈ p :: L := List.mem_cons_self ..
theorem low_and (b : UInt8) : bits .andNot .u8 (b.toNat : Int) 7 = ((b.toNat / 8 * 8 : Nat) : Int) := by
  have h : ∀ n : Fin 256, bits .andNot .u8 ((n.val : Nat) : Int) 7 = ((n.val / 8 * 8 : Nat) : Int) := by decide +kernel
  exact h ⟨b.toNat, b.toNat_lt⟩
theorem top_and (b : UInt8) : bits .or .u8 (bits .andNot .u8 (b.toNat : Int) 128) 64 = ((b.toNat % 64 + 64 : Nat) : Int) := by
  have h : ∀ n : Fin 256, bits .or .u8 (bits .andNot .u8 ((n.val : Nat) : Int) 128) 64 = ((n.val % 64 + 64 : Nat) : Int) := by decide +kernel
  exact h ⟨b.toNat, b.toNat_lt⟩
section
variable {ops : Array Oper} {rest : List Oper} {o : Oper} {a : Act} {w0 w : World} {Q : Exit → Act → World → Prop} {L : List Cells}
theorem p_load (hg : o.guard = none) (x : Operand) (ho : o.op = .load 9 x) (g i : Nat) (cs : List Value) (s : ByteArray) (hs : w0.heap[g]? = some (.cells cs.toArray 9 (0, 0)))
    (hx : a.eval x = .pointer (some ⟨g, i, none⟩)) (hi : cs[i]? = some (.string s)) (hb : Below w0.heap.size w0 w)
    (h : wpList Tryz.prog ops Q rest (a.put o.dst (.string s)) w) : wpList Tryz.prog ops Q (o :: rest) a w := by
  have hlt : g < w0.heap.size := (Array.getElem?_eq_some_iff.1 hs).1
  have hc : w.cell? ⟨g, i, none⟩ = some (.string s) := by
    rw [cell_of_row w g _ _ _ _ ((hb.block g hlt).trans hs), List.getElem?_toArray]
    exact hi
  refine wpList_plain hg fun K hK => ?_
  unfold Oper.wp execOp
  simp only [ho, hx, Instr.loadAt, Instr.sureAddr, Sem.run_bind, Sem.run_pure, Result.andThen_ok, run_load_cell w 9 _ Tryz.underlying9 rfl _ _ hc]
  exact hK _ _ h
theorem built1 (s0 : ByteArray) : Tryz.prog.builtSlice 9 1 [(0, .string s0)] = some ([.string s0] : List Value).toArray := by kernel_rfl
theorem b_slice1 (hg : o.guard = none) (parts : Array (Nat × Operand)) (ho : o.op = .buildSlice 51 1 parts) (s0 : ByteArray) (e : (parts.map fun (i, x) => (i, a.eval x)).toList = [(0, .string s0)]) (H : RMem w0 w L)
    (h : ∀ g w', RMem w0 w' ((g, 9, [.string s0]) :: L) → wpList Tryz.prog ops Q rest (a.put o.dst (.slice (some ⟨g, 0, none⟩) 1 1)) w') : wpList Tryz.prog ops Q (o :: rest) a w :=
  Great.wpList_buildSliceTo hg 51 9 1 parts ho _ rfl _ rfl Tryz.underlying51 _ (by rw [e]; exact built1 s0) (h _ _ (H.new 9 _))
theorem built2 (s0 s1 : ByteArray) : Tryz.prog.builtSlice 9 2 [(0, .string s0), (1, .string s1)] = some ([.string s0, .string s1] : List Value).toArray := by kernel_rfl
theorem b_slice2 (hg : o.guard = none) (parts : Array (Nat × Operand)) (ho : o.op = .buildSlice 51 2 parts) (s0 s1 : ByteArray) (e : (parts.map fun (i, x) => (i, a.eval x)).toList = [(0, .string s0), (1, .string s1)]) (H : RMem w0 w L)
    (h : ∀ g w', RMem w0 w' ((g, 9, [.string s0, .string s1]) :: L) → wpList Tryz.prog ops Q rest (a.put o.dst (.slice (some ⟨g, 0, none⟩) 2 2)) w') : wpList Tryz.prog ops Q (o :: rest) a w :=
  Great.wpList_buildSliceTo hg 51 9 2 parts ho _ rfl _ rfl Tryz.underlying51 _ (by rw [e]; exact built2 s0 s1) (h _ _ (H.new 9 _))
theorem built3 (s0 s1 s2 : ByteArray) : Tryz.prog.builtSlice 9 3 [(0, .string s0), (1, .string s1), (2, .string s2)] = some ([.string s0, .string s1, .string s2] : List Value).toArray := by kernel_rfl
theorem b_slice3 (hg : o.guard = none) (parts : Array (Nat × Operand)) (ho : o.op = .buildSlice 51 3 parts) (s0 s1 s2 : ByteArray) (e : (parts.map fun (i, x) => (i, a.eval x)).toList = [(0, .string s0), (1, .string s1), (2, .string s2)]) (H : RMem w0 w L)
    (h : ∀ g w', RMem w0 w' ((g, 9, [.string s0, .string s1, .string s2]) :: L) → wpList Tryz.prog ops Q rest (a.put o.dst (.slice (some ⟨g, 0, none⟩) 3 3)) w') : wpList Tryz.prog ops Q (o :: rest) a w :=
  Great.wpList_buildSliceTo hg 51 9 3 parts ho _ rfl _ rfl Tryz.underlying51 _ (by rw [e]; exact built3 s0 s1 s2) (h _ _ (H.new 9 _))
end
set_option maxHeartbeats 4000000 in
theorem hashW1 (s0 : List UInt8) (h0 : s0.length ≤ 2000) (gs : Nat) (wS : World) (hv : Sh.Vars wS) (hs : wS.heap[gs]? = some (.cells ([.string (S s0)] : List Value).toArray 9 (0, 0))) : Calls Tryz.prog 29 #[.slice (some ⟨gs, 0, none⟩) 1 1] wS (RetV (.string (S (H5 (s0)))) wS) := by
  unfold H5
  try rw [List.append_assoc]
  replace hv := Kept.mk hv
  replace hs := Kept.mk hs
  replace h0 := Kept.mk h0
  go_enter Tryz.func29, Tryz.ntmps29
  go_wp2_with (first
    | (go_at_call 53; refine (Sh.new_any true rfl _ hv.out).mono ?_; rintro e w1 ⟨g, hg, rfl, hh, hb⟩; have H := HW.start hb hv.out hh hg; clear hh hb hg))
  refine wp_loop_rounds 2 ?_
  rw [rounds_succ]
  go_wp2_with (first
    | (refine p_load rfl _ rfl _ _ _ _ hs.out rfl rfl H.b ?_; try simp only [Act.put, yI, yC, yZ])
    | (go_at_call 54; refine (Sh.write_any g true rfl _ _ _ H.h H.v H.one (H.wr h0.out (by decide))).mono ?_; rintro e w2 ⟨rfl, hh2, hc2⟩; replace H := H.first h0.out hh2 hc2; clear hh2 hc2))
  rw [rounds_succ]
  go_wp2_with (first
    | (go_at_call 55; refine (Sh.sum_any g true rfl _ _ H.h H.v (H.sm (by decide))).mono ?_; rintro e w3 ⟨rfl, hb3⟩; have HB := H.b.trans (hb3.mono H.b.size); clear hb3))
  go_ret
  exact ⟨rfl, HB⟩
set_option maxHeartbeats 4000000 in
theorem hashW2 (s0 s1 : List UInt8) (h0 : s0.length ≤ 2000) (h1 : s1.length ≤ 2000) (gs : Nat) (wS : World) (hv : Sh.Vars wS) (hs : wS.heap[gs]? = some (.cells ([.string (S s0), .string (S s1)] : List Value).toArray 9 (0, 0))) : Calls Tryz.prog 29 #[.slice (some ⟨gs, 0, none⟩) 2 2] wS (RetV (.string (S (H5 (s0 ++ s1)))) wS) := by
  unfold H5
  try rw [List.append_assoc]
  replace hv := Kept.mk hv
  replace hs := Kept.mk hs
  replace h0 := Kept.mk h0
  replace h1 := Kept.mk h1
  go_enter Tryz.func29, Tryz.ntmps29
  go_wp2_with (first
    | (go_at_call 53; refine (Sh.new_any true rfl _ hv.out).mono ?_; rintro e w1 ⟨g, hg, rfl, hh, hb⟩; have H := HW.start hb hv.out hh hg; clear hh hb hg))
  refine wp_loop_rounds 3 ?_
  rw [rounds_succ]
  go_wp2_with (first
    | (refine p_load rfl _ rfl _ _ _ _ hs.out rfl rfl H.b ?_; try simp only [Act.put, yI, yC, yZ])
    | (go_at_call 54; refine (Sh.write_any g true rfl _ _ _ H.h H.v H.one (H.wr h0.out (by decide))).mono ?_; rintro e w2 ⟨rfl, hh2, hc2⟩; replace H := H.first h0.out hh2 hc2; clear hh2 hc2))
  rw [rounds_succ]
  go_wp2_with (first
    | (refine p_load rfl _ rfl _ _ _ _ hs.out rfl rfl H.b ?_; try simp only [Act.put, yI, yC, yZ])
    | (go_at_call 54; refine (Sh.write_any g true rfl _ _ _ H.h H.v H.one (H.wr h1.out (by decide))).mono ?_; rintro e w2 ⟨rfl, hh2, hc2⟩; replace H := H.write h1.out hh2 hc2; clear hh2 hc2))
  rw [rounds_succ]
  go_wp2_with (first
    | (go_at_call 55; refine (Sh.sum_any g true rfl _ _ H.h H.v (H.sm (by decide))).mono ?_; rintro e w3 ⟨rfl, hb3⟩; have HB := H.b.trans (hb3.mono H.b.size); clear hb3))
  go_ret
  exact ⟨rfl, HB⟩
set_option maxHeartbeats 4000000 in
theorem hashW3 (s0 s1 s2 : List UInt8) (h0 : s0.length ≤ 2000) (h1 : s1.length ≤ 2000) (h2 : s2.length ≤ 2000) (gs : Nat) (wS : World) (hv : Sh.Vars wS) (hs : wS.heap[gs]? = some (.cells ([.string (S s0), .string (S s1), .string (S s2)] : List Value).toArray 9 (0, 0))) : Calls Tryz.prog 29 #[.slice (some ⟨gs, 0, none⟩) 3 3] wS (RetV (.string (S (H5 (s0 ++ s1 ++ s2)))) wS) := by
  unfold H5
  try rw [List.append_assoc]
  replace hv := Kept.mk hv
  replace hs := Kept.mk hs
  replace h0 := Kept.mk h0
  replace h1 := Kept.mk h1
  replace h2 := Kept.mk h2
  go_enter Tryz.func29, Tryz.ntmps29
  go_wp2_with (first
    | (go_at_call 53; refine (Sh.new_any true rfl _ hv.out).mono ?_; rintro e w1 ⟨g, hg, rfl, hh, hb⟩; have H := HW.start hb hv.out hh hg; clear hh hb hg))
  refine wp_loop_rounds 4 ?_
  rw [rounds_succ]
  go_wp2_with (first
    | (refine p_load rfl _ rfl _ _ _ _ hs.out rfl rfl H.b ?_; try simp only [Act.put, yI, yC, yZ])
    | (go_at_call 54; refine (Sh.write_any g true rfl _ _ _ H.h H.v H.one (H.wr h0.out (by decide))).mono ?_; rintro e w2 ⟨rfl, hh2, hc2⟩; replace H := H.first h0.out hh2 hc2; clear hh2 hc2))
  rw [rounds_succ]
  go_wp2_with (first
    | (refine p_load rfl _ rfl _ _ _ _ hs.out rfl rfl H.b ?_; try simp only [Act.put, yI, yC, yZ])
    | (go_at_call 54; refine (Sh.write_any g true rfl _ _ _ H.h H.v H.one (H.wr h1.out (by decide))).mono ?_; rintro e w2 ⟨rfl, hh2, hc2⟩; replace H := H.write h1.out hh2 hc2; clear hh2 hc2))
  rw [rounds_succ]
  go_wp2_with (first
    | (refine p_load rfl _ rfl _ _ _ _ hs.out rfl rfl H.b ?_; try simp only [Act.put, yI, yC, yZ])
    | (go_at_call 54; refine (Sh.write_any g true rfl _ _ _ H.h H.v H.one (H.wr h2.out (by decide))).mono ?_; rintro e w2 ⟨rfl, hh2, hc2⟩; replace H := H.write h2.out hh2 hc2; clear hh2 hc2))
  rw [rounds_succ]
  go_wp2_with (first
    | (go_at_call 55; refine (Sh.sum_any g true rfl _ _ H.h H.v (H.sm (by decide))).mono ?_; rintro e w3 ⟨rfl, hb3⟩; have HB := H.b.trans (hb3.mono H.b.size); clear hb3))
  go_ret
  exact ⟨rfl, HB⟩
set_option maxHeartbeats 4000000 in
theorem hs_core (v : Value) (h r : ByteArray) (cR : ∀ w, Calls Tryz.prog 40 #[.string h] w (RetV (.tuple #[.string r, .int .i64 0]) w)) (wS : World) (cH : Calls Tryz.prog 29 #[v] wS (RetV (.string h) wS)) : Calls Tryz.prog 18 #[v] wS (RetV (.string r) wS) := by
  have H := RMem.start wS
  replace cR := Kept.mk cR
  replace cH := Kept.mk cH
  go_enter Tryz.func18, Tryz.ntmps18
  go_wp2_with (first
    | (go_at_call 29; (with_reducible refine r_callR (by assumption) (cH.out) ?_); intro w H)
    | (go_at_call 40; (with_reducible refine r_callR (by assumption) (cR.out _) ?_); intro w H))
  go_ret
  exact ⟨rfl, H.below⟩
set_option maxHeartbeats 4000000 in
theorem tb_core (k bs u : ByteArray) (cB : ∀ w, Calls Tryz.prog 31 #[] w (RetV (.string bs) w)) (cM : ∀ w, Calls Tryz.prog 30 #[.string k, .string bs] w (RetV (.tuple #[.string u, .int .i64 0]) w)) (wS : World) : Calls Tryz.prog 14 #[.string k] wS (RetV (.string u) wS) := by
  have H := RMem.start wS
  replace cB := Kept.mk cB
  replace cM := Kept.mk cM
  go_enter Tryz.func14, Tryz.ntmps14
  go_wp2_with (first
    | (go_at_call 31; (with_reducible refine r_callR (by assumption) (cB.out _) ?_); intro w H)
    | (go_at_call 30; (with_reducible refine r_callR (by assumption) (cM.out _) ?_); intro w H))
  go_ret
  exact ⟨rfl, H.below⟩
set_option maxHeartbeats 4000000 in
theorem pp_core (r k a u n : ByteArray) (cM : ∀ w, Calls Tryz.prog 41 #[.string k, .string a] w (RetV (.tuple #[.string u, .int .i64 0]) w)) (cA : ∀ w, Calls Tryz.prog 42 #[.string r, .string u] w (RetV (.tuple #[.string n, .int .i64 0]) w)) (wS : World) : Calls Tryz.prog 19 #[.string r, .string k, .string a] wS (RetV (.string n) wS) := by
  have H := RMem.start wS
  replace cM := Kept.mk cM
  replace cA := Kept.mk cA
  go_enter Tryz.func19, Tryz.ntmps19
  go_wp2_with (first
    | (go_at_call 41; (with_reducible refine r_callR (by assumption) (cM.out _) ?_); intro w H)
    | (go_at_call 42; (with_reducible refine r_callR (by assumption) (cA.out _) ?_); intro w H))
  go_ret
  exact ⟨rfl, H.below⟩
set_option maxHeartbeats 4000000 in
theorem divided_any (s : List UInt8) (hs : s.length ≤ 2000) (wS : World) (hv : Sh.Vars wS) : Calls Tryz.prog 13 #[.string (S s)] wS (RetV (.tuple #[.string (S (secB (H5 s))), .string (S ((H5 s).drop 32))]) wS) := by
  have H := RMem.start wS
  replace hv := Kept.mk hv
  have cH := Kept.mk (hashW1 s hs)
  have hl := H5_len s
  generalize H5 s = h at cH hl ⊢
  have hsz : (S h).size = 64 := by rw [S_size, hl]
  have e1 := take_S h 32 (by omega)
  have e2 := drop_S h 32 64 hl
  obtain ⟨b0, hb0⟩ : ∃ b, h.getD 0 0 = b := ⟨_, rfl⟩
  obtain ⟨b1, hb1⟩ : ∃ b, h.getD 31 0 = b := ⟨_, rfl⟩
  obtain ⟨c0, hc0, hn0⟩ := lowq b0
  obtain ⟨c1, hc1, hn1⟩ := topq b1
  have t0 : (h.take 32).getD 0 0 = b0 := by rw [← hb0]; simp [List.getD, List.getElem?_take]
  have t1 : (h.take 32).getD 31 0 = b1 := by rw [← hb1]; simp [List.getD, List.getElem?_take]
  have hsec : secB h = ((h.take 32).set 0 c0).set 31 c1 := by unfold secB; rw [hb0, hb1, ← hc0, ← hc1]
  rw [hsec]
  have htl : (h.take 32).length = 32 := by rw [List.length_take, hl]; rfl
  generalize h.take 32 = tk at e1 t0 t1 htl ⊢
  generalize h.drop 32 = dr at e2 ⊢
  have z0 := low_and b0
  have z1 := top_and b1
  rw [← hn0] at z0
  rw [← hn1] at z1
  replace htl := Kept.mk htl
  replace t0 := Kept.mk t0
  replace t1 := Kept.mk t1
  clear hsec hb0 hb1 hc0 hc1 hn0 hn1 hl hs
  generalize S h = hb at cH e1 e2 hsz
  generalize S s = sb at cH ⊢
  go_enter Tryz.func13, Tryz.ntmps13
  go_wp2_with (first
    | (refine b_slice1 rfl _ rfl _ (by rw [Array.toList_map]; rfl) (by assumption) ?_; intro g w H; try simp only [Act.put, yI, yC, yZ])
    | (go_at_call 29; (with_reducible refine r_callR (by assumption) (cH.out _ _ (hv.out.from H.below) (H.holds _ _ _ mem_hd)) ?_); intro w H; obtain ⟨w1, gb, cap, hcv, k0, f0, k1, f1, H1, hcv2⟩ := sec_pre H tk htl.out b0 c0 b1 c1 t0.out t1.out; replace hcv2 := Kept.mk hcv2))
  have H := H1
  clear H1 hcv k0 f0 k1 f1
  have hcv2 := hcv2.out
  generalize World.setCell _ _ _ = w2 at H hcv2 ⊢
  refine wp_region_from (by kernel_rfl) (by kernel_rfl) ?_
  repeat (go_big_quiet_step (fail))
  refine wpQuiet_nil ?_
  intro w5 hw5
  have H := H.from hw5
  clear hw5
  go_wp2
  go_ret2
  exact ⟨rfl, H.below⟩
set_option maxHeartbeats 4000000 in
theorem pub_core (s a p k : ByteArray) (hs : s.size = 32) (cD : ∀ w, Sh.Vars w → Calls Tryz.prog 13 #[.string s] w (RetV (.tuple #[.string a, .string p]) w)) (cT : ∀ w, Calls Tryz.prog 14 #[.string a] w (RetV (.string k) w)) (wS : World) (hv : Sh.Vars wS) : Calls Tryz.prog 6 #[.string s] wS (RetV (.tuple #[.string k, .int .i64 0]) wS) := by
  have H := RMem.start wS
  replace hv := Kept.mk hv
  replace cD := Kept.mk cD
  replace cT := Kept.mk cT
  go_enter Tryz.func6, Tryz.ntmps6
  go_wp2_with (first
    | (go_at_call 13; (with_reducible refine r_callR (by assumption) (cD.out _ (hv.out.from H.below)) ?_); intro w H)
    | (go_at_call 14; (with_reducible refine r_callR (by assumption) (cT.out _) ?_); intro w H))
  go_ret2
  exact ⟨rfl, H.below⟩
set_option maxHeartbeats 1000000 in
theorem pub_no (s : ByteArray) (hs : ((s.size : Int) != 32) = true) (wS : World) : Calls Tryz.prog 6 #[.string s] wS (RetV (.tuple #[.string ⟨#[]⟩, .int .i64 70]) wS) := by
  have H := RMem.start wS
  go_enter Tryz.func6, Tryz.ntmps6
  go_wp2
  go_ret2
  exact ⟨rfl, H.below⟩
set_option maxHeartbeats 1000000 in
theorem sig_no (s m : ByteArray) (hs : ((s.size : Int) != 32) = true) (wS : World) : Calls Tryz.prog 8 #[.string s, .string m] wS (RetV (.tuple #[.string ⟨#[]⟩, .int .i64 70]) wS) := by
  have H := RMem.start wS
  go_enter Tryz.func8, Tryz.ntmps8
  go_wp2
  go_ret2
  exact ⟨rfl, H.below⟩
set_option maxHeartbeats 4000000 in
theorem sig_core (s m a p r q k t n : ByteArray) (hs : s.size = 32) (hq : q.size = 32) (hn : n.size = 32) (cD : ∀ w, Sh.Vars w → Calls Tryz.prog 13 #[.string s] w (RetV (.tuple #[.string a, .string p]) w)) (c1 : ∀ gs w (n2 : Nat), n2 = 2 → Sh.Vars w → w.heap[gs]? = some (.cells ([.string p, .string m] : List Value).toArray 9 (0, 0)) → Calls Tryz.prog 18 #[.slice (some ⟨gs, 0, none⟩) n2 n2] w (RetV (.string r) w)) (cq : ∀ w, Calls Tryz.prog 14 #[.string r] w (RetV (.string q) w)) (ck : ∀ w, Calls Tryz.prog 14 #[.string a] w (RetV (.string k) w)) (c3 : ∀ gs w (n2 : Nat), n2 = 3 → Sh.Vars w → w.heap[gs]? = some (.cells ([.string q, .string k, .string m] : List Value).toArray 9 (0, 0)) → Calls Tryz.prog 18 #[.slice (some ⟨gs, 0, none⟩) n2 n2] w (RetV (.string t) w)) (cp : ∀ w, Calls Tryz.prog 19 #[.string r, .string t, .string a] w (RetV (.string n) w)) (wS : World) (hv : Sh.Vars wS) : Calls Tryz.prog 8 #[.string s, .string m] wS (RetV (.tuple #[.string (q ++ n), .int .i64 0]) wS) := by
  have H := RMem.start wS
  replace hv := Kept.mk hv
  replace cD := Kept.mk cD
  replace c1 := Kept.mk c1
  replace cq := Kept.mk cq
  replace ck := Kept.mk ck
  replace c3 := Kept.mk c3
  replace cp := Kept.mk cp
  go_enter Tryz.func8, Tryz.ntmps8
  go_wp2_with (first
    | (refine b_slice2 rfl _ rfl _ _ (by rw [Array.toList_map]; rfl) (by assumption) ?_; intro g w H; try simp only [Act.put, yI, yC, yZ])
    | (refine b_slice3 rfl _ rfl _ _ _ (by rw [Array.toList_map]; rfl) (by assumption) ?_; intro g w H; try simp only [Act.put, yI, yC, yZ])
    | (go_at_call 13; (with_reducible refine r_callR (by assumption) (cD.out _ (hv.out.from H.below)) ?_); intro w H)
    | (go_at_call 18; (with_reducible refine r_callR (by assumption) (c1.out _ _ _ ?_ ?_ ?_) ?_); exact Eq.refl (2 : Nat); exact (hv.out.from H.below); exact H.holds _ _ _ mem_hd; intro w H)
    | (go_at_call 14; (with_reducible refine r_callR (by assumption) (cq.out _) ?_); intro w H)
    | (go_at_call 14; (with_reducible refine r_callR (by assumption) (ck.out _) ?_); intro w H)
    | (go_at_call 18; (with_reducible refine r_callR (by assumption) (c3.out _ _ _ ?_ ?_ ?_) ?_); exact Eq.refl (3 : Nat); exact (hv.out.from H.below); exact H.holds _ _ _ mem_hd; intro w H)
    | (go_at_call 19; (with_reducible refine r_callR (by assumption) (cp.out _) ?_); intro w H))
  go_ret2
  exact ⟨rfl, H.below⟩
set_option maxHeartbeats 4000000 in
theorem ver_core (k m g r t nk h x : ByteArray) (o : Bool) (hg : g.size = 64) (e1 : g.extract 0 32 = r) (e2 : g.extract 32 64 = t) (ho : (r.toList == x.toList) = o) (cN : ∀ w, Calls Tryz.prog 23 #[.string k] w (RetV (.tuple #[.string nk, .int .i64 0]) w)) (cI : ∀ w, Calls Tryz.prog 24 #[.string t] w (RetV (.bool true) w)) (c3 : ∀ gs w (n2 : Nat), n2 = 3 → Sh.Vars w → w.heap[gs]? = some (.cells ([.string r, .string k, .string m] : List Value).toArray 9 (0, 0)) → Calls Tryz.prog 18 #[.slice (some ⟨gs, 0, none⟩) n2 n2] w (RetV (.string h) w)) (cB : ∀ w, Calls Tryz.prog 25 #[.string h, .string nk, .string t] w (RetV (.tuple #[.string x, .int .i64 0]) w)) (wS : World) (hv : Sh.Vars wS) : Calls Tryz.prog 11 #[.string k, .string m, .string g] wS (RetV (.bool o) wS) := by
  have H := RMem.start wS
  replace hv := Kept.mk hv
  replace cN := Kept.mk cN
  replace cI := Kept.mk cI
  replace c3 := Kept.mk c3
  replace cB := Kept.mk cB
  go_enter Tryz.func11, Tryz.ntmps11
  go_wp2_with (first
    | (go_at_call 23; (with_reducible refine r_callR (by assumption) (cN.out _) ?_); intro w H))
  refine wp_region_from (by kernel_rfl) (by kernel_rfl) ?_
  repeat (go_big_quiet_step (fail))
  refine wpQuiet_nil ?_
  intro w5 hw5
  have H := H.from hw5
  clear hw5
  go_wp2_with (first
    | (refine b_slice3 rfl _ rfl _ _ _ (by rw [Array.toList_map]; rfl) (by assumption) ?_; intro g w H; try simp only [Act.put, yI, yC, yZ])
    | (go_at_call 24; (with_reducible refine r_callR (by assumption) (cI.out _) ?_); intro w H)
    | (go_at_call 18; (with_reducible refine r_callR (by assumption) (c3.out _ _ _ ?_ ?_ ?_) ?_); exact Eq.refl (3 : Nat); exact (hv.out.from H.below); exact H.holds _ _ _ mem_hd; intro w H)
    | (go_at_call 25; (with_reducible refine r_callR (by assumption) (cB.out _) ?_); intro w H))
  go_ret
  exact ⟨rfl, H.below⟩
set_option maxHeartbeats 4000000 in
theorem ver_s_core (k m g r t nk : ByteArray) (hg : g.size = 64) (e1 : g.extract 0 32 = r) (e2 : g.extract 32 64 = t) (cN : ∀ w, Calls Tryz.prog 23 #[.string k] w (RetV (.tuple #[.string nk, .int .i64 0]) w)) (cI : ∀ w, Calls Tryz.prog 24 #[.string t] w (RetV (.bool false) w)) (wS : World) (hv : Sh.Vars wS) : Calls Tryz.prog 11 #[.string k, .string m, .string g] wS (RetV (.bool false) wS) := by
  have H := RMem.start wS
  replace hv := Kept.mk hv
  replace cN := Kept.mk cN
  replace cI := Kept.mk cI
  go_enter Tryz.func11, Tryz.ntmps11
  go_wp2_with (first
    | (go_at_call 23; (with_reducible refine r_callR (by assumption) (cN.out _) ?_); intro w H))
  refine wp_region_from (by kernel_rfl) (by kernel_rfl) ?_
  repeat (go_big_quiet_step (fail))
  refine wpQuiet_nil ?_
  intro w5 hw5
  have H := H.from hw5
  clear hw5
  go_wp2_with (first
    | (go_at_call 24; (with_reducible refine r_callR (by assumption) (cI.out _) ?_); intro w H))
  go_ret
  exact ⟨rfl, H.below⟩
set_option maxHeartbeats 4000000 in
theorem ver_len_core (k m g nk : ByteArray) (hg : ((g.size : Int) != 64) = true) (cN : ∀ w, Calls Tryz.prog 23 #[.string k] w (RetV (.tuple #[.string nk, .int .i64 0]) w)) (wS : World) (hv : Sh.Vars wS) : Calls Tryz.prog 11 #[.string k, .string m, .string g] wS (RetV (.bool false) wS) := by
  have H := RMem.start wS
  replace hv := Kept.mk hv
  replace cN := Kept.mk cN
  go_enter Tryz.func11, Tryz.ntmps11
  go_wp2_with (first
    | (go_at_call 23; (with_reducible refine r_callR (by assumption) (cN.out _) ?_); intro w H))
  go_ret
  exact ⟨rfl, H.below⟩
set_option maxHeartbeats 4000000 in
theorem ver_key_core (k m g : ByteArray) (cN : ∀ w, Calls Tryz.prog 23 #[.string k] w (RetV (.tuple #[.string ⟨#[]⟩, .int .i64 60]) w)) (wS : World) (hv : Sh.Vars wS) : Calls Tryz.prog 11 #[.string k, .string m, .string g] wS (RetV (.bool false) wS) := by
  have H := RMem.start wS
  replace hv := Kept.mk hv
  replace cN := Kept.mk cN
  go_enter Tryz.func11, Tryz.ntmps11
  go_wp2_with (first
    | (go_at_call 23; (with_reducible refine r_callR (by assumption) (cN.out _) ?_); intro w H))
  go_ret
  exact ⟨rfl, H.below⟩
end Go.Proofs.YtgnblaaldpniiaaGreatDoor.Sg
end
section
set_option linter.unusedSimpArgs false
set_option linter.unusedVariables false
set_option maxRecDepth 100000
namespace Go.Proofs.YtgnblaaldpniiaaGreatDoor.Sg
open Go.RowKit
set_option maxHeartbeats 4000000 in
theorem pubR_core (s a p bs u : ByteArray) (hs : s.size = 32) (cS : ∀ w, Calls Tryz.prog 15 #[.string s] w (RetV (.tuple #[.string a, .string p]) w)) (cB : ∀ w, Calls Tryz.prog 17 #[] w (RetV (.string bs) w)) (cM : ∀ w, Calls Tryz.prog 16 #[.string a, .string bs] w (RetV (.tuple #[.string u, .int .i64 0]) w)) (wS : World) : Calls Tryz.prog 7 #[.string s] wS (RetV (.tuple #[.string u, .int .i64 0]) wS) := by
  have H := RMem.start wS
  replace cS := Kept.mk cS
  replace cB := Kept.mk cB
  replace cM := Kept.mk cM
  go_enter Tryz.func7, Tryz.ntmps7
  go_wp2_with (first
    | (go_at_call 15; (with_reducible refine r_call (by assumption) (cS.out _) ?_); intro w H)
    | (go_at_call 17; (with_reducible refine r_call (by assumption) (cB.out _) ?_); intro w H)
    | (go_at_call 16; (with_reducible refine r_call (by assumption) (cM.out _) ?_); intro w H))
  go_ret2
  exact ⟨rfl, H.below⟩
set_option maxHeartbeats 1000000 in
theorem pubR_no (s : ByteArray) (hs : ((s.size : Int) != 32) = true) (wS : World) : Calls Tryz.prog 7 #[.string s] wS (RetV (.tuple #[.string ⟨#[]⟩, .int .i64 70]) wS) := by
  have H := RMem.start wS
  go_enter Tryz.func7, Tryz.ntmps7
  go_wp2
  go_ret2
  exact ⟨rfl, H.below⟩
set_option maxHeartbeats 4000000 in
theorem sigR_core (s m a p k r bs q t v n : ByteArray) (hp : p.size = 32) (hm : m.size ≤ 1000) (hq : q.size = 32) (hk : k.size = 32) (hn : n.size = 32) (hqk : (q ++ k).size = 64) (cP : ∀ w, Calls Tryz.prog 7 #[.string s] w (RetV (.tuple #[.string k, .int .i64 0]) w)) (cS : ∀ w, Calls Tryz.prog 15 #[.string s] w (RetV (.tuple #[.string a, .string p]) w)) (c1 : ∀ w, Calls Tryz.prog 20 #[.string (p ++ m)] w (RetV (.string r) w)) (cB : ∀ w, Calls Tryz.prog 17 #[] w (RetV (.string bs) w)) (cM : ∀ w, Calls Tryz.prog 16 #[.string r, .string bs] w (RetV (.tuple #[.string q, .int .i64 0]) w)) (c2 : ∀ w, Calls Tryz.prog 20 #[.string (q ++ k ++ m)] w (RetV (.string t) w)) (cU : ∀ w, Calls Tryz.prog 21 #[.string t, .string a] w (RetV (.tuple #[.string v, .int .i64 0]) w)) (cA : ∀ w, Calls Tryz.prog 22 #[.string r, .string v] w (RetV (.tuple #[.string n, .int .i64 0]) w)) (wS : World) : Calls Tryz.prog 9 #[.string s, .string m] wS (RetV (.tuple #[.string (q ++ n), .int .i64 0]) wS) := by
  have H := RMem.start wS
  replace cP := Kept.mk cP
  replace cS := Kept.mk cS
  replace c1 := Kept.mk c1
  replace cB := Kept.mk cB
  replace cM := Kept.mk cM
  replace c2 := Kept.mk c2
  replace cU := Kept.mk cU
  replace cA := Kept.mk cA
  go_enter Tryz.func9, Tryz.ntmps9
  go_wp2_with (first
    | (go_at_call 7; (with_reducible refine r_call (by assumption) (cP.out _) ?_); intro w H)
    | (go_at_call 15; (with_reducible refine r_call (by assumption) (cS.out _) ?_); intro w H)
    | (go_at_call 20; (with_reducible refine r_call (by assumption) (c1.out _) ?_); intro w H)
    | (go_at_call 17; (with_reducible refine r_call (by assumption) (cB.out _) ?_); intro w H)
    | (go_at_call 16; (with_reducible refine r_call (by assumption) (cM.out _) ?_); intro w H)
    | (go_at_call 20; (with_reducible refine r_call (by assumption) (c2.out _) ?_); intro w H)
    | (go_at_call 21; (with_reducible refine r_call (by assumption) (cU.out _) ?_); intro w H)
    | (go_at_call 22; (with_reducible refine r_call (by assumption) (cA.out _) ?_); intro w H))
  go_ret2
  exact ⟨rfl, H.below⟩
set_option maxHeartbeats 4000000 in
theorem sigR_no (s m : ByteArray) (cP : ∀ w, Calls Tryz.prog 7 #[.string s] w (RetV (.tuple #[.string ⟨#[]⟩, .int .i64 70]) w)) (wS : World) : Calls Tryz.prog 9 #[.string s, .string m] wS (RetV (.tuple #[.string ⟨#[]⟩, .int .i64 70]) wS) := by
  have H := RMem.start wS
  replace cP := Kept.mk cP
  go_enter Tryz.func9, Tryz.ntmps9
  go_wp2_with (first
    | (go_at_call 7; (with_reducible refine r_call (by assumption) (cP.out _) ?_); intro w H))
  go_ret2
  exact ⟨rfl, H.below⟩
end Go.Proofs.YtgnblaaldpniiaaGreatDoor.Sg
end
section
set_option linter.unusedSimpArgs false
set_option linter.unusedVariables false
set_option maxRecDepth 100000
namespace Go.Proofs.YtgnblaaldpniiaaGreatDoor.Sg
open Go.RowKit
set_option maxHeartbeats 1000000 in
theorem short_le (s : ByteArray) (h : s.size ≤ 1000) (hm : min (s.size : Int) 1000 = (s.size : Int)) (wS : World) : Calls Tryz.prog 5 #[.string s] wS (RetV (.string s) wS) := by
  have HB := Kept.mk (Below.refl wS.heap.size wS)
  go_enter Tryz.func5, Tryz.ntmps5
  go_wp2
  go_ret
  exact ⟨rfl, HB.out⟩
set_option maxHeartbeats 1000000 in
theorem short_gt (s : ByteArray) (h : 1000 < s.size) (hm : min (s.size : Int) 1000 = 1000) (wS : World) : Calls Tryz.prog 5 #[.string s] wS (RetV (.string (s.extract 0 1000)) wS) := by
  have HB := Kept.mk (Below.refl wS.heap.size wS)
  go_enter Tryz.func5, Tryz.ntmps5
  go_wp2
  go_ret
  exact ⟨rfl, HB.out⟩
set_option maxHeartbeats 6400000 in
theorem fix_core (k g ek eg : ByteArray) (hk : k.size = 32) (hg : g.size = 64) (xk : k.extract 0 4 = ek) (xg : g.extract 0 4 = eg) (yk : (ek.toList == [215, 90, 152, 1]) = true) (yg : (eg.toList == [229, 86, 67, 0]) = true) (c1 : ∀ w, Sh.Vars w → Calls Tryz.prog 6 #[.string ⟨#[157, 97, 177, 157, 239, 253, 90, 96, 186, 132, 74, 244, 146, 236, 44, 196, 68, 73, 197, 105, 123, 50, 105, 25, 112, 59, 172, 3, 28, 174, 127, 96]⟩] w (RetV (.tuple #[.string k, .int .i64 0]) w)) (c2 : ∀ w, Sh.Vars w → Calls Tryz.prog 8 #[.string ⟨#[157, 97, 177, 157, 239, 253, 90, 96, 186, 132, 74, 244, 146, 236, 44, 196, 68, 73, 197, 105, 123, 50, 105, 25, 112, 59, 172, 3, 28, 174, 127, 96]⟩, .string ⟨#[]⟩] w (RetV (.tuple #[.string g, .int .i64 0]) w)) (c3 : ∀ w, Sh.Vars w → Calls Tryz.prog 6 #[.string ⟨#[]⟩] w (RetV (.tuple #[.string ⟨#[]⟩, .int .i64 70]) w)) (c4 : ∀ w, Sh.Vars w → Calls Tryz.prog 8 #[.string ⟨#[120]⟩, .string ⟨#[]⟩] w (RetV (.tuple #[.string ⟨#[]⟩, .int .i64 70]) w)) (c5 : ∀ w, Sh.Vars w → Calls Tryz.prog 11 #[.string k, .string ⟨#[]⟩, .string g] w (RetV (.bool true) w)) (c6 : ∀ w, Sh.Vars w → Calls Tryz.prog 11 #[.string k, .string ⟨#[120]⟩, .string g] w (RetV (.bool false) w)) (c7 : ∀ w, Sh.Vars w → Calls Tryz.prog 11 #[.string k, .string ⟨#[]⟩, .string ⟨#[]⟩] w (RetV (.bool false) w))  (wS : World) (hv : Sh.Vars wS) : Calls Tryz.prog 10 #[] wS (RetV (.bool true) wS) := by
  have HB := Kept.mk (Below.refl wS.heap.size wS)
  replace hv := Kept.mk hv
  replace c1 := Kept.mk c1
  replace c2 := Kept.mk c2
  replace c3 := Kept.mk c3
  replace c4 := Kept.mk c4
  replace c5 := Kept.mk c5
  replace c6 := Kept.mk c6
  replace c7 := Kept.mk c7
  go_enter Tryz.func10, Tryz.ntmps10
  go_wp2_with (first
    | (go_at_call 6; (with_reducible refine (c1.out _ (hv.out.from HB.out)).mono ?_); rintro _ w2 ⟨rfl, hb2⟩; have HB := Kept.mk (HB.out.trans (hb2.mono HB.out.size)); clear hb2)
    | (go_at_call 8; (with_reducible refine (c2.out _ (hv.out.from HB.out)).mono ?_); rintro _ w2 ⟨rfl, hb2⟩; have HB := Kept.mk (HB.out.trans (hb2.mono HB.out.size)); clear hb2)
    | (go_at_call 6; (with_reducible refine (c3.out _ (hv.out.from HB.out)).mono ?_); rintro _ w2 ⟨rfl, hb2⟩; have HB := Kept.mk (HB.out.trans (hb2.mono HB.out.size)); clear hb2)
    | (go_at_call 8; (with_reducible refine (c4.out _ (hv.out.from HB.out)).mono ?_); rintro _ w2 ⟨rfl, hb2⟩; have HB := Kept.mk (HB.out.trans (hb2.mono HB.out.size)); clear hb2)
    | (go_at_call 11; (with_reducible refine (c5.out _ (hv.out.from HB.out)).mono ?_); rintro _ w2 ⟨rfl, hb2⟩; have HB := Kept.mk (HB.out.trans (hb2.mono HB.out.size)); clear hb2)
    | (go_at_call 11; (with_reducible refine (c6.out _ (hv.out.from HB.out)).mono ?_); rintro _ w2 ⟨rfl, hb2⟩; have HB := Kept.mk (HB.out.trans (hb2.mono HB.out.size)); clear hb2)
    | (go_at_call 11; (with_reducible refine (c7.out _ (hv.out.from HB.out)).mono ?_); rintro _ w2 ⟨rfl, hb2⟩; have HB := Kept.mk (HB.out.trans (hb2.mono HB.out.size)); clear hb2))
  go_ret
  exact ⟨rfl, HB.out⟩
set_option maxHeartbeats 6400000 in
theorem signs_core (s m n k g : ByteArray) (e e' : Int) (cF : ∀ w, Sh.Vars w → Calls Tryz.prog 10 #[] w (RetV (.bool true) w)) (cH : ∀ w, Calls Tryz.prog 5 #[.string m] w (RetV (.string n) w)) (c1 : ∀ w, Sh.Vars w → Calls Tryz.prog 6 #[.string s] w (RetV (.tuple #[.string k, .int .i64 e]) w)) (c2 : ∀ w, Calls Tryz.prog 7 #[.string s] w (RetV (.tuple #[.string k, .int .i64 e]) w)) (c3 : ∀ w, Sh.Vars w → Calls Tryz.prog 8 #[.string s, .string n] w (RetV (.tuple #[.string g, .int .i64 e']) w)) (c4 : ∀ w, Calls Tryz.prog 9 #[.string s, .string n] w (RetV (.tuple #[.string g, .int .i64 e']) w))  (wS : World) (hv : Sh.Vars wS) : Calls Tryz.prog 3 #[.string s, .string m] wS (RetV (.bool true) wS) := by
  have HB := Kept.mk (Below.refl wS.heap.size wS)
  replace hv := Kept.mk hv
  replace cF := Kept.mk cF
  replace cH := Kept.mk cH
  replace c1 := Kept.mk c1
  replace c2 := Kept.mk c2
  replace c3 := Kept.mk c3
  replace c4 := Kept.mk c4
  go_enter Tryz.func3, Tryz.ntmps3
  go_wp2_with (first
    | (go_at_call 10; (with_reducible refine (cF.out _ (hv.out.from HB.out)).mono ?_); rintro _ w2 ⟨rfl, hb2⟩; have HB := Kept.mk (HB.out.trans (hb2.mono HB.out.size)); clear hb2)
    | (go_at_call 5; (with_reducible refine (cH.out _).mono ?_); rintro _ w2 ⟨rfl, hb2⟩; have HB := Kept.mk (HB.out.trans (hb2.mono HB.out.size)); clear hb2)
    | (go_at_call 6; (with_reducible refine (c1.out _ (hv.out.from HB.out)).mono ?_); rintro _ w2 ⟨rfl, hb2⟩; have HB := Kept.mk (HB.out.trans (hb2.mono HB.out.size)); clear hb2)
    | (go_at_call 7; (with_reducible refine (c2.out _).mono ?_); rintro _ w2 ⟨rfl, hb2⟩; have HB := Kept.mk (HB.out.trans (hb2.mono HB.out.size)); clear hb2)
    | (go_at_call 8; (with_reducible refine (c3.out _ (hv.out.from HB.out)).mono ?_); rintro _ w2 ⟨rfl, hb2⟩; have HB := Kept.mk (HB.out.trans (hb2.mono HB.out.size)); clear hb2)
    | (go_at_call 9; (with_reducible refine (c4.out _).mono ?_); rintro _ w2 ⟨rfl, hb2⟩; have HB := Kept.mk (HB.out.trans (hb2.mono HB.out.size)); clear hb2))
  go_ret
  exact ⟨rfl, HB.out⟩
end Go.Proofs.YtgnblaaldpniiaaGreatDoor.Sg
end
section
set_option linter.unusedSimpArgs false
set_option linter.unusedVariables false
set_option maxRecDepth 100000
namespace Go.Proofs.YtgnblaaldpniiaaGreatDoor.Sg
open Go.RowKit
theorem scB_leB (x : Nat) : Sc.scB x = leB (x % oL) := by
  have h := leB_numB (Sc.scB x) (Sc.scB_len x) (numB_lt _ (Sc.scB_len x))
  rw [← h]
  exact congrArg leB (Sc.scB_num x)
theorem isSc_is {l : List UInt8} (hl : l.length = 32) : Sc.isSc l = decide (numB l < oL) := by
  unfold Sc.isSc
  rw [decide_eq_true hl, Bool.true_and]
  rfl
theorem redR (s : List UInt8) (hs : s.length ≤ 2000) (w : World) : Calls Tryz.prog 20 #[.string (S s)] w (RetV (.string (S (leB (redN H5 s)))) w) := by
  have h := reduced_core s (H5 s) (by rw [H5_len]; omega) (fun w => oneR s w hs) w
  rw [scB_leB] at h
  exact h
theorem secR (s : List UInt8) (hs : s.length ≤ 2000) (w : World) : Calls Tryz.prog 15 #[.string (S s)] w (RetV (.tuple #[.string (S (secB (H5 s))), .string (S (preL H5 s))]) w) := secret_core s (H5 s) (H5_len s) (fun w => oneR s w hs) w
theorem baseR (w : World) : Calls Tryz.prog 17 #[] w (RetV (.string (S (encP pbase))) w) := by rw [enc_base]; exact BaseS_any w
theorem secB_l (s : List UInt8) : (secB (H5 s)).length = 32 := secB_len _ (H5_len s)
theorem PubR_ok (s : List UInt8) (hs : s.length = 32) (w : World) : Calls Tryz.prog 7 #[.string (S s)] w (RetV (.tuple #[.string (S (keyL H5 s)), .int .i64 0]) w) :=
  pubR_core (S s) _ _ _ _ (by rw [S_size, hs]) (fun w => secR s (by omega) w) baseR (fun w => MulC_ok (secB_l s) (dec_enc pbase_on) w) w
theorem size_no {s : List UInt8} (h : s.length ≠ 32) : (((S s).size : Int) != 32) = true := by rw [S_size]; simp; omega
theorem PubR_no (s : List UInt8) (hs : s.length ≠ 32) (w : World) : Calls Tryz.prog 7 #[.string (S s)] w (RetV (.tuple #[.string ⟨#[]⟩, .int .i64 70]) w) := pubR_no (S s) (size_no hs) w
theorem keyL_len (s : List UInt8) : (keyL H5 s).length = 32 := encP_len _
theorem preL_len (s : List UInt8) : (preL H5 s).length = 32 := by unfold preL; rw [List.length_drop, H5_len]
theorem redN_lt (l : List UInt8) : redN H5 l < oL := Nat.mod_lt _ oL_pos
theorem num_red (l : List UInt8) : numB (leB (redN H5 l)) = redN H5 l := numB_leB _ (Nat.lt_trans (redN_lt l) oL_big)
theorem SigR_ok (s m : List UInt8) (hs : s.length = 32) (hm : m.length ≤ 1000) (w : World) : Calls Tryz.prog 9 #[.string (S s), .string (S m)] w (RetV (.tuple #[.string (S (sigL H5 s m)), .int .i64 0]) w) := by
  have c1 := fun w => redR (preL H5 s ++ m) (by rw [List.length_append, preL_len]; omega) w
  have cM := fun w => MulC_ok (k := leB (redN H5 (preL H5 s ++ m))) (leB_len _) (dec_enc pbase_on) w
  rw [num_red] at cM
  have c2 := fun w => redR (rL H5 s m ++ keyL H5 s ++ m) (by rw [List.length_append, List.length_append, rL_len, keyL_len]; omega) w
  have cU := fun w => Sc.MulR_ok (leB (kN H5 (rL H5 s m) (keyL H5 s) m)) (secB (H5 s)) (leB_len _) (secB_l s) w
  have cA := fun w => Sc.AddR_ok (leB (rN H5 s m)) (Sc.scB (Sc.numB (leB (kN H5 (rL H5 s m) (keyL H5 s) m)) * Sc.numB (secB (H5 s)))) (leB_len _) (Sc.scB_len _) w
  have e : Sc.scB (Sc.numB (leB (rN H5 s m)) + Sc.numB (Sc.scB (Sc.numB (leB (kN H5 (rL H5 s m) (keyL H5 s) m)) * Sc.numB (secB (H5 s))))) = leB (sN H5 s m) := by
    rw [scB_leB]
    refine congrArg leB ?_
    rw [Sc.scB_num]
    have h1 : Sc.numB (leB (rN H5 s m)) = rN H5 s m := num_red _
    have h2 : Sc.numB (leB (kN H5 (rL H5 s m) (keyL H5 s) m)) = kN H5 (rL H5 s m) (keyL H5 s) m := num_red _
    rw [h1, h2]
    show (rN H5 s m + (kN H5 (rL H5 s m) (keyL H5 s) m * secN H5 s) % oL) % oL = _
    rw [Nat.add_mod_mod]
    rfl
  rw [e] at cA
  rw [← S_append] at c1
  rw [← S_append, ← S_append] at c2
  unfold sigL
  rw [← S_append]
  exact sigR_core (S s) (S m) _ _ _ _ _ _ _ _ _ (by rw [S_size, preL_len]) (by rw [S_size]; exact hm) (by rw [S_size, encP_len]) (by rw [S_size, keyL_len]) (by rw [S_size, leB_len]) (by rw [S_append, S_size, List.length_append, encP_len, keyL_len]) (fun w => PubR_ok s hs w) (fun w => secR s (by omega) w) c1 baseR cM c2 cU cA w
theorem SigR_no (s m : List UInt8) (hs : s.length ≠ 32) (w : World) : Calls Tryz.prog 9 #[.string (S s), .string (S m)] w (RetV (.tuple #[.string ⟨#[]⟩, .int .i64 70]) w) := sigR_no (S s) (S m) (fun w => PubR_no s hs w) w
end Go.Proofs.YtgnblaaldpniiaaGreatDoor.Sg
end
