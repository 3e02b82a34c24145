/- Package curve: the total of one or two multiples. -/
import Derived.Test.YtgnblaaldpniiaaGreatDoorZM7
set_option linter.unusedSimpArgs false
set_option linter.unusedVariables false
set_option maxRecDepth 100000
namespace Go.Proofs.YtgnblaaldpniiaaGreatDoor
open Go.RowKit
def addF (q : T4) : Value := .func (.func 50) #[.agg (tC4 q).toArray] #[]
def mC (s : ByteArray) (f : Value) : List Value := [.string s, f]
theorem infoM : (Tryz.prog.info? 65).map (·.size) = some 2 := by kernel_rfl
theorem zero_mC : ∀ w, (zeroValue 65).run Tryz.prog w = .ok (.agg (mC ⟨#[]⟩ .nilFunc).toArray) w := (zero_of_info (n := 2) (by kernel_rfl)).1
theorem mC_one (s : ByteArray) (q : T4) : (mC s (addF q)).toArray.all (·.oneCell') = true := by simp [mC, addF, Value.oneCell']
section
variable {ops : Array Oper} {rest : List Oper} {o : Oper} {a : Act} {w0 w : World} {Q : Exit → Act → World → Prop} {L : List Cells}
theorem m_alloc (hg : o.guard = none) (ho : o.op = .alloc 65) (H : RMem w0 w L)
    (h : ∀ g w', RMem w0 w' ((g, 65, mC ⟨#[]⟩ .nilFunc) :: L) → wpList Tryz.prog ops Q rest (a.put o.dst (.pointer (some ⟨g, 0, none⟩))) w') : wpList Tryz.prog ops Q (o :: rest) a w := r_alloc hg _ ho _ zero_mC H h
theorem m_store (hg : o.guard = none) (v u : Operand) (ho : o.op = .store 65 v u) (g : Nat) (s' : ByteArray) (f' : Value) (s : ByteArray) (q : T4) (hv : a.eval v = .pointer (some ⟨g, 0, none⟩)) (hu : a.eval u = .agg (mC s (addF q)).toArray) (B : List Cells) (H : RMem w0 w ((g, 65, mC s' f') :: B))
    (h : ∀ w', RMem w0 w' ((g, 65, mC s (addF q)) :: B) → wpList Tryz.prog ops Q rest (a.put o.dst undef) w') : wpList Tryz.prog ops Q (o :: rest) a w := r_store hg _ v u ho g _ _ _ hv hu [] B H infoM rfl (mC_one s q) h
theorem m_times (hg : o.guard = none) (v : Operand) (ho : o.op = .load 9 v) (g : Nat) (s : ByteArray) (f : Value) (hv : a.eval v = .pointer (some ⟨g, 0, none⟩)) (H : RMem w0 w L) (hm : (g, 65, mC s f) ∈ L)
    (h : wpList Tryz.prog ops Q rest (a.put o.dst (.string s)) w) : wpList Tryz.prog ops Q (o :: rest) a w := r_cell hg _ v ho _ Tryz.underlying9 rfl g 0 _ _ _ hv H hm rfl h
theorem m_add (hg : o.guard = none) (v : Operand) (ho : o.op = .load 63 v) (g : Nat) (s : ByteArray) (q : T4) (hv : a.eval v = .pointer (some ⟨g, 1, none⟩)) (H : RMem w0 w L) (hm : (g, 65, mC s (addF q)) ∈ L)
    (h : wpList Tryz.prog ops Q rest (a.put o.dst (.func (.func 50) #[.agg (tC4 q).toArray] #[])) w) : wpList Tryz.prog ops Q (o :: rest) a w := r_cell hg _ v ho _ Tryz.underlying63 rfl g 1 _ _ _ hv H hm rfl h
theorem m_old (hg : o.guard = none) (v : Operand) (ho : o.op = .load 65 v) (g off : Nat) (cs : List Value) (s : ByteArray) (f : Value) (hs : w0.heap[g]? = some (.cells cs.toArray 65 (0, 0))) (hv : a.eval v = .pointer (some ⟨g, off, none⟩)) (hy : (cs.drop off).take 2 = mC s f) (H : RMem w0 w L)
    (h : wpList Tryz.prog ops Q rest (a.put o.dst (.agg (mC s f).toArray)) w) : wpList Tryz.prog ops Q (o :: rest) a w := by
  refine wpList_load_mid hg _ v ho g off hv (mC s f) _ (fun j x hj => ?_) Tryz.underlying65 rfl infoM h
  have hlt : g < w0.heap.size := (Array.getElem?_eq_some_iff.1 hs).1
  rw [cell_of_row w g _ _ _ _ ((H.below.block g hlt).trans hs), List.getElem?_toArray]
  rw [← hy, List.getElem?_take] at hj
  split at hj
  · rwa [List.getElem?_drop] at hj
  · cases hj
end
theorem at_zero (w : World) : Calls Tryz.prog 48 #[.string ⟨#[0, 0, 0, 0, 0, 0, 0, 0, 0, 0, 0, 0, 0, 0, 0, 0, 0, 0, 0, 0, 0, 0, 0, 0, 0, 0, 0, 0, 0, 0, 0, 0]⟩, .string ⟨#[1, 0, 0, 0, 0, 0, 0, 0, 0, 0, 0, 0, 0, 0, 0, 0, 0, 0, 0, 0, 0, 0, 0, 0, 0, 0, 0, 0, 0, 0, 0, 0]⟩] w (RetV (.agg (tC4 (tof pzero)).toArray) w) := at_01 w
def TPost (P : Pt) (w : World) (e : Ending) (w' : World) : Prop := ∃ t : T4, t.Ok ∧ Rep4T t P ∧ e = .returned (.agg (tC4 t).toArray) ∧ Below w.heap.size w w'
theorem u_ret_t {fn : Func} {p : Tmp} {t : T4} {P : Pt} {g : Nat} {w0 w : World} {L : List Cells} (hr : fn.results = #[.cell p 57]) (a : Act) (hp : a.tmps.getD p undef = .pointer (some ⟨g, 0, none⟩)) (hf : a.defers = []) (H : RMem w0 w L) (hm : (g, 57, tC4 t) ∈ L) (ht : t.Ok) (hR : Rep4T t P) : bodyPost Tryz.prog fn (TPost P w0) .ret a w :=
  r_ret hr Tryz.underlying57 rfl a hp hf H hm infoQ ⟨t, ht, hR, rfl, H.below⟩
section
variable {ops : Array Oper} {rest : List Oper} {o : Oper} {a : Act} {w0 w : World} {Q : Exit → Act → World → Prop} {L : List Cells}
theorem t_load (hg : o.guard = none) (v : Operand) (ho : o.op = .load 57 v) (g : Nat) (t : T4) (hv : a.eval v = .pointer (some ⟨g, 0, none⟩)) (H : RMem w0 w L) (hm : (g, 57, tC4 t) ∈ L)
    (h : wpList Tryz.prog ops Q rest (a.put o.dst (.agg (tC4 t).toArray)) w) : wpList Tryz.prog ops Q (o :: rest) a w := r_load hg _ v ho _ Tryz.underlying57 rfl g _ _ hv H hm infoQ h
theorem tC4_one (t : T4) : (tC4 t).toArray.all (·.oneCell') = true := qC_one _ _ _ _
theorem t_store0 (hg : o.guard = none) (v u : Operand) (ho : o.op = .store 57 v u) (g : Nat) (x y z t : ByteArray) (s : T4) (hv : a.eval v = .pointer (some ⟨g, 0, none⟩)) (hu : a.eval u = .agg (tC4 s).toArray) (B : List Cells) (H : RMem w0 w ((g, 57, qC x y z t) :: B))
    (h : ∀ w', RMem w0 w' ((g, 57, tC4 s) :: B) → wpList Tryz.prog ops Q rest (a.put o.dst undef) w') : wpList Tryz.prog ops Q (o :: rest) a w := r_store hg _ v u ho g _ _ _ hv hu [] B H infoQ rfl (tC4_one s) h
theorem t_storeT1 (hg : o.guard = none) (v u : Operand) (ho : o.op = .store 57 v u) (g : Nat) (s' s : T4) (hv : a.eval v = .pointer (some ⟨g, 0, none⟩)) (hu : a.eval u = .agg (tC4 s).toArray) (p : Cells) (B : List Cells) (H : RMem w0 w (p :: (g, 57, tC4 s') :: B))
    (h : ∀ w', RMem w0 w' (p :: (g, 57, tC4 s) :: B) → wpList Tryz.prog ops Q rest (a.put o.dst undef) w') : wpList Tryz.prog ops Q (o :: rest) a w := r_store hg _ v u ho g _ _ _ hv hu [p] B H infoQ rfl (tC4_one s) h
theorem t_fin (hg : o.guard = none) (v u : Operand) (ho : o.op = .store 57 v u) (g : Nat) (x y z t : ByteArray) (s : T4) (hv : a.eval v = .pointer (some ⟨g, 0, none⟩)) (hu : a.eval u = .agg (tC4 s).toArray) (H : RMem w0 w L) (hm : (g, 57, qC x y z t) ∈ L)
    (h : ∀ w', RMem w0 w' [(g, 57, tC4 s)] → wpList Tryz.prog ops Q rest (a.put o.dst undef) w') : wpList Tryz.prog ops Q (o :: rest) a w := r_store_fin hg _ v u ho g _ _ _ hv hu H hm infoQ rfl (tC4_one s) h
end
set_option maxHeartbeats 8000000 in
theorem total1 (a1 : List UInt8) (ha1 : a1.length = 32) (q1 : T4) (Q1 : Pt) (hq1 : q1.Ok) (hQ1 : OnC Q1) (hr1 : Rep4T q1 Q1) (gs : Nat) (wS : World) (hs : wS.heap[gs]? = some (.cells (mC (S a1) (addF q1)).toArray 65 (0, 0))) : Calls Tryz.prog 49 #[.slice (some ⟨gs, 0, none⟩) 1 1] wS (TPost (pmul (numB a1) Q1) wS) := by
  have H := RMem.start wS
  replace hs := Kept.mk hs
  have cA := Kept.mk at_zero
  have hsz1 : (S a1).size = 32 := by rw [S_size, ha1]
  replace hsz1 := Kept.mk hsz1
  have z1 : numB a1 / 2 ^ 256 = 0 := Nat.div_eq_of_lt (numB_lt a1 ha1)
  have hstart : Rep4T (tof pzero) (pmul (numB a1 / 2 ^ 256) Q1) := by
    rw [z1]
    exact tof_rep pzero
  have hok0 := tof_ok pzero_on
  replace hstart := Kept.mk hstart
  clear z1
  go_enter Tryz.func49, Tryz.ntmps49
  go_wp2_with (first
    | (refine u_alloc rfl rfl (by assumption) ?_; intro g w H; try simp only [Act.put, yI, yC, yZ])
    | (refine t_store0 rfl _ _ rfl _ _ _ _ _ _ rfl rfl _ (by assumption) ?_; intro w H; try simp only [Act.put, yI, yC, yZ])
    | (go_at_call 48; (with_reducible refine r_call (by assumption) (cA.out _) ?_); intro w H))
  rename_i gr _ _ _ _ _ _ _ _
  go_loopw [4] (fun v4 wr => ∃ (j : Nat) (t : T4), j ≤ 256 ∧ v4 = .int .i64 ((j : Int) - 1) ∧ t.Ok ∧ Rep4T t (pmul (numB a1 / 2 ^ j) Q1) ∧ RMem wS wr [(g, 57, tC4 t), (gr, 57, qC ⟨#[]⟩ ⟨#[]⟩ ⟨#[]⟩ ⟨#[]⟩)]) (fun v4 _ => (RowKit.intOf v4 + 1).toNat)
  case atStart => exact ⟨256, _, by omega, rfl, hok0, hstart.out, H⟩
  case round =>
    clear H
    obtain ⟨j, t, hj, rfl, hok, hrep, H⟩ := hrel
    by_cases hlt : j = 0
    · subst hlt
      rw [Nat.pow_zero, Nat.div_one] at hrep
      replace hrep := Kept.mk hrep
      go_wp2_with (first
        | (refine t_fin rfl _ _ rfl _ _ _ _ _ _ rfl rfl (by assumption) (by (repeat (first | exact .head _ | refine .tail _ ?_))) ?_; intro w H; try simp only [Act.put, yI, yC, yZ])
        | (refine t_load rfl _ rfl _ _ rfl (by assumption) (by (repeat (first | exact .head _ | refine .tail _ ?_))) ?_; try simp only [Act.put, yI, yC, yZ]))
      exact u_ret_t Tryz.results49 _ rfl rfl H (.head _) hok hrep.out
    · obtain ⟨i, rfl⟩ : ∃ i, j = i + 1 := ⟨j - 1, by omega⟩
      rw [show ((i + 1 : Nat) : Int) - 1 = (i : Int) by omega]
      have hok2 := dadd_ok t t
      have hrep2 := dadd_rep (pmul_on hQ1 _) (pmul_on hQ1 _) hrep hrep
      rw [pmul_two hQ1] at hrep2
      have c1 := Kept.mk fun w => plus_T4 t t hok hok w
      generalize dadd t t = t2 at c1 hok2 hrep2
      have hi8 : i / 8 < 32 := by omega
      have h0 : (0 : Int) ≤ (i : Int) := by omega
      have h1 : (i : Int) < 256 := by omega
      have k1 : IntKind.i64.wrap ((i : Int) - 1) = (i : Int) - 1 := by simp [IntKind.wrap, IntKind.signed, IntKind.bits]; omega
      have hs1 : i / 8 < (S a1).size := by rw [hsz1.out]; exact hi8
      obtain ⟨b1, hb1⟩ : ∃ b, a1.getD (i / 8) 0 = b := ⟨_, rfl⟩
      have g1 : (S a1)[i / 8] = b1 := by rw [byte_at, hb1]
      obtain ⟨o1, ho1⟩ : ∃ o, numB a1 / 2 ^ i % 2 = o := ⟨_, rfl⟩
      have kd1 := bit_int a1 i (by omega) b1 hb1 o1 ho1
      have hh1 := half_bit (numB a1) i
      rw [ho1] at hh1
      have hlo1 : o1 = 0 ∨ o1 = 1 := by omega
      clear hok hrep
      rcases hlo1 with e | e
      · subst e
        rw [Nat.add_zero] at hh1
        rw [← hh1] at hrep2
        rw [show ((0 : Nat) : Int) = 0 from rfl] at kd1
        replace hb1 := Kept.mk hb1
        replace ho1 := Kept.mk ho1
        replace hh1 := Kept.mk hh1
        replace hrep2 := Kept.mk hrep2
        go_wp2_with (first
          | (refine t_load rfl _ rfl _ _ rfl (by assumption) (by (repeat (first | exact .head _ | refine .tail _ ?_))) ?_; try simp only [Act.put, yI, yC, yZ])
          | (refine t_store0 rfl _ _ rfl _ _ _ _ _ _ rfl rfl _ (by assumption) ?_; intro w H; try simp only [Act.put, yI, yC, yZ])
          | (go_at_call 50; (with_reducible refine r_call (by assumption) (c1.out _) ?_); intro w H))
        refine wp_loop_rounds 2 ?_
        rw [rounds_succ]
        go_wp2_with (first
          | (refine m_alloc rfl rfl (by assumption) ?_; intro gm w H; try simp only [Act.put, yI, yC, yZ])
          | (refine m_store rfl _ _ rfl _ _ _ _ _ rfl rfl _ (by assumption) ?_; intro w H; try simp only [Act.put, yI, yC, yZ])
          | (refine m_times rfl _ rfl _ _ _ rfl (by assumption) (by (repeat (first | exact .head _ | refine .tail _ ?_))) ?_; try simp only [Act.put, yI, yC, yZ])
          | (refine m_old rfl _ rfl _ _ _ _ _ hs.out rfl rfl (by assumption) ?_; try simp only [Act.put, yI, yC, yZ]))
        have H := H.drop
        rw [rounds_succ]
        go_wp2_with (first
          | (refine u_alloc rfl rfl (by assumption) ?_; intro g w H; try simp only [Act.put, yI, yC, yZ]))
        go_roundw
        case rel => exact ⟨i, _, by omega, val_eq (by omega), hok2, hrep2.out, H⟩
        case measure => first | (simp [RowKit.intOf]; done) | (simp [RowKit.intOf]; omega)
      · subst e
        have hok3 := dadd_ok q1 t2
        have hrep3 := dadd_rep hQ1 (pmul_on hQ1 _) hr1 hrep2
        rw [mul_bit hQ1] at hrep3
        have c2 := Kept.mk fun w => plus_T4 q1 t2 hq1 hok2 w
        generalize dadd q1 t2 = t3 at c2 hok3 hrep3
        rw [← hh1] at hrep3
        rw [show ((1 : Nat) : Int) = 1 from rfl] at kd1
        replace hb1 := Kept.mk hb1
        replace ho1 := Kept.mk ho1
        replace hh1 := Kept.mk hh1
        replace hrep3 := Kept.mk hrep3
        clear hrep2
        go_wp2_with (first
          | (refine t_load rfl _ rfl _ _ rfl (by assumption) (by (repeat (first | exact .head _ | refine .tail _ ?_))) ?_; try simp only [Act.put, yI, yC, yZ])
          | (refine t_store0 rfl _ _ rfl _ _ _ _ _ _ rfl rfl _ (by assumption) ?_; intro w H; try simp only [Act.put, yI, yC, yZ])
          | (go_at_call 50; (with_reducible refine r_call (by assumption) (c1.out _) ?_); intro w H))
        refine wp_loop_rounds 2 ?_
        rw [rounds_succ]
        go_wp2_with (first
          | (refine t_load rfl _ rfl _ _ rfl (by assumption) (by (repeat (first | exact .head _ | refine .tail _ ?_))) ?_; try simp only [Act.put, yI, yC, yZ])
          | (refine t_storeT1 rfl _ _ rfl _ _ _ rfl rfl _ _ (by assumption) ?_; intro w H; try simp only [Act.put, yI, yC, yZ])
          | (refine m_alloc rfl rfl (by assumption) ?_; intro gm w H; try simp only [Act.put, yI, yC, yZ])
          | (refine m_store rfl _ _ rfl _ _ _ _ _ rfl rfl _ (by assumption) ?_; intro w H; try simp only [Act.put, yI, yC, yZ])
          | (refine m_times rfl _ rfl _ _ _ rfl (by assumption) (by (repeat (first | exact .head _ | refine .tail _ ?_))) ?_; try simp only [Act.put, yI, yC, yZ])
          | (refine m_add rfl _ rfl _ _ _ rfl (by assumption) (by (repeat (first | exact .head _ | refine .tail _ ?_))) ?_; try simp only [Act.put, yI, yC, yZ])
          | (refine m_old rfl _ rfl _ _ _ _ _ hs.out rfl rfl (by assumption) ?_; try simp only [Act.put, yI, yC, yZ])
          | (go_at_call 50; (with_reducible refine r_call (by assumption) (c2.out _) ?_); intro w H))
        have H := H.drop
        rw [rounds_succ]
        go_wp2_with (first
          | (refine u_alloc rfl rfl (by assumption) ?_; intro g w H; try simp only [Act.put, yI, yC, yZ]))
        go_roundw
        case rel => exact ⟨i, _, by omega, val_eq (by omega), hok3, hrep3.out, H⟩
        case measure => first | (simp [RowKit.intOf]; done) | (simp [RowKit.intOf]; omega)
set_option maxHeartbeats 8000000 in
theorem total2 (a1 : List UInt8) (ha1 : a1.length = 32) (q1 : T4) (Q1 : Pt) (hq1 : q1.Ok) (hQ1 : OnC Q1) (hr1 : Rep4T q1 Q1) (a2 : List UInt8) (ha2 : a2.length = 32) (q2 : T4) (Q2 : Pt) (hq2 : q2.Ok) (hQ2 : OnC Q2) (hr2 : Rep4T q2 Q2) (gs : Nat) (wS : World) (hs : wS.heap[gs]? = some (.cells (mC (S a1) (addF q1) ++ mC (S a2) (addF q2)).toArray 65 (0, 0))) : Calls Tryz.prog 49 #[.slice (some ⟨gs, 0, none⟩) 2 2] wS (TPost (padd (pmul (numB a1) Q1) (pmul (numB a2) Q2)) wS) := by
  have H := RMem.start wS
  replace hs := Kept.mk hs
  have cA := Kept.mk at_zero
  have hsz1 : (S a1).size = 32 := by rw [S_size, ha1]
  replace hsz1 := Kept.mk hsz1
  have hsz2 : (S a2).size = 32 := by rw [S_size, ha2]
  replace hsz2 := Kept.mk hsz2
  have z1 : numB a1 / 2 ^ 256 = 0 := Nat.div_eq_of_lt (numB_lt a1 ha1)
  have z2 : numB a2 / 2 ^ 256 = 0 := Nat.div_eq_of_lt (numB_lt a2 ha2)
  have hstart : Rep4T (tof pzero) (padd (pmul (numB a1 / 2 ^ 256) Q1) (pmul (numB a2 / 2 ^ 256) Q2)) := by
    rw [z1, z2]
    rw [show pmul 0 Q1 = pzero from rfl, show pmul 0 Q2 = pzero from rfl, padd_zero pzero_on]
    exact tof_rep pzero
  have hok0 := tof_ok pzero_on
  replace hstart := Kept.mk hstart
  clear z1
  clear z2
  go_enter Tryz.func49, Tryz.ntmps49
  go_wp2_with (first
    | (refine u_alloc rfl rfl (by assumption) ?_; intro g w H; try simp only [Act.put, yI, yC, yZ])
    | (refine t_store0 rfl _ _ rfl _ _ _ _ _ _ rfl rfl _ (by assumption) ?_; intro w H; try simp only [Act.put, yI, yC, yZ])
    | (go_at_call 48; (with_reducible refine r_call (by assumption) (cA.out _) ?_); intro w H))
  rename_i gr _ _ _ _ _ _ _ _
  go_loopw [4] (fun v4 wr => ∃ (j : Nat) (t : T4), j ≤ 256 ∧ v4 = .int .i64 ((j : Int) - 1) ∧ t.Ok ∧ Rep4T t (padd (pmul (numB a1 / 2 ^ j) Q1) (pmul (numB a2 / 2 ^ j) Q2)) ∧ RMem wS wr [(g, 57, tC4 t), (gr, 57, qC ⟨#[]⟩ ⟨#[]⟩ ⟨#[]⟩ ⟨#[]⟩)]) (fun v4 _ => (RowKit.intOf v4 + 1).toNat)
  case atStart => exact ⟨256, _, by omega, rfl, hok0, hstart.out, H⟩
  case round =>
    clear H
    obtain ⟨j, t, hj, rfl, hok, hrep, H⟩ := hrel
    by_cases hlt : j = 0
    · subst hlt
      rw [Nat.pow_zero, Nat.div_one, Nat.div_one] at hrep
      replace hrep := Kept.mk hrep
      go_wp2_with (first
        | (refine t_fin rfl _ _ rfl _ _ _ _ _ _ rfl rfl (by assumption) (by (repeat (first | exact .head _ | refine .tail _ ?_))) ?_; intro w H; try simp only [Act.put, yI, yC, yZ])
        | (refine t_load rfl _ rfl _ _ rfl (by assumption) (by (repeat (first | exact .head _ | refine .tail _ ?_))) ?_; try simp only [Act.put, yI, yC, yZ]))
      exact u_ret_t Tryz.results49 _ rfl rfl H (.head _) hok hrep.out
    · obtain ⟨i, rfl⟩ : ∃ i, j = i + 1 := ⟨j - 1, by omega⟩
      rw [show ((i + 1 : Nat) : Int) - 1 = (i : Int) by omega]
      have hok2 := dadd_ok t t
      have hrep2 := dadd_rep (padd_on (pmul_on hQ1 _) (pmul_on hQ2 _)) (padd_on (pmul_on hQ1 _) (pmul_on hQ2 _)) hrep hrep
      rw [padd_swap (pmul_on hQ1 _) (pmul_on hQ2 _) (pmul_on hQ1 _) (pmul_on hQ2 _), pmul_two hQ1, pmul_two hQ2] at hrep2
      have c1 := Kept.mk fun w => plus_T4 t t hok hok w
      generalize dadd t t = t2 at c1 hok2 hrep2
      have hi8 : i / 8 < 32 := by omega
      have h0 : (0 : Int) ≤ (i : Int) := by omega
      have h1 : (i : Int) < 256 := by omega
      have k1 : IntKind.i64.wrap ((i : Int) - 1) = (i : Int) - 1 := by simp [IntKind.wrap, IntKind.signed, IntKind.bits]; omega
      have hs1 : i / 8 < (S a1).size := by rw [hsz1.out]; exact hi8
      obtain ⟨b1, hb1⟩ : ∃ b, a1.getD (i / 8) 0 = b := ⟨_, rfl⟩
      have g1 : (S a1)[i / 8] = b1 := by rw [byte_at, hb1]
      obtain ⟨o1, ho1⟩ : ∃ o, numB a1 / 2 ^ i % 2 = o := ⟨_, rfl⟩
      have kd1 := bit_int a1 i (by omega) b1 hb1 o1 ho1
      have hh1 := half_bit (numB a1) i
      rw [ho1] at hh1
      have hlo1 : o1 = 0 ∨ o1 = 1 := by omega
      have hs2 : i / 8 < (S a2).size := by rw [hsz2.out]; exact hi8
      obtain ⟨b2, hb2⟩ : ∃ b, a2.getD (i / 8) 0 = b := ⟨_, rfl⟩
      have g2 : (S a2)[i / 8] = b2 := by rw [byte_at, hb2]
      obtain ⟨o2, ho2⟩ : ∃ o, numB a2 / 2 ^ i % 2 = o := ⟨_, rfl⟩
      have kd2 := bit_int a2 i (by omega) b2 hb2 o2 ho2
      have hh2 := half_bit (numB a2) i
      rw [ho2] at hh2
      have hlo2 : o2 = 0 ∨ o2 = 1 := by omega
      clear hok hrep
      rcases hlo1 with e | e
      · subst e
        rcases hlo2 with e | e
        · subst e
          rw [Nat.add_zero] at hh1
          rw [← hh1] at hrep2
          rw [Nat.add_zero] at hh2
          rw [← hh2] at hrep2
          rw [show ((0 : Nat) : Int) = 0 from rfl] at kd1
          replace hb1 := Kept.mk hb1
          replace ho1 := Kept.mk ho1
          replace hh1 := Kept.mk hh1
          rw [show ((0 : Nat) : Int) = 0 from rfl] at kd2
          replace hb2 := Kept.mk hb2
          replace ho2 := Kept.mk ho2
          replace hh2 := Kept.mk hh2
          replace hrep2 := Kept.mk hrep2
          go_wp2_with (first
            | (refine t_load rfl _ rfl _ _ rfl (by assumption) (by (repeat (first | exact .head _ | refine .tail _ ?_))) ?_; try simp only [Act.put, yI, yC, yZ])
            | (refine t_store0 rfl _ _ rfl _ _ _ _ _ _ rfl rfl _ (by assumption) ?_; intro w H; try simp only [Act.put, yI, yC, yZ])
            | (go_at_call 50; (with_reducible refine r_call (by assumption) (c1.out _) ?_); intro w H))
          refine wp_loop_rounds 3 ?_
          rw [rounds_succ]
          go_wp2_with (first
            | (refine m_alloc rfl rfl (by assumption) ?_; intro gm w H; try simp only [Act.put, yI, yC, yZ])
            | (refine m_store rfl _ _ rfl _ _ _ _ _ rfl rfl _ (by assumption) ?_; intro w H; try simp only [Act.put, yI, yC, yZ])
            | (refine m_times rfl _ rfl _ _ _ rfl (by assumption) (by (repeat (first | exact .head _ | refine .tail _ ?_))) ?_; try simp only [Act.put, yI, yC, yZ])
            | (refine m_old rfl _ rfl _ _ _ _ _ hs.out rfl rfl (by assumption) ?_; try simp only [Act.put, yI, yC, yZ]))
          have H := H.drop
          rw [rounds_succ]
          go_wp2_with (first
            | (refine m_alloc rfl rfl (by assumption) ?_; intro gm w H; try simp only [Act.put, yI, yC, yZ])
            | (refine m_store rfl _ _ rfl _ _ _ _ _ rfl rfl _ (by assumption) ?_; intro w H; try simp only [Act.put, yI, yC, yZ])
            | (refine m_times rfl _ rfl _ _ _ rfl (by assumption) (by (repeat (first | exact .head _ | refine .tail _ ?_))) ?_; try simp only [Act.put, yI, yC, yZ])
            | (refine m_old rfl _ rfl _ _ _ _ _ hs.out rfl rfl (by assumption) ?_; try simp only [Act.put, yI, yC, yZ]))
          have H := H.drop
          rw [rounds_succ]
          go_wp2_with (first
            | (refine u_alloc rfl rfl (by assumption) ?_; intro g w H; try simp only [Act.put, yI, yC, yZ]))
          go_roundw
          case rel => exact ⟨i, _, by omega, val_eq (by omega), hok2, hrep2.out, H⟩
          case measure => first | (simp [RowKit.intOf]; done) | (simp [RowKit.intOf]; omega)
        · subst e
          have hok4 := dadd_ok q2 t2
          have hrep4 := dadd_rep hQ2 (padd_on (pmul_on hQ1 _) (pmul_on hQ2 _)) hr2 hrep2
          rw [padd_comm (pmul _ Q1), ← padd_assoc hQ2 (pmul_on hQ2 _) (pmul_on hQ1 _), mul_bit hQ2, padd_comm _ (pmul _ Q1)] at hrep4
          have c3 := Kept.mk fun w => plus_T4 q2 t2 hq2 hok2 w
          generalize dadd q2 t2 = t4 at c3 hok4 hrep4
          rw [Nat.add_zero] at hh1
          rw [← hh1] at hrep4
          rw [← hh2] at hrep4
          rw [show ((0 : Nat) : Int) = 0 from rfl] at kd1
          replace hb1 := Kept.mk hb1
          replace ho1 := Kept.mk ho1
          replace hh1 := Kept.mk hh1
          rw [show ((1 : Nat) : Int) = 1 from rfl] at kd2
          replace hb2 := Kept.mk hb2
          replace ho2 := Kept.mk ho2
          replace hh2 := Kept.mk hh2
          replace hrep4 := Kept.mk hrep4
          clear hrep2
          go_wp2_with (first
            | (refine t_load rfl _ rfl _ _ rfl (by assumption) (by (repeat (first | exact .head _ | refine .tail _ ?_))) ?_; try simp only [Act.put, yI, yC, yZ])
            | (refine t_store0 rfl _ _ rfl _ _ _ _ _ _ rfl rfl _ (by assumption) ?_; intro w H; try simp only [Act.put, yI, yC, yZ])
            | (go_at_call 50; (with_reducible refine r_call (by assumption) (c1.out _) ?_); intro w H))
          refine wp_loop_rounds 3 ?_
          rw [rounds_succ]
          go_wp2_with (first
            | (refine m_alloc rfl rfl (by assumption) ?_; intro gm w H; try simp only [Act.put, yI, yC, yZ])
            | (refine m_store rfl _ _ rfl _ _ _ _ _ rfl rfl _ (by assumption) ?_; intro w H; try simp only [Act.put, yI, yC, yZ])
            | (refine m_times rfl _ rfl _ _ _ rfl (by assumption) (by (repeat (first | exact .head _ | refine .tail _ ?_))) ?_; try simp only [Act.put, yI, yC, yZ])
            | (refine m_old rfl _ rfl _ _ _ _ _ hs.out rfl rfl (by assumption) ?_; try simp only [Act.put, yI, yC, yZ]))
          have H := H.drop
          rw [rounds_succ]
          go_wp2_with (first
            | (refine t_load rfl _ rfl _ _ rfl (by assumption) (by (repeat (first | exact .head _ | refine .tail _ ?_))) ?_; try simp only [Act.put, yI, yC, yZ])
            | (refine t_storeT1 rfl _ _ rfl _ _ _ rfl rfl _ _ (by assumption) ?_; intro w H; try simp only [Act.put, yI, yC, yZ])
            | (refine m_alloc rfl rfl (by assumption) ?_; intro gm w H; try simp only [Act.put, yI, yC, yZ])
            | (refine m_store rfl _ _ rfl _ _ _ _ _ rfl rfl _ (by assumption) ?_; intro w H; try simp only [Act.put, yI, yC, yZ])
            | (refine m_times rfl _ rfl _ _ _ rfl (by assumption) (by (repeat (first | exact .head _ | refine .tail _ ?_))) ?_; try simp only [Act.put, yI, yC, yZ])
            | (refine m_add rfl _ rfl _ _ _ rfl (by assumption) (by (repeat (first | exact .head _ | refine .tail _ ?_))) ?_; try simp only [Act.put, yI, yC, yZ])
            | (refine m_old rfl _ rfl _ _ _ _ _ hs.out rfl rfl (by assumption) ?_; try simp only [Act.put, yI, yC, yZ])
            | (go_at_call 50; (with_reducible refine r_call (by assumption) (c3.out _) ?_); intro w H))
          have H := H.drop
          rw [rounds_succ]
          go_wp2_with (first
            | (refine u_alloc rfl rfl (by assumption) ?_; intro g w H; try simp only [Act.put, yI, yC, yZ]))
          go_roundw
          case rel => exact ⟨i, _, by omega, val_eq (by omega), hok4, hrep4.out, H⟩
          case measure => first | (simp [RowKit.intOf]; done) | (simp [RowKit.intOf]; omega)
      · subst e
        rcases hlo2 with e | e
        · subst e
          have hok3 := dadd_ok q1 t2
          have hrep3 := dadd_rep hQ1 (padd_on (pmul_on hQ1 _) (pmul_on hQ2 _)) hr1 hrep2
          rw [← padd_assoc hQ1 (pmul_on hQ1 _) (pmul_on hQ2 _), mul_bit hQ1] at hrep3
          have c2 := Kept.mk fun w => plus_T4 q1 t2 hq1 hok2 w
          generalize dadd q1 t2 = t3 at c2 hok3 hrep3
          rw [← hh1] at hrep3
          rw [Nat.add_zero] at hh2
          rw [← hh2] at hrep3
          rw [show ((1 : Nat) : Int) = 1 from rfl] at kd1
          replace hb1 := Kept.mk hb1
          replace ho1 := Kept.mk ho1
          replace hh1 := Kept.mk hh1
          rw [show ((0 : Nat) : Int) = 0 from rfl] at kd2
          replace hb2 := Kept.mk hb2
          replace ho2 := Kept.mk ho2
          replace hh2 := Kept.mk hh2
          replace hrep3 := Kept.mk hrep3
          clear hrep2
          go_wp2_with (first
            | (refine t_load rfl _ rfl _ _ rfl (by assumption) (by (repeat (first | exact .head _ | refine .tail _ ?_))) ?_; try simp only [Act.put, yI, yC, yZ])
            | (refine t_store0 rfl _ _ rfl _ _ _ _ _ _ rfl rfl _ (by assumption) ?_; intro w H; try simp only [Act.put, yI, yC, yZ])
            | (go_at_call 50; (with_reducible refine r_call (by assumption) (c1.out _) ?_); intro w H))
          refine wp_loop_rounds 3 ?_
          rw [rounds_succ]
          go_wp2_with (first
            | (refine t_load rfl _ rfl _ _ rfl (by assumption) (by (repeat (first | exact .head _ | refine .tail _ ?_))) ?_; try simp only [Act.put, yI, yC, yZ])
            | (refine t_storeT1 rfl _ _ rfl _ _ _ rfl rfl _ _ (by assumption) ?_; intro w H; try simp only [Act.put, yI, yC, yZ])
            | (refine m_alloc rfl rfl (by assumption) ?_; intro gm w H; try simp only [Act.put, yI, yC, yZ])
            | (refine m_store rfl _ _ rfl _ _ _ _ _ rfl rfl _ (by assumption) ?_; intro w H; try simp only [Act.put, yI, yC, yZ])
            | (refine m_times rfl _ rfl _ _ _ rfl (by assumption) (by (repeat (first | exact .head _ | refine .tail _ ?_))) ?_; try simp only [Act.put, yI, yC, yZ])
            | (refine m_add rfl _ rfl _ _ _ rfl (by assumption) (by (repeat (first | exact .head _ | refine .tail _ ?_))) ?_; try simp only [Act.put, yI, yC, yZ])
            | (refine m_old rfl _ rfl _ _ _ _ _ hs.out rfl rfl (by assumption) ?_; try simp only [Act.put, yI, yC, yZ])
            | (go_at_call 50; (with_reducible refine r_call (by assumption) (c2.out _) ?_); intro w H))
          have H := H.drop
          rw [rounds_succ]
          go_wp2_with (first
            | (refine m_alloc rfl rfl (by assumption) ?_; intro gm w H; try simp only [Act.put, yI, yC, yZ])
            | (refine m_store rfl _ _ rfl _ _ _ _ _ rfl rfl _ (by assumption) ?_; intro w H; try simp only [Act.put, yI, yC, yZ])
            | (refine m_times rfl _ rfl _ _ _ rfl (by assumption) (by (repeat (first | exact .head _ | refine .tail _ ?_))) ?_; try simp only [Act.put, yI, yC, yZ])
            | (refine m_old rfl _ rfl _ _ _ _ _ hs.out rfl rfl (by assumption) ?_; try simp only [Act.put, yI, yC, yZ]))
          have H := H.drop
          rw [rounds_succ]
          go_wp2_with (first
            | (refine u_alloc rfl rfl (by assumption) ?_; intro g w H; try simp only [Act.put, yI, yC, yZ]))
          go_roundw
          case rel => exact ⟨i, _, by omega, val_eq (by omega), hok3, hrep3.out, H⟩
          case measure => first | (simp [RowKit.intOf]; done) | (simp [RowKit.intOf]; omega)
        · subst e
          have hok3 := dadd_ok q1 t2
          have hrep3 := dadd_rep hQ1 (padd_on (pmul_on hQ1 _) (pmul_on hQ2 _)) hr1 hrep2
          rw [← padd_assoc hQ1 (pmul_on hQ1 _) (pmul_on hQ2 _), mul_bit hQ1] at hrep3
          have c2 := Kept.mk fun w => plus_T4 q1 t2 hq1 hok2 w
          generalize dadd q1 t2 = t3 at c2 hok3 hrep3
          have hok4 := dadd_ok q2 t3
          have hrep4 := dadd_rep hQ2 (padd_on (pmul_on hQ1 _) (pmul_on hQ2 _)) hr2 hrep3
          rw [padd_comm (pmul _ Q1), ← padd_assoc hQ2 (pmul_on hQ2 _) (pmul_on hQ1 _), mul_bit hQ2, padd_comm _ (pmul _ Q1)] at hrep4
          have c3 := Kept.mk fun w => plus_T4 q2 t3 hq2 hok3 w
          generalize dadd q2 t3 = t4 at c3 hok4 hrep4
          rw [← hh1] at hrep4
          rw [← hh2] at hrep4
          rw [show ((1 : Nat) : Int) = 1 from rfl] at kd1
          replace hb1 := Kept.mk hb1
          replace ho1 := Kept.mk ho1
          replace hh1 := Kept.mk hh1
          rw [show ((1 : Nat) : Int) = 1 from rfl] at kd2
          replace hb2 := Kept.mk hb2
          replace ho2 := Kept.mk ho2
          replace hh2 := Kept.mk hh2
          replace hrep4 := Kept.mk hrep4
          clear hrep2
          clear hrep3
          go_wp2_with (first
            | (refine t_load rfl _ rfl _ _ rfl (by assumption) (by (repeat (first | exact .head _ | refine .tail _ ?_))) ?_; try simp only [Act.put, yI, yC, yZ])
            | (refine t_store0 rfl _ _ rfl _ _ _ _ _ _ rfl rfl _ (by assumption) ?_; intro w H; try simp only [Act.put, yI, yC, yZ])
            | (go_at_call 50; (with_reducible refine r_call (by assumption) (c1.out _) ?_); intro w H))
          refine wp_loop_rounds 3 ?_
          rw [rounds_succ]
          go_wp2_with (first
            | (refine t_load rfl _ rfl _ _ rfl (by assumption) (by (repeat (first | exact .head _ | refine .tail _ ?_))) ?_; try simp only [Act.put, yI, yC, yZ])
            | (refine t_storeT1 rfl _ _ rfl _ _ _ rfl rfl _ _ (by assumption) ?_; intro w H; try simp only [Act.put, yI, yC, yZ])
            | (refine m_alloc rfl rfl (by assumption) ?_; intro gm w H; try simp only [Act.put, yI, yC, yZ])
            | (refine m_store rfl _ _ rfl _ _ _ _ _ rfl rfl _ (by assumption) ?_; intro w H; try simp only [Act.put, yI, yC, yZ])
            | (refine m_times rfl _ rfl _ _ _ rfl (by assumption) (by (repeat (first | exact .head _ | refine .tail _ ?_))) ?_; try simp only [Act.put, yI, yC, yZ])
            | (refine m_add rfl _ rfl _ _ _ rfl (by assumption) (by (repeat (first | exact .head _ | refine .tail _ ?_))) ?_; try simp only [Act.put, yI, yC, yZ])
            | (refine m_old rfl _ rfl _ _ _ _ _ hs.out rfl rfl (by assumption) ?_; try simp only [Act.put, yI, yC, yZ])
            | (go_at_call 50; (with_reducible refine r_call (by assumption) (c2.out _) ?_); intro w H))
          have H := H.drop
          rw [rounds_succ]
          go_wp2_with (first
            | (refine t_load rfl _ rfl _ _ rfl (by assumption) (by (repeat (first | exact .head _ | refine .tail _ ?_))) ?_; try simp only [Act.put, yI, yC, yZ])
            | (refine t_storeT1 rfl _ _ rfl _ _ _ rfl rfl _ _ (by assumption) ?_; intro w H; try simp only [Act.put, yI, yC, yZ])
            | (refine m_alloc rfl rfl (by assumption) ?_; intro gm w H; try simp only [Act.put, yI, yC, yZ])
            | (refine m_store rfl _ _ rfl _ _ _ _ _ rfl rfl _ (by assumption) ?_; intro w H; try simp only [Act.put, yI, yC, yZ])
            | (refine m_times rfl _ rfl _ _ _ rfl (by assumption) (by (repeat (first | exact .head _ | refine .tail _ ?_))) ?_; try simp only [Act.put, yI, yC, yZ])
            | (refine m_add rfl _ rfl _ _ _ rfl (by assumption) (by (repeat (first | exact .head _ | refine .tail _ ?_))) ?_; try simp only [Act.put, yI, yC, yZ])
            | (refine m_old rfl _ rfl _ _ _ _ _ hs.out rfl rfl (by assumption) ?_; try simp only [Act.put, yI, yC, yZ])
            | (go_at_call 50; (with_reducible refine r_call (by assumption) (c3.out _) ?_); intro w H))
          have H := H.drop
          rw [rounds_succ]
          go_wp2_with (first
            | (refine u_alloc rfl rfl (by assumption) ?_; intro g w H; try simp only [Act.put, yI, yC, yZ]))
          go_roundw
          case rel => exact ⟨i, _, by omega, val_eq (by omega), hok4, hrep4.out, H⟩
          case measure => first | (simp [RowKit.intOf]; done) | (simp [RowKit.intOf]; omega)
end Go.Proofs.YtgnblaaldpniiaaGreatDoor
