/- Walks of the document's answer for package field: Roots.
The document's answer for package field: its calls Inv, Root. -/
import Derived.Test.YtgnblaaldpniiaaGreatDoorZA8
section
set_option linter.unusedSimpArgs false
set_option linter.unusedVariables false
set_option maxRecDepth 100000
namespace Go.Proofs.YtgnblaaldpniiaaGreatDoor
open Go.RowKit
section
variable {ops : Array Oper} {rest : List Oper} {o : Oper} {a : Act} {w0 w w' : World} {Q : Exit → Act → World → Prop} {L : List (Nat × List Nat)} {g : Nat}
theorem AMem.extra (H : AMem w0 w L) (h : From w.drew w') (hF : Fresh w 40 (arrA z16) g w') : AMem w0 w' ((g, z16) :: L) := by
  have H2 := H.grow h.of_drew
  refine ⟨H2.below, fun g' y h => ?_, fun g' y h => ?_, fun g' y h => ?_, ?_⟩
  · rcases List.mem_cons.1 h with h | h
    · injection h with h1 h2; subst h1; subst h2; exact ⟨hF.1⟩
    · exact H2.holds g' y h
  · rcases List.mem_cons.1 h with h | h
    · injection h with h1 h2; subst h2; exact z16_len
    · exact H.len g' y h
  · rcases List.mem_cons.1 h with h | h
    · injection h with h1 h2; subst h1; exact Nat.le_trans H.below.size hF.2
    · exact H.ours g' y h
  · rw [List.map_cons, List.nodup_cons]
    refine ⟨fun h => ?_, H.apart⟩
    obtain ⟨⟨g', y⟩, hm, he⟩ := List.mem_map.1 h
    have h3 := (H.holds g' y hm).lt
    have h4 := hF.2
    simp only at he
    omega
theorem a_quiet_load_u {K : Act → Prop} (x : Operand) (ho : o.op = .load 40 x) (g : Nat) (y : List Nat) (hx : a.eval x = .pointer (some ⟨g, 0, none⟩)) (H : AMem w0 w L) (hm : (g, y) ∈ L)
    (h : K (a.put o.dst (.agg (arrA y)))) : o.quiet Tryz.prog a (fun w' => ∃ u : Held (From w), w' = u.w) K :=
  quiet_load_row 40 x ho g hx 40 (arrA y) _ (fun _ ⟨u, e⟩ => ⟨(0, 0), e ▸ ((H.grow u.h.below).holds g y hm).blk⟩) Tryz.underlying40 rfl (arrA_info y (H.len g y hm)) h
theorem a_store4 (hg : o.guard = none) (x v : Operand) (ho : o.op = .store 40 x v) (g : Nat) (old y : List Nat) (hx : a.eval x = .pointer (some ⟨g, 0, none⟩)) (hv : a.eval v = .agg (arrA y)) (p q r s : Nat × List Nat) (B : List (Nat × List Nat)) (H : AMem w0 w (p :: q :: r :: s :: (g, old) :: B)) (hy : y.length = 16)
    (h : ∀ w', AMem w0 w' (p :: q :: r :: s :: (g, y) :: B) → wpList Tryz.prog ops Q rest (a.put o.dst undef) w') : wpList Tryz.prog ops Q (o :: rest) a w := a_store hg x v ho g old y hx hv [p, q, r, s] B H hy h
theorem a_ret2 {R : Ending → World → Prop} {fn : Func} {p q : Tmp} {x y : List Nat} {v v' : Value} {g : Nat} (hr : fn.results = #[.cell p 40, .tmp q]) (a : Act) (hp : a.tmps.getD p undef = .pointer (some ⟨g, 0, none⟩)) (hq : a.tmps.getD q undef = v) (hd : a.defers = []) (H : AMem w0 w L) (hm : (g, x) ∈ L) (hx : x = y) (hv : v = v')
    (h : R (.returned (.tuple #[.agg (arrA y), v'])) w) : bodyPost Tryz.prog fn R .ret a w := by
  subst hx
  subst hv
  have hp' : a.tmps[p]?.getD undef = .pointer (some ⟨g, 0, none⟩) := by simpa using hp
  have hq' : a.tmps[q]?.getD undef = v := by simpa using hq
  have hl := run_loadVar_row (P := Tryz.prog) w g 40 40 (arrA x) (0, 0) _ (H.holds g x hm).blk Tryz.underlying40 rfl (arrA_info x (H.len g x hm))
  refine bodyPost_ret (v := .tuple #[.agg (arrA x), v]) ?_ hd h
  simp [results, hr, hp', hq', asAddr, hl]
end
def RootsPost (l : List Nat) (b : Bool) (w : World) (e : Ending) (w' : World) : Prop := e = .returned (.tuple #[arrV l, .bool b]) ∧ Below w.heap.size w w'
set_option maxHeartbeats 8000000 in
theorem roots_core (a p l5 h3 pw l1 h2 one : List Nat) (rr uu ev : Nat → List Nat) (sm : Int → List Nat) (bs : List Nat → ByteArray) (fl : List Nat) (fb : Bool)
    (na : a.length = 16) (np : p.length = 16) (nl5 : l5.length = 16) (nh3 : h3.length = 16) (npw : pw.length = 16) (nl1 : l1.length = 16) (nh2 : h2.length = 16) (none : one.length = 16) (nr : ∀ k, (rr k).length = 16) (nv : ∀ k, (ev k).length = 16)
    (cP : ∀ w, Calls Tryz.prog 68 #[] w fun e w' => e = .returned (arrV p) ∧ Below w.heap.size w w')
    (cS : ∀ (z : Int) w, (z = 1 ∨ z = 2 ∨ z = 5) → Calls Tryz.prog 38 #[.int .i64 z] w fun e w' => e = .returned (arrV (sm z)) ∧ Below w.heap.size w w')
    (cL5 : ∀ w, Calls Tryz.prog 67 #[arrV p, arrV (sm 5)] w fun e w' => e = .returned (arrV l5) ∧ Below w.heap.size w w')
    (cL1 : ∀ w, Calls Tryz.prog 67 #[arrV p, arrV (sm 1)] w fun e w' => e = .returned (arrV l1) ∧ Below w.heap.size w w')
    (cH3 : ∀ w, Calls Tryz.prog 95 #[arrV l5, .int .i64 3] w fun e w' => e = .returned (arrV h3) ∧ Below w.heap.size w w')
    (cH2 : ∀ w, Calls Tryz.prog 95 #[arrV l1, .int .i64 2] w fun e w' => e = .returned (arrV h2) ∧ Below w.heap.size w w')
    (cW : ∀ w, Calls Tryz.prog 66 #[arrV a, arrV h3] w fun e w' => e = .returned (arrV pw) ∧ Below w.heap.size w w')
    (cO : ∀ w, Calls Tryz.prog 66 #[arrV (sm 2), arrV h2] w fun e w' => e = .returned (arrV one) ∧ Below w.heap.size w w')
    (cR : ∀ w, Calls Tryz.prog 37 #[arrV a, arrV pw] w fun e w' => e = .returned (arrV (rr 0)) ∧ Below w.heap.size w w')
    (cN : ∀ k w, Calls Tryz.prog 37 #[arrV (rr k), arrV one] w fun e w' => e = .returned (arrV (rr (k + 1))) ∧ Below w.heap.size w w')
    (cQ : ∀ k w, Calls Tryz.prog 37 #[arrV (rr k), arrV (rr k)] w fun e w' => e = .returned (arrV (uu k)) ∧ Below w.heap.size w w')
    (cB : ∀ l w, (l = a ∨ ∃ k, l = uu k) → Calls Tryz.prog 36 #[arrV l] w fun e w' => e = .returned (.string (bs l)) ∧ Below w.heap.size w w')
    (cV : ∀ k w, Calls Tryz.prog 67 #[arrV p, arrV (rr k)] w fun e w' => e = .returned (arrV (ev k)) ∧ Below w.heap.size w w')
    (K1 : ∀ k, k < 2 → (∀ j, j < k → (bs (uu j)).toList ≠ (bs a).toList) → (bs (uu k)).toList = (bs a).toList → (if (rr k).getD 0 0 % 2 = 1 then ev k else rr k) = fl ∧ true = fb)
    (K2 : (∀ j, j < 2 → (bs (uu j)).toList ≠ (bs a).toList) → z16 = fl ∧ false = fb) (wS : World) : Calls Tryz.prog 60 #[arrV a] wS (RootsPost fl fb wS) := by
  have H := AMem.start wS
  replace cP := Kept.mk cP
  replace cS := Kept.mk cS
  replace cL5 := Kept.mk cL5
  replace cL1 := Kept.mk cL1
  replace cH3 := Kept.mk cH3
  replace cH2 := Kept.mk cH2
  replace cW := Kept.mk cW
  replace cO := Kept.mk cO
  replace cR := Kept.mk cR
  replace cN := Kept.mk cN
  replace cQ := Kept.mk cQ
  replace cB := Kept.mk cB
  replace cV := Kept.mk cV
  replace K1 := Kept.mk K1
  replace K2 := Kept.mk K2

  have nr0 := nr 0
  replace nr := Kept.mk nr
  replace nv := Kept.mk nv
  obtain ⟨r0, hr0⟩ : ∃ r, rr 0 = r := ⟨_, rfl⟩
  rw [hr0] at cR nr0
  replace hr0 := Kept.mk hr0
  unfold arrV at *
  go_enter Tryz.func60, Tryz.ntmps60
  go_wp2_with (first
    | (refine a_box rfl _ rfl _ rfl (by assumption) (by first | with_reducible assumption | exact z16_len) ?_; intro g w H; try simp only [Act.put, yI, yC, yZ])
    | (refine a_alloc rfl rfl (by assumption) ?_; intro g w H; try simp only [Act.put, yI, yC, yZ])
    | (refine a_store0 rfl _ _ rfl _ _ _ rfl rfl _ (by assumption) (by first | with_reducible assumption | exact z16_len) ?_; intro w H; try simp only [Act.put, yI, yC, yZ])
    | (go_at_call 68; with_reducible refine a_call (by assumption) (cP.out _) ?_; intro w H))
  refine wp_region_from_alloc 5 4 _ 40 (arrA z16) rfl rfl rfl zero_arr (by kernel_rfl) (by kernel_rfl) ?_
  apply Exists.intro
  refine And.intro ?_ (And.intro ?_ ?_)
  · intro u hu x
    have H := H.from hu
    simp only [List.take_succ_cons, List.take_zero, List.eraseIdx_cons_succ, List.eraseIdx_cons_zero, Act.put, yI, yC, yZ]
    repeat (first
      | (go_big_quiet_want; (refine a_quiet_load_u _ rfl _ _ rfl (by assumption) (by (repeat (first | exact .head _ | refine .tail _ ?_))) ?_); try simp only [Act.put, yI, yC, yZ]; go_big_quiet_on)
      | go_big_quiet_step (((first | (go_at_call 38; exact held_call _ (cS.out _ _ (by decide))) | (go_at_call 67; exact held_call _ (cL5.out _)) | (go_at_call 95; exact held_call _ (cH3.out _))))))
    exact wpQuiet_nil rfl
  · exact fun _ => rfl
  intro x w5 hw5 hF
  have H := H.extra hw5 hF
  simp only [List.drop_succ_cons, List.drop_zero]
  go_wp2_with (first
    | (refine a_store0 rfl _ _ rfl _ _ _ rfl rfl _ (by assumption) (by first | with_reducible assumption | exact z16_len) ?_; intro w H; try simp only [Act.put, yI, yC, yZ]))
  refine wp_region_from_alloc 6 5 _ 40 (arrA z16) rfl rfl rfl zero_arr (by kernel_rfl) (by kernel_rfl) ?_
  apply Exists.intro
  refine And.intro ?_ (And.intro ?_ ?_)
  · intro u hu x
    have H := H.from hu
    simp only [List.take_succ_cons, List.take_zero, List.eraseIdx_cons_succ, List.eraseIdx_cons_zero, Act.put, yI, yC, yZ]
    repeat (first
      | (go_big_quiet_want; (refine a_quiet_load_u _ rfl _ _ rfl (by assumption) (by (repeat (first | exact .head _ | refine .tail _ ?_))) ?_); try simp only [Act.put, yI, yC, yZ]; go_big_quiet_on)
      | go_big_quiet_step (((first | (go_at_call 66; exact held_call _ (cW.out _)) | (go_at_call 37; exact held_call _ (cR.out _))))))
    exact wpQuiet_nil rfl
  · exact fun _ => rfl
  intro x w5 hw5 hF
  have H := H.extra hw5 hF
  simp only [List.drop_succ_cons, List.drop_zero]
  go_wp2_with (first
    | (refine a_store0 rfl _ _ rfl _ _ _ rfl rfl _ (by assumption) (by first | with_reducible assumption | exact z16_len) ?_; intro w H; try simp only [Act.put, yI, yC, yZ]))
  refine wp_region_from_alloc 7 6 _ 40 (arrA z16) rfl rfl rfl zero_arr (by kernel_rfl) (by kernel_rfl) ?_
  apply Exists.intro
  refine And.intro ?_ (And.intro ?_ ?_)
  · intro u hu x
    have H := H.from hu
    simp only [List.take_succ_cons, List.take_zero, List.eraseIdx_cons_succ, List.eraseIdx_cons_zero, Act.put, yI, yC, yZ]
    repeat (first
      | (go_big_quiet_want; (refine a_quiet_load_u _ rfl _ _ rfl (by assumption) (by (repeat (first | exact .head _ | refine .tail _ ?_))) ?_); try simp only [Act.put, yI, yC, yZ]; go_big_quiet_on)
      | go_big_quiet_step (((first | (go_at_call 38; exact held_call _ (cS.out _ _ (by decide))) | (go_at_call 67; exact held_call _ (cL1.out _)) | (go_at_call 95; exact held_call _ (cH2.out _)) | (go_at_call 66; exact held_call _ (cO.out _))))))
    exact wpQuiet_nil rfl
  · exact fun _ => rfl
  intro x w5 hw5 hF
  have H := H.extra hw5 hF
  simp only [List.drop_succ_cons, List.drop_zero]
  go_wp2_with (first
    | (refine a_store0 rfl _ _ rfl _ _ _ rfl rfl _ (by assumption) (by first | with_reducible assumption | exact z16_len) ?_; intro w H; try simp only [Act.put, yI, yC, yZ]))
  rename_i g1 _ _ g2 _ _ _ _ _ _ _ _ ge _ _ _ _ _ _ gr _ _ _ _ _ _ _ K _
  rw [← hr0.out] at H
  go_loopw [8] (fun v8 wr => ∃ k : Nat, k ≤ 2 ∧ v8 = .int .i64 (k : Int) ∧ AMem wS wr [(x, one), (gr, rr k), (ge, h3), (g, p), (g2, z16), (g1, a)] ∧ Kept (∀ j, j < k → (bs (uu j)).toList ≠ (bs a).toList)) (fun v8 _ => 2 - (RowKit.intOf v8).toNat)
  case atStart => exact ⟨0, by omega, rfl, H, ⟨fun j h => absurd h (Nat.not_lt_zero j)⟩⟩
  case round =>
    clear H
    obtain ⟨k, hk, rfl, H, HN⟩ := hrel
    by_cases hk2 : k < 2
    · have hk2I : (k : Int) < 2 := by omega
      have k1 := K1.out k hk2 HN.out
      have cq := fun w => cQ.out k w
      have cb : ∀ l w, (l = a ∨ l = uu k) → Calls Tryz.prog 36 #[.agg (arrA l)] w fun e w' => e = .returned (.string (bs l)) ∧ Below w.heap.size w w' := fun l w h => cB.out l w (h.imp id fun h => ⟨k, h⟩)
      have cn := fun w => cN.out k w
      have cv := fun w => cV.out k w
      have nk := nr.out k
      have nk1 := nr.out (k + 1)
      have nvk := nv.out k
      have hN2 : ∀ h : (bs (uu k)).toList ≠ (bs a).toList, ∀ j, j < k + 1 → (bs (uu j)).toList ≠ (bs a).toList := fun h j hj => by
        by_cases e : j = k
        · subst e; exact h
        · exact HN.out j (by omega)
      obtain ⟨r', hr'⟩ : ∃ r, rr (k + 1) = r := ⟨_, rfl⟩
      rw [hr'] at cn nk1
      replace hr' := Kept.mk hr'
      generalize rr k = r at H k1 cq cn cv nk
      generalize uu k = u at cq cb k1 hN2
      generalize ev k = d at cv k1 nvk
      replace cq := Kept.mk cq
      replace cb := Kept.mk cb
      replace cn := Kept.mk cn
      replace cv := Kept.mk cv
      by_cases hq : (bs u).toList = (bs a).toList
      · obtain ⟨kf, kb⟩ := k1 hq
        clear k1
        have hqb : ((bs u).toList == (bs a).toList) = true := by simp [hq]
        obtain ⟨l, hl⟩ : ∃ l, r.getD 0 0 = l := ⟨_, rfl⟩
        rw [hl] at kf
        by_cases ho : l % 2 = 1
        · rw [if_pos ho] at kf
          have hoI : (l : Int) % 2 = 1 := by omega
          replace kf := Kept.mk kf
          replace kb := Kept.mk kb
          replace hq := Kept.mk hq
          replace hN2 := Kept.mk hN2
          replace ho := Kept.mk ho
          clear hN2
          go_wp2_with (first
            | (refine a_box rfl _ rfl _ rfl (by assumption) (by first | with_reducible assumption | exact z16_len) ?_; intro g w H; try simp only [Act.put, yI, yC, yZ]))
          refine wp_region_from (by kernel_rfl) (by kernel_rfl) ?_
          repeat (first
            | (go_big_quiet_want; (refine a_quiet_load _ rfl _ _ rfl (by assumption) (by (repeat (first | exact .head _ | refine .tail _ ?_))) ?_); try simp only [Act.put, yI, yC, yZ]; go_big_quiet_on)
            | go_big_quiet_step (((first | (go_at_call 37; exact held_call _ (cq.out _)) | (go_at_call 36; exact held_call _ (cb.out _ _ (by first | exact .inl rfl | exact .inr rfl)))))))
          refine wpQuiet_nil ?_
          intro w5 hw5
          have H := H.from hw5
          clear hw5
          have c1 := H.cell (.tail _ (.head _)) 0 (by omega)
          rw [hl] at c1
          go_wp2_with (first
            | (refine a_load rfl _ rfl _ _ rfl (by assumption) (by (repeat (first | exact .head _ | refine .tail _ ?_))) ?_; try simp only [Act.put, yI, yC, yZ])
            | (refine a_store1 rfl _ _ rfl _ _ _ rfl rfl _ _ (by assumption) (by first | with_reducible assumption | exact z16_len) ?_; intro w H; try simp only [Act.put, yI, yC, yZ])
            | (refine a_store4 rfl _ _ rfl _ _ _ rfl rfl _ _ _ _ _ (by assumption) (by first | with_reducible assumption | exact z16_len) ?_; intro w H; try simp only [Act.put, yI, yC, yZ])
            | (go_at_call 67; with_reducible refine a_call (by assumption) (cv.out _) ?_; intro w H))
          exact a_ret2 Tryz.results60 _ rfl rfl rfl (by assumption) (by (repeat (first | exact .head _ | refine .tail _ ?_))) kf.out (congrArg Value.bool kb.out) ⟨rfl, H.below⟩
        · rw [if_neg ho] at kf
          have hoI : (l : Int) % 2 = 0 := by omega
          replace kf := Kept.mk kf
          replace kb := Kept.mk kb
          replace hq := Kept.mk hq
          replace hN2 := Kept.mk hN2
          replace ho := Kept.mk ho
          clear hN2
          go_wp2_with (first
            | (refine a_box rfl _ rfl _ rfl (by assumption) (by first | with_reducible assumption | exact z16_len) ?_; intro g w H; try simp only [Act.put, yI, yC, yZ]))
          refine wp_region_from (by kernel_rfl) (by kernel_rfl) ?_
          repeat (first
            | (go_big_quiet_want; (refine a_quiet_load _ rfl _ _ rfl (by assumption) (by (repeat (first | exact .head _ | refine .tail _ ?_))) ?_); try simp only [Act.put, yI, yC, yZ]; go_big_quiet_on)
            | go_big_quiet_step (((first | (go_at_call 37; exact held_call _ (cq.out _)) | (go_at_call 36; exact held_call _ (cb.out _ _ (by first | exact .inl rfl | exact .inr rfl)))))))
          refine wpQuiet_nil ?_
          intro w5 hw5
          have H := H.from hw5
          clear hw5
          have c1 := H.cell (.tail _ (.head _)) 0 (by omega)
          rw [hl] at c1
          go_wp2_with (first
            | (refine a_load rfl _ rfl _ _ rfl (by assumption) (by (repeat (first | exact .head _ | refine .tail _ ?_))) ?_; try simp only [Act.put, yI, yC, yZ])
            | (refine a_store4 rfl _ _ rfl _ _ _ rfl rfl _ _ _ _ _ (by assumption) (by first | with_reducible assumption | exact z16_len) ?_; intro w H; try simp only [Act.put, yI, yC, yZ]))
          exact a_ret2 Tryz.results60 _ rfl rfl rfl (by assumption) (by (repeat (first | exact .head _ | refine .tail _ ?_))) kf.out (congrArg Value.bool kb.out) ⟨rfl, H.below⟩
      · have hqb : ((bs u).toList == (bs a).toList) = false := by simp [hq]
        have hN3 := Kept.mk (hN2 hq)
        replace hq := Kept.mk hq
        clear k1 hN2
        go_wp2_with (first
          | (refine a_box rfl _ rfl _ rfl (by assumption) (by first | with_reducible assumption | exact z16_len) ?_; intro g w H; try simp only [Act.put, yI, yC, yZ]))
        refine wp_region_from (by kernel_rfl) (by kernel_rfl) ?_
        repeat (first
          | (go_big_quiet_want; (refine a_quiet_load _ rfl _ _ rfl (by assumption) (by (repeat (first | exact .head _ | refine .tail _ ?_))) ?_); try simp only [Act.put, yI, yC, yZ]; go_big_quiet_on)
          | go_big_quiet_step (((first | (go_at_call 37; exact held_call _ (cq.out _)) | (go_at_call 36; exact held_call _ (cb.out _ _ (by first | exact .inl rfl | exact .inr rfl)))))))
        refine wpQuiet_nil ?_
        intro w5 hw5
        have H := H.from hw5
        clear hw5
        go_wp2_with (first
          | (refine a_load rfl _ rfl _ _ rfl (by assumption) (by (repeat (first | exact .head _ | refine .tail _ ?_))) ?_; try simp only [Act.put, yI, yC, yZ])
          | (refine a_store1 rfl _ _ rfl _ _ _ rfl rfl _ _ (by assumption) (by first | with_reducible assumption | exact z16_len) ?_; intro w H; try simp only [Act.put, yI, yC, yZ])
          | (go_at_call 37; with_reducible refine a_call (by assumption) (cn.out _) ?_; intro w H))
        go_roundw
        case rel => exact ⟨k + 1, by omega, val_eq (by omega), by rw [hr'.out]; exact H, hN3⟩
        case measure => first | (simp [RowKit.intOf]; done) | (simp [RowKit.intOf]; omega)
    · obtain rfl : k = 2 := by omega
      obtain ⟨kf, kb⟩ := K2.out HN.out
      replace kf := Kept.mk kf
      replace kb := Kept.mk kb
      have nk := nr.out 2
      generalize rr 2 = r at H nk
      go_wp2_with (first
        | (refine a_build rfl rfl ?_; try simp only [Act.put, yI, yC, yZ])
        | (refine a_store4 rfl _ _ rfl _ _ _ rfl rfl _ _ _ _ _ (by assumption) (by first | with_reducible assumption | exact z16_len) ?_; intro w H; try simp only [Act.put, yI, yC, yZ]))
      exact a_ret2 Tryz.results60 _ rfl rfl rfl (by assumption) (by (repeat (first | exact .head _ | refine .tail _ ?_))) kf.out (congrArg Value.bool kb.out) ⟨rfl, H.below⟩
end Go.Proofs.YtgnblaaldpniiaaGreatDoor
end
section
set_option linter.unusedSimpArgs false
set_option linter.unusedVariables false
set_option maxRecDepth 100000
namespace Go.Proofs.YtgnblaaldpniiaaGreatDoor
open Go.RowKit
theorem pm_pow (n e : Nat) (h : e < 2 ^ 256) : pm pF 256 n e = powF n e := pm_eq pF 256 n e h
def e4 : Nat := (pF - 1) / 2 ^ 2
def e8 : Nat := (pF - 5) / 2 ^ 3
theorem e8_one : e8 + 1 = eF := by decide +kernel
theorem one_pm : pm pF 256 2 e4 = iF := by decide +kernel
theorem one_val : powF 2 e4 = iF := by
  rw [← pm_pow 2 e4 (by decide +kernel)]
  exact one_pm
def rN (x : Nat) : Nat → Nat
  | 0 => powF x eF
  | k + 1 => rN x k * iF % pF
theorem rN_lt (x : Nat) : ∀ k, rN x k < pF
  | 0 => powF_lt _ _
  | k + 1 => Nat.mod_lt _ p_pos
theorem r0_val (x : Nat) : x * powF x e8 % pF = rN x 0 := by
  rw [Nat.mul_comm, powF_one, e8_one, rN]
theorem cand_r (x : Nat) : cand x = if rN x 0 * rN x 0 % pF = x then rN x 0 else rN x 1 := by
  have h0 : powF x eF = rN x 0 := by rw [rN]
  have h1 : ∀ k, rN x (k + 1) = rN x k * iF % pF := fun k => by rw [rN]
  unfold cand
  rw [h0, h1 0]
theorem S_list {l m : List UInt8} (h : (S l).toList = (S m).toList) : l = m := by
  have e := S_beq l m
  rw [h] at e
  exact of_decide_eq_true (e.symm.trans (beq_self_eq_true _))
def bF (l : List Nat) : ByteArray := S (leB (valB 65536 l))
theorem bF_Md (u : Nat) (h : u < big) : bF (Md u) = S (leB u) := by rw [bF, Md_val u h]
theorem bF_eq (u x : Nat) (hu : u < pF) (hx : x < pF) : (bF (Md u)).toList = (bF (Md x)).toList ↔ u = x := by
  rw [bF_Md u (Nat.lt_trans hu p_bigR), bF_Md x (Nat.lt_trans hx p_bigR)]
  exact ⟨fun h => leB_inj (Nat.lt_trans hu p_big) (Nat.lt_trans hx p_big) (S_list h), fun h => h ▸ rfl⟩
theorem Md_low (r : Nat) : (Md r).getD 0 0 % 2 = r % 2 := by
  rw [Md, limbs_getD 65536 16 r 0 (by omega), Nat.pow_zero, Nat.div_one]
  omega
def rootL (x : Nat) : List Nat := if cand x * cand x % pF = x then Md (evenN (cand x)) else z16
def rootB (x : Nat) : Bool := decide (cand x * cand x % pF = x)
theorem small_big (n : Nat) (h : n < 1000) : n < big := Nat.lt_trans (small_lt n h) p_bigR
theorem Roots_any (x : Nat) (hx : x < pF) (wS : World) : Calls Tryz.prog 60 #[arrV (Md x)] wS (RootsPost (rootL x) (rootB x) wS) := by
  have hxb := Nat.lt_trans hx p_bigR
  have hb : ∀ {n}, n < pF → n < big := fun h => Nat.lt_trans h p_bigR
  have h8 : e8 < big := hb (by decide +kernel)
  have h4 : e4 < big := hb (by decide +kernel)
  have hk1 : ∀ k, k < 2 → (∀ j, j < k → (bF (Md (rN x j * rN x j % pF))).toList ≠ (bF (Md x)).toList) → (bF (Md (rN x k * rN x k % pF))).toList = (bF (Md x)).toList → cand x = rN x k ∧ cand x * cand x % pF = x := by
    intro k hk hj hq
    have hq' := (bF_eq _ x (Nat.mod_lt _ p_pos) hx).1 hq
    have hc : cand x = rN x k := by
      rcases (show k = 0 ∨ k = 1 by omega) with rfl | rfl
      · rw [cand_r, if_pos hq']
      · rw [cand_r, if_neg fun e => hj 0 (by omega) ((bF_eq _ x (Nat.mod_lt _ p_pos) hx).2 e)]
    exact ⟨hc, by rw [hc]; exact hq'⟩
  refine roots_core (Md x) (Md pF) (Md (pF - 5)) (Md e8) (Md (powF x e8)) (Md (pF - 1)) (Md e4) (Md iF) (fun k => Md (rN x k)) (fun k => Md (rN x k * rN x k % pF)) (fun k => Md (pF - rN x k)) (fun z => Md z.toNat) bF (rootL x) (rootB x)
    (Md_len _) (Md_len _) (Md_len _) (Md_len _) (Md_len _) (Md_len _) (Md_len _) (Md_len _) (fun _ => Md_len _) (fun _ => Md_len _)
    (fun w => P_any w) ?_ (fun w => less_any pF 5 p_bigR (Nat.le_of_lt (small_lt 5 (by omega))) w) (fun w => less_any pF 1 p_bigR (Nat.le_of_lt (small_lt 1 (by omega))) w)
    (fun w => half_any (pF - 5) 3 (Nat.lt_of_le_of_lt (Nat.sub_le _ _) p_bigR) (by omega) w) (fun w => half_any (pF - 1) 2 (Nat.lt_of_le_of_lt (Nat.sub_le _ _) p_bigR) (by omega) w) (fun w => Power_any x e8 hxb h8 w) ?_ ?_ ?_ ?_ ?_ ?_ ?_ ?_ wS
  · rintro z w (rfl | rfl | rfl)
    · exact Small_any 1 (by omega) w
    · exact Small_any 2 (by omega) w
    · exact Small_any 5 (by omega) w
  · intro w
    have c := Power_any 2 e4 (small_big 2 (by omega)) h4 w
    rw [one_val] at c
    exact c
  · intro w
    have c := Times_any x (powF x e8) hxb (hb (powF_lt _ _)) w
    rw [r0_val] at c
    exact c
  · intro k w
    have c := Times_any (rN x k) iF (hb (rN_lt x k)) (hb (by decide +kernel)) w
    rw [show rN x k * iF % pF = rN x (k + 1) from rfl] at c
    exact c
  · exact fun k w => Times_any (rN x k) (rN x k) (hb (rN_lt x k)) (hb (rN_lt x k)) w
  · rintro l w (rfl | ⟨k, rfl⟩)
    · rw [bF_Md x hxb]; exact Bytes_any x hxb w
    · have hu := hb (Nat.mod_lt (rN x k * rN x k) p_pos)
      show Calls _ _ #[arrV (Md (rN x k * rN x k % pF))] w fun e w' => e = .returned (.string (bF (Md (rN x k * rN x k % pF)))) ∧ Below w.heap.size w w'
      rw [bF_Md _ hu]; exact Bytes_any _ hu w
  · exact fun k w => less_any pF (rN x k) p_bigR (Nat.le_of_lt (rN_lt x k)) w
  · intro k hk hj hq
    obtain ⟨hc, hs⟩ := hk1 k hk hj hq
    refine ⟨?_, by rw [rootB, decide_eq_true hs]⟩
    rw [rootL, if_pos hs, hc, evenN]
    show (if (Md (rN x k)).getD 0 0 % 2 = 1 then Md (pF - rN x k) else Md (rN x k)) = _
    rw [Md_low]
    split <;> rfl
  · intro hj
    have hn : ∀ j, j < 2 → ¬ rN x j * rN x j % pF = x := fun j h e => hj j h ((bF_eq _ x (Nat.mod_lt _ p_pos) hx).2 e)
    have hs : ¬ cand x * cand x % pF = x := by
      rw [cand_r, if_neg (hn 0 (by omega))]
      exact hn 1 (by omega)
    exact ⟨by rw [rootL, if_neg hs], by rw [rootB, decide_eq_false hs]⟩
end Go.Proofs.YtgnblaaldpniiaaGreatDoor
end
