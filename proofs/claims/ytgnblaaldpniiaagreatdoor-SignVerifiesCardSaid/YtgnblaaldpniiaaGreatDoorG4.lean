/- Walks of the document's answer for package sha2: a kind's constants. -/
import Derived.Test.YtgnblaaldpniiaaGreatDoorZS7
import Derived.Test.YtgnblaaldpniiaaGreatDoorZK2
import Derived.Test.YtgnblaaldpniiaaGreatDoorZK1
import Derived.Laws.CopyOwn
set_option maxRecDepth 100000
set_option linter.unusedVariables false
set_option linter.unusedSimpArgs false
namespace Go.Proofs.YtgnblaaldpniiaaGreatDoor.Sh
open Go.RowKit Go.Lib
section
variable {P : Program} {ops : Array Oper} {Q : Exit → Act → World → Prop} {S : World → Prop} {o : Oper} {r : List (Nat × Oper)} {a : Act} {w : World}
theorem wpMix_take (v : Value) (hy : YieldsIf P ops S o v a) (hS : S w) (h : wpMix P ops Q S r (a.put o.dst v) w) : wpMix P ops Q S ((0, o) :: r) a w := ⟨v, hy, hS, h⟩
theorem wpMix_one (h : ∀ K : Act → World → Prop, (∀ a' w', S w' → wpMix P ops Q S r a' w' → K a' w') → if Region.wanted o (yielded ops a.tmps) = true then o.wp P a w K Q else K (a.put o.dst undef) w) : wpMix P ops Q S ((1, o) :: r) a w := h
theorem wpMix_last (h : ∀ K : Act → World → Prop, (∀ a' w', wpMix P ops Q S r a' w' → K a' w') → if Region.wanted o (yielded ops a.tmps) = true then o.wp P a w K Q else K (a.put o.dst undef) w) : wpMix P ops Q S ((2, o) :: r) a w := h
theorem wpMix_nil (h : Q .normal a w) : wpMix P ops Q S [] a w := h
end
def OfPost (o : Bool) (ks hs : List Nat) (w : World) (e : Ending) (w' : World) : Prop :=
  ∃ gK gH cK cH, e = .returned (.agg (kindC o (.slice (some ⟨gK, 0, none⟩) ks.length cK) (.slice (some ⟨gH, 0, none⟩) hs.length cH))) ∧ w.heap.size ≤ gK ∧ w.heap.size ≤ gH ∧ RowAt w' gK ks ∧ RowAt w' gH hs ∧ Below w.heap.size w w'
theorem plN_same' (N r : Nat) (hN : (plN N).length = r) : ∀ n, n ≤ N → (plN n).length = r → plN n = plN N := fun n hn h => plN_same N n hn (h.trans hN.symm)
theorem plN_lt : ∀ n, ∀ p ∈ plN n, p < n
  | 0, p, h => by cases h
  | n + 1, p, h => by
    rw [plN] at h
    split at h
    · rcases List.mem_append.1 h with h | h
      · have := plN_lt n p h; omega
      · simp at h; omega
    · have := plN_lt n p h; omega
theorem OS.growK {w w1 w2 : World} {gp : Nat} {ps : List Nat} {vK vH : Value} {nK nH : Nat} {xK xH : List Value} (h : OS w gp ps vK vH nK nH xK xH w1) (hg : w1.grownBy w2 vK.ownBlock) (ho : w2.ownsRow (w.heap.size + 2) 77 1 vK nK xK) : OS w gp ps vK vH nK nH xK xH w2 := by
  have hbl := own_blk h.ownK
  refine h.grow hg h.neK (fun k hk => (hbl k hk).1) ho (own_other h.ownH hg ?_)
  rcases h.ne with e | e | e
  · exact Or.inr (Or.inl e)
  · exact Or.inl e
  · exact Or.inr (Or.inr (Ne.symm e))
theorem OS.growH {w w1 w2 : World} {gp : Nat} {ps : List Nat} {vK vH : Value} {nK nH : Nat} {xK xH : List Value} (h : OS w gp ps vK vH nK nH xK xH w1) (hg : w1.grownBy w2 vH.ownBlock) (ho : w2.ownsRow (w.heap.size + 2) 77 1 vH nH xH) : OS w gp ps vK vH nK nH xK xH w2 := (h.swap.growK hg ho).swap
theorem OS.putK {w w2 w3 : World} {gp g n' cap : Nat} {ps : List Nat} {vK vH : Value} {nK nH : Nat} {xK xH xK' : List Value} (h : OS w gp ps vK vH nK nH xK xH w2) (hg : w2.grownBy w3 vK.ownBlock) (hold : w3.ownsRow (w.heap.size + 2) 77 1 vK nK xK) (ho : w3.ownsRow (w.heap.size + 2) 77 1 (.slice (some ⟨g, 0, none⟩) n' cap) n' xK') (hgl : vK.ownBlock = some g ∨ w2.heap.size ≤ g) (j : Nat) (u : Value) :
    OS w gp ps (.slice (some ⟨g, 0, none⟩) n' cap) vH n' nH xK' xH (w3.setCell ⟨w.heap.size + 1, j, none⟩ u) := by
  have h4 := (h.growK hg hold).set j u
  have hl : g ≠ gp ∧ vH.ownBlock ≠ some g := by
    rcases hgl with e | e
    · refine ⟨fun hh => h.neK (by rw [e, hh]), ?_⟩
      rcases h.ne with e1 | e1 | e1
      · rw [e1] at e; cases e
      · rw [e1]; intro hh; cases hh
      · rw [← e]; exact Ne.symm e1
    · refine ⟨fun hh => by have := h.gpl; omega, fun hh => ?_⟩
      have := (own_blk h.ownH _ hh).2
      omega
  exact ⟨h4.below, h4.primes, h4.gpl, h4.gpb, h4.big, own_setCell ho (by omega), h4.ownH, fun e => hl.1 (by injection e), h4.neH, Or.inr (Or.inr fun e => hl.2 e.symm), h4.res⟩
theorem OS.putH {w w2 w3 : World} {gp g n' cap : Nat} {ps : List Nat} {vK vH : Value} {nK nH : Nat} {xK xH xH' : List Value} (h : OS w gp ps vK vH nK nH xK xH w2) (hg : w2.grownBy w3 vH.ownBlock) (hold : w3.ownsRow (w.heap.size + 2) 77 1 vH nH xH) (ho : w3.ownsRow (w.heap.size + 2) 77 1 (.slice (some ⟨g, 0, none⟩) n' cap) n' xH') (hgl : vH.ownBlock = some g ∨ w2.heap.size ≤ g) (j : Nat) (u : Value) :
    OS w gp ps vK (.slice (some ⟨g, 0, none⟩) n' cap) nK n' xK xH' (w3.setCell ⟨w.heap.size + 1, j, none⟩ u) := (h.swap.putK hg hold ho hgl j u).swap

theorem facts1 {w w1 : World} {gp : Nat} {ps : List Nat} {vK vH : Value} {nK nH : Nat} {xK xH : List Value} (h : OS w gp ps vK vH nK nH xK xH w1) (hk : w1.heap[w.heap.size + 1]? = some (.cells (kindC true vK vH) 75 (0, 0))) (i p : Nat) (hp : ps[i]? = some p) :
    w1.cell? ⟨gp, i, none⟩ = some (.int .i64 (p : Nat)) ∧ w1.cell? ⟨w.heap.size + 1, 0, none⟩ = some (.int .i64 64) ∧ w1.cell? ⟨w.heap.size + 1, 13, none⟩ = some vK ∧ w1.cell? ⟨w.heap.size + 1, 14, none⟩ = some vH := by
  obtain ⟨hi, e⟩ := List.getElem?_eq_some_iff.1 hp
  rw [kindC1] at hk
  refine ⟨by rw [h.primes i hi, e], ?_, ?_, ?_⟩
  all_goals rw [cell_of_row _ _ _ _ _ _ hk]; rfl

set_option maxRecDepth 100000 in
set_option maxHeartbeats 3200000 in
theorem of1_any (pr : List Nat) (hpr : plN 410 = pr) (hlen : pr.length = 80) (hlt : ∀ p ∈ pr, p < 1000000) (w : World) :
    Calls Tryz.prog 56 #[.int .i64 1] w (OfPost true (constK true pr) (constH true pr) w) := by
  obtain ⟨i0, hi, hz0, hz1, hz2⟩ := info_parts infoU64
  have CP : ∀ w', Calls Tryz.prog 88 #[.int .i64 80] w' (PrimesPost pr w') := fun w' => by
    have h := primes_any 80 410 (by rw [hpr]; exact hlen) (by omega) (plN_same' 410 80 (by rw [hpr]; exact hlen)) w'
    rw [hpr] at h; exact h
  replace CP := Lib.hid CP
  have HLEN := Kept.mk hlen
  have HLT := Kept.mk hlt
  clear hpr hlen hlt
  go_enter Tryz.func56, Tryz.ntmps56
  go_wp2_with (go_at_call 88; refine (CP.out _).mono ?_; rintro e w1 ⟨v, rfl, ho, hb⟩; have HO := Lib.hid ho; have HB := Lib.hid hb; clear ho hb)
  obtain ⟨gp, capP, rfl, hgp1, hgp2⟩ := own_pos HO.out (by rw [HLEN.out]; omega)
  have os0 : OS w gp pr (.slice none 0 0) (.slice none 0 0) 0 0 (u64C ((constK true pr).take 0)) (u64C ((constH true pr).take 0)) w1 := by
    have hb := HB.out
    have hz := hb.size
    simp only [World.size_alloc] at hz hgp1
    refine ⟨(((Below.refl _ _).alloc (Nat.le_refl _) _).alloc (by simp) _).trans (hb.mono (by simp <;> omega)), fun j hj => ?_, hgp2, by omega, by omega, World.ownsRow_nil _ _ _ _, World.ownsRow_nil _ _ _ _, (by intro e; cases e), (by intro e; cases e), Or.inl rfl, ?_⟩
    · rw [HO.out.cellAt j (by omega)]; simp [intC, hj]
    · refine ⟨_, ?_, (hb.block _ (by simp <;> omega)).trans ((Below.heap_alloc _ _ _ (by simp)).trans (heap_alloc_new w _))⟩
      rfl
  have kh0 : w1.heap[w.heap.size + 1]? = some (.cells (kindC true (.slice none 0 0) (.slice none 0 0)) 75 (0, 0)) := by
    rw [HB.out.block _ (by simp), ← World.size_alloc]
    exact heap_alloc_new _ _
  replace os0 := Kept.mk os0
  replace kh0 := Kept.mk kh0
  rw [HLEN.out]
  clear HO HB CP hgp1 hgp2
  go_loopw [6] (fun v6 wr => ∃ (i : Nat) (KV HV : Value), i ≤ 80 ∧ v6 = .int .i64 i ∧ Kept (OS w gp pr KV HV i (min i 8) (u64C ((constK true pr).take i)) (u64C ((constH true pr).take i)) wr) ∧ Kept (wr.heap[w.heap.size + 1]? = some (.cells (kindC true KV HV) 75 (0, 0)))) (fun v6 _ => 80 - (RowKit.intOf v6).toNat)
  case atStart => exact ⟨0, _, _, by omega, rfl, os0, kh0⟩
  case round =>
    clear os0 kh0
    obtain ⟨i, KV, HV, hir, rfl, HOS, HKH⟩ := hrel
    by_cases hlt : i < 80
    · obtain ⟨p, hp⟩ : ∃ p, pr[i]? = some p := ⟨pr[i]'(by rw [HLEN.out]; exact hlt), List.getElem?_eq_getElem _⟩
      have hpl : p < 1000000 := HLT.out p (List.mem_of_getElem? hp)
      have HPI := Kept.mk hp
      obtain ⟨x3, hx3⟩ : ∃ x, rootN p 3 = x := ⟨_, rfl⟩
      obtain ⟨y3, hy3⟩ : ∃ x, x3 / 2 ^ 0 = x := ⟨_, rfl⟩
      obtain ⟨x2, hx2⟩ : ∃ x, rootN p 2 = x := ⟨_, rfl⟩
      obtain ⟨y2, hy2⟩ : ∃ x, x2 / 2 ^ 0 = x := ⟨_, rfl⟩
      have hK3 : (constK true pr).take (i + 1) = (constK true pr).take i ++ [y3] := by
        rw [List.take_add_one, constK, List.getElem?_map, hp]
        simp only [Option.map_some, constR, hx3]
        rw [← hy3]; rfl
      have hH2 : i < 8 → (constH true pr).take (i + 1) = (constH true pr).take i ++ [y2] := fun h8 => by
        rw [List.take_add_one, constH, List.getElem?_map, List.getElem?_take, if_pos h8, hp]
        simp only [Option.map_some, constR, hx2]
        rw [← hy2]; rfl
      have s3 : ((x3 : Nat) : Int) / 2 ^ 0 = (y3 : Nat) := by rw [← hy3]; simp
      have s2 : ((x2 : Nat) : Int) / 2 ^ 0 = (y2 : Nat) := by rw [← hy2]; simp
      have s3b : ((x3 : Nat) : Int) = (y3 : Nat) := by rw [← s3]; simp
      have s2b : ((x2 : Nat) : Int) = (y2 : Nat) := by rw [← s2]; simp
      have kw : IntKind.i64.wrap 0 = 0 := by decide
      have C3 := Kept.mk (fun w => root3_any p hpl w)
      have C2 := Kept.mk (fun w => root2_any p hpl w)
      unfold RootPost at C3 C2
      rw [hx3] at C3
      rw [hx2] at C2
      replace hK3 := Kept.mk hK3
      replace hH2 := Kept.mk hH2
      clear hx3 hy3 hx2 hy2 hp hpl
      go_wp2
      have hS0 : (fun u => Kept (OS w gp pr KV HV i (min i 8) (u64C ((constK true pr).take i)) (u64C ((constH true pr).take i)) u) ∧ Kept (u.heap[w.heap.size + 1]? = some (.cells (kindC true KV HV) 75 (0, 0)))) wr.drew := ⟨⟨HOS.out.step (Below.drew (Below.refl _ _))⟩, ⟨HKH.out⟩⟩
      refine wp_region_mix (fun u => Kept (OS w gp pr KV HV i (min i 8) (u64C ((constK true pr).take i)) (u64C ((constH true pr).take i)) u) ∧ Kept (u.heap[w.heap.size + 1]? = some (.cells (kindC true KV HV) 75 (0, 0)))) 14 [(0, 0), (1, 0), (2, 0), (3, 0), (4, 0), (5, 0), (7, 0), (8, 0), (9, 0), (6, 1), (10, 0), (11, 1), (12, 1), (13, 0), (14, 2)] (by kernel_rfl) (by kernel_rfl) (fun _ d _ _ _ h => by cases d <;> exact h) ?_
      simp only [pickOps, List.getElem?_cons_succ, List.getElem?_cons_zero]
      (refine wpMix_take ?_ (Or.inl ⟨by rfl, fun u hu => ?_⟩) hS0 ?_; rotate_left; (focus (obtain ⟨hu1, hu2⟩ := hu; obtain ⟨f1, f2, f3, f4⟩ := facts1 hu1.out hu2.out i p HPI.out; clear hu1 hu2; (go_simp; try with_reducible rfl))); simp only [Act.put, List.setIfInBounds_toArray, List.set_cons_zero, List.set_cons_succ])
      (refine wpMix_take ?_ (Or.inl ⟨by rfl, fun u hu => ?_⟩) hS0 ?_; rotate_left; (focus (obtain ⟨hu1, hu2⟩ := hu; obtain ⟨f1, f2, f3, f4⟩ := facts1 hu1.out hu2.out i p HPI.out; clear hu1 hu2; (go_simp; try with_reducible rfl))); simp only [Act.put, List.setIfInBounds_toArray, List.set_cons_zero, List.set_cons_succ])
      (refine wpMix_take ?_ (Or.inl ⟨by rfl, fun u hu => ?_⟩) hS0 ?_; rotate_left; (focus (obtain ⟨hu1, hu2⟩ := hu; obtain ⟨f1, f2, f3, f4⟩ := facts1 hu1.out hu2.out i p HPI.out; clear hu1 hu2; (go_simp; try with_reducible rfl))); simp only [Act.put, List.setIfInBounds_toArray, List.set_cons_zero, List.set_cons_succ])
      (refine wpMix_take ?_ (Or.inl ⟨by rfl, fun u hu => ?_⟩) hS0 ?_; rotate_left; (focus (obtain ⟨hu1, hu2⟩ := hu; obtain ⟨f1, f2, f3, f4⟩ := facts1 hu1.out hu2.out i p HPI.out; clear hu1 hu2; (go_simp; try with_reducible rfl))); simp only [Act.put, List.setIfInBounds_toArray, List.set_cons_zero, List.set_cons_succ])
      (refine wpMix_take ?_ (Or.inl ⟨by rfl, fun u hu => ?_⟩) hS0 ?_; rotate_left; (focus (obtain ⟨hu1, hu2⟩ := hu; obtain ⟨f1, f2, f3, f4⟩ := facts1 hu1.out hu2.out i p HPI.out; clear hu1 hu2; (go_simp; try with_reducible rfl))); simp only [Act.put, List.setIfInBounds_toArray, List.set_cons_zero, List.set_cons_succ])
      (refine wpMix_take ?_ (Or.inl ⟨by rfl, fun u hu => ?_⟩) hS0 ?_; rotate_left; (focus (obtain ⟨hu1, hu2⟩ := hu; obtain ⟨f1, f2, f3, f4⟩ := facts1 hu1.out hu2.out i p HPI.out; clear hu1 hu2; (go_simp; try with_reducible rfl))); simp only [Act.put, List.setIfInBounds_toArray, List.set_cons_zero, List.set_cons_succ])
      (refine wpMix_take ?_ (Or.inl ⟨by rfl, fun u hu => ?_⟩) hS0 ?_; rotate_left; (focus (obtain ⟨hu1, hu2⟩ := hu; obtain ⟨f1, f2, f3, f4⟩ := facts1 hu1.out hu2.out i p HPI.out; clear hu1 hu2; (go_simp; try with_reducible rfl))); simp only [Act.put, List.setIfInBounds_toArray, List.set_cons_zero, List.set_cons_succ])
      (refine wpMix_take ?_ (Or.inl ⟨by rfl, fun u hu => ?_⟩) hS0 ?_; rotate_left; (focus (obtain ⟨hu1, hu2⟩ := hu; obtain ⟨f1, f2, f3, f4⟩ := facts1 hu1.out hu2.out i p HPI.out; clear hu1 hu2; (go_simp; try with_reducible rfl))); simp only [Act.put, List.setIfInBounds_toArray, List.set_cons_zero, List.set_cons_succ])
      (refine wpMix_take ?_ (Or.inl ⟨by rfl, fun u hu => ?_⟩) hS0 ?_; rotate_left; (focus (obtain ⟨hu1, hu2⟩ := hu; obtain ⟨f1, f2, f3, f4⟩ := facts1 hu1.out hu2.out i p HPI.out; clear hu1 hu2; (go_simp; try with_reducible rfl))); simp only [Act.put, List.setIfInBounds_toArray, List.set_cons_zero, List.set_cons_succ])
      refine wpMix_one fun K hK => ?_
      rw [if_pos (by rfl)]
      go_simp
      refine (C3.out _).mono ?_
      rintro e w2 ⟨rfl, hb2⟩
      have hS1 : (fun u => Kept (OS w gp pr KV HV i (min i 8) (u64C ((constK true pr).take i)) (u64C ((constH true pr).take i)) u) ∧ Kept (u.heap[w.heap.size + 1]? = some (.cells (kindC true KV HV) 75 (0, 0)))) w2 := ⟨⟨hS0.1.out.step hb2⟩, ⟨(hb2.block _ (by have := hS0.1.out.big; omega)).trans hS0.2.out⟩⟩
      refine hK _ _ hS1 ?_
      clear hS0 hb2 hK K
      (refine wpMix_take ?_ (Or.inl ⟨by rfl, fun u hu => ?_⟩) hS1 ?_; rotate_left; (focus (obtain ⟨hu1, hu2⟩ := hu; obtain ⟨f1, f2, f3, f4⟩ := facts1 hu1.out hu2.out i p HPI.out; clear hu1 hu2; (go_simp; try with_reducible rfl))); simp only [Act.put, List.setIfInBounds_toArray, List.set_cons_zero, List.set_cons_succ])
      refine wpMix_one fun K hK => ?_
      rw [if_pos (by rfl)]
      go_simp
      have hbx := Below.alloc (Below.refl w2.heap.size w2) (Nat.le_refl _) (.cells #[.int .u64 (y3 : Nat)] 77)
      have hS2 : (fun u => Kept (OS w gp pr KV HV i (min i 8) (u64C ((constK true pr).take i)) (u64C ((constH true pr).take i)) u) ∧ Kept (u.heap[w.heap.size + 1]? = some (.cells (kindC true KV HV) 75 (0, 0)))) (w2.alloc (.cells #[.int .u64 (y3 : Nat)] 77)) := ⟨⟨hS1.1.out.step hbx⟩, ⟨(hbx.block _ (by have := hS1.1.out.big; omega)).trans hS1.2.out⟩⟩
      refine hK _ _ hS2 ?_
      clear hbx hK K
      have hbig := hS2.1.out.big
      have hrn := row_new w2 [.int .u64 (y3 : Nat)] 77
      generalize w2.alloc (.cells #[.int .u64 (y3 : Nat)] 77) = w3 at hS2 hbig hrn ⊢
      clear hS1
      refine wpMix_one fun K hK => ?_
      refine step_app2 rfl (.tmp 27) (.tmp 37) 73 rfl (w.heap.size + 2) 77 i0 (.int .u64 0) 8 Tryz.underlying73 hi hz0 hz1 hz2 rfl KV i (u64C ((constK true pr).take i)) rfl hS2.1.out.ownK ⟨w2.heap.size, 0, none⟩ 1 1 [.int .u64 (y3 : Nat)] rfl rfl (by omega) hrn ?c1 ?c2 ?c3 hbig ?_
      case c1 => intro u hu; simp at hu; subst hu; rfl
      case c2 => unfold maxLen; omega
      case c3 => omega
      intro g cap w4 ho4 hg4 hold hgl
      have hput := fun j u => OS.putK hS2.1.out hg4 hold ho4 hgl j u
      have hkh : w4.heap[w.heap.size + 1]? = some (.cells (kindC true KV HV) 75 (0, 0)) := (hg4.block _ (by omega) (fun e => by have := (own_blk hS2.1.out.ownK _ e.symm).1; omega)).trans hS2.2.out
      have hS4 : (fun u => Kept (OS w gp pr KV HV i (min i 8) (u64C ((constK true pr).take i)) (u64C ((constH true pr).take i)) u) ∧ Kept (u.heap[w.heap.size + 1]? = some (.cells (kindC true KV HV) 75 (0, 0)))) w4 := ⟨⟨OS.growK hS2.1.out hg4 hold⟩, ⟨hkh⟩⟩
      refine hK _ _ hS4 ?_
      clear hK K hg4 hold hgl hS2 hbig hrn ho4
      (refine wpMix_take ?_ (Or.inl ⟨by rfl, fun u hu => ?_⟩) hS4 ?_; rotate_left; (focus (obtain ⟨hu1, hu2⟩ := hu; obtain ⟨f1, f2, f3, f4⟩ := facts1 hu1.out hu2.out i p HPI.out; clear hu1 hu2; (go_simp; try with_reducible rfl))); simp only [Act.put, List.setIfInBounds_toArray, List.set_cons_zero, List.set_cons_succ])
      refine wpMix_last fun K hK => ?_
      rw [if_pos (by rfl)]
      have f5 : w4.frozen? ⟨w.heap.size + 1, 13, none⟩ = false := frozen_of_row w4 _ _ _ _ hkh
      obtain ⟨f1, f2, f3, f4⟩ := facts1 hS4.1.out hS4.2.out i p HPI.out
      clear hS4
      go_simp
      refine hK _ _ ?_
      clear f1 f2 f3 f4 f5 hK K
      refine wpMix_nil ?_
      have ho1 := hput 13 (.slice (some ⟨g, 0, none⟩) (i + 1) cap)
      have hk1 : (w4.setCell ⟨w.heap.size + 1, 13, none⟩ (.slice (some ⟨g, 0, none⟩) (i + 1) cap)).heap[w.heap.size + 1]? = some (.cells (kindC true (.slice (some ⟨g, 0, none⟩) (i + 1) cap) HV) 75 (0, 0)) := by
        rw [heap_setCell_same _ _ _ _ _ _ hkh]; rfl
      rw [show u64C ((constK true pr).take i) ++ [.int .u64 (y3 : Nat)] = u64C ((constK true pr).take (i + 1)) by rw [hK3.out, u64C_append]; rfl] at ho1
      generalize Value.slice (some ⟨g, 0, none⟩) (i + 1) cap = KV1 at ho1 hk1 ⊢
      generalize w4.setCell ⟨w.heap.size + 1, 13, none⟩ KV1 = w5 at ho1 hk1 ⊢
      have HO1 := Kept.mk ho1
      have HK1 := Kept.mk hk1
      clear ho1 hk1 hput hkh HOS HKH w4 s3 s3b C3 hK3
      by_cases h8 : i < 8
      · replace hH2 := Kept.mk (hH2.out h8)
        go_wp2
        have hS0 : (fun u => Kept (OS w gp pr KV1 HV (i + 1) (min i 8) (u64C ((constK true pr).take (i + 1))) (u64C ((constH true pr).take i)) u) ∧ Kept (u.heap[w.heap.size + 1]? = some (.cells (kindC true KV1 HV) 75 (0, 0)))) w5.drew := ⟨⟨HO1.out.step (Below.drew (Below.refl _ _))⟩, ⟨HK1.out⟩⟩
        refine wp_region_mix (fun u => Kept (OS w gp pr KV1 HV (i + 1) (min i 8) (u64C ((constK true pr).take (i + 1))) (u64C ((constH true pr).take i)) u) ∧ Kept (u.heap[w.heap.size + 1]? = some (.cells (kindC true KV1 HV) 75 (0, 0)))) 14 [(0, 0), (1, 0), (2, 0), (3, 0), (4, 0), (5, 0), (7, 0), (8, 0), (9, 0), (6, 1), (10, 0), (11, 1), (12, 1), (13, 0), (14, 2)] (by kernel_rfl) (by kernel_rfl) (fun _ d _ _ _ h => by cases d <;> exact h) ?_
        simp only [pickOps, List.getElem?_cons_succ, List.getElem?_cons_zero]
        (refine wpMix_take ?_ (Or.inl ⟨by rfl, fun u hu => ?_⟩) hS0 ?_; rotate_left; (focus (obtain ⟨hu1, hu2⟩ := hu; obtain ⟨f1, f2, f3, f4⟩ := facts1 hu1.out hu2.out i p HPI.out; clear hu1 hu2; (go_simp; try with_reducible rfl))); simp only [Act.put, List.setIfInBounds_toArray, List.set_cons_zero, List.set_cons_succ])
        (refine wpMix_take ?_ (Or.inl ⟨by rfl, fun u hu => ?_⟩) hS0 ?_; rotate_left; (focus (obtain ⟨hu1, hu2⟩ := hu; obtain ⟨f1, f2, f3, f4⟩ := facts1 hu1.out hu2.out i p HPI.out; clear hu1 hu2; (go_simp; try with_reducible rfl))); simp only [Act.put, List.setIfInBounds_toArray, List.set_cons_zero, List.set_cons_succ])
        (refine wpMix_take ?_ (Or.inl ⟨by rfl, fun u hu => ?_⟩) hS0 ?_; rotate_left; (focus (obtain ⟨hu1, hu2⟩ := hu; obtain ⟨f1, f2, f3, f4⟩ := facts1 hu1.out hu2.out i p HPI.out; clear hu1 hu2; (go_simp; try with_reducible rfl))); simp only [Act.put, List.setIfInBounds_toArray, List.set_cons_zero, List.set_cons_succ])
        (refine wpMix_take ?_ (Or.inl ⟨by rfl, fun u hu => ?_⟩) hS0 ?_; rotate_left; (focus (obtain ⟨hu1, hu2⟩ := hu; obtain ⟨f1, f2, f3, f4⟩ := facts1 hu1.out hu2.out i p HPI.out; clear hu1 hu2; (go_simp; try with_reducible rfl))); simp only [Act.put, List.setIfInBounds_toArray, List.set_cons_zero, List.set_cons_succ])
        (refine wpMix_take ?_ (Or.inl ⟨by rfl, fun u hu => ?_⟩) hS0 ?_; rotate_left; (focus (obtain ⟨hu1, hu2⟩ := hu; obtain ⟨f1, f2, f3, f4⟩ := facts1 hu1.out hu2.out i p HPI.out; clear hu1 hu2; (go_simp; try with_reducible rfl))); simp only [Act.put, List.setIfInBounds_toArray, List.set_cons_zero, List.set_cons_succ])
        (refine wpMix_take ?_ (Or.inl ⟨by rfl, fun u hu => ?_⟩) hS0 ?_; rotate_left; (focus (obtain ⟨hu1, hu2⟩ := hu; obtain ⟨f1, f2, f3, f4⟩ := facts1 hu1.out hu2.out i p HPI.out; clear hu1 hu2; (go_simp; try with_reducible rfl))); simp only [Act.put, List.setIfInBounds_toArray, List.set_cons_zero, List.set_cons_succ])
        (refine wpMix_take ?_ (Or.inl ⟨by rfl, fun u hu => ?_⟩) hS0 ?_; rotate_left; (focus (obtain ⟨hu1, hu2⟩ := hu; obtain ⟨f1, f2, f3, f4⟩ := facts1 hu1.out hu2.out i p HPI.out; clear hu1 hu2; (go_simp; try with_reducible rfl))); simp only [Act.put, List.setIfInBounds_toArray, List.set_cons_zero, List.set_cons_succ])
        (refine wpMix_take ?_ (Or.inl ⟨by rfl, fun u hu => ?_⟩) hS0 ?_; rotate_left; (focus (obtain ⟨hu1, hu2⟩ := hu; obtain ⟨f1, f2, f3, f4⟩ := facts1 hu1.out hu2.out i p HPI.out; clear hu1 hu2; (go_simp; try with_reducible rfl))); simp only [Act.put, List.setIfInBounds_toArray, List.set_cons_zero, List.set_cons_succ])
        (refine wpMix_take ?_ (Or.inl ⟨by rfl, fun u hu => ?_⟩) hS0 ?_; rotate_left; (focus (obtain ⟨hu1, hu2⟩ := hu; obtain ⟨f1, f2, f3, f4⟩ := facts1 hu1.out hu2.out i p HPI.out; clear hu1 hu2; (go_simp; try with_reducible rfl))); simp only [Act.put, List.setIfInBounds_toArray, List.set_cons_zero, List.set_cons_succ])
        refine wpMix_one fun K hK => ?_
        rw [if_pos (by rfl)]
        go_simp
        refine (C2.out _).mono ?_
        rintro e w2 ⟨rfl, hb2⟩
        have hS1 : (fun u => Kept (OS w gp pr KV1 HV (i + 1) (min i 8) (u64C ((constK true pr).take (i + 1))) (u64C ((constH true pr).take i)) u) ∧ Kept (u.heap[w.heap.size + 1]? = some (.cells (kindC true KV1 HV) 75 (0, 0)))) w2 := ⟨⟨hS0.1.out.step hb2⟩, ⟨(hb2.block _ (by have := hS0.1.out.big; omega)).trans hS0.2.out⟩⟩
        refine hK _ _ hS1 ?_
        clear hS0 hb2 hK K
        (refine wpMix_take ?_ (Or.inl ⟨by rfl, fun u hu => ?_⟩) hS1 ?_; rotate_left; (focus (obtain ⟨hu1, hu2⟩ := hu; obtain ⟨f1, f2, f3, f4⟩ := facts1 hu1.out hu2.out i p HPI.out; clear hu1 hu2; (go_simp; try with_reducible rfl))); simp only [Act.put, List.setIfInBounds_toArray, List.set_cons_zero, List.set_cons_succ])
        refine wpMix_one fun K hK => ?_
        rw [if_pos (by rfl)]
        go_simp
        have hbx := Below.alloc (Below.refl w2.heap.size w2) (Nat.le_refl _) (.cells #[.int .u64 (y2 : Nat)] 77)
        have hS2 : (fun u => Kept (OS w gp pr KV1 HV (i + 1) (min i 8) (u64C ((constK true pr).take (i + 1))) (u64C ((constH true pr).take i)) u) ∧ Kept (u.heap[w.heap.size + 1]? = some (.cells (kindC true KV1 HV) 75 (0, 0)))) (w2.alloc (.cells #[.int .u64 (y2 : Nat)] 77)) := ⟨⟨hS1.1.out.step hbx⟩, ⟨(hbx.block _ (by have := hS1.1.out.big; omega)).trans hS1.2.out⟩⟩
        refine hK _ _ hS2 ?_
        clear hbx hK K
        have hbig := hS2.1.out.big
        have hrn := row_new w2 [.int .u64 (y2 : Nat)] 77
        generalize w2.alloc (.cells #[.int .u64 (y2 : Nat)] 77) = w3 at hS2 hbig hrn ⊢
        clear hS1
        refine wpMix_one fun K hK => ?_
        refine step_app2 rfl (.tmp 43) (.tmp 53) 73 rfl (w.heap.size + 2) 77 i0 (.int .u64 0) 8 Tryz.underlying73 hi hz0 hz1 hz2 rfl HV (min i 8) (u64C ((constH true pr).take i)) rfl hS2.1.out.ownH ⟨w2.heap.size, 0, none⟩ 1 1 [.int .u64 (y2 : Nat)] rfl rfl (by omega) hrn ?c1 ?c2 ?c3 hbig ?_
        case c1 => intro u hu; simp at hu; subst hu; rfl
        case c2 => unfold maxLen; omega
        case c3 => omega
        intro g cap w4 ho4 hg4 hold hgl
        have hput := fun j u => OS.putH hS2.1.out hg4 hold ho4 hgl j u
        have hkh : w4.heap[w.heap.size + 1]? = some (.cells (kindC true KV1 HV) 75 (0, 0)) := (hg4.block _ (by omega) (fun e => by have := (own_blk hS2.1.out.ownH _ e.symm).1; omega)).trans hS2.2.out
        have hS4 : (fun u => Kept (OS w gp pr KV1 HV (i + 1) (min i 8) (u64C ((constK true pr).take (i + 1))) (u64C ((constH true pr).take i)) u) ∧ Kept (u.heap[w.heap.size + 1]? = some (.cells (kindC true KV1 HV) 75 (0, 0)))) w4 := ⟨⟨OS.growH hS2.1.out hg4 hold⟩, ⟨hkh⟩⟩
        refine hK _ _ hS4 ?_
        clear hK K hg4 hold hgl hS2 hbig hrn ho4
        (refine wpMix_take ?_ (Or.inl ⟨by rfl, fun u hu => ?_⟩) hS4 ?_; rotate_left; (focus (obtain ⟨hu1, hu2⟩ := hu; obtain ⟨f1, f2, f3, f4⟩ := facts1 hu1.out hu2.out i p HPI.out; clear hu1 hu2; (go_simp; try with_reducible rfl))); simp only [Act.put, List.setIfInBounds_toArray, List.set_cons_zero, List.set_cons_succ])
        refine wpMix_last fun K hK => ?_
        rw [if_pos (by rfl)]
        have f5 : w4.frozen? ⟨w.heap.size + 1, 14, none⟩ = false := frozen_of_row w4 _ _ _ _ hkh
        obtain ⟨f1, f2, f3, f4⟩ := facts1 hS4.1.out hS4.2.out i p HPI.out
        clear hS4
        go_simp
        refine hK _ _ ?_
        clear f1 f2 f3 f4 f5 hK K
        refine wpMix_nil ?_
        have ho2 := hput 14 (.slice (some ⟨g, 0, none⟩) (min i 8 + 1) cap)
        have hk2 : (w4.setCell ⟨w.heap.size + 1, 14, none⟩ (.slice (some ⟨g, 0, none⟩) (min i 8 + 1) cap)).heap[w.heap.size + 1]? = some (.cells (kindC true KV1 (.slice (some ⟨g, 0, none⟩) (min i 8 + 1) cap)) 75 (0, 0)) := by
          rw [heap_setCell_same _ _ _ _ _ _ hkh]; rfl
        rw [show u64C ((constH true pr).take i) ++ [.int .u64 (y2 : Nat)] = u64C ((constH true pr).take (i + 1)) by rw [hH2.out, u64C_append]; rfl] at ho2
        have em : min i 8 + 1 = min (i + 1) 8 := by omega
        rw [em] at ho2 hk2 ⊢
        generalize Value.slice (some ⟨g, 0, none⟩) (min (i + 1) 8) cap = HV1 at ho2 hk2 ⊢
        generalize w4.setCell ⟨w.heap.size + 1, 14, none⟩ HV1 = w6 at ho2 hk2 ⊢
        have HO2 := Kept.mk ho2
        have HK2 := Kept.mk hk2
        clear ho2 hk2 hput hkh HO1 HK1 w4 s2 s2b C2 em
        go_wp2
        go_roundw
        case rel => exact ⟨i + 1, KV1, HV1, by omega, by go_num, HO2, HK2⟩
        case measure => simp [RowKit.intOf]; omega
      · go_wp2
        have e1 : min i 8 = min (i + 1) 8 := by omega
        have e2 : (constH true pr).take i = (constH true pr).take (i + 1) := by
          have hl : (constH true pr).length ≤ 8 := by unfold constH; rw [List.length_map, List.length_take]; omega
          rw [List.take_of_length_le (by omega), List.take_of_length_le (by omega)]
        have ho2 := HO1.out
        rw [e1, e2] at ho2
        go_roundw
        case rel => exact ⟨i + 1, KV1, HV, by omega, by go_num, ⟨ho2⟩, HK1⟩
        case measure => simp [RowKit.intOf]; omega
    · obtain rfl : i = 80 := by omega
      have hKl : (constK true pr).length = 80 := by unfold constK; rw [List.length_map, HLEN.out]
      have hHl : (constH true pr).length = 8 := by unfold constH; rw [List.length_map, List.length_take, HLEN.out]; rfl
      have hOS := HOS.out
      rw [List.take_of_length_le (by omega), List.take_of_length_le (by omega), show min 80 8 = 8 from rfl] at hOS
      obtain ⟨gK, cK, rfl, hgK1, hgK2⟩ := own_pos hOS.ownK (by omega)
      obtain ⟨gH, cH, rfl, hgH1, hgH2⟩ := own_pos hOS.ownH (by omega)
      obtain ⟨R, hR, hRh⟩ := hOS.res
      have rk : RowAt wr gK (constK true pr) := ⟨hgK2, fun t ht => u64C_cell hOS.ownK t ht hKl.symm⟩
      have rh : RowAt wr gH (constH true pr) := ⟨hgH2, fun t ht => u64C_cell hOS.ownH t ht hHl.symm⟩
      have hX1 : (kindC true (.slice (some ⟨gK, 0, none⟩) 80 cK) (.slice (some ⟨gH, 0, none⟩) 8 cH)).all (·.oneCell') = true := by rw [kindC1]; simp [Value.oneCell']
      replace hR := Kept.mk hR
      replace hRh := Kept.mk hRh
      replace hX1 := Kept.mk hX1
      replace hOS := Kept.mk hOS
      replace rk := Kept.mk rk
      replace rh := Kept.mk rh
      rw [show ((80 : Nat) : Int) = 80 from rfl]
      go_wp2_with (first
        | (refine wpList_load_row rfl 75 (.tmp 3) rfl (w.heap.size + 1) rfl 75 (kindC true (.slice (some ⟨gK, 0, none⟩) 80 cK) (.slice (some ⟨gH, 0, none⟩) 8 cH)) _ _ HKH.out Tryz.underlying75 rfl (by kernel_rfl) ?_)
        | (refine wpList_store_row rfl 75 (.tmp 2) (.tmp 56) rfl w.heap.size (kindC true (.slice (some ⟨gK, 0, none⟩) 80 cK) (.slice (some ⟨gH, 0, none⟩) 8 cH)) rfl rfl 75 R hRh.out (by kernel_rfl) (by rw [hR.out]; rfl) hX1.out ?_))
      refine bodyPost_ret (results_cell_row (p := 2) (ty := 75) Tryz.results56 _ _ w.heap.size 75 (kindC true (.slice (some ⟨gK, 0, none⟩) 80 cK) (.slice (some ⟨gH, 0, none⟩) 8 cH)) (0, 0) _ rfl (setRow_heap _ _ _ _ _ _ hRh.out) Tryz.underlying75 rfl (by kernel_rfl)) rfl ⟨gK, gH, cK, cH, by rw [hKl, hHl], by omega, by omega, ?_, ?_, below_setRow hOS.out.below (Nat.le_refl _) _⟩
      · exact ⟨by rw [size_setRow]; exact rk.out.1, fun t ht => by rw [cell_setRow_other _ _ _ _ (by show gK ≠ _; omega)]; exact rk.out.2 t ht⟩
      · exact ⟨by rw [size_setRow]; exact rh.out.1, fun t ht => by rw [cell_setRow_other _ _ _ _ (by show gH ≠ _; omega)]; exact rh.out.2 t ht⟩
end Go.Proofs.YtgnblaaldpniiaaGreatDoor.Sh
