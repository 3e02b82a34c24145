/- Walks: two slices of texts compared; the calls whose answers the document fixes. -/
import Derived.Test.YtcgdocdpdapglaaW9
import Derived.Laws.AppendOwnNone
namespace Go.Proofs.Ytcgdocdpdapglaa
open Go.RowKit Go.Lib
theorem own_SL {w : World} {B : Nat} {v : Value} {n : Nat} {ms : List (List UInt8)} (h : w.ownsRow B 9 1 v n (ms.map strV)) : SL w w.heap.size v ms := by
  have hl : ms.length = n := by have := h.1; rw [List.length_map] at this; omega
  subst hl
  rcases h.2 with ⟨rfl, h0⟩ | ⟨g, cap', cur, rfl, _, hg, _⟩
  · have e : ms = [] := List.eq_nil_of_length_eq_zero h0
    subst e
    exact ⟨none, 0, rfl, fun _ => ⟨rfl, rfl⟩, fun hne => absurd rfl hne⟩
  · refine ⟨_, cap', rfl, (fun h0 => by cases h0), fun hne => ⟨g, 0, rfl, (Array.getElem?_eq_some_iff.1 hg).1, fun k hk => ?_⟩⟩
    have := h.cells (g := g) rfl k (strV (ms.getD k [])) (by simp [hk])
    rw [Nat.zero_add]
    have e : (⟨g, 0, none⟩ : Addr).add k = ⟨g, k, none⟩ := by unfold Addr.add; split <;> simp_all
    rw [e] at this
    exact this
/-- append of a slice that reads as texts onto a row that the call owns. -/
theorem wpList_append_SL {P : Program} {w : World} {ops : Array Oper} {rest : List Oper} {o : Oper} {a : Act} {Q : Exit → Act → World → Prop} (hgd : o.guard = none) (s x : Operand) (t : TypeId)
    (ho : o.op = .call { callee := .builtin .append, args := #[s, x], argTypes := #[t, t] })
    (base : Nat) (e : TypeId) (i : TypeInfo) (z : Value) (ht : P.underlying t = some (.slice e)) (hi : P.info? e = some i) (hz : i.zero = some z)
    (hsize : i.size = 1) (hby : i.bytes = 16) (hzs : z.cells.size = 1)
    (v : Value) (n : Nat) (xs : List Value) (hs : a.eval s = v) (hown : w.ownsRow base e 1 v n xs)
    (B : Nat) (u : Value) (ts : List (List UInt8)) (hx : a.eval x = u) (hu : SL w B u ts)
    (hbytes : (n + ts.length) * 16 ≤ 140737488355328) (hbase : base ≤ w.heap.size)
    (h : ∀ v' w', w'.ownsRow base e 1 v' (n + ts.length) (xs ++ ts.map strV) → w.grownBy w' v.ownBlock → wpList P ops Q rest (a.put o.dst v') w') : wpList P ops Q (o :: rest) a w := by
  obtain ⟨A, cap, rfl, h0, hr⟩ := hu
  cases A with
  | none =>
    obtain ⟨rfl, rfl⟩ := h0 rfl
    refine wpList_append_own_none hgd s x t ho base e i 1 ht hi v n xs hs hown hx (h v w ?_ (World.grownBy.refl w _))
    simpa using hown
  | some ad =>
    refine wpList_append_own w hgd s x t ho base e i z 1 16 ht hi hz hsize hby hzs (by omega) v n xs hs hown ad ts.length cap (ts.map strV) hx (by simp) ?_ ?_ (by unfold maxLen; omega) hbytes hbase (fun v' w' h1 h2 _ => h v' w' h1 h2)
    · intro j y hj
      have hjl : j < ts.length := by have := (List.getElem?_eq_some_iff.1 hj).1; simpa using this
      obtain ⟨b, off, hA, _, hc⟩ := hr (by intro e0; subst e0; simp at hjl)
      injection hA with hA
      subst hA
      have e : (⟨b, off, none⟩ : Addr).add j = ⟨b, off + j, none⟩ := by unfold Addr.add; split <;> simp_all
      rw [e, hc j hjl]
      rw [List.getElem?_map, List.getElem?_eq_getElem hjl] at hj
      simp only [Option.map_some] at hj
      rw [← hj]
      simp [hjl, strV]
    · intro y hy
      obtain ⟨t, _, rfl⟩ := List.mem_map.1 hy
      rfl
def SamePost (ss ts : List (List UInt8)) (w : World) (e : Ending) (w' : World) : Prop := e = .returned (.bool (decide (ss = ts))) ∧ Below w.heap.size w w'
theorem same_other (A A' : Option Addr) (cap cap' : Nat) (ss ts : List (List UInt8)) (h : ss.length ≠ ts.length) (w : World) : Calls Try.prog 17 #[.slice A ss.length cap, .slice A' ts.length cap'] w (SamePost ss ts w) := by
  have e : decide (ss = ts) = false := by rw [decide_eq_false_iff_not]; intro h0; exact h (by rw [h0])
  replace e := Lib.hid e
  have b : ((ss.length : Int) != (ts.length : Int)) = true := by rw [bne_iff_ne]; omega
  have b2 : (ss.length != ts.length) = true := by rw [bne_iff_ne]; exact h
  clear h
  go_enter Try.func17, Try.ntmps17
  go_wp2
  go_ret
  unfold SamePost
  rw [e.out]
  exact ⟨rfl, Below.refl _ _⟩
set_option maxHeartbeats 3200000 in
theorem same_loop (A A' : Option Addr) (cap cap' : Nat) (ss ts : List (List UInt8)) (hl : ss.length = ts.length) (hm : ss.length ≤ 1125899906842624) (w : World)
    (h1 : ss ≠ [] → ∃ b off, A = some ⟨b, off, none⟩ ∧ b < w.heap.size ∧ ∀ k, k < ss.length → w.cell? ⟨b, off + k, none⟩ = some (.string (S (ss.getD k []))))
    (h2 : ts ≠ [] → ∃ b off, A' = some ⟨b, off, none⟩ ∧ b < w.heap.size ∧ ∀ k, k < ts.length → w.cell? ⟨b, off + k, none⟩ = some (.string (S (ts.getD k [])))) :
    Calls Try.prog 17 #[.slice A ss.length cap, .slice A' ss.length cap'] w (SamePost ss ts w) := by
  replace h1 := Lib.hid h1
  replace h2 := Lib.hid h2
  replace hl := Lib.hid hl
  go_enter Try.func17, Try.ntmps17
  go_wp2
  go_loopw [5] (fun i wr => ∃ k : Nat, k ≤ ss.length ∧ i = .int .i64 k ∧ Hid (Below w.heap.size w wr) ∧ Hid (∀ j, j < k → ss.getD j [] = ts.getD j [])) (fun i _ => ss.length - (intOf i).toNat)
  case atStart => exact ⟨0, Nat.zero_le _, rfl, Below.refl _ _, fun j hj => absurd hj (by omega)⟩
  case round =>
    obtain ⟨k, hk, rfl, HB, HE⟩ := hrel
    by_cases hlt : k < ss.length
    · obtain ⟨b, off, rfl, hb, hc⟩ := h1.out (by intro h0; subst h0; simp at hlt)
      obtain ⟨b', off', rfl, hb', hc'⟩ := h2.out (by intro h0; have := hl.out; subst h0; simp at this; subst this; simp at hlt)
      have hc1 : wr.cell? ⟨b, off + k, none⟩ = some (.string (S (ss.getD k []))) := (HB.out.cell (p := ⟨b, off + k, none⟩) hb).trans (hc k hlt)
      have hc2 : wr.cell? ⟨b', off' + k, none⟩ = some (.string (S (ts.getD k []))) := (HB.out.cell (p := ⟨b', off' + k, none⟩) hb').trans (hc' k (by rw [← hl.out]; exact hlt))
      clear hc hc' h1 h2
      obtain ⟨x, hx⟩ : ∃ x, ss.getD k [] = x := ⟨_, rfl⟩
      obtain ⟨y, hy⟩ : ∃ y, ts.getD k [] = y := ⟨_, rfl⟩
      rw [hx] at hc1
      rw [hy] at hc2
      replace hx := Lib.hid hx
      replace hy := Lib.hid hy
      have i0 : (0 : Int) ≤ (k : Int) := by omega
      have i1 : (k : Int) < (ss.length : Int) := by omega
      by_cases hxy : x = y
      · have bb : ((S x).toList == (S y).toList) = true := by rw [S_beq]; simpa using hxy
        replace hxy := Lib.hid hxy
        go_wp2_with fail
        go_quiet (fail)
        go_wp2
        go_roundw
        case rel =>
          refine ⟨k + 1, by omega, by go_num, ⟨HB.out.os, HB.out.tape, HB.out.output, HB.out.size, HB.out.block⟩, fun j hj => ?_⟩
          by_cases hjk : j < k
          · exact HE.out j hjk
          · have : j = k := by omega
            subst this
            rw [hx.out, hy.out, hxy.out]
        case measure => simp [intOf]; omega
      · have bb : ((S x).toList == (S y).toList) = false := by rw [S_beq]; simpa using hxy
        have e : decide (ss = ts) = false := by
          rw [decide_eq_false_iff_not]; intro h0; apply hxy; rw [← hx.out, ← hy.out, h0]
        replace e := Lib.hid e
        replace hxy := Lib.hid hxy
        go_wp2_with fail
        go_quiet (fail)
        go_wp2
        go_ret
        unfold SamePost
        rw [e.out]
        exact ⟨rfl, ⟨HB.out.os, HB.out.tape, HB.out.output, HB.out.size, HB.out.block⟩⟩
    · have e : decide (ss = ts) = true := by
        rw [decide_eq_true_iff]
        apply List.ext_getElem hl.out
        intro i h1 h2
        have := HE.out i (by omega)
        simpa [h1, h2] using this
      replace e := Lib.hid e
      go_wp2
      go_ret
      unfold SamePost
      rw [e.out]
      exact ⟨rfl, HB.out⟩
theorem same_any (v v' : Value) (ss ts : List (List UInt8)) (hm : ss.length ≤ 1125899906842624) (w : World) (h1 : SL w w.heap.size v ss) (h2 : SL w w.heap.size v' ts) : Calls Try.prog 17 #[v, v'] w (SamePost ss ts w) := by
  obtain ⟨A, cap, rfl, _, r1⟩ := h1
  obtain ⟨A', cap', rfl, _, r2⟩ := h2
  by_cases hl : ss.length = ts.length
  · rw [← hl]; exact same_loop A A' cap cap' ss ts hl hm w r1 r2
  · exact same_other A A' cap cap' ss ts hl w

/-- A slice of two texts that was built just now. -/
theorem SL_built (w : World) (ss : List (List UInt8)) (xs : Array Value) (h : xs = (ss.map strV).toArray) : SL (w.alloc (.cells xs 9)) (w.heap.size + 1) (.slice (some ⟨w.heap.size, 0, none⟩) ss.length ss.length) ss := by
  subst h
  refine ⟨_, _, rfl, (fun h0 => by cases h0), fun hne => ⟨w.heap.size, 0, rfl, by omega, fun k hk => ?_⟩⟩
  rw [Nat.zero_add, cell_of_row _ w.heap.size k _ 9 (0, 0) (heap_alloc_new w _)]
  simp [hk, strV]
theorem path_some (l : List UInt8) (ms : List (List UInt8)) (h : pathL l = some ms) (hs : l.length ≤ 1125899906842624) (w : World) : Calls Try.prog 16 #[.string (S l)] w fun e w' => ∃ v, e = .returned (.tuple #[v, .int .i64 0]) ∧ w'.ownsRow w.heap.size 9 1 v ms.length (ms.map strV) ∧ Below w.heap.size w w' := by
  refine (path_any l hs w).mono fun e w' hp => ?_
  unfold PathPost at hp
  rw [h] at hp
  exact hp
theorem path_none (l : List UInt8) (h : pathL l = none) (hs : l.length ≤ 1125899906842624) (w : World) : Calls Try.prog 16 #[.string (S l)] w fun e w' => ∃ v, e = .returned (.tuple #[v, .int .i64 10]) ∧ w'.ownsRow w.heap.size 9 1 v 0 [] ∧ Below w.heap.size w w' := by
  refine (path_any l hs w).mono fun e w' hp => ?_
  unfold PathPost at hp
  rw [h] at hp
  exact hp
theorem join_some (v : Value) (ss : List (List UInt8)) (p : List UInt8) (h : joinL ss = some p) (hm : ss.length ≤ 1125899906842624) (w : World) (hv : SL w w.heap.size v ss) : Calls Try.prog 18 #[v] w fun e w' => e = .returned (.tuple #[.string (S p), .int .i64 0]) ∧ Below w.heap.size w w' := by
  refine (join_any v ss hm w hv).mono fun e w' hp => ?_
  unfold JoinPost at hp
  rw [h] at hp
  exact hp
theorem join_no (v : Value) (ss : List (List UInt8)) (h : joinL ss = none) (hm : ss.length ≤ 1125899906842624) (w : World) (hv : SL w w.heap.size v ss) : Calls Try.prog 18 #[v] w fun e w' => e = .returned (.tuple #[.string (S []), .int .i64 10]) ∧ Below w.heap.size w w' := by
  refine (join_any v ss hm w hv).mono fun e w' hp => ?_
  unfold JoinPost at hp
  rw [h] at hp
  exact hp
theorem un_some (l p : List UInt8) (h : un l = some p) (hs : l.length ≤ 274877906944) (w : World) : Calls Try.prog 20 #[.string (S l)] w fun e w' => e = .returned (.tuple #[.string (S p), .int .i64 0]) ∧ Below w.heap.size w w' := by
  refine (unescape_any l hs w).mono fun e w' hp => ?_
  unfold UnPost at hp
  rw [h] at hp
  exact hp
theorem un_none (l : List UInt8) (h : un l = none) (hs : l.length ≤ 274877906944) (w : World) : Calls Try.prog 20 #[.string (S l)] w fun e w' => e = .returned (.tuple #[.string (S []), .int .i64 11]) ∧ Below w.heap.size w w' := by
  refine (unescape_any l hs w).mono fun e w' hp => ?_
  unfold UnPost at hp
  rw [h] at hp
  exact hp
theorem text_is (l : List UInt8) (b : Bool) (h : validD l = b) (hs : l.length ≤ 1125899906842624) (w : World) : Calls Try.prog 11 #[.string (S l)] w fun e w' => e = .returned (.bool b) ∧ Below w.heap.size w w' := by
  subst h
  exact text_any (S l) (by rw [S_size]; exact hs) w
theorem name_is (l : List UInt8) (b : Bool) (h : isName l = b) (w : World) : Calls Try.prog 13 #[.string (S l)] w fun e w' => e = .returned (.bool b) ∧ Below w.heap.size w w' := by
  subst h
  exact name_L l w
theorem esc_is (l m : List UInt8) (h : esc l = m) (hs : l.length ≤ 1099511627776) (w : World) : Calls Try.prog 22 #[.string (S l)] w fun e w' => e = .returned (.string (S m)) ∧ Below w.heap.size w w' := by
  subst h
  exact escape_any l hs w
theorem beq_self (l : List UInt8) : ((S l).toList == l) = true := by rw [toList_beq]; simp [S]
theorem same_is (v v' : Value) (ss ts : List (List UInt8)) (b : Bool) (h : decide (ss = ts) = b) (hm : ss.length ≤ 1125899906842624) (w : World) (h1 : SL w w.heap.size v ss) (h2 : SL w w.heap.size v' ts) : Calls Try.prog 17 #[v, v'] w fun e w' => e = .returned (.bool b) ∧ Below w.heap.size w w' := by
  subst h
  exact same_any v v' ss ts hm w h1 h2
set_option maxHeartbeats 6400000 in
theorem fixed_any (w : World) : Calls Try.prog 10 #[] w fun e w' => e = .returned (.bool true) ∧ Below w.heap.size w w' := by
  have e1 : pathL [47, 97, 47, 98] = some [[97], [98]] := by decide +kernel
  have e2 : pathL [47] = some [] := by decide +kernel
  have e3 : pathL [47, 97, 47] = none := by decide +kernel
  have e4 : joinL [[97], [98]] = some [47, 97, 47, 98] := by decide +kernel
  have e5 : un [92, 120, 52, 49] = none := by decide +kernel
  have e6 : un [97, 92, 92, 92, 110, 92, 120, 102, 102, 195, 169] = some [97, 92, 10, 255, 195, 169] := by decide +kernel
  have e7 : esc [97, 92, 10, 255, 195, 169] = [97, 92, 92, 92, 110, 92, 120, 102, 102, 195, 169] := by decide +kernel
  have e8 : validD [195, 169] = true := by decide +kernel
  have e9 : validD [255] = false := by decide +kernel
  have e10 : isName [195, 169] = true := by decide +kernel
  have e11 : isName [46, 46] = false := by decide +kernel
  have q1 := beq_self [47, 97, 47, 98]
  have q2 := beq_self [97, 92, 10, 255, 195, 169]
  have q3 := beq_self [97, 92, 92, 92, 110, 92, 120, 102, 102, 195, 169]
  replace e1 := Lib.hid e1
  replace e2 := Lib.hid e2
  replace e3 := Lib.hid e3
  replace e4 := Lib.hid e4
  replace e5 := Lib.hid e5
  replace e6 := Lib.hid e6
  replace e7 := Lib.hid e7
  replace e8 := Lib.hid e8
  replace e9 := Lib.hid e9
  replace e10 := Lib.hid e10
  replace e11 := Lib.hid e11
  go_enter Try.func10, Try.ntmps10
  go_wp2_with fail
  refine (path_some [47, 97, 47, 98] _ e1.out (by decide) _).mono ?_
  rintro e w1 ⟨v1, rfl, ho1, hb1⟩
  have B1 : Below w.heap.size w w1 := hb1
  clear hb1
  replace B1 := Lib.hid B1
  have s1 := Lib.hid (own_SL ho1)
  obtain ⟨A1, c1, rfl⟩ := own_form ho1
  clear ho1
  go_wp2_with fail
  refine (path_some [47] _ e2.out (by decide) _).mono ?_
  rintro e w2 ⟨v2, rfl, ho2, hb2⟩
  have B2 := Lib.hid (B1.out.trans (hb2.mono B1.out.size))
  have s2 := Lib.hid ((s1.out.below hb2).mono hb2.size)
  obtain ⟨A2, c2, rfl⟩ := own_form ho2
  clear ho2 hb2 B1 s1
  go_wp2_with fail
  refine (path_none [47, 97, 47] e3.out (by decide) _).mono ?_
  rintro e w3 ⟨v3, rfl, ho3, hb3⟩
  have B3 := Lib.hid (B2.out.trans (hb3.mono B2.out.size))
  have s3 := Lib.hid ((s2.out.below hb3).mono hb3.size)
  obtain ⟨A3, c3, rfl⟩ := own_form ho3
  clear ho3 hb3 B2 s2
  go_wp2_with fail
  have hsl := SL_built w3 [[97], [98]] #[.string ⟨#[97]⟩, .string ⟨#[98]⟩] rfl
  refine (join_some _ [[97], [98]] _ e4.out (by decide) _ (by rw [World.size_alloc]; exact hsl)).mono ?_
  clear hsl
  rintro e w4 ⟨rfl, hb4⟩
  have B4 := Lib.hid ((B3.out.alloc B3.out.size _).trans (hb4.mono (Below.trans B3.out ((Below.refl _ _).alloc B3.out.size _)).size))
  have s4 := Lib.hid (((s3.out.below ((Below.refl _ _).alloc (Nat.le_refl _) _)).mono ((Below.refl 0 w3).alloc (Nat.zero_le _) _).size).below hb4 |>.mono hb4.size)
  clear hb4 B3 s3
  go_wp2_with fail
  refine (un_none _ e5.out (by decide) _).mono ?_
  rintro e w5 ⟨rfl, hb5⟩
  have B5 := Lib.hid (B4.out.trans (hb5.mono B4.out.size))
  have s5 := Lib.hid ((s4.out.below hb5).mono hb5.size)
  clear hb5 B4 s4
  go_wp2_with fail
  refine (un_some _ _ e6.out (by decide) _).mono ?_
  rintro e w6 ⟨rfl, hb6⟩
  have B6 := Lib.hid (B5.out.trans (hb6.mono B5.out.size))
  have s6 := Lib.hid ((s5.out.below hb6).mono hb6.size)
  clear hb6 B5 s5
  go_wp2_with fail
  have hsl := SL_built w6 [[97], [98]] #[.string ⟨#[97]⟩, .string ⟨#[98]⟩] rfl
  refine (same_is _ _ [[97], [98]] [[97], [98]] true (by simp) (by decide) _ (by rw [World.size_alloc]; exact (s6.out.below ((Below.refl _ _).alloc (Nat.le_refl _) _)).mono (by omega)) (by rw [World.size_alloc]; exact hsl)).mono ?_
  clear hsl s6
  rintro e w7 ⟨rfl, hb7⟩
  have B7 := Lib.hid ((B6.out.alloc B6.out.size _).trans (hb7.mono (Below.trans B6.out ((Below.refl _ _).alloc B6.out.size _)).size))
  clear hb7 B6
  go_wp2_with fail
  refine (esc_is _ _ e7.out (by decide) _).mono ?_
  rintro e w8 ⟨rfl, hb8⟩
  have B8 := Lib.hid (B7.out.trans (hb8.mono B7.out.size))
  clear hb8 B7
  go_wp2_with fail
  refine (text_is _ _ e8.out (by decide) _).mono ?_
  rintro e w9 ⟨rfl, hb9⟩
  have B9 := Lib.hid (B8.out.trans (hb9.mono B8.out.size))
  clear hb9 B8
  go_wp2_with fail
  refine (text_is _ _ e9.out (by decide) _).mono ?_
  rintro e w10 ⟨rfl, hb10⟩
  have B10 := Lib.hid (B9.out.trans (hb10.mono B9.out.size))
  clear hb10 B9
  go_wp2_with fail
  refine (name_is _ _ e10.out _).mono ?_
  rintro e w11 ⟨rfl, hb11⟩
  have B11 := Lib.hid (B10.out.trans (hb11.mono B10.out.size))
  clear hb11 B10
  go_wp2_with fail
  refine (name_is _ _ e11.out _).mono ?_
  rintro e w12 ⟨rfl, hb12⟩
  have B12 := Lib.hid (B11.out.trans (hb12.mono B11.out.size))
  clear hb12 B11
  go_wp2
  go_ret
  exact ⟨rfl, B12.out⟩
end Go.Proofs.Ytcgdocdpdapglaa
