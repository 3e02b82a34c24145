/- The document's answer: what a text says. -/
import Derived.Test.YtcgdocdpdapglaaR4
namespace Go.Proofs.Ytcgdocdpdapglaa
open Go.RowKit Go.Lib
def numZ (c : Int) : Int := if 48 ≤ c ∧ c ≤ 57 then c - 48 else if 97 ≤ c ∧ c ≤ 102 then c - 87 else -1
set_option maxHeartbeats 400000 in
theorem number_is (c v : Int) (h0 : 0 ≤ c) (h9 : c ≤ 255) (hv : numZ c = v) (w : World) : Calls Try.prog 30 #[.int .u8 c] w fun e w' => e = .returned (.int .i64 v) ∧ w' = w := by
  by_cases h1 : c < 48
  · have e : Hid (v = -1) := by show _ = _; rw [← hv]; unfold numZ; rw [if_neg (by omega), if_neg (by omega)]
    clear hv
    go_enter Try.func30, Try.ntmps30
    go_wp2
    go_ret
    exact ⟨int_ret (by rw [e.out]), rfl⟩
  by_cases h2 : c ≤ 57
  · have e : Hid (v = c - 48) := by show _ = _; rw [← hv]; unfold numZ; rw [if_pos (by omega)]
    clear hv
    go_enter Try.func30, Try.ntmps30
    go_wp2
    go_ret
    exact ⟨int_ret (by rw [e.out]), rfl⟩
  by_cases h3 : c < 97
  · have e : Hid (v = -1) := by show _ = _; rw [← hv]; unfold numZ; rw [if_neg (by omega), if_neg (by omega)]
    clear hv
    go_enter Try.func30, Try.ntmps30
    go_wp2
    go_ret
    exact ⟨int_ret (by rw [e.out]), rfl⟩
  by_cases h4 : c ≤ 102
  · have e : Hid (v = c - 87) := by show _ = _; rw [← hv]; unfold numZ; rw [if_neg (by omega), if_pos (by omega)]
    clear hv
    go_enter Try.func30, Try.ntmps30
    go_wp2
    go_ret
    exact ⟨int_ret (by rw [e.out]; omega), rfl⟩
  · have e : Hid (v = -1) := by show _ = _; rw [← hv]; unfold numZ; rw [if_neg (by omega), if_neg (by omega)]
    clear hv
    go_enter Try.func30, Try.ntmps30
    go_wp2
    go_ret
    exact ⟨int_ret (by rw [e.out]), rfl⟩
theorem numZ_dig (c : UInt8) (h : isDig c = true) : numZ (c.toNat : Int) = (digV c : Int) ∧ digV c < 16 := by
  unfold isDig at h
  have h' : (48 ≤ c.toNat ∧ c.toNat ≤ 57) ∨ (97 ≤ c.toNat ∧ c.toNat ≤ 102) := by simpa using h
  unfold numZ digV
  rcases h' with h1 | h1
  · rw [if_pos (by omega), if_pos (by omega)]; omega
  · rw [if_neg (by omega), if_pos (by omega), if_neg (by omega)]; omega
theorem numZ_no (c : UInt8) (h : isDig c = false) : numZ (c.toNat : Int) = -1 := by
  have h' : ¬ ((48 ≤ c.toNat ∧ c.toNat ≤ 57) ∨ (97 ≤ c.toNat ∧ c.toNat ≤ 102)) := by
    intro hh
    have : isDig c = true := by unfold isDig; simpa using hh
    rw [h] at this; cases this
  unfold numZ
  rw [if_neg (by omega), if_neg (by omega)]
theorem getD_at2 (s : List UInt8) (i k : Nat) (h : i + k < (S s).size) : (s.drop i).getD k 0 = (S s)[i + k] := by
  rw [getD_dropN, byte_at s (i + k) h]
theorem eq_symm {k : Nat} {args : Array Value} {x : Ending} {w : World} (h : Calls Try.prog k args w fun e w' => e = x ∧ w' = w) : Calls Try.prog k args w fun e w' => e = x ∧ w = w' := h.mono fun _ _ hh => ⟨hh.1, hh.2.symm⟩
theorem escR_is (l m : List UInt8) (h : esc l = m) (hs : l.length ≤ 1099511627776) (w : World) : Calls Try.prog 23 #[.string (S l)] w fun e w' => e = .returned (.string (S m)) ∧ Below w.heap.size w w' := by
  subst h
  exact escapeR_any l hs w
def UnRel (s : List UInt8) (w : World) (v k : Value) (wr : World) : Prop := ∃ (pos : Nat) (acc : List UInt8), k = .int .i64 pos ∧ pos ≤ s.length ∧ wr.ownsRow w.heap.size 5 1 v acc.length (byteCells acc) ∧ Hid (Below w.heap.size w wr) ∧ Hid (unR s = (unR (s.drop pos)).map (acc ++ ·)) ∧ acc.length ≤ pos
set_option maxRecDepth 100000 in
set_option maxHeartbeats 12800000 in
theorem unescapeR_any (s : List UInt8) (hs : s.length ≤ 274877906944) (w : World) : Calls Try.prog 21 #[.string (S s)] w (UnPost s w) := by
  obtain ⟨i0, hi, hz0, hz1, hz2⟩ := info_parts info5
  have hz : (S s).size = s.length := S_size s
  replace hz := Lib.hid hz
  have er := Lib.hid (empty_bytes w w.heap.size (Nat.le_refl _))
  go_enter Try.func21, Try.ntmps21
  go_wp2
  go_loopw [4, 5] (fun v k wr => UnRel s w v k wr) (fun _ k _ => s.length - (intOf k).toNat)
  case atStart => exact ⟨0, [], rfl, by omega, er.out, (Below.refl _ _).alloc (Nat.le_refl _) _, by show _ = _; simp, by simp⟩
  case round =>
    obtain ⟨pos, acc, rfl, hp, hown, HB, HE, hal⟩ := hrel
    clear er
    obtain ⟨A, cap, rfl⟩ := own_form hown
    have hbw := HB.out.size
    have hzz := hz.out
    by_cases hlt : pos < s.length
    · have hlt2 : pos < (S s).size := by omega
      have hne := drop_neL hlt
      have hst := unR_step _ hne
      have hg0 : (s.drop pos).getD 0 0 = (S s)[pos] := getD_at2 s pos 0 hlt2
      have hdl : (s.drop pos).length = s.length - pos := List.length_drop
      replace hst := Lib.hid hst
      have err : (readB (s.drop pos)).2 = 0 → un s = none := by
        intro h
        unfold un
        rw [HE.out, hst.out, if_pos h]; rfl
      have nxt : ∀ b n, readB (s.drop pos) = (b, n) → n ≠ 0 → unR s = (unR (s.drop (pos + n))).map (acc ++ [b] ++ ·) := by
        intro b n h h0
        rw [HE.out, hst.out, h, if_neg h0, List.drop_drop, Option.map_map]
        congr 1
        funext x
        simp
      replace err := Lib.hid err
      replace nxt := Lib.hid nxt
      by_cases c0 : (S s)[pos] = 92
      · have g0 : (s.drop pos).getD 0 0 = 92 := by rw [hg0]; exact c0
        have b0 : (((S s)[pos].toNat : Int) != 92) = false := by rw [c0]; rfl
        clear hg0 c0
        by_cases h1 : pos + 1 < s.length
        · have h12 : pos + 1 < (S s).size := by omega
          have hg1 := getD_at2 s pos 1 h12
          by_cases c1 : (S s)[pos + 1] = 92
          · have hr : readB (s.drop pos) = (92, 2) := by
              unfold readB
              rw [g0, if_neg (by decide), if_pos ⟨by rw [hdl]; omega, by rw [hg1]; exact c1⟩]
            have b1 : (((S s)[pos + 1].toNat : Int) == 92) = true := by rw [c1]; rfl
            have hn := nxt.out _ _ hr (by omega)
            replace hn := Lib.hid hn
            clear c1 hg1 hr g0
            replace hzz := Lib.hid hzz
            replace hne := Lib.hid hne
            replace hdl := Lib.hid hdl
            go_wp2_with (at_builtin; refine wpList_append_own _ rfl _ _ 42 rfl w.heap.size 5 i0 (.int .u8 0) 1 1 Try.underlying42 hi hz0 hz1 hz2 rfl (by decide) _ _ _ rfl (hown.alloc _) ⟨wr.heap.size, 0, none⟩ 1 1 [.int .u8 92] rfl rfl ?c1 ?c2 ?c3 ?c4 ?c5 ?_)
            case c1 => exact row_new wr [_] 5
            case c2 => intro u hu; simp at hu; subst hu; rfl
            case c3 => unfold maxLen; omega
            case c4 => omega
            case c5 => rw [World.size_alloc]; omega
            intro v' w2 ho2 hgr _
            have ho3 : w2.ownsRow (w.heap.size) 5 1 v' (acc ++ [92]).length (byteCells (acc ++ [92])) := by
              rw [List.length_append, byteCells_append]; exact ho2
            have hb2 := Lib.hid ((HB.out.alloc hbw _).grown hgr (by rw [World.size_alloc]; omega) fun g hg => (hown.lt g hg).1)
            clear ho2 hgr hown
            replace ho3 := Lib.hid ho3
            go_wp2
            go_roundw
            case rel => exact ⟨pos + 2, acc ++ [92], by go_num, by omega, ho3.out, hb2, hn, by rw [List.length_append]; simp; omega⟩
            case measure => simp [intOf]; omega
          have b1 : (((S s)[pos + 1].toNat : Int) == 92) = false := beq_no (n := 92) (by decide) c1
          by_cases c2 : (S s)[pos + 1] = 110
          · have hr : readB (s.drop pos) = (10, 2) := by
              unfold readB
              rw [g0, if_neg (by decide), if_neg (by rw [hg1]; exact fun h => c1 h.2), if_pos ⟨by rw [hdl]; omega, by rw [hg1]; exact c2⟩]
            have b2 : (((S s)[pos + 1].toNat : Int) == 110) = true := by rw [c2]; rfl
            have hn := nxt.out _ _ hr (by omega)
            replace hn := Lib.hid hn
            clear c1 c2 hg1 hr g0
            replace hzz := Lib.hid hzz
            replace hne := Lib.hid hne
            replace hdl := Lib.hid hdl
            go_wp2_with (at_builtin; refine wpList_append_own _ rfl _ _ 42 rfl w.heap.size 5 i0 (.int .u8 0) 1 1 Try.underlying42 hi hz0 hz1 hz2 rfl (by decide) _ _ _ rfl (hown.alloc _) ⟨wr.heap.size, 0, none⟩ 1 1 [.int .u8 10] rfl rfl ?c1 ?c2 ?c3 ?c4 ?c5 ?_)
            case c1 => exact row_new wr [_] 5
            case c2 => intro u hu; simp at hu; subst hu; rfl
            case c3 => unfold maxLen; omega
            case c4 => omega
            case c5 => rw [World.size_alloc]; omega
            intro v' w2 ho2 hgr _
            have ho3 : w2.ownsRow (w.heap.size) 5 1 v' (acc ++ [10]).length (byteCells (acc ++ [10])) := by
              rw [List.length_append, byteCells_append]; exact ho2
            have hb2 := Lib.hid ((HB.out.alloc hbw _).grown hgr (by rw [World.size_alloc]; omega) fun g hg => (hown.lt g hg).1)
            clear ho2 hgr hown
            replace ho3 := Lib.hid ho3
            go_wp2
            go_roundw
            case rel => exact ⟨pos + 2, acc ++ [10], by go_num, by omega, ho3.out, hb2, hn, by rw [List.length_append]; simp; omega⟩
            case measure => simp [intOf]; omega
          have b2 : (((S s)[pos + 1].toNat : Int) == 110) = false := beq_no (n := 110) (by decide) c2
          by_cases c3 : (S s)[pos + 1] = 120
          · have b3 : (((S s)[pos + 1].toNat : Int) == 120) = true := by rw [c3]; rfl
            by_cases h3 : pos + 3 < s.length
            · have h22 : pos + 2 < (S s).size := by omega
              have h32 : pos + 3 < (S s).size := by omega
              have hg2 := getD_at2 s pos 2 h22
              have hg3 := getD_at2 s pos 3 h32
              have d2 := (S s)[pos + 2].toNat_lt
              have d3 := (S s)[pos + 3].toNat_lt
              cases e2 : isDig (S s)[pos + 2] with
              | false =>
                have hr : readB (s.drop pos) = (0, 0) := by
                  unfold readB
                  rw [g0, if_neg (by decide), if_neg (by rw [hg1]; exact fun h => c1 h.2), if_neg (by rw [hg1]; exact fun h => c2 h.2), if_neg (by rw [hg2, e2]; exact fun h => absurd h.2.2.1 (by decide))]
                have hu := err.out (by rw [hr])
                replace hu := Lib.hid hu
                have nq := number_is ((S s)[pos + 2].toNat : Int) (-1) (by omega) (by omega) (numZ_no _ e2)
                replace nq := Lib.hid nq
                clear c1 c2 c3 hg1 hr g0 hg2 hg3 e2
                replace hzz := Lib.hid hzz
                replace hne := Lib.hid hne
                replace hdl := Lib.hid hdl
                go_wp2_with fail
                go_goals
                refine (nq.out _).mono ?_
                rintro e w' ⟨rfl, rfl⟩
                go_wp2
                go_ret2
                unfold UnPost
                rw [hu.out]
                exact ⟨rfl, HB.out⟩
              | true =>
                obtain ⟨n2, l2⟩ := numZ_dig _ e2
                have nq2 := number_is ((S s)[pos + 2].toNat : Int) _ (by omega) (by omega) n2
                cases e3 : isDig (S s)[pos + 3] with
                | false =>
                  have hr : readB (s.drop pos) = (0, 0) := by
                    unfold readB
                    rw [g0, if_neg (by decide), if_neg (by rw [hg1]; exact fun h => c1 h.2), if_neg (by rw [hg1]; exact fun h => c2 h.2), if_neg (by rw [hg3, e3]; exact fun h => absurd h.2.2.2 (by decide))]
                  have hu := err.out (by rw [hr])
                  replace hu := Lib.hid hu
                  have nq3 := number_is ((S s)[pos + 3].toNat : Int) (-1) (by omega) (by omega) (numZ_no _ e3)
                  replace nq2 := Lib.hid nq2
                  replace nq3 := Lib.hid nq3
                  clear c1 c2 c3 hg1 hr g0 hg2 hg3 e2 e3 n2
                  replace hzz := Lib.hid hzz
                  replace hne := Lib.hid hne
                  replace hdl := Lib.hid hdl
                  go_wp2_with fail
                  refine (nq2.out _).mono ?_
                  rintro e w' ⟨rfl, rfl⟩
                  go_wp2_with fail
                  refine (nq3.out _).mono ?_
                  rintro e w' ⟨rfl, rfl⟩
                  go_wp2
                  go_ret2
                  unfold UnPost
                  rw [hu.out]
                  exact ⟨rfl, HB.out⟩
                | true =>
                  obtain ⟨n3, l3⟩ := numZ_dig _ e3
                  have nq3 := number_is ((S s)[pos + 3].toNat : Int) _ (by omega) (by omega) n3
                  obtain ⟨x, hx⟩ : ∃ x, UInt8.ofNat (digV (S s)[pos + 2] * 16 + digV (S s)[pos + 3]) = x := ⟨_, rfl⟩
                  have hr : readB (s.drop pos) = (x, 4) := by
                    unfold readB
                    rw [g0, if_neg (by decide), if_neg (by rw [hg1]; exact fun h => c1 h.2), if_neg (by rw [hg1]; exact fun h => c2 h.2), hg1, hg2, hg3, if_pos ⟨by rw [hdl]; omega, c3, e2, e3⟩, hx]
                  have hn := nxt.out _ _ hr (by omega)
                  have hxn : ((x.toNat : Nat) : Int) = 16 * (digV (S s)[pos + 2] : Int) + (digV (S s)[pos + 3] : Int) := by
                    rw [← hx]; simp [UInt8.toNat_ofNat']; omega
                  obtain ⟨z2, hz2e⟩ : ∃ z, digV (S s)[pos + 2] = z := ⟨_, rfl⟩
                  obtain ⟨z3, hz3e⟩ : ∃ z, digV (S s)[pos + 3] = z := ⟨_, rfl⟩
                  rw [hz2e] at nq2 l2 hxn
                  rw [hz3e] at nq3 l3 hxn
                  have k2 : pos + 1 + 1 < (S s).size := by omega
                  have k3 : pos + 1 + 2 < (S s).size := by omega
                  obtain ⟨y2, hy2⟩ : ∃ y : Int, ((S s)[pos + 1 + 1].toNat : Int) = y := ⟨_, rfl⟩
                  obtain ⟨y3, hy3⟩ : ∃ y : Int, ((S s)[pos + 1 + 2].toNat : Int) = y := ⟨_, rfl⟩
                  have nr2 : ∀ w, Calls Try.prog 30 #[.int .u8 y2] w fun e w' => e = .returned (.int .i64 (z2 : Nat)) ∧ w' = w := by rw [← hy2]; exact nq2
                  have nr3 : ∀ w, Calls Try.prog 30 #[.int .u8 y3] w fun e w' => e = .returned (.int .i64 (z3 : Nat)) ∧ w' = w := by rw [← hy3]; exact nq3
                  clear nq2 nq3
                  replace hn := Lib.hid hn
                  replace hz2e := Lib.hid hz2e
                  replace hz3e := Lib.hid hz3e
                  replace hx := Lib.hid hx
                  replace nr2 := Lib.hid nr2
                  replace nr3 := Lib.hid nr3
                  replace hxn := Lib.hid hxn
                  have q1 : (0 : Int) ≤ (z2 : Int) := by omega
                  clear c1 c2 c3 hg1 hr g0 hg2 hg3 e2 e3 n2 n3
                  replace hzz := Lib.hid hzz
                  replace hne := Lib.hid hne
                  replace hdl := Lib.hid hdl
                  go_wp2_with fail
                  refine (eq_symm (nr2.out _)).mono ?_
                  rintro e w' ⟨rfl, rfl⟩
                  go_wp2_with fail
                  refine (eq_symm (nr3.out _)).mono ?_
                  rintro e w' ⟨rfl, rfl⟩
                  go_wp2_with fail
                  have f1 : IntKind.i64.wrap ((pos : Int) + 1 + 1) = (pos : Int) + 1 + 1 := IntWalk.i64_in _ (by omega)
                  have f2 : (0 : Int) ≤ (pos : Int) + 1 + 1 := by omega
                  have f3 : (pos : Int) + 1 + 1 < ((S s).size : Int) := by omega
                  have f4 : ((pos : Int) + 1 + 1).toNat = pos + 1 + 1 := by omega
                  have f5 : IntKind.i64.wrap ((pos : Int) + 1 + 2) = (pos : Int) + 1 + 2 := IntWalk.i64_in _ (by omega)
                  have f6 : (0 : Int) ≤ (pos : Int) + 1 + 2 := by omega
                  have f7 : (pos : Int) + 1 + 2 < ((S s).size : Int) := by omega
                  have f8 : ((pos : Int) + 1 + 2).toNat = pos + 1 + 2 := by omega
                  have m1 : IntKind.i64.wrap (16 * (z2 : Int)) = 16 * (z2 : Int) := IntWalk.i64_in _ (by omega)
                  have m2 : IntKind.i64.wrap (16 * (z2 : Int) + (z3 : Int)) = 16 * (z2 : Int) + (z3 : Int) := IntWalk.i64_in _ (by omega)
                  have m3 : IntKind.u8.wrap (16 * (z2 : Int) + (z3 : Int)) = (x.toNat : Int) := by
                    rw [hxn.out]; simp [IntKind.wrap, IntKind.signed, IntKind.bits]; omega
                  have hmax : acc.length + 1 ≤ maxLen := by unfold maxLen; omega
                  have hby : (acc.length + 1) * 1 ≤ 140737488355328 := by omega
                  have h1c : ∀ u ∈ [Value.int .u8 x.toNat], u.oneCell' = true := by
                    intro u hu; simp at hu; subst hu; rfl
                  have hbs : w.heap.size ≤ (wr.alloc (.cells #[Value.int .u8 x.toNat] 5)).drew.heap.size := by
                    show w.heap.size ≤ (wr.alloc _).heap.size
                    rw [World.size_alloc]; omega
                  have hrow : ∀ g, (Value.slice A acc.length cap).ownBlock = some g → w.heap.size ≤ g := fun g hg => (hown.lt g hg).1
                  replace hmax := Lib.hid hmax
                  replace hby := Lib.hid hby
                  replace h1c := Lib.hid h1c
                  replace hbs := Lib.hid hbs
                  replace hrow := Lib.hid hrow
                  go_region_held3 (fun _ => True) (trivial)
                    (first
                      | (go_at_call_of 30 (Value.int .u8 y2); refine (nr2.out _).mono ?_; rintro e w' ⟨rfl, rfl⟩)
                      | (go_at_call_of 30 (Value.int .u8 y3); refine (nr3.out _).mono ?_; rintro e w' ⟨rfl, rfl⟩)
                      | (refine step_own (by rfl) _ _ _ (by rfl) w.heap.size 5 i0 (.int .u8 0) 1 1 Try.underlying42 hi hz0 hz1 hz2 rfl (by omega) _ _ _ (by rfl) ((hown.alloc _).drew) ⟨wr.heap.size, 0, none⟩ 1 1 [.int .u8 x.toNat] (by rfl) (by rfl) (row_new wr [.int .u8 x.toNat] 5) h1c.out hmax.out hby.out hbs.out ?_; intro v' w2 ho2 hgr))
                  all_goals
                    have ho3 : w2.ownsRow (w.heap.size) 5 1 v' (acc ++ [x]).length (byteCells (acc ++ [x])) := by
                      rw [List.length_append, byteCells_append]; exact ho2
                    have hb2 := Lib.hid (((HB.out.alloc hbw _).drew).grown hgr hbs.out hrow.out)
                    clear ho2 hgr hown
                    replace ho3 := Lib.hid ho3
                    go_wp2
                    go_roundw
                    case rel => exact ⟨pos + 4, acc ++ [x], by go_num, by omega, ho3.out, hb2, hn, by rw [List.length_append]; simp; omega⟩
                    case measure => simp [intOf]; omega
            · have hr : readB (s.drop pos) = (0, 0) := by
                unfold readB
                rw [g0, if_neg (by decide), if_neg (by rw [hg1]; exact fun h => c1 h.2), if_neg (by rw [hg1]; exact fun h => c2 h.2), if_neg (by rw [hdl]; omega)]
              have hu := err.out (by rw [hr])
              replace hu := Lib.hid hu
              have hge : ((S s).size : Int) ≤ (pos : Int) + 1 + 2 := by omega
              clear c1 c2 c3 hg1 hr g0
              replace hzz := Lib.hid hzz
              replace hne := Lib.hid hne
              replace hdl := Lib.hid hdl
              go_wp2
              go_ret2
              unfold UnPost
              rw [hu.out]
              exact ⟨rfl, HB.out⟩
          · have hr : readB (s.drop pos) = (0, 0) := by
              unfold readB
              rw [g0, if_neg (by decide), if_neg (by rw [hg1]; exact fun h => c1 h.2), if_neg (by rw [hg1]; exact fun h => c2 h.2), if_neg (by rw [hg1]; exact fun h => c3 h.2.1)]
            have b3 : (((S s)[pos + 1].toNat : Int) == 120) = false := beq_no (n := 120) (by decide) c3
            have hu := err.out (by rw [hr])
            replace hu := Lib.hid hu
            clear c1 c2 c3 hg1 hr g0
            replace hzz := Lib.hid hzz
            replace hne := Lib.hid hne
            replace hdl := Lib.hid hdl
            go_wp2
            go_ret2
            unfold UnPost
            rw [hu.out]
            exact ⟨rfl, HB.out⟩
        · have hr : readB (s.drop pos) = (0, 0) := by
            unfold readB
            rw [g0, if_neg (by decide), if_neg (by rw [hdl]; omega), if_neg (by rw [hdl]; omega), if_neg (by rw [hdl]; omega)]
          have hu := err.out (by rw [hr])
          have hge : ((S s).size : Int) ≤ (pos : Int) + 1 := by omega
          replace hu := Lib.hid hu
          clear hr g0
          replace hzz := Lib.hid hzz
          replace hne := Lib.hid hne
          replace hdl := Lib.hid hdl
          go_wp2
          go_ret2
          unfold UnPost
          rw [hu.out]
          exact ⟨rfl, HB.out⟩
      · have hr : readB (s.drop pos) = ((S s)[pos], 1) := by
          unfold readB
          rw [hg0, if_pos c0]
        have b0 : (((S s)[pos].toNat : Int) != 92) = true := bne_yes (n := 92) (by decide) c0
        have hn := nxt.out _ _ hr (by omega)
        replace hn := Lib.hid hn
        clear c0 hg0 hr
        replace hzz := Lib.hid hzz
        replace hne := Lib.hid hne
        replace hdl := Lib.hid hdl
        go_wp2_with (at_builtin; refine wpList_append_own _ rfl _ _ 42 rfl w.heap.size 5 i0 (.int .u8 0) 1 1 Try.underlying42 hi hz0 hz1 hz2 rfl (by decide) _ _ _ rfl (hown.alloc _) ⟨wr.heap.size, 0, none⟩ 1 1 [.int .u8 (S s)[pos].toNat] rfl rfl ?c1 ?c2 ?c3 ?c4 ?c5 ?_)
        case c1 => exact row_new wr [_] 5
        case c2 => intro u hu; simp at hu; subst hu; rfl
        case c3 => unfold maxLen; omega
        case c4 => omega
        case c5 => rw [World.size_alloc]; omega
        intro v' w2 ho2 hgr _
        have ho3 : w2.ownsRow (w.heap.size) 5 1 v' (acc ++ [(S s)[pos]]).length (byteCells (acc ++ [(S s)[pos]])) := by
          rw [List.length_append, byteCells_append]; exact ho2
        have hb2 := Lib.hid ((HB.out.alloc hbw _).grown hgr (by rw [World.size_alloc]; omega) fun g hg => (hown.lt g hg).1)
        clear ho2 hgr hown
        replace ho3 := Lib.hid ho3
        go_wp2
        go_roundw
        case rel => exact ⟨pos + 1, acc ++ [(S s)[pos]], by go_num, by omega, ho3.out, hb2, hn, by rw [List.length_append]; simp; omega⟩
        case measure => simp [intOf]; omega
    · have hcv := conv_own hown
      have hge : ¬ pos < (S s).size := by omega
      have HE2 : unR s = some acc := by rw [HE.out, List.drop_eq_nil_of_le (by omega), unR_nil]; simp
      have hacc : acc.length ≤ 1099511627776 := by omega
      replace HE2 := Lib.hid HE2
      replace hzz := Lib.hid hzz
      by_cases hes : esc acc = s
      · have b : ((S s).toList == (S s).toList) = true := by simp
        have HE3 : un s = some acc := by unfold un; rw [HE2.out]; show (if _ then _ else _) = _; rw [if_pos hes]
        replace HE3 := Lib.hid HE3
        replace hes := Lib.hid hes
        go_wp2_with fail
        refine (escR_is acc s hes.out hacc _).mono ?_
        rintro e w1 ⟨rfl, hb1⟩
        have hown1 := ownsRow_below hown hb1
        have hcv1 := conv_own hown1
        have hB1 : Below w.heap.size w w1 := HB.out.trans (hb1.mono hbw)
        clear hb1
        replace hB1 := Lib.hid hB1
        go_wp2
        go_ret2
        unfold UnPost
        rw [HE3.out]
        exact ⟨rfl, hB1.out⟩
      · have b : ((S (esc acc)).toList == (S s).toList) = false := by rw [S_beq]; simpa using hes
        have HE3 : un s = none := by unfold un; rw [HE2.out]; show (if _ then _ else _) = _; rw [if_neg hes]
        replace HE3 := Lib.hid HE3
        replace hes := Lib.hid hes
        go_wp2_with fail
        refine (escapeR_any acc hacc _).mono ?_
        rintro e w1 ⟨rfl, hb1⟩
        have hB1 : Below w.heap.size w w1 := HB.out.trans (hb1.mono hbw)
        clear hb1
        replace hB1 := Lib.hid hB1
        go_wp2
        go_ret2
        unfold UnPost
        rw [HE3.out]
        exact ⟨rfl, hB1.out⟩
end Go.Proofs.Ytcgdocdpdapglaa
