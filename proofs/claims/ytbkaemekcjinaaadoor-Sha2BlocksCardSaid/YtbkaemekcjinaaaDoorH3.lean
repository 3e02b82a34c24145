/- Walks of the document's answer for package sha2: the first primes. -/
import Derived.Test.YtbkaemekcjinaaaDoorKitB
namespace Go.Proofs.YtbkaemekcjinaaaDoor
open Go.RowKit Go.Lib
theorem infoInt : (Tryd.prog.info? 3).map (fun i => (i.zero, i.size, i.bytes)) = some (some (.int .i64 0), 1, 8) := by kernel_rfl
def intC (l : List Nat) : List Value := l.map fun d => Value.int .i64 (d : Nat)
theorem intC_len (l : List Nat) : (intC l).length = l.length := by simp [intC]
theorem intC_append (a b : List Nat) : intC (a ++ b) = intC a ++ intC b := by simp [intC]
/-- The primes below n. -/
def plN : Nat → List Nat
  | 0 => []
  | n + 1 => if 2 ≤ n ∧ (plN n).all (fun p => n % p != 0) = true then plN n ++ [n] else plN n
theorem plN_two : ∀ n, ∀ p ∈ plN n, 2 ≤ p
  | 0, p, h => by cases h
  | n + 1, p, h => by
    rw [plN] at h
    split at h
    · rename_i hn
      rcases List.mem_append.1 h with h | h
      · exact plN_two n p h
      · simp at h; omega
    · exact plN_two n p h
theorem plN_len : ∀ n, (plN n).length ≤ n
  | 0 => by simp [plN]
  | n + 1 => by
    have := plN_len n
    rw [plN]
    split
    · rw [List.length_append]; simp; omega
    · omega
theorem row_cell {w : World} {B : Nat} {T : TypeId} {A : Option Addr} {n cap : Nat} {xs : List Value} (h : w.ownsRow B T 1 (.slice A n cap) n xs) (i : Nat) (hi : i < n) : ∃ g, A = some ⟨g, 0, none⟩ ∧ w.cell? ⟨g, i, none⟩ = xs[i]? ∧ B ≤ g := by
  rcases h.2 with ⟨hv, h0⟩ | ⟨g, cap', cur, hv, hB, _⟩
  · omega
  · obtain ⟨rfl, rfl⟩ : A = some ⟨g, 0, none⟩ ∧ cap = cap' := by injection hv with e1 e2 e3; exact ⟨e1, e3⟩
    exact ⟨g, rfl, h.cellAt i (by omega), hB⟩
def PrimesPost (l : List Nat) (w : World) (e : Ending) (w' : World) : Prop := ∃ v, e = .returned v ∧ w'.ownsRow w.heap.size 3 1 v l.length (intC l) ∧ Below w.heap.size w w'
set_option maxRecDepth 100000 in
set_option maxHeartbeats 6400000 in
theorem primes_any (many N : Nat) (hN : (plN N).length = many) (hl : 2 ≤ N ∧ N < 100000) (hex : ∀ n, n ≤ N → (plN n).length = many → plN n = plN N) (w : World) : Calls Tryd.prog 21 #[.int .i64 many] w (PrimesPost (plN N) w) := by
  obtain ⟨i0, hi, hz0, hz1, hz2⟩ := info_parts infoInt
  have er := Lib.hid (empty_row w w.heap.size 3 (Nat.le_refl _))
  have hml : many < 100000 := by have := plN_len N; omega
  obtain ⟨hN2, hN1⟩ := hl
  replace hN := Lib.hid hN
  replace hex := Lib.hid hex
  go_enter Tryd.func21, Tryd.ntmps21
  go_wp2
  go_loopw [3, 4, 5, 6] (fun v nv _ _ wr => ∃ (n m : Nat) (l : List Nat), 2 ≤ n ∧ n ≤ N ∧ nv = .int .i64 n ∧ m ≤ many ∧ Hid (plN n = l) ∧ Hid (l.length = m) ∧ wr.ownsRow w.heap.size 3 1 v m (intC l) ∧ Hid (Below w.heap.size w wr)) (fun _ nv _ _ _ => N - (intOf nv).toNat)
  case atStart => exact ⟨2, 0, [], by omega, hN2, rfl, Nat.zero_le _, rfl, rfl, er.out, (Below.refl _ _).alloc (Nat.le_refl _) _⟩
  case round =>
    obtain ⟨n, m, l, hn2, hnN, rfl, HM, hl, hm, hown, HB⟩ := hrel
    clear er
    obtain ⟨A, cap, rfl⟩ := own_form hown
    have hbw := HB.out.size
    have h2 : Hid (∀ p ∈ l, 2 ≤ p) := by show ∀ p ∈ l, 2 ≤ p; rw [← hl.out]; exact plN_two n
    by_cases hlt : m < many
    · have hnn : n < N := by
        rcases Nat.lt_or_ge n N with h | h
        · exact h
        · have : n = N := by omega
          subst this
          have e := hN.out
          rw [hl.out, hm.out] at e; omega
      have hun : plN (n + 1) = if l.all (fun p => n % p != 0) = true then l ++ [n] else l := by
        rw [plN, hl.out]
        by_cases h : l.all (fun p => n % p != 0) = true
        · rw [if_pos ⟨hn2, h⟩, if_pos h]
        · rw [if_neg (fun x => h x.2), if_neg h]
      replace hun := Lib.hid hun
      replace hown := Lib.hid hown
      go_wp2
      go_loop [5, 6] (fun bv iv => ∃ (i : Nat) (b : Bool), i ≤ m ∧ iv = .int .i64 i ∧ bv = .bool b ∧ Hid ((l.take i).all (fun p => n % p != 0) = b)) (fun _ iv => m - (intOf iv).toNat)
      case atStart => exact ⟨0, true, Nat.zero_le _, rfl, rfl, rfl⟩
      case round =>
        obtain ⟨i, b, him, rfl, rfl, hb⟩ := hrel
        by_cases hil : i < m
        · have hil2 : i < l.length := by rw [hm.out]; exact hil
          have hnx : (l.take (i + 1)).all (fun p => n % p != 0) = (b && (n % l[i] != 0)) := by
            rw [List.take_succ_eq_append_getElem hil2, List.all_append, hb.out]; simp
          cases b with
          | false =>
            have hnx2 : Hid ((l.take (i + 1)).all (fun p => n % p != 0) = false) := by show _ = _; rw [hnx]; rfl
            clear hnx
            go_wp2
            go_round
            case rel => exact ⟨i + 1, false, by omega, by go_num, rfl, hnx2⟩
            case measure => simp [intOf]; omega
          | true =>
            obtain ⟨g, rfl, hc, _⟩ := row_cell hown.out i hil
            obtain ⟨p, hp⟩ : ∃ p, l[i] = p := ⟨_, rfl⟩
            have hp2 : 2 ≤ p := by rw [← hp]; exact h2.out _ (List.getElem_mem _)
            have e1 : (intC l)[i]? = some (.int .i64 (p : Nat)) := by simp [intC, hil2, hp]
            rw [e1] at hc
            clear e1
            rw [hp] at hnx
            obtain ⟨c, hcc⟩ : ∃ c, (n % p != 0) = c := ⟨_, rfl⟩
            have hnx2 : Hid ((l.take (i + 1)).all (fun p => n % p != 0) = c) := by show _ = _; rw [hnx, hcc]; rfl
            have hbc : (((n : Int) % (p : Int)) != 0) = c := by
              rw [← hcc, ← Int.natCast_emod]
              generalize n % p = k
              rw [Bool.eq_iff_iff]; simp
            replace hcc := Lib.hid hcc
            replace hp := Lib.hid hp
            clear hnx
            go_wp2
            go_round
            case rel => exact ⟨i + 1, c, by omega, by go_num, rfl, hnx2⟩
            case measure => simp [intOf]; omega
        · have him2 : i = m := by omega
          have hall : l.all (fun p => n % p != 0) = b := by rw [← hb.out, List.take_of_length_le (by rw [hm.out]; omega)]
          cases b with
          | false =>
            have hpl : plN (n + 1) = l := by rw [hun.out, hall]; rfl
            replace hpl := Lib.hid hpl
            clear hall
            go_wp2
            go_roundw
            case rel => exact ⟨n + 1, m, l, by omega, by omega, by go_num, HM, hpl, hm, hown.out, HB⟩
            case measure => simp [intOf]; omega
          | true =>
            have hpl : plN (n + 1) = l ++ [n] := by rw [hun.out, hall]; rfl
            have hml2 : (l ++ [n]).length = m + 1 := by rw [List.length_append, hm.out]; rfl
            replace hpl := Lib.hid hpl
            replace hml2 := Lib.hid hml2
            clear hall
            go_wp2_with (at_builtin; refine wpList_append_own _ rfl _ _ 55 rfl w.heap.size 3 i0 (.int .i64 0) 1 8 Tryd.underlying55 hi hz0 hz1 hz2 rfl (by decide) _ _ _ rfl (hown.out.alloc _) ⟨wr.heap.size, 0, none⟩ 1 1 [.int .i64 n] rfl rfl ?c1 ?c2 ?c3 ?c4 ?c5 ?_)
            case c2 => first | rfl | (intro u hu; simp at hu; subst hu; rfl)
            case c3 => unfold maxLen; omega
            case c4 => omega
            case c5 => first | omega | (rw [World.size_alloc]; omega)
            intro v' w2 ho2 hgr _
            have ho3 : w2.ownsRow w.heap.size 3 1 v' (m + 1) (intC (l ++ [n])) := by
              rw [intC_append]; exact ho2
            have hb2 := Lib.hid ((HB.out.alloc hbw _).grown hgr (by rw [World.size_alloc]; omega) fun g hg => (hown.out.lt g hg).1)
            clear ho2 hgr
            replace ho3 := Lib.hid ho3
            go_wp2
            go_roundw
            case rel => exact ⟨n + 1, m + 1, l ++ [n], by omega, by omega, by go_num, by omega, hpl, hml2, ho3.out, hb2⟩
            case measure => simp [intOf]; omega
    · have hmm : m = many := by omega
      have hfin : l = plN N := by rw [← hl.out]; exact hex.out n hnN (by rw [hl.out, hm.out]; exact hmm)
      replace hown := Lib.hid hown
      replace hfin := Lib.hid hfin
      go_wp2
      go_ret
      refine ⟨_, rfl, ?_, HB.out⟩
      rw [← hfin.out, hm.out]; exact hown.out
end Go.Proofs.YtbkaemekcjinaaaDoor
