/- Walks of the document's answer for package sha2: roots, bit by bit.
Walks of the document's answer for package sha2: the first primes. -/
import Derived.Test.YtgnblaaldpniiaaGreatDoorH1
import Derived.Test.YtgnblaaldpniiaaGreatDoorZK1
section
set_option maxRecDepth 100000
set_option linter.unusedVariables false
set_option linter.unusedSimpArgs false
namespace Go.Proofs.YtgnblaaldpniiaaGreatDoor.Sh
open Go.RowKit Go.Lib
def zero5 : List Nat := [0, 0, 0, 0, 0]
def moreL (p : Nat) (r q : List Nat) : List Nat := if p = 2 then plusL 2 0 (growL 1 1 zero5) r else plusL 3 0 (plusL 3 0 (growL 1 1 zero5) r) q
def stepR (p g : Nat) (x : List Nat × List Nat × List Nat) : List Nat × List Nat × List Nat :=
  let l := growL (2 ^ p) g x.2.2
  let r := growL 2 0 x.1
  let q := growL 4 0 x.2.1
  if belowL l (moreL p r q) = true then (r, q, l) else (growL 1 1 r, growL 1 1 (plusL 2 0 q r), lessL 0 l (moreL p r q))
def groupR (p n i : Nat) : Nat := if 64 ≤ i then n / 2 ^ (p * (i - 64)) % 2 ^ p else 0
def bitsR (p n : Nat) : Nat → List Nat × List Nat × List Nat → List Nat × List Nat × List Nat
  | 0, x => x
  | i + 1, x => bitsR p n i (stepR p (groupR p n i) x)
def rootP (n p : Nat) : List Nat × List Nat × List Nat := bitsR p n 67 (zero5, zero5, zero5)
def rootN (n p : Nat) : Nat := ((rootP n p).1.getD 0 0 + (rootP n p).1.getD 1 0 * 4294967296) % 18446744073709551616
structure RS (w : World) (r q l : List Nat) (wr : World) : Prop where
  hr : BigAt wr w.heap.size r
  hq : BigAt wr (w.heap.size + 1) q
  hl : BigAt wr (w.heap.size + 1 + 1) l
  below : Below w.heap.size w wr
theorem RS.setr {w wr w' : World} {r q l r' : List Nat} (h : RS w r q l wr) (hb : BigAt w' w.heap.size r') (ho : Only w.heap.size wr w') : RS w r' q l w' :=
  ⟨hb, h.hq.only ho (by omega), h.hl.only ho (by omega), h.below.trans (ho.below (Nat.le_refl _))⟩
theorem RS.setq {w wr w' : World} {r q l q' : List Nat} (h : RS w r q l wr) (hb : BigAt w' (w.heap.size + 1) q') (ho : Only (w.heap.size + 1) wr w') : RS w r q' l w' :=
  ⟨h.hr.only ho (by omega), hb, h.hl.only ho (by omega), h.below.trans (ho.below (by omega))⟩
theorem RS.setl {w wr w' : World} {r q l l' : List Nat} (h : RS w r q l wr) (hb : BigAt w' (w.heap.size + 1 + 1) l') (ho : Only (w.heap.size + 1 + 1) wr w') : RS w r q l' w' :=
  ⟨h.hr.only ho (by omega), h.hq.only ho (by omega), hb, h.below.trans (ho.below (by omega))⟩
theorem RS.other {w wr w' : World} {r q l : List Nat} {g : Nat} (h : RS w r q l wr) (hg : w.heap.size + 3 ≤ g) (ho : Only g wr w') : RS w r q l w' :=
  ⟨h.hr.only ho (by omega), h.hq.only ho (by omega), h.hl.only ho (by omega), h.below.trans (ho.below (by omega))⟩
theorem RS.drew {w wr : World} {r q l : List Nat} (h : RS w r q l wr) : RS w r q l wr.drew := ⟨h.hr, h.hq, h.hl, h.below.drew⟩
theorem RS.still {w wr w' : World} {r q l : List Nat} (h : RS w r q l wr) (hs : Still wr w') : RS w r q l w' :=
  ⟨h.hr.still hs, h.hq.still hs, h.hl.still hs, h.below.trans ⟨hs.os, hs.tape, hs.output, by rw [hs.heap]; exact Nat.le_refl _, fun k _ => by rw [hs.heap]⟩⟩
theorem BigAt.alloc {w : World} {g : Nat} {l : List Nat} (h : BigAt w g l) (o : Obj) : BigAt (w.alloc o) g l := ⟨(Below.heap_alloc w o g h.lt).trans h.1, h.2⟩
theorem RS.alloc {w wr : World} {r q l : List Nat} (h : RS w r q l wr) (o : Obj) : RS w r q l (wr.alloc o) :=
  ⟨h.hr.alloc o, h.hq.alloc o, h.hl.alloc o, h.below.alloc h.below.size o⟩
theorem RS.size {w wr : World} {r q l : List Nat} (h : RS w r q l wr) : w.heap.size + 3 ≤ wr.heap.size := by have := h.hl.lt; omega
theorem BigAt.new (w : World) : BigAt (w.alloc (.cells #[.int .u64 0, .int .u64 0, .int .u64 0, .int .u64 0, .int .u64 0] 127)) w.heap.size zero5 :=
  ⟨heap_alloc_new w _, rfl, fun d hd => by simp [zero5] at hd; omega⟩
theorem RS.new (w : World) : RS w zero5 zero5 zero5 (((w.alloc (.cells #[.int .u64 0, .int .u64 0, .int .u64 0, .int .u64 0, .int .u64 0] 127)).alloc (.cells #[.int .u64 0, .int .u64 0, .int .u64 0, .int .u64 0, .int .u64 0] 127)).alloc (.cells #[.int .u64 0, .int .u64 0, .int .u64 0, .int .u64 0, .int .u64 0] 127)) := by
  have h1 := BigAt.new w
  have h2 := BigAt.new (w.alloc (.cells #[.int .u64 0, .int .u64 0, .int .u64 0, .int .u64 0, .int .u64 0] 127))
  have h3 := BigAt.new ((w.alloc (.cells #[.int .u64 0, .int .u64 0, .int .u64 0, .int .u64 0, .int .u64 0] 127)).alloc (.cells #[.int .u64 0, .int .u64 0, .int .u64 0, .int .u64 0, .int .u64 0] 127))
  rw [World.size_alloc] at h2
  rw [World.size_alloc, World.size_alloc] at h3
  exact ⟨(h1.alloc _).alloc _, h2.alloc _, h3, (((Below.refl _ _).alloc (Nat.le_refl _) _).alloc (by rw [World.size_alloc]; omega) _).alloc (by rw [World.size_alloc, World.size_alloc]; omega) _⟩
theorem stepR_yes (p g : Nat) (r q l : List Nat) (h : belowL (growL (2 ^ p) g l) (moreL p (growL 2 0 r) (growL 4 0 q)) = true) : stepR p g (r, q, l) = (growL 2 0 r, growL 4 0 q, growL (2 ^ p) g l) := by
  unfold stepR; dsimp only; rw [if_pos h]
theorem stepR_no (p g : Nat) (r q l : List Nat) (h : belowL (growL (2 ^ p) g l) (moreL p (growL 2 0 r) (growL 4 0 q)) = false) : stepR p g (r, q, l) = (growL 1 1 (growL 2 0 r), growL 1 1 (plusL 2 0 (growL 4 0 q) (growL 2 0 r)), lessL 0 (growL (2 ^ p) g l) (moreL p (growL 2 0 r) (growL 4 0 q))) := by
  unfold stepR; dsimp only; rw [if_neg (by rw [h]; decide)]
def RootPost (n p : Nat) (w : World) (e : Ending) (w' : World) : Prop := e = .returned (.int .u64 (rootN n p : Nat)) ∧ Below w.heap.size w w'
set_option maxRecDepth 100000 in
set_option maxHeartbeats 12800000 in
theorem root2_any (n : Nat) (hn : n < 1000000) (w : World) : Calls Tryz.prog 89 #[.int .i64 n, .int .i64 2] w (RootPost n 2 w) := by
  have S0 := Lib.hid (RS.new w)
  go_enter Tryz.func89, Tryz.ntmps89
  go_wp2
  go_loopw [8, 9, 10] (fun sv _ _ wr => ∃ (j : Nat) (r q l : List Nat), j ≤ 67 ∧ sv = .int .i64 ((j : Int) - 1) ∧ Hid (bitsR 2 n j (r, q, l) = rootP n 2) ∧ Hid (RS w r q l wr)) (fun sv _ _ _ => (RowKit.intOf sv + 1).toNat)
  case atStart => exact ⟨67, zero5, zero5, zero5, by omega, rfl, rfl, S0⟩
  case round =>
    clear S0
    obtain ⟨j, r, q, l, hj, rfl, HB, HS⟩ := hrel
    by_cases hj0 : 0 < j
    · obtain ⟨i, rfl⟩ : ∃ i, j = i + 1 := ⟨j - 1, by omega⟩
      have e1 : ((i + 1 : Nat) : Int) - 1 = (i : Int) := by omega
      rw [e1]
      clear e1
      have hst := HB.out
      rw [bitsR] at hst
      by_cases h64 : 64 ≤ i
      · obtain ⟨d, hd⟩ : ∃ d, n / 2 ^ (2 * (i - 64)) % 4 = d := ⟨_, rfl⟩
        have hgr : groupR 2 n i = d := by unfold groupR; rw [if_pos h64]; exact hd
        have hkd : ((n : Int) / 2 ^ (2 * (i - 64))).tmod 4 = (d : Int) := by
          rw [← hd, Int.tmod_eq_emod_of_nonneg (Int.ediv_nonneg (by omega) (by exact_mod_cast Nat.zero_le _))]; simp
        have hdl : d < 4 := by rw [← hd]; exact Nat.mod_lt _ (by omega)
        rw [hgr] at hst
        clear hgr hd
        cases hbl : belowL (growL (2 ^ 2) d l) (moreL 2 (growL 2 0 r) (growL 4 0 q)) with
        | true =>
          rw [stepR_yes 2 d r q l hbl] at hst
          replace hst := Lib.hid hst
          replace hbl := Lib.hid hbl
          clear HB
          go_wp2
          go_region
          all_goals
            have SD := Lib.hid (HS.out.drew)
            clear HS
            go_wp2_with fail
            refine (grow_any _ 4 d l _ SD.out.hl (by omega)).mono ?_
            rintro e w1 ⟨rfl, hb, ho⟩
            have S1 := Lib.hid (SD.out.setl hb ho)
            clear hb ho SD
            go_wp2_with fail
            refine (grow_any _ 2 0 r _ S1.out.hr (by omega)).mono ?_
            rintro e w2 ⟨rfl, hb, ho⟩
            have S2 := Lib.hid (S1.out.setr hb ho)
            clear hb ho S1
            go_wp2_with fail
            refine (grow_any _ 4 0 q _ S2.out.hq (by omega)).mono ?_
            rintro e w3 ⟨rfl, hb, ho⟩
            have S3 := Lib.hid (S2.out.setq hb ho)
            clear hb ho S2
            have S4 := Lib.hid (S3.out.alloc (.cells #[.int .u64 0, .int .u64 0, .int .u64 0, .int .u64 0, .int .u64 0] 127))
            have M4 := Lib.hid (BigAt.new w3)
            have z3 := S3.out.size
            obtain ⟨g, hg⟩ : ∃ g, w3.heap.size = g := ⟨_, rfl⟩
            rw [hg] at M4 z3
            clear S3
            go_wp2_with fail
            refine (grow_any g 1 1 zero5 _ M4.out (by omega)).mono ?_
            rintro e w5 ⟨rfl, hb, ho⟩
            have S5 := Lib.hid (S4.out.other z3 ho)
            replace hb := Lib.hid hb
            clear ho S4 M4 hg
            go_wp2_with fail
            refine (plus_any g _ 2 _ _ _ hb.out (by omega) S5.out.hr).mono ?_
            rintro e w6 ⟨rfl, hb6, ho⟩
            have S6 := Lib.hid (S5.out.other z3 ho)
            have M6 : BigAt w6 g (moreL 2 (growL 2 0 r) (growL 4 0 q)) := hb6
            replace M6 := Lib.hid M6
            clear ho hb hb6 S5
            go_wp2_with fail
            refine ((below_any _ g _ _ _ S6.out.hl M6.out)).mono ?_
            rintro e w8 ⟨rfl, hs⟩
            rw [hbl.out]
            have S8 := Lib.hid (S6.out.still hs)
            have M8 := Lib.hid (M6.out.still hs)
            clear hs S6 M6
            clear M8
            go_wp2
            go_roundw
            case rel => exact ⟨i, _, _, _, by omega, by go_num, hst, S8⟩
            case measure => simp [RowKit.intOf]
        | false =>
          rw [stepR_no 2 d r q l hbl] at hst
          replace hst := Lib.hid hst
          replace hbl := Lib.hid hbl
          clear HB
          go_wp2
          go_region
          all_goals
            have SD := Lib.hid (HS.out.drew)
            clear HS
            go_wp2_with fail
            refine (grow_any _ 4 d l _ SD.out.hl (by omega)).mono ?_
            rintro e w1 ⟨rfl, hb, ho⟩
            have S1 := Lib.hid (SD.out.setl hb ho)
            clear hb ho SD
            go_wp2_with fail
            refine (grow_any _ 2 0 r _ S1.out.hr (by omega)).mono ?_
            rintro e w2 ⟨rfl, hb, ho⟩
            have S2 := Lib.hid (S1.out.setr hb ho)
            clear hb ho S1
            go_wp2_with fail
            refine (grow_any _ 4 0 q _ S2.out.hq (by omega)).mono ?_
            rintro e w3 ⟨rfl, hb, ho⟩
            have S3 := Lib.hid (S2.out.setq hb ho)
            clear hb ho S2
            have S4 := Lib.hid (S3.out.alloc (.cells #[.int .u64 0, .int .u64 0, .int .u64 0, .int .u64 0, .int .u64 0] 127))
            have M4 := Lib.hid (BigAt.new w3)
            have z3 := S3.out.size
            obtain ⟨g, hg⟩ : ∃ g, w3.heap.size = g := ⟨_, rfl⟩
            rw [hg] at M4 z3
            clear S3
            go_wp2_with fail
            refine (grow_any g 1 1 zero5 _ M4.out (by omega)).mono ?_
            rintro e w5 ⟨rfl, hb, ho⟩
            have S5 := Lib.hid (S4.out.other z3 ho)
            replace hb := Lib.hid hb
            clear ho S4 M4 hg
            go_wp2_with fail
            refine (plus_any g _ 2 _ _ _ hb.out (by omega) S5.out.hr).mono ?_
            rintro e w6 ⟨rfl, hb6, ho⟩
            have S6 := Lib.hid (S5.out.other z3 ho)
            have M6 : BigAt w6 g (moreL 2 (growL 2 0 r) (growL 4 0 q)) := hb6
            replace M6 := Lib.hid M6
            clear ho hb hb6 S5
            go_wp2_with fail
            refine ((below_any _ g _ _ _ S6.out.hl M6.out)).mono ?_
            rintro e w8 ⟨rfl, hs⟩
            rw [hbl.out]
            have S8 := Lib.hid (S6.out.still hs)
            have M8 := Lib.hid (M6.out.still hs)
            clear hs S6 M6
            go_wp2_with fail
            refine (less_any _ g _ _ _ S8.out.hl (by omega) M8.out).mono ?_
            rintro e w9 ⟨rfl, hb, ho⟩
            have S9 := Lib.hid (S8.out.setl hb ho)
            clear hb ho S8 M8
            go_wp2_with fail
            refine (plus_any _ _ 2 _ _ _ S9.out.hq (by omega) S9.out.hr).mono ?_
            rintro e w10 ⟨rfl, hb, ho⟩
            have S10 := Lib.hid (S9.out.setq hb ho)
            clear hb ho S9
            go_wp2_with fail
            refine (grow_any _ 1 1 _ _ S10.out.hq (by omega)).mono ?_
            rintro e w11 ⟨rfl, hb, ho⟩
            have S11 := Lib.hid (S10.out.setq hb ho)
            clear hb ho S10
            go_wp2_with fail
            refine (grow_any _ 1 1 _ _ S11.out.hr (by omega)).mono ?_
            rintro e w12 ⟨rfl, hb, ho⟩
            have S12 := Lib.hid (S11.out.setr hb ho)
            clear hb ho S11
            go_wp2
            go_roundw
            case rel => exact ⟨i, _, _, _, by omega, by go_num, hst, S12⟩
            case measure => simp [RowKit.intOf]
      · have hgr : groupR 2 n i = 0 := by unfold groupR; rw [if_neg h64]
        rw [hgr] at hst
        clear hgr
        cases hbl : belowL (growL (2 ^ 2) 0 l) (moreL 2 (growL 2 0 r) (growL 4 0 q)) with
        | true =>
          rw [stepR_yes 2 0 r q l hbl] at hst
          replace hst := Lib.hid hst
          replace hbl := Lib.hid hbl
          clear HB
          go_wp2_with fail
          refine (grow_any _ 4 0 l _ HS.out.hl (by omega)).mono ?_
          rintro e w1 ⟨rfl, hb, ho⟩
          have S1 := Lib.hid (HS.out.setl hb ho)
          clear hb ho HS
          go_wp2_with fail
          refine (grow_any _ 2 0 r _ S1.out.hr (by omega)).mono ?_
          rintro e w2 ⟨rfl, hb, ho⟩
          have S2 := Lib.hid (S1.out.setr hb ho)
          clear hb ho S1
          go_wp2_with fail
          refine (grow_any _ 4 0 q _ S2.out.hq (by omega)).mono ?_
          rintro e w3 ⟨rfl, hb, ho⟩
          have S3 := Lib.hid (S2.out.setq hb ho)
          clear hb ho S2
          have S4 := Lib.hid (S3.out.alloc (.cells #[.int .u64 0, .int .u64 0, .int .u64 0, .int .u64 0, .int .u64 0] 127))
          have M4 := Lib.hid (BigAt.new w3)
          have z3 := S3.out.size
          obtain ⟨g, hg⟩ : ∃ g, w3.heap.size = g := ⟨_, rfl⟩
          rw [hg] at M4 z3
          clear S3
          go_wp2_with fail
          refine (grow_any g 1 1 zero5 _ M4.out (by omega)).mono ?_
          rintro e w5 ⟨rfl, hb, ho⟩
          have S5 := Lib.hid (S4.out.other z3 ho)
          replace hb := Lib.hid hb
          clear ho S4 M4 hg
          go_wp2_with fail
          refine (plus_any g _ 2 _ _ _ hb.out (by omega) S5.out.hr).mono ?_
          rintro e w6 ⟨rfl, hb6, ho⟩
          have S6 := Lib.hid (S5.out.other z3 ho)
          have M6 : BigAt w6 g (moreL 2 (growL 2 0 r) (growL 4 0 q)) := hb6
          replace M6 := Lib.hid M6
          clear ho hb hb6 S5
          go_wp2_with fail
          refine ((below_any _ g _ _ _ S6.out.hl M6.out)).mono ?_
          rintro e w8 ⟨rfl, hs⟩
          rw [hbl.out]
          have S8 := Lib.hid (S6.out.still hs)
          have M8 := Lib.hid (M6.out.still hs)
          clear hs S6 M6
          clear M8
          go_wp2
          go_roundw
          case rel => exact ⟨i, _, _, _, by omega, by go_num, hst, S8⟩
          case measure => simp [RowKit.intOf]
        | false =>
          rw [stepR_no 2 0 r q l hbl] at hst
          replace hst := Lib.hid hst
          replace hbl := Lib.hid hbl
          clear HB
          go_wp2_with fail
          refine (grow_any _ 4 0 l _ HS.out.hl (by omega)).mono ?_
          rintro e w1 ⟨rfl, hb, ho⟩
          have S1 := Lib.hid (HS.out.setl hb ho)
          clear hb ho HS
          go_wp2_with fail
          refine (grow_any _ 2 0 r _ S1.out.hr (by omega)).mono ?_
          rintro e w2 ⟨rfl, hb, ho⟩
          have S2 := Lib.hid (S1.out.setr hb ho)
          clear hb ho S1
          go_wp2_with fail
          refine (grow_any _ 4 0 q _ S2.out.hq (by omega)).mono ?_
          rintro e w3 ⟨rfl, hb, ho⟩
          have S3 := Lib.hid (S2.out.setq hb ho)
          clear hb ho S2
          have S4 := Lib.hid (S3.out.alloc (.cells #[.int .u64 0, .int .u64 0, .int .u64 0, .int .u64 0, .int .u64 0] 127))
          have M4 := Lib.hid (BigAt.new w3)
          have z3 := S3.out.size
          obtain ⟨g, hg⟩ : ∃ g, w3.heap.size = g := ⟨_, rfl⟩
          rw [hg] at M4 z3
          clear S3
          go_wp2_with fail
          refine (grow_any g 1 1 zero5 _ M4.out (by omega)).mono ?_
          rintro e w5 ⟨rfl, hb, ho⟩
          have S5 := Lib.hid (S4.out.other z3 ho)
          replace hb := Lib.hid hb
          clear ho S4 M4 hg
          go_wp2_with fail
          refine (plus_any g _ 2 _ _ _ hb.out (by omega) S5.out.hr).mono ?_
          rintro e w6 ⟨rfl, hb6, ho⟩
          have S6 := Lib.hid (S5.out.other z3 ho)
          have M6 : BigAt w6 g (moreL 2 (growL 2 0 r) (growL 4 0 q)) := hb6
          replace M6 := Lib.hid M6
          clear ho hb hb6 S5
          go_wp2_with fail
          refine ((below_any _ g _ _ _ S6.out.hl M6.out)).mono ?_
          rintro e w8 ⟨rfl, hs⟩
          rw [hbl.out]
          have S8 := Lib.hid (S6.out.still hs)
          have M8 := Lib.hid (M6.out.still hs)
          clear hs S6 M6
          go_wp2_with fail
          refine (less_any _ g _ _ _ S8.out.hl (by omega) M8.out).mono ?_
          rintro e w9 ⟨rfl, hb, ho⟩
          have S9 := Lib.hid (S8.out.setl hb ho)
          clear hb ho S8 M8
          go_wp2_with fail
          refine (plus_any _ _ 2 _ _ _ S9.out.hq (by omega) S9.out.hr).mono ?_
          rintro e w10 ⟨rfl, hb, ho⟩
          have S10 := Lib.hid (S9.out.setq hb ho)
          clear hb ho S9
          go_wp2_with fail
          refine (grow_any _ 1 1 _ _ S10.out.hq (by omega)).mono ?_
          rintro e w11 ⟨rfl, hb, ho⟩
          have S11 := Lib.hid (S10.out.setq hb ho)
          clear hb ho S10
          go_wp2_with fail
          refine (grow_any _ 1 1 _ _ S11.out.hr (by omega)).mono ?_
          rintro e w12 ⟨rfl, hb, ho⟩
          have S12 := Lib.hid (S11.out.setr hb ho)
          clear hb ho S11
          go_wp2
          go_roundw
          case rel => exact ⟨i, _, _, _, by omega, by go_num, hst, S12⟩
          case measure => simp [RowKit.intOf]
    · have hj1 : j = 0 := by omega
      subst hj1
      have hfin : (r, q, l) = rootP n 2 := HB.out
      obtain ⟨a, ha⟩ : ∃ a, r.getD 0 0 = a := ⟨_, rfl⟩
      obtain ⟨b, hb⟩ : ∃ b, r.getD 1 0 = b := ⟨_, rfl⟩
      obtain ⟨v, hv⟩ : ∃ v, (a + b * 4294967296) % 18446744073709551616 = v := ⟨_, rfl⟩
      have hroot : rootN n 2 = v := by unfold rootN; rw [← hfin, ← hv, ← ha, ← hb]
      have l5 := HS.out.hr.2.1
      have hca := dig_cell HS.out.hr.1 0 (by omega)
      have hcb := dig_cell HS.out.hr.1 1 (by omega)
      have ea : r[0]'(by omega) = a := by rw [← ha]; simp [List.getD, l5]
      have eb : r[1]'(by omega) = b := by rw [← hb]; simp [List.getD, l5]
      have hal : a < 4294967296 := by rw [← ea]; exact HS.out.hr.2.2 _ (List.getElem_mem _)
      have hbl : b < 4294967296 := by rw [← eb]; exact HS.out.hr.2.2 _ (List.getElem_mem _)
      have hsum : (a : Int) + (b : Int) * 4294967296 = (v : Int) := by omega
      rw [ea] at hca
      rw [eb] at hcb
      clear ea eb l5
      replace hfin := Lib.hid hfin
      replace ha := Lib.hid ha
      replace hb := Lib.hid hb
      replace hv := Lib.hid hv
      replace hroot := Lib.hid hroot
      go_wp2
      go_region
      all_goals
        go_wp2
        go_ret
        unfold RootPost
        rw [hroot.out]
        exact ⟨rfl, HS.out.below.drew⟩
set_option maxRecDepth 100000 in
set_option maxHeartbeats 12800000 in
theorem root3_any (n : Nat) (hn : n < 1000000) (w : World) : Calls Tryz.prog 89 #[.int .i64 n, .int .i64 3] w (RootPost n 3 w) := by
  have S0 := Lib.hid (RS.new w)
  go_enter Tryz.func89, Tryz.ntmps89
  go_wp2
  go_loopw [8, 9, 10] (fun sv _ _ wr => ∃ (j : Nat) (r q l : List Nat), j ≤ 67 ∧ sv = .int .i64 ((j : Int) - 1) ∧ Hid (bitsR 3 n j (r, q, l) = rootP n 3) ∧ Hid (RS w r q l wr)) (fun sv _ _ _ => (RowKit.intOf sv + 1).toNat)
  case atStart => exact ⟨67, zero5, zero5, zero5, by omega, rfl, rfl, S0⟩
  case round =>
    clear S0
    obtain ⟨j, r, q, l, hj, rfl, HB, HS⟩ := hrel
    by_cases hj0 : 0 < j
    · obtain ⟨i, rfl⟩ : ∃ i, j = i + 1 := ⟨j - 1, by omega⟩
      have e1 : ((i + 1 : Nat) : Int) - 1 = (i : Int) := by omega
      rw [e1]
      clear e1
      have hst := HB.out
      rw [bitsR] at hst
      by_cases h64 : 64 ≤ i
      · obtain ⟨d, hd⟩ : ∃ d, n / 2 ^ (3 * (i - 64)) % 8 = d := ⟨_, rfl⟩
        have hgr : groupR 3 n i = d := by unfold groupR; rw [if_pos h64]; exact hd
        have hkd : ((n : Int) / 2 ^ (3 * (i - 64))).tmod 8 = (d : Int) := by
          rw [← hd, Int.tmod_eq_emod_of_nonneg (Int.ediv_nonneg (by omega) (by exact_mod_cast Nat.zero_le _))]; simp
        have hdl : d < 8 := by rw [← hd]; exact Nat.mod_lt _ (by omega)
        rw [hgr] at hst
        clear hgr hd
        cases hbl : belowL (growL (2 ^ 3) d l) (moreL 3 (growL 2 0 r) (growL 4 0 q)) with
        | true =>
          rw [stepR_yes 3 d r q l hbl] at hst
          replace hst := Lib.hid hst
          replace hbl := Lib.hid hbl
          clear HB
          go_wp2
          go_region
          all_goals
            have SD := Lib.hid (HS.out.drew)
            clear HS
            go_wp2_with fail
            refine (grow_any _ 8 d l _ SD.out.hl (by omega)).mono ?_
            rintro e w1 ⟨rfl, hb, ho⟩
            have S1 := Lib.hid (SD.out.setl hb ho)
            clear hb ho SD
            go_wp2_with fail
            refine (grow_any _ 2 0 r _ S1.out.hr (by omega)).mono ?_
            rintro e w2 ⟨rfl, hb, ho⟩
            have S2 := Lib.hid (S1.out.setr hb ho)
            clear hb ho S1
            go_wp2_with fail
            refine (grow_any _ 4 0 q _ S2.out.hq (by omega)).mono ?_
            rintro e w3 ⟨rfl, hb, ho⟩
            have S3 := Lib.hid (S2.out.setq hb ho)
            clear hb ho S2
            have S4 := Lib.hid (S3.out.alloc (.cells #[.int .u64 0, .int .u64 0, .int .u64 0, .int .u64 0, .int .u64 0] 127))
            have M4 := Lib.hid (BigAt.new w3)
            have z3 := S3.out.size
            obtain ⟨g, hg⟩ : ∃ g, w3.heap.size = g := ⟨_, rfl⟩
            rw [hg] at M4 z3
            clear S3
            go_wp2_with fail
            refine (grow_any g 1 1 zero5 _ M4.out (by omega)).mono ?_
            rintro e w5 ⟨rfl, hb, ho⟩
            have S5 := Lib.hid (S4.out.other z3 ho)
            replace hb := Lib.hid hb
            clear ho S4 M4 hg
            go_wp2_with fail
            refine (plus_any g _ 3 _ _ _ hb.out (by omega) S5.out.hr).mono ?_
            rintro e w7 ⟨rfl, hb7, ho⟩
            have S7 := Lib.hid (S5.out.other z3 ho)
            replace hb7 := Lib.hid hb7
            clear ho hb S5
            go_wp2_with fail
            refine (plus_any g _ 3 _ _ _ hb7.out (by omega) S7.out.hq).mono ?_
            rintro e w6 ⟨rfl, hb6, ho⟩
            have S6 := Lib.hid (S7.out.other z3 ho)
            have M6 : BigAt w6 g (moreL 3 (growL 2 0 r) (growL 4 0 q)) := hb6
            replace M6 := Lib.hid M6
            clear ho hb7 hb6 S7
            go_wp2_with fail
            refine ((below_any _ g _ _ _ S6.out.hl M6.out)).mono ?_
            rintro e w8 ⟨rfl, hs⟩
            rw [hbl.out]
            have S8 := Lib.hid (S6.out.still hs)
            have M8 := Lib.hid (M6.out.still hs)
            clear hs S6 M6
            clear M8
            go_wp2
            go_roundw
            case rel => exact ⟨i, _, _, _, by omega, by go_num, hst, S8⟩
            case measure => simp [RowKit.intOf]
        | false =>
          rw [stepR_no 3 d r q l hbl] at hst
          replace hst := Lib.hid hst
          replace hbl := Lib.hid hbl
          clear HB
          go_wp2
          go_region
          all_goals
            have SD := Lib.hid (HS.out.drew)
            clear HS
            go_wp2_with fail
            refine (grow_any _ 8 d l _ SD.out.hl (by omega)).mono ?_
            rintro e w1 ⟨rfl, hb, ho⟩
            have S1 := Lib.hid (SD.out.setl hb ho)
            clear hb ho SD
            go_wp2_with fail
            refine (grow_any _ 2 0 r _ S1.out.hr (by omega)).mono ?_
            rintro e w2 ⟨rfl, hb, ho⟩
            have S2 := Lib.hid (S1.out.setr hb ho)
            clear hb ho S1
            go_wp2_with fail
            refine (grow_any _ 4 0 q _ S2.out.hq (by omega)).mono ?_
            rintro e w3 ⟨rfl, hb, ho⟩
            have S3 := Lib.hid (S2.out.setq hb ho)
            clear hb ho S2
            have S4 := Lib.hid (S3.out.alloc (.cells #[.int .u64 0, .int .u64 0, .int .u64 0, .int .u64 0, .int .u64 0] 127))
            have M4 := Lib.hid (BigAt.new w3)
            have z3 := S3.out.size
            obtain ⟨g, hg⟩ : ∃ g, w3.heap.size = g := ⟨_, rfl⟩
            rw [hg] at M4 z3
            clear S3
            go_wp2_with fail
            refine (grow_any g 1 1 zero5 _ M4.out (by omega)).mono ?_
            rintro e w5 ⟨rfl, hb, ho⟩
            have S5 := Lib.hid (S4.out.other z3 ho)
            replace hb := Lib.hid hb
            clear ho S4 M4 hg
            go_wp2_with fail
            refine (plus_any g _ 3 _ _ _ hb.out (by omega) S5.out.hr).mono ?_
            rintro e w7 ⟨rfl, hb7, ho⟩
            have S7 := Lib.hid (S5.out.other z3 ho)
            replace hb7 := Lib.hid hb7
            clear ho hb S5
            go_wp2_with fail
            refine (plus_any g _ 3 _ _ _ hb7.out (by omega) S7.out.hq).mono ?_
            rintro e w6 ⟨rfl, hb6, ho⟩
            have S6 := Lib.hid (S7.out.other z3 ho)
            have M6 : BigAt w6 g (moreL 3 (growL 2 0 r) (growL 4 0 q)) := hb6
            replace M6 := Lib.hid M6
            clear ho hb7 hb6 S7
            go_wp2_with fail
            refine ((below_any _ g _ _ _ S6.out.hl M6.out)).mono ?_
            rintro e w8 ⟨rfl, hs⟩
            rw [hbl.out]
            have S8 := Lib.hid (S6.out.still hs)
            have M8 := Lib.hid (M6.out.still hs)
            clear hs S6 M6
            go_wp2_with fail
            refine (less_any _ g _ _ _ S8.out.hl (by omega) M8.out).mono ?_
            rintro e w9 ⟨rfl, hb, ho⟩
            have S9 := Lib.hid (S8.out.setl hb ho)
            clear hb ho S8 M8
            go_wp2_with fail
            refine (plus_any _ _ 2 _ _ _ S9.out.hq (by omega) S9.out.hr).mono ?_
            rintro e w10 ⟨rfl, hb, ho⟩
            have S10 := Lib.hid (S9.out.setq hb ho)
            clear hb ho S9
            go_wp2_with fail
            refine (grow_any _ 1 1 _ _ S10.out.hq (by omega)).mono ?_
            rintro e w11 ⟨rfl, hb, ho⟩
            have S11 := Lib.hid (S10.out.setq hb ho)
            clear hb ho S10
            go_wp2_with fail
            refine (grow_any _ 1 1 _ _ S11.out.hr (by omega)).mono ?_
            rintro e w12 ⟨rfl, hb, ho⟩
            have S12 := Lib.hid (S11.out.setr hb ho)
            clear hb ho S11
            go_wp2
            go_roundw
            case rel => exact ⟨i, _, _, _, by omega, by go_num, hst, S12⟩
            case measure => simp [RowKit.intOf]
      · have hgr : groupR 3 n i = 0 := by unfold groupR; rw [if_neg h64]
        rw [hgr] at hst
        clear hgr
        cases hbl : belowL (growL (2 ^ 3) 0 l) (moreL 3 (growL 2 0 r) (growL 4 0 q)) with
        | true =>
          rw [stepR_yes 3 0 r q l hbl] at hst
          replace hst := Lib.hid hst
          replace hbl := Lib.hid hbl
          clear HB
          go_wp2_with fail
          refine (grow_any _ 8 0 l _ HS.out.hl (by omega)).mono ?_
          rintro e w1 ⟨rfl, hb, ho⟩
          have S1 := Lib.hid (HS.out.setl hb ho)
          clear hb ho HS
          go_wp2_with fail
          refine (grow_any _ 2 0 r _ S1.out.hr (by omega)).mono ?_
          rintro e w2 ⟨rfl, hb, ho⟩
          have S2 := Lib.hid (S1.out.setr hb ho)
          clear hb ho S1
          go_wp2_with fail
          refine (grow_any _ 4 0 q _ S2.out.hq (by omega)).mono ?_
          rintro e w3 ⟨rfl, hb, ho⟩
          have S3 := Lib.hid (S2.out.setq hb ho)
          clear hb ho S2
          have S4 := Lib.hid (S3.out.alloc (.cells #[.int .u64 0, .int .u64 0, .int .u64 0, .int .u64 0, .int .u64 0] 127))
          have M4 := Lib.hid (BigAt.new w3)
          have z3 := S3.out.size
          obtain ⟨g, hg⟩ : ∃ g, w3.heap.size = g := ⟨_, rfl⟩
          rw [hg] at M4 z3
          clear S3
          go_wp2_with fail
          refine (grow_any g 1 1 zero5 _ M4.out (by omega)).mono ?_
          rintro e w5 ⟨rfl, hb, ho⟩
          have S5 := Lib.hid (S4.out.other z3 ho)
          replace hb := Lib.hid hb
          clear ho S4 M4 hg
          go_wp2_with fail
          refine (plus_any g _ 3 _ _ _ hb.out (by omega) S5.out.hr).mono ?_
          rintro e w7 ⟨rfl, hb7, ho⟩
          have S7 := Lib.hid (S5.out.other z3 ho)
          replace hb7 := Lib.hid hb7
          clear ho hb S5
          go_wp2_with fail
          refine (plus_any g _ 3 _ _ _ hb7.out (by omega) S7.out.hq).mono ?_
          rintro e w6 ⟨rfl, hb6, ho⟩
          have S6 := Lib.hid (S7.out.other z3 ho)
          have M6 : BigAt w6 g (moreL 3 (growL 2 0 r) (growL 4 0 q)) := hb6
          replace M6 := Lib.hid M6
          clear ho hb7 hb6 S7
          go_wp2_with fail
          refine ((below_any _ g _ _ _ S6.out.hl M6.out)).mono ?_
          rintro e w8 ⟨rfl, hs⟩
          rw [hbl.out]
          have S8 := Lib.hid (S6.out.still hs)
          have M8 := Lib.hid (M6.out.still hs)
          clear hs S6 M6
          clear M8
          go_wp2
          go_roundw
          case rel => exact ⟨i, _, _, _, by omega, by go_num, hst, S8⟩
          case measure => simp [RowKit.intOf]
        | false =>
          rw [stepR_no 3 0 r q l hbl] at hst
          replace hst := Lib.hid hst
          replace hbl := Lib.hid hbl
          clear HB
          go_wp2_with fail
          refine (grow_any _ 8 0 l _ HS.out.hl (by omega)).mono ?_
          rintro e w1 ⟨rfl, hb, ho⟩
          have S1 := Lib.hid (HS.out.setl hb ho)
          clear hb ho HS
          go_wp2_with fail
          refine (grow_any _ 2 0 r _ S1.out.hr (by omega)).mono ?_
          rintro e w2 ⟨rfl, hb, ho⟩
          have S2 := Lib.hid (S1.out.setr hb ho)
          clear hb ho S1
          go_wp2_with fail
          refine (grow_any _ 4 0 q _ S2.out.hq (by omega)).mono ?_
          rintro e w3 ⟨rfl, hb, ho⟩
          have S3 := Lib.hid (S2.out.setq hb ho)
          clear hb ho S2
          have S4 := Lib.hid (S3.out.alloc (.cells #[.int .u64 0, .int .u64 0, .int .u64 0, .int .u64 0, .int .u64 0] 127))
          have M4 := Lib.hid (BigAt.new w3)
          have z3 := S3.out.size
          obtain ⟨g, hg⟩ : ∃ g, w3.heap.size = g := ⟨_, rfl⟩
          rw [hg] at M4 z3
          clear S3
          go_wp2_with fail
          refine (grow_any g 1 1 zero5 _ M4.out (by omega)).mono ?_
          rintro e w5 ⟨rfl, hb, ho⟩
          have S5 := Lib.hid (S4.out.other z3 ho)
          replace hb := Lib.hid hb
          clear ho S4 M4 hg
          go_wp2_with fail
          refine (plus_any g _ 3 _ _ _ hb.out (by omega) S5.out.hr).mono ?_
          rintro e w7 ⟨rfl, hb7, ho⟩
          have S7 := Lib.hid (S5.out.other z3 ho)
          replace hb7 := Lib.hid hb7
          clear ho hb S5
          go_wp2_with fail
          refine (plus_any g _ 3 _ _ _ hb7.out (by omega) S7.out.hq).mono ?_
          rintro e w6 ⟨rfl, hb6, ho⟩
          have S6 := Lib.hid (S7.out.other z3 ho)
          have M6 : BigAt w6 g (moreL 3 (growL 2 0 r) (growL 4 0 q)) := hb6
          replace M6 := Lib.hid M6
          clear ho hb7 hb6 S7
          go_wp2_with fail
          refine ((below_any _ g _ _ _ S6.out.hl M6.out)).mono ?_
          rintro e w8 ⟨rfl, hs⟩
          rw [hbl.out]
          have S8 := Lib.hid (S6.out.still hs)
          have M8 := Lib.hid (M6.out.still hs)
          clear hs S6 M6
          go_wp2_with fail
          refine (less_any _ g _ _ _ S8.out.hl (by omega) M8.out).mono ?_
          rintro e w9 ⟨rfl, hb, ho⟩
          have S9 := Lib.hid (S8.out.setl hb ho)
          clear hb ho S8 M8
          go_wp2_with fail
          refine (plus_any _ _ 2 _ _ _ S9.out.hq (by omega) S9.out.hr).mono ?_
          rintro e w10 ⟨rfl, hb, ho⟩
          have S10 := Lib.hid (S9.out.setq hb ho)
          clear hb ho S9
          go_wp2_with fail
          refine (grow_any _ 1 1 _ _ S10.out.hq (by omega)).mono ?_
          rintro e w11 ⟨rfl, hb, ho⟩
          have S11 := Lib.hid (S10.out.setq hb ho)
          clear hb ho S10
          go_wp2_with fail
          refine (grow_any _ 1 1 _ _ S11.out.hr (by omega)).mono ?_
          rintro e w12 ⟨rfl, hb, ho⟩
          have S12 := Lib.hid (S11.out.setr hb ho)
          clear hb ho S11
          go_wp2
          go_roundw
          case rel => exact ⟨i, _, _, _, by omega, by go_num, hst, S12⟩
          case measure => simp [RowKit.intOf]
    · have hj1 : j = 0 := by omega
      subst hj1
      have hfin : (r, q, l) = rootP n 3 := HB.out
      obtain ⟨a, ha⟩ : ∃ a, r.getD 0 0 = a := ⟨_, rfl⟩
      obtain ⟨b, hb⟩ : ∃ b, r.getD 1 0 = b := ⟨_, rfl⟩
      obtain ⟨v, hv⟩ : ∃ v, (a + b * 4294967296) % 18446744073709551616 = v := ⟨_, rfl⟩
      have hroot : rootN n 3 = v := by unfold rootN; rw [← hfin, ← hv, ← ha, ← hb]
      have l5 := HS.out.hr.2.1
      have hca := dig_cell HS.out.hr.1 0 (by omega)
      have hcb := dig_cell HS.out.hr.1 1 (by omega)
      have ea : r[0]'(by omega) = a := by rw [← ha]; simp [List.getD, l5]
      have eb : r[1]'(by omega) = b := by rw [← hb]; simp [List.getD, l5]
      have hal : a < 4294967296 := by rw [← ea]; exact HS.out.hr.2.2 _ (List.getElem_mem _)
      have hbl : b < 4294967296 := by rw [← eb]; exact HS.out.hr.2.2 _ (List.getElem_mem _)
      have hsum : (a : Int) + (b : Int) * 4294967296 = (v : Int) := by omega
      rw [ea] at hca
      rw [eb] at hcb
      clear ea eb l5
      replace hfin := Lib.hid hfin
      replace ha := Lib.hid ha
      replace hb := Lib.hid hb
      replace hv := Lib.hid hv
      replace hroot := Lib.hid hroot
      go_wp2
      go_region
      all_goals
        go_wp2
        go_ret
        unfold RootPost
        rw [hroot.out]
        exact ⟨rfl, HS.out.below.drew⟩
end Go.Proofs.YtgnblaaldpniiaaGreatDoor.Sh
end
section
set_option maxRecDepth 100000
set_option linter.unusedVariables false
set_option linter.unusedSimpArgs false
namespace Go.Proofs.YtgnblaaldpniiaaGreatDoor.Sh
open Go.RowKit Go.Lib
theorem infoInt : (Tryz.prog.info? 3).map (fun i => (i.zero, i.size, i.bytes)) = some (some (.int .i64 0), 1, 8) := by kernel_rfl
def intC (l : List Nat) : List Value := l.map fun d => Value.int .i64 (d : Nat)
theorem intC_append (a b : List Nat) : intC (a ++ b) = intC a ++ intC b := by simp [intC]
def plN : Nat → List Nat
  | 0 => []
  | n + 1 => if 2 ≤ n ∧ (plN n).all (fun p => n % p != 0) = true then plN n ++ [n] else plN n
theorem plN_two : ∀ n, ∀ p ∈ plN n, 2 ≤ p
  | 0, p, h => by cases h
  | n + 1, p, h => by
    rw [plN] at h
    split at h
    · rename_i hn
      rcases List.mem_append.1 h with h | h
      · exact plN_two n p h
      · simp at h; omega
    · exact plN_two n p h
theorem plN_len : ∀ n, (plN n).length ≤ n
  | 0 => by simp [plN]
  | n + 1 => by
    have := plN_len n
    rw [plN]
    split
    · rw [List.length_append]; simp; omega
    · omega
theorem row_cell {w : World} {B : Nat} {T : TypeId} {A : Option Addr} {n cap : Nat} {xs : List Value} (h : w.ownsRow B T 1 (.slice A n cap) n xs) (i : Nat) (hi : i < n) : ∃ g, A = some ⟨g, 0, none⟩ ∧ w.cell? ⟨g, i, none⟩ = xs[i]? ∧ B ≤ g := by
  rcases h.2 with ⟨hv, h0⟩ | ⟨g, cap', cur, hv, hB, _⟩
  · omega
  · obtain ⟨rfl, rfl⟩ : A = some ⟨g, 0, none⟩ ∧ cap = cap' := by injection hv with e1 e2 e3; exact ⟨e1, e3⟩
    exact ⟨g, rfl, h.cellAt i (by omega), hB⟩
def PrimesPost (l : List Nat) (w : World) (e : Ending) (w' : World) : Prop := ∃ v, e = .returned v ∧ w'.ownsRow w.heap.size 3 1 v l.length (intC l) ∧ Below w.heap.size w w'
set_option maxRecDepth 100000 in
set_option maxHeartbeats 6400000 in
theorem primes_any (many N : Nat) (hN : (plN N).length = many) (hl : 2 ≤ N ∧ N < 100000) (hex : ∀ n, n ≤ N → (plN n).length = many → plN n = plN N) (w : World) : Calls Tryz.prog 88 #[.int .i64 many] w (PrimesPost (plN N) w) := by
  obtain ⟨i0, hi, hz0, hz1, hz2⟩ := info_parts infoInt
  have er := Lib.hid (empty_row w w.heap.size 3 (Nat.le_refl _))
  have hml : many < 100000 := by have := plN_len N; omega
  obtain ⟨hN2, hN1⟩ := hl
  replace hN := Lib.hid hN
  replace hex := Lib.hid hex
  go_enter Tryz.func88, Tryz.ntmps88
  go_wp2
  go_loopw [3, 4, 5, 6] (fun v nv _ _ wr => ∃ (n m : Nat) (l : List Nat), 2 ≤ n ∧ n ≤ N ∧ nv = .int .i64 n ∧ m ≤ many ∧ Hid (plN n = l) ∧ Hid (l.length = m) ∧ wr.ownsRow w.heap.size 3 1 v m (intC l) ∧ Hid (Below w.heap.size w wr)) (fun _ nv _ _ _ => N - (RowKit.intOf nv).toNat)
  case atStart => exact ⟨2, 0, [], by omega, hN2, rfl, Nat.zero_le _, rfl, rfl, er.out, (Below.refl _ _).alloc (Nat.le_refl _) _⟩
  case round =>
    obtain ⟨n, m, l, hn2, hnN, rfl, HM, hl, hm, hown, HB⟩ := hrel
    clear er
    obtain ⟨A, cap, rfl⟩ := own_form hown
    have hbw := HB.out.size
    have h2 : Hid (∀ p ∈ l, 2 ≤ p) := by show ∀ p ∈ l, 2 ≤ p; rw [← hl.out]; exact plN_two n
    by_cases hlt : m < many
    · have hnn : n < N := by
        rcases Nat.lt_or_ge n N with h | h
        · exact h
        · have : n = N := by omega
          subst this
          have e := hN.out
          rw [hl.out, hm.out] at e; omega
      have hun : plN (n + 1) = if l.all (fun p => n % p != 0) = true then l ++ [n] else l := by
        rw [plN, hl.out]
        by_cases h : l.all (fun p => n % p != 0) = true
        · rw [if_pos ⟨hn2, h⟩, if_pos h]
        · rw [if_neg (fun x => h x.2), if_neg h]
      replace hun := Lib.hid hun
      replace hown := Lib.hid hown
      go_wp2
      go_loop [5, 6] (fun bv iv => ∃ (i : Nat) (b : Bool), i ≤ m ∧ iv = .int .i64 i ∧ bv = .bool b ∧ Hid ((l.take i).all (fun p => n % p != 0) = b)) (fun _ iv => m - (RowKit.intOf iv).toNat)
      case atStart => exact ⟨0, true, Nat.zero_le _, rfl, rfl, rfl⟩
      case round =>
        obtain ⟨i, b, him, rfl, rfl, hb⟩ := hrel
        by_cases hil : i < m
        · have hil2 : i < l.length := by rw [hm.out]; exact hil
          have hnx : (l.take (i + 1)).all (fun p => n % p != 0) = (b && (n % l[i] != 0)) := by
            rw [List.take_succ_eq_append_getElem hil2, List.all_append, hb.out]; simp
          cases b with
          | false =>
            have hnx2 : Hid ((l.take (i + 1)).all (fun p => n % p != 0) = false) := by show _ = _; rw [hnx]; rfl
            clear hnx
            go_wp2
            go_round
            case rel => exact ⟨i + 1, false, by omega, by go_num, rfl, hnx2⟩
            case measure => simp [RowKit.intOf]; omega
          | true =>
            obtain ⟨g, rfl, hc, _⟩ := row_cell hown.out i hil
            obtain ⟨p, hp⟩ : ∃ p, l[i] = p := ⟨_, rfl⟩
            have hp2 : 2 ≤ p := by rw [← hp]; exact h2.out _ (List.getElem_mem _)
            have e1 : (intC l)[i]? = some (.int .i64 (p : Nat)) := by simp [intC, hil2, hp]
            rw [e1] at hc
            clear e1
            rw [hp] at hnx
            obtain ⟨c, hcc⟩ : ∃ c, (n % p != 0) = c := ⟨_, rfl⟩
            have hnx2 : Hid ((l.take (i + 1)).all (fun p => n % p != 0) = c) := by show _ = _; rw [hnx, hcc]; rfl
            have hbc : (((n : Int) % (p : Int)) != 0) = c := by
              rw [← hcc, ← Int.natCast_emod]
              generalize n % p = k
              rw [Bool.eq_iff_iff]; simp
            replace hcc := Lib.hid hcc
            replace hp := Lib.hid hp
            clear hnx
            go_wp2
            go_round
            case rel => exact ⟨i + 1, c, by omega, by go_num, rfl, hnx2⟩
            case measure => simp [RowKit.intOf]; omega
        · have him2 : i = m := by omega
          have hall : l.all (fun p => n % p != 0) = b := by rw [← hb.out, List.take_of_length_le (by rw [hm.out]; omega)]
          cases b with
          | false =>
            have hpl : plN (n + 1) = l := by rw [hun.out, hall]; rfl
            replace hpl := Lib.hid hpl
            clear hall
            go_wp2
            go_roundw
            case rel => exact ⟨n + 1, m, l, by omega, by omega, by go_num, HM, hpl, hm, hown.out, HB⟩
            case measure => simp [RowKit.intOf]; omega
          | true =>
            have hpl : plN (n + 1) = l ++ [n] := by rw [hun.out, hall]; rfl
            have hml2 : (l ++ [n]).length = m + 1 := by rw [List.length_append, hm.out]; rfl
            replace hpl := Lib.hid hpl
            replace hml2 := Lib.hid hml2
            clear hall
            go_wp2_with (at_builtin; refine wpList_append_own _ rfl _ _ 53 rfl w.heap.size 3 i0 (.int .i64 0) 1 8 Tryz.underlying53 hi hz0 hz1 hz2 rfl (by decide) _ _ _ rfl (hown.out.alloc _) ⟨wr.heap.size, 0, none⟩ 1 1 [.int .i64 n] rfl rfl ?c1 ?c2 ?c3 ?c4 ?c5 ?_)
            case c2 => first | rfl | (intro u hu; simp at hu; subst hu; rfl)
            case c3 => unfold maxLen; omega
            case c4 => omega
            case c5 => first | omega | (rw [World.size_alloc]; omega)
            intro v' w2 ho2 hgr _
            have ho3 : w2.ownsRow w.heap.size 3 1 v' (m + 1) (intC (l ++ [n])) := by
              rw [intC_append]; exact ho2
            have hb2 := Lib.hid ((HB.out.alloc hbw _).grown hgr (by rw [World.size_alloc]; omega) fun g hg => (hown.out.lt g hg).1)
            clear ho2 hgr
            replace ho3 := Lib.hid ho3
            go_wp2
            go_roundw
            case rel => exact ⟨n + 1, m + 1, l ++ [n], by omega, by omega, by go_num, by omega, hpl, hml2, ho3.out, hb2⟩
            case measure => simp [RowKit.intOf]; omega
    · have hmm : m = many := by omega
      have hfin : l = plN N := by rw [← hl.out]; exact hex.out n hnN (by rw [hl.out, hm.out]; exact hmm)
      replace hown := Lib.hid hown
      replace hfin := Lib.hid hfin
      go_wp2
      go_ret
      refine ⟨_, rfl, ?_, HB.out⟩
      rw [← hfin.out, hm.out]; exact hown.out
end Go.Proofs.YtgnblaaldpniiaaGreatDoor.Sh
end
