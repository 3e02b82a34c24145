/- The document's answer for package scalar: its slices of numbers, as one state of the memory; laws of the walk over it.
The document's answer for package scalar: the order, and differences of 33 digits.
The document's answer for package scalar: a difference, walked.
The document's answer for package scalar: a number modulo the order, walked.
The document's answer for package scalar: Mod, walked. -/
import Derived.Test.YtgnblaaldpniiaaGreatDoorZA1
import Derived.Test.YtgnblaaldpniiaaGreatDoorZK1
import Derived.Great.BuildSlice
import Derived.Test.YtgnblaaldpniiaaGreatDoorZK2
import Derived.Laws.CopyOwn
import Derived.Deep.RegionLawGrows
import Derived.Deep.OwnRows
section
set_option linter.unusedVariables false
set_option maxRecDepth 100000
set_option linter.unusedSimpArgs false
namespace Go.Proofs.YtgnblaaldpniiaaGreatDoor.Sc
open Go.RowKit
theorem infoI : (Tryz.prog.info? 3).map (fun i => (i.zero, i.size, i.bytes)) = some (some (.int .i64 0), 1, 8) := by kernel_rfl
def AtS (w : World) (g : Nat) (l : List Nat) : Prop := ∃ cur : Array Value, w.heap[g]? = some (.cells cur 3 (0, 0)) ∧ ∀ i, i < l.length → cur[i]? = some (.int .i64 (l.getD i 0 : Nat))
section
variable {w w' : World} {g : Nat} {l : List Nat}
theorem AtS.lt (h : AtS w g l) : g < w.heap.size := by
  obtain ⟨cur, h1, _⟩ := h
  exact (Array.getElem?_eq_some_iff.1 h1).1
theorem AtS.cell (h : AtS w g l) (i : Nat) (hi : i < l.length) : w.cell? ⟨g, i, none⟩ = some (.int .i64 (l.getD i 0 : Nat)) := by
  obtain ⟨cur, h1, h2⟩ := h
  rw [cell_of_row w g _ _ _ _ h1]
  exact h2 i hi
theorem AtS.frozen (h : AtS w g l) (i : Nat) : w.frozen? ⟨g, i, none⟩ = false := by
  obtain ⟨cur, h1, _⟩ := h
  exact frozen_of_row w g i _ _ h1
theorem AtS.of_heap (h : AtS w g l) (e : w'.heap[g]? = w.heap[g]?) : AtS w' g l := by
  obtain ⟨cur, h1, h2⟩ := h
  exact ⟨cur, e.trans h1, h2⟩
theorem AtS.from (h : AtS w g l) (hb : Below w.heap.size w w') : AtS w' g l := h.of_heap (hb.block g h.lt)
theorem AtS.set (h : AtS w g l) (i x : Nat) : AtS (w.setCell ⟨g, i, none⟩ (.int .i64 (x : Int))) g (l.set i x) := by
  obtain ⟨cur, h1, h2⟩ := h
  refine ⟨cur.setIfInBounds i (.int .i64 (x : Int)), heap_setCell_same _ _ _ _ _ _ h1, fun j hj => ?_⟩
  rw [List.length_set] at hj
  rw [Array.getElem?_setIfInBounds]
  have h3 := h2 j hj
  have hjs : j < cur.size := (Array.getElem?_eq_some_iff.1 h3).1
  by_cases e : i = j
  · subst e
    rw [if_pos rfl, if_pos hjs]
    simp [hj]
  · rw [if_neg e, h3]
    simp [e]
theorem AtS.take (h : AtS w g l) (n : Nat) : AtS w g (l.take n) := by
  obtain ⟨cur, h1, h2⟩ := h
  refine ⟨cur, h1, fun i hi => ?_⟩
  rw [List.length_take] at hi
  rw [h2 i (by omega)]
  simp [show i < n by omega]
theorem AtS.new (w : World) (l : List Nat) : AtS (w.alloc (.cells (numC .i64 l).toArray 3)) w.heap.size l := by
  refine ⟨_, heap_alloc_new w _, fun i hi => ?_⟩
  simp [numC, hi]
theorem AtS.own {B n cap : Nat} (h : w.ownsRow B 3 1 (.slice (some ⟨g, 0, none⟩) n cap) n (numC .i64 l)) : AtS w g l ∧ B ≤ g ∧ l.length = n := by
  have hl : l.length = n := by have := h.1; rw [numC_length] at this; omega
  rcases h.2 with ⟨hv, _⟩ | ⟨g0, cap0, cur, hv, hB, hg, _, _, hs, ht⟩
  · cases hv
  · injection hv with e1 e2 e3
    injection e1 with e1
    injection e1 with e1
    subst e1
    refine ⟨⟨cur, hg, fun i hi => ?_⟩, hB, hl⟩
    have e : (cur.toList.take (n * 1))[i]? = (numC .i64 l)[i]? := by rw [ht]
    rw [List.getElem?_take, if_pos (by omega)] at e
    rw [← Array.getElem?_toList, e]
    simp [numC, hi]
end
structure SM (w0 w : World) (L : List (Nat × List Nat)) : Prop where
  below : Below w0.heap.size w0 w
  holds : ∀ g x, (g, x) ∈ L → AtS w g x
  ours : ∀ g x, (g, x) ∈ L → w0.heap.size ≤ g
  apart : (L.map (·.1)).Nodup
section
variable {w0 w w' : World} {L : List (Nat × List Nat)} {g : Nat} {x y : List Nat}
theorem SM.start (w : World) : SM w w [] := ⟨Below.refl _ _, by simp, by simp, by simp⟩
theorem SM.grow (H : SM w0 w L) (hb : Below w.heap.size w w') : SM w0 w' L :=
  ⟨H.below.trans (hb.mono H.below.size), fun g x h => (H.holds g x h).from hb, H.ours, H.apart⟩
theorem SM.more (H : SM w0 w L) (hb : Below w.heap.size w w') (hg : w.heap.size ≤ g) (hx : AtS w' g x) : SM w0 w' ((g, x) :: L) := by
  have H2 := H.grow hb
  refine ⟨H2.below, fun g' y h => ?_, fun g' y h => ?_, ?_⟩
  · rcases List.mem_cons.1 h with h | h
    · injection h with h1 h2; subst h1; subst h2; exact hx
    · exact H2.holds g' y h
  · rcases List.mem_cons.1 h with h | h
    · injection h with h1 h2; subst h1; exact Nat.le_trans H.below.size hg
    · exact H.ours g' y h
  · rw [List.map_cons, List.nodup_cons]
    refine ⟨fun h => ?_, H.apart⟩
    obtain ⟨⟨g', y⟩, hm, he⟩ := List.mem_map.1 h
    have := (H.holds g' y hm).lt
    simp only at he
    omega
theorem SM.new (H : SM w0 w L) (x : List Nat) : SM w0 (w.alloc (.cells (numC .i64 x).toArray 3)) ((w.heap.size, x) :: L) :=
  H.more ((Below.refl _ w).alloc (Nat.le_refl _) _) (Nat.le_refl _) (AtS.new w x)
theorem SM.drop (p : Nat × List Nat) (H : SM w0 w (p :: L)) : SM w0 w L :=
  ⟨H.below, fun g x h => H.holds g x (List.mem_cons_of_mem _ h), fun g x h => H.ours g x (List.mem_cons_of_mem _ h), (List.nodup_cons.1 (show (p.1 :: L.map (·.1)).Nodup from H.apart)).2⟩
theorem SM.set0 (H : SM w0 w ((g, x) :: L)) (i v : Nat) (u : Int) (hu : u = (v : Int)) : SM w0 (w.setCell ⟨g, i, none⟩ (.int .i64 u)) ((g, x.set i v) :: L) := by
  subst hu
  have hn := (List.nodup_cons.1 (show (g :: L.map (·.1)).Nodup from H.apart)).1
  refine ⟨H.below.setCell (H.ours g x (by simp)) _, fun g' y h => ?_, fun g' y h => ?_, H.apart⟩
  · rcases List.mem_cons.1 h with h | h
    · injection h with h1 h2; subst h1; subst h2; exact (H.holds _ x (by simp)).set i v
    · exact (H.holds g' y (List.mem_cons_of_mem _ h)).of_heap (Below.heap_setCell w ⟨g, i, none⟩ _ g' (fun e => hn (List.mem_map.2 ⟨(g', y), h, e⟩)))
  · rcases List.mem_cons.1 h with h | h
    · injection h with h1 h2; subst h1; exact H.ours _ x (by simp)
    · exact H.ours g' y (List.mem_cons_of_mem _ h)
theorem SM.cell (H : SM w0 w L) (hm : (g, x) ∈ L) (i : Nat) (hi : i < x.length) : w.cell? ⟨g, i, none⟩ = some (.int .i64 (x.getD i 0 : Nat)) := (H.holds g x hm).cell i hi
theorem SM.frozen (H : SM w0 w L) (hm : (g, x) ∈ L) (i : Nat) : w.frozen? ⟨g, i, none⟩ = false := (H.holds g x hm).frozen i
theorem SM.from (H : SM w0 w L) (h : From w.drew w') : SM w0 w' L := H.grow h.of_drew
end
section
variable {ops : Array Oper} {rest : List Oper} {o : Oper} {a : Act} {w0 w : World} {Q : Exit → Act → World → Prop} {L : List (Nat × List Nat)}
theorem s_make (hg : o.guard = none) (l c : Operand) (ho : o.op = .makeSlice 53 l c) (n : Nat) (z : Int) (hl : a.eval l = .int .i64 z) (hc : a.eval c = .int .i64 z) (hz : z = (n : Int)) (hn : n ≤ 4096) (h0 : 0 < n) (H : SM w0 w L)
    (h : ∀ g w', SM w0 w' ((g, List.replicate n 0) :: L) → wpList Tryz.prog ops Q rest (a.put o.dst (.slice (some ⟨g, 0, none⟩) n n)) w') : wpList Tryz.prog ops Q (o :: rest) a w := by
  obtain ⟨i, hi, hz0, hz1, hz2⟩ := info_parts infoI
  refine wpList_make_full w hg l c 53 ho w.heap.size 3 i (.int .i64 0) 1 Tryz.underlying53 hi hz0 hz1 .i64 .i64 z z n hl hc hz hz (by rw [hz2]; omega) (Nat.le_trans hn (by decide)) (Nat.le_refl _) fun w' h1 h2 => ?_
  have e : (madeCells (Value.cells (.int .i64 0)) (n * 1)).toList = numC .i64 (List.replicate n 0) := by
    rw [numC, List.map_replicate, Nat.mul_one]
    simp [madeCells, Value.cells, Nat.mod_one, List.map_const']
  rw [e] at h1
  obtain ⟨h3, h4, _⟩ := AtS.own h1
  exact h _ w' (H.more ((Below.refl _ _).grown h2 (Nat.le_refl _) (fun k hk => by cases hk)) h4 h3)
theorem s_flat (hg : o.guard = none) (len : Nat) (parts : Array (Nat × Operand)) (ho : o.op = .buildSlice 53 len parts) (l : List Nat) (hlen : len = l.length) (hpos : 0 < len) (hsmall : len ≤ 4096)
    (hparts : parts.toList = ((l.map fun (x : Nat) => (x : Int)).zipIdx 0).map fun x => (x.2, Operand.const (Value.int .i64 x.1))) (H : SM w0 w L)
    (h : ∀ g w', SM w0 w' ((g, l) :: L) → wpList Tryz.prog ops Q rest (a.put o.dst (.slice (some ⟨g, 0, none⟩) len len)) w') : wpList Tryz.prog ops Q (o :: rest) a w := by
  refine wpList_buildFlat hg 53 3 len parts ho .i64 (l.map fun (x : Nat) => (x : Int)) Tryz.underlying53 (by kernel_rfl) (by kernel_rfl) (by rw [List.length_map]; exact hlen) hpos (Nat.le_trans hsmall (by decide)) hparts ?_
  have e : (l.map fun (x : Nat) => (x : Int)).map (Value.int .i64) = numC .i64 l := by
    rw [List.map_map]
    rfl
  rw [e]
  exact h _ _ (H.new l)
end
end Go.Proofs.YtgnblaaldpniiaaGreatDoor.Sc
end
section
set_option linter.unusedSimpArgs false
set_option linter.unusedVariables false
set_option maxRecDepth 100000
namespace Go.Proofs.YtgnblaaldpniiaaGreatDoor.Sc
open Go.RowKit
def lL : List Nat := [237, 211, 245, 92, 26, 99, 18, 88, 214, 156, 247, 162, 222, 249, 222, 20, 0, 0, 0, 0, 0, 0, 0, 0, 0, 0, 0, 0, 0, 0, 0, 16]
def oN : Nat := 7237005577332262213973186563042994240857116359379907606001950938285454250989
theorem lL_len : lL.length = 32 := rfl
theorem lL_lt : ∀ x ∈ lL, x < 256 := by decide +kernel
def SlPost (l : List Nat) (w : World) (e : Ending) (w' : World) : Prop := ∃ g, e = .returned (.slice (some ⟨g, 0, none⟩) l.length l.length) ∧ Below w.heap.size w w' ∧ w.heap.size ≤ g ∧ AtS w' g l
theorem L_any (wS : World) : Calls Tryz.prog 74 #[] wS (SlPost lL wS) := by
  have H := SM.start wS
  go_enter Tryz.func74, Tryz.ntmps74
  go_wp2_with (refine s_flat rfl _ _ rfl lL rfl (by decide) (by decide) (by kernel_rfl) (by assumption) ?_; intro g w H; try simp only [Act.put, yI, yC, yZ])
  go_ret
  exact ⟨g, rfl, H.below, H.ours g lL (.head _), H.holds g lL (.head _)⟩
def dfL : List Nat → List Nat → Nat → List Nat
  | x :: xs, y :: ys, u => (if x < u + y then x + 256 - u - y else x - u - y) :: dfL xs ys (if x < u + y then 1 else 0)
  | _, _, _ => []
def dfU : List Nat → List Nat → Nat → Nat
  | x :: xs, y :: ys, u => dfU xs ys (if x < u + y then 1 else 0)
  | _, _, u => u
theorem dfL_nil (ys : List Nat) (u : Nat) : dfL [] ys u = [] := by cases ys <;> rfl
theorem dfU_nil (ys : List Nat) (u : Nat) : dfU [] ys u = u := by cases ys <;> rfl
theorem dfL_len : ∀ (xs ys : List Nat) (u : Nat), xs.length = ys.length → (dfL xs ys u).length = xs.length
  | [], _, _, _ => by rw [dfL_nil]
  | x :: xs, [], _, h => by simp at h
  | x :: xs, y :: ys, u, h => by rw [dfL, List.length_cons, List.length_cons, dfL_len xs ys _ (by simpa using h)]
theorem dfL_lt : ∀ (xs ys : List Nat) (u : Nat), (∀ x ∈ xs, x < 256) → ∀ z ∈ dfL xs ys u, z < 256
  | [], _, _, _, z, h => by rw [dfL_nil] at h; simp at h
  | x :: xs, [], _, _, z, h => by simp [dfL] at h
  | x :: xs, y :: ys, u, hx, z, h => by
    rw [dfL, List.mem_cons] at h
    have := hx x (by simp)
    rcases h with rfl | h
    · split <;> omega
    · exact dfL_lt xs ys _ (fun q hq => hx q (by simp [hq])) z h
theorem dfU_le : ∀ (xs ys : List Nat) (u : Nat), u ≤ 1 → dfU xs ys u ≤ 1
  | [], _, _, h => by rw [dfU_nil]; exact h
  | x :: xs, [], _, h => h
  | x :: xs, y :: ys, u, h => by
    rw [dfU]
    exact dfU_le xs ys _ (by split <;> omega)
theorem df_val : ∀ (xs ys : List Nat) (u : Nat), xs.length = ys.length → (∀ x ∈ xs, x < 256) → (∀ x ∈ ys, x < 256) → u ≤ 1 →
    valB 256 (dfL xs ys u) + valB 256 ys + u = valB 256 xs + 256 ^ xs.length * dfU xs ys u
  | [], [], u, _, _, _, _ => by simp [valB, dfL, dfU]
  | [], y :: ys, _, h, _, _, _ => by simp at h
  | x :: xs, [], _, h, _, _, _ => by simp at h
  | x :: xs, y :: ys, u, h, hx, hy, hu => by
    have h1 := hx x (by simp)
    have h2 := hy y (by simp)
    have ih := df_val xs ys (if x < u + y then 1 else 0) (by simpa using h) (fun z hz => hx z (by simp [hz])) (fun z hz => hy z (by simp [hz])) (by split <;> omega)
    rw [dfL, dfU, List.length_cons, Nat.pow_succ, Nat.mul_comm (256 ^ xs.length) 256, Nat.mul_assoc]
    simp only [valB]
    generalize 256 ^ xs.length * dfU xs ys (if x < u + y then 1 else 0) = p at ih ⊢
    by_cases hb : x < u + y
    · rw [if_pos hb] at ih ⊢
      rw [if_pos hb]
      omega
    · rw [if_neg hb] at ih ⊢
      rw [if_neg hb]
      omega
end Go.Proofs.YtgnblaaldpniiaaGreatDoor.Sc
end
section
set_option linter.unusedSimpArgs false
set_option linter.unusedVariables false
set_option maxRecDepth 100000
namespace Go.Proofs.YtgnblaaldpniiaaGreatDoor.Sc
open Go.RowKit
theorem step_set {d l r : List Nat} {i x : Nat} (hd : d.length = i) (hl : l = x :: r) (v : Nat) : (d ++ l).set i v = (d ++ [v]) ++ r := by
  rw [hl, ← hd, set_mid]
theorem step_get {d l r : List Nat} {i x : Nat} (hd : d.length = i) (hl : l = x :: r) : (d ++ l).getD i 0 = x := by
  rw [hl, ← hd]; simp
def LsPost (l : List Nat) (b : Bool) (w : World) (e : Ending) (w' : World) : Prop := ∃ g, e = .returned (.tuple #[.slice (some ⟨g, 0, none⟩) 33 33, .bool b]) ∧ Below w.heap.size w w' ∧ w.heap.size ≤ g ∧ AtS w' g l
set_option maxHeartbeats 2000000 in
theorem less_walk (a b : List Nat) (ga gb ca cb : Nat) (hal : a.length = 33) (hbl : b.length = 32) (haW : ∀ x ∈ a, x < 256) (hbW : ∀ x ∈ b, x < 256) (wS : World) (hA : AtS wS ga a) (hB : AtS wS gb b) :
    Calls Tryz.prog 75 #[.slice (some ⟨ga, 0, none⟩) 33 ca, .slice (some ⟨gb, 0, none⟩) 32 cb] wS (LsPost (dfL a (b ++ [0]) 0) (dfU a (b ++ [0]) 0 == 0) wS) := by
  have H := SM.start wS
  have hll := Kept.mk (And.intro hal hbl)
  obtain ⟨b', hb'⟩ : ∃ x, b ++ [0] = x := ⟨_, rfl⟩
  have hbl' : b'.length = 33 := by rw [← hb', List.length_append, hbl]; rfl
  have hU1 := dfU_le a b' 0 (by omega)
  rw [hb']
  obtain ⟨R, hR⟩ : ∃ R, dfL a b' 0 = R := ⟨_, rfl⟩
  obtain ⟨U, hU⟩ : ∃ U, dfU a b' 0 = U := ⟨_, rfl⟩
  have hRl : R.length = 33 := by rw [← hR, dfL_len a b' 0 (by rw [hal, hbl']), hal]
  rw [hR, hU]
  rw [hU] at hU1
  replace hb' := Kept.mk hb'
  replace hbl' := Kept.mk hbl'
  replace hR := Kept.mk hR
  replace hU := Kept.mk hU
  replace hRl := Kept.mk hRl
  replace haW := Kept.mk haW
  replace hbW := Kept.mk hbW
  have hAm := Kept.mk hA
  have hBm := Kept.mk hB
  clear hal hbl hA hB
  go_enter Tryz.func75, Tryz.ntmps75
  go_wp2_with (first
    | (refine s_make rfl _ _ rfl _ _ rfl rfl rfl (by decide) (by decide) (by assumption) ?_; intro g w H; try simp only [Act.put, yI, yC, yZ]))
  rename_i K _
  go_loopw [7, 8] (fun v7 v8 wr => ∃ (i u : Nat) (d : List Nat), i ≤ 33 ∧ u ≤ 1 ∧ v7 = .int .i64 (u : Int) ∧ v8 = .int .i64 (i : Int) ∧ Kept (d.length = i) ∧ SM wS wr [(g, d ++ List.replicate (33 - i) 0)] ∧ Kept (d ++ dfL (a.drop i) (b'.drop i) u = R) ∧ Kept (dfU (a.drop i) (b'.drop i) u = U)) (fun _ v8 _ => 33 - (RowKit.intOf v8).toNat)
  case atStart => exact ⟨0, 0, [], by omega, by omega, rfl, rfl, ⟨rfl⟩, H, hR, hU⟩
  case round =>
    clear H
    obtain ⟨i, u, d, hi, hu1, rfl, rfl, HD, H, HE, HU⟩ := hrel
    by_cases hlt : i < 33
    · obtain ⟨p, hp⟩ : ∃ p, a.getD i 0 = p := ⟨_, rfl⟩
      have hda := drop_getD a i (by rw [hll.out.1]; omega)
      rw [hp] at hda
      have hpl : p < 256 := hp ▸ getD_ltN haW.out i (by rw [hll.out.1]; omega)
      have c1 := (hAm.out.from H.below).cell i (by rw [hll.out.1]; omega)
      rw [hp] at c1
      have hrep : List.replicate (33 - i) 0 = 0 :: List.replicate (33 - (i + 1)) 0 := by rw [show 33 - i = 33 - (i + 1) + 1 by omega, List.replicate_succ]
      have c3 := H.cell (.head _) i (by rw [List.length_append, HD.out, List.length_replicate]; omega)
      have f3 := H.frozen (.head _) i
      rw [step_get HD.out hrep] at c3
      have hlti : (i : Int) < 33 := by omega
      have k1 : IntKind.i64.wrap ((p : Int) - (u : Int)) = (p : Int) - (u : Int) := by simp [IntKind.wrap, IntKind.signed, IntKind.bits]; omega
      replace hp := Kept.mk hp
      replace hda := Kept.mk hda
      replace hrep := Kept.mk hrep
      by_cases hi32 : i < 32
      · obtain ⟨q, hq⟩ : ∃ q, b.getD i 0 = q := ⟨_, rfl⟩
        have hdb : b'.drop i = q :: b'.drop (i + 1) := by
          rw [drop_getD b' i (by rw [hbl'.out]; omega), ← hb'.out]
          congr 1
          rw [← hq]; simp [List.getElem?_append, hll.out.2, hi32]
        have hql : q < 256 := hq ▸ getD_ltN hbW.out i (by rw [hll.out.2]; omega)
        have c2 := (hBm.out.from H.below).cell i (by rw [hll.out.2]; omega)
        rw [hq] at c2
        have hI32 : (i : Int) < 32 := by omega
        have k2 : IntKind.i64.wrap ((p : Int) - (u : Int) - (q : Int)) = (p : Int) - (u : Int) - (q : Int) := by simp [IntKind.wrap, IntKind.signed, IntKind.bits]; omega
        replace hq := Kept.mk hq
        replace hdb := Kept.mk hdb
        by_cases hu : p < u + q
        · have hn : ((p : Int) - (u : Int) - (q : Int) < 0) := by omega
          have hE : d ++ [p + 256 - u - q] ++ dfL (a.drop (i + 1)) (b'.drop (i + 1)) 1 = R := by
            have h := HE.out
            rw [hda.out, hdb.out, dfL, if_pos hu, if_pos hu] at h
            rw [List.append_assoc]; exact h
          have hU : dfU (a.drop (i + 1)) (b'.drop (i + 1)) 1 = U := by
            have h := HU.out
            rw [hda.out, hdb.out, dfU, if_pos hu] at h
            exact h
          have Hn := H.set0 i (p + 256 - u - q) ((p : Int) - (u : Int) - (q : Int) + 256) (by omega)
          rw [step_set HD.out hrep.out] at Hn
          replace hE := Kept.mk hE
          replace hU := Kept.mk hU
          go_wp2
          go_roundw
          case rel => exact ⟨i + 1, 1, d ++ [p + 256 - u - q], by omega, by omega, rfl, val_eq (by omega), ⟨by rw [List.length_append, HD.out]; rfl⟩, Hn, hE, hU⟩
          case measure => first | (simp [RowKit.intOf]; done) | (simp [RowKit.intOf]; omega)
        · have hn : ¬ ((p : Int) - (u : Int) - (q : Int) < 0) := by omega
          have hE : d ++ [p - u - q] ++ dfL (a.drop (i + 1)) (b'.drop (i + 1)) 0 = R := by
            have h := HE.out
            rw [hda.out, hdb.out, dfL, if_neg hu, if_neg hu] at h
            rw [List.append_assoc]; exact h
          have hU : dfU (a.drop (i + 1)) (b'.drop (i + 1)) 0 = U := by
            have h := HU.out
            rw [hda.out, hdb.out, dfU, if_neg hu] at h
            exact h
          have Hn := H.set0 i (p - u - q) ((p : Int) - (u : Int) - (q : Int)) (by omega)
          rw [step_set HD.out hrep.out] at Hn
          replace hE := Kept.mk hE
          replace hU := Kept.mk hU
          go_wp2
          go_roundw
          case rel => exact ⟨i + 1, 0, d ++ [p - u - q], by omega, by omega, rfl, val_eq (by omega), ⟨by rw [List.length_append, HD.out]; rfl⟩, Hn, hE, hU⟩
          case measure => first | (simp [RowKit.intOf]; done) | (simp [RowKit.intOf]; omega)
      · have hdb : b'.drop i = 0 :: b'.drop (i + 1) := by
          rw [drop_getD b' i (by rw [hbl'.out]; omega), ← hb'.out]
          congr 1
          simp [List.getElem?_append, hll.out.2, show i = 32 by omega]
        have hI32 : ¬ (i : Int) < 32 := by omega
        replace hdb := Kept.mk hdb
        by_cases hu : p < u + 0
        · have hn : ((p : Int) - (u : Int) < 0) := by omega
          have hE : d ++ [p + 256 - u - 0] ++ dfL (a.drop (i + 1)) (b'.drop (i + 1)) 1 = R := by
            have h := HE.out
            rw [hda.out, hdb.out, dfL, if_pos hu, if_pos hu] at h
            rw [List.append_assoc]; exact h
          have hU : dfU (a.drop (i + 1)) (b'.drop (i + 1)) 1 = U := by
            have h := HU.out
            rw [hda.out, hdb.out, dfU, if_pos hu] at h
            exact h
          have Hn := H.set0 i (p + 256 - u - 0) ((p : Int) - (u : Int) + 256) (by omega)
          rw [step_set HD.out hrep.out] at Hn
          replace hE := Kept.mk hE
          replace hU := Kept.mk hU
          go_wp2
          go_roundw
          case rel => exact ⟨i + 1, 1, d ++ [p + 256 - u - 0], by omega, by omega, rfl, val_eq (by omega), ⟨by rw [List.length_append, HD.out]; rfl⟩, Hn, hE, hU⟩
          case measure => first | (simp [RowKit.intOf]; done) | (simp [RowKit.intOf]; omega)
        · have hn : ¬ ((p : Int) - (u : Int) < 0) := by omega
          have hE : d ++ [p - u - 0] ++ dfL (a.drop (i + 1)) (b'.drop (i + 1)) 0 = R := by
            have h := HE.out
            rw [hda.out, hdb.out, dfL, if_neg hu, if_neg hu] at h
            rw [List.append_assoc]; exact h
          have hU : dfU (a.drop (i + 1)) (b'.drop (i + 1)) 0 = U := by
            have h := HU.out
            rw [hda.out, hdb.out, dfU, if_neg hu] at h
            exact h
          have Hn := H.set0 i (p - u - 0) ((p : Int) - (u : Int)) (by omega)
          rw [step_set HD.out hrep.out] at Hn
          replace hE := Kept.mk hE
          replace hU := Kept.mk hU
          go_wp2
          go_roundw
          case rel => exact ⟨i + 1, 0, d ++ [p - u - 0], by omega, by omega, rfl, val_eq (by omega), ⟨by rw [List.length_append, HD.out]; rfl⟩, Hn, hE, hU⟩
          case measure => first | (simp [RowKit.intOf]; done) | (simp [RowKit.intOf]; omega)
    · obtain rfl : i = 33 := by omega
      have hd : d = R := by
        have h := HE.out
        rw [List.drop_eq_nil_of_le (show a.length ≤ 33 by rw [hll.out.1]; omega), dfL_nil, List.append_nil] at h
        exact h
      have hu : u = U := by
        have h := HU.out
        rw [List.drop_eq_nil_of_le (show a.length ≤ 33 by rw [hll.out.1]; omega), dfU_nil] at h
        exact h
      subst hu
      rw [hd, show 33 - 33 = 0 from rfl, List.replicate_zero, List.append_nil] at H
      clear hd HE HU
      have hq : ((u : Int) == 0) = (u == 0) := by
        rcases (show u = 0 ∨ u = 1 by omega) with rfl | rfl <;> rfl
      go_wp2
      go_ret2
      exact ⟨g, rfl, H.below, H.ours g R (.head _), H.holds g R (.head _)⟩
end Go.Proofs.YtgnblaaldpniiaaGreatDoor.Sc
end
section
set_option linter.unusedSimpArgs false
set_option linter.unusedVariables false
set_option maxRecDepth 100000
namespace Go.Proofs.YtgnblaaldpniiaaGreatDoor.Sc
open Go.RowKit
section
variable {P : Program} {ops : Array Oper} {Q : Exit → Act → World → Prop} {S : World → Prop} {o : Oper} {r : List (Nat × Oper)} {a : Act} {w : World}
theorem wpMix_take (v : Value) (hy : YieldsIf P ops S o v a) (hS : S w) (h : wpMix P ops Q S r (a.put o.dst v) w) : wpMix P ops Q S ((0, o) :: r) a w := ⟨v, hy, hS, h⟩
theorem wpMix_one (h : ∀ K : Act → World → Prop, (∀ a' w', S w' → wpMix P ops Q S r a' w' → K a' w') → if Region.wanted o (yielded ops a.tmps) = true then o.wp P a w K Q else K (a.put o.dst undef) w) : wpMix P ops Q S ((1, o) :: r) a w := h
theorem wpMix_last (h : ∀ K : Act → World → Prop, (∀ a' w', wpMix P ops Q S r a' w' → K a' w') → if Region.wanted o (yielded ops a.tmps) = true then o.wp P a w K Q else K (a.put o.dst undef) w) : wpMix P ops Q S ((2, o) :: r) a w := h
theorem wpMix_nil (h : Q .normal a w) : wpMix P ops Q S [] a w := h
end
theorem own_pos2 {w : World} {base : Nat} {e : TypeId} {v : Value} {n : Nat} {xs : List Value} (h : w.ownsRow base e 1 v n xs) (hn : 0 < n) :
    ∃ g cap, v = .slice (some ⟨g, 0, none⟩) n cap ∧ base ≤ g ∧ n ≤ cap := by
  rcases h.2 with ⟨_, h0⟩ | ⟨g, cap, cur, hv, hb, hg, hc, _⟩
  · omega
  · exact ⟨g, cap, hv, hb, hc⟩
section
variable {w0 w : World} {L : List (Nat × List Nat)} {f : FuncId} {args : Array Value} {Q : Ending → World → Prop} {l : List Nat} {b : Bool}
theorem s_sl (H : SM w0 w L) (c : Calls Tryz.prog f args w (SlPost l w)) (h : ∀ g w', SM w0 w' ((g, l) :: L) → Q (.returned (.slice (some ⟨g, 0, none⟩) l.length l.length)) w') : Calls Tryz.prog f args w Q :=
  c.mono fun _ w' ⟨g, he, hb, hg, hA⟩ => he ▸ h g w' (H.more hb hg hA)
theorem s_ls (H : SM w0 w L) (c : Calls Tryz.prog f args w (LsPost l b w)) (h : ∀ g w', SM w0 w' ((g, l) :: L) → Q (.returned (.tuple #[.slice (some ⟨g, 0, none⟩) 33 33, .bool b])) w') : Calls Tryz.prog f args w Q :=
  c.mono fun _ w' ⟨g, he, hb, hg, hA⟩ => he ▸ h g w' (H.more hb hg hA)
end
theorem SM.only {w0 w : World} {L : List (Nat × List Nat)} (H : SM w0 w L) {L' : List (Nat × List Nat)} (h : L'.Sublist L) : SM w0 w L' :=
  ⟨H.below, fun g x m => H.holds g x (h.subset m), fun g x m => H.ours g x (h.subset m), (h.map _).nodup H.apart⟩
theorem o_pos : 0 < oN := by decide +kernel
theorem take_val (rl : List Nat) (hl : rl.length = 33) (h : valB 256 rl < oN) : valB 256 (rl.take 32) = valB 256 rl := by
  have e : rl = rl.take 32 ++ [rl.getD 32 0] := by
    conv => lhs; rw [← List.take_append_drop 32 rl]
    rw [drop_getD rl 32 (by omega), List.drop_eq_nil_of_le (by omega)]
  have hv : ∀ (l : List Nat) (x : Nat), valB 256 (l ++ [x]) = valB 256 l + 256 ^ l.length * x := by
    intro l x
    induction l with
    | nil => simp [valB]
    | cons y r ih =>
      rw [List.cons_append, valB, valB, ih, List.length_cons, Nat.pow_succ, Nat.mul_comm (256 ^ r.length) 256, Nat.mul_assoc]
      omega
  have h2 : valB 256 rl = valB 256 (rl.take 32) + 256 ^ 32 * rl.getD 32 0 := by
    conv => lhs; rw [e]
    rw [hv, List.length_take, show min 32 rl.length = 32 by omega]
  have h3 : rl.getD 32 0 = 0 := by
    rcases Nat.eq_zero_or_pos (rl.getD 32 0) with h0 | h0
    · exact h0
    · exfalso
      have h4 : 256 ^ 32 ≤ 256 ^ 32 * rl.getD 32 0 := Nat.le_mul_of_pos_right _ h0
      have h5 : oN < 256 ^ 32 := by decide +kernel
      omega
  rw [h2, h3, Nat.mul_zero, Nat.add_zero]
structure Rem (xl : List Nat) (t v : Nat) : Prop where
  len : xl.length = 33
  lt : ∀ x ∈ xl, x < 256
  val : valB 256 xl + t * oN = v
theorem Rem.step {xl : List Nat} {t v : Nat} (h : Rem xl t v) (hU : dfU xl (lL ++ [0]) 0 = 0) : Rem (dfL xl (lL ++ [0]) 0) (t + 1) v := by
  have hl : xl.length = (lL ++ [0]).length := h.len
  have hd := df_val xl (lL ++ [0]) 0 hl h.lt (by decide +kernel) (by omega)
  rw [hU, Nat.mul_zero, show valB 256 (lL ++ [0]) = oN by decide +kernel] at hd
  refine ⟨by rw [dfL_len _ _ _ hl, h.len], dfL_lt _ _ _ h.lt, ?_⟩
  have h3 := h.val
  rw [Nat.add_mul, Nat.one_mul]
  omega
theorem Rem.stop {xl : List Nat} {t v : Nat} (h : Rem xl t v) (hU : dfU xl (lL ++ [0]) 0 ≠ 0) : valB 256 xl = v % oN := by
  have hl : xl.length = (lL ++ [0]).length := h.len
  have hd := df_val xl (lL ++ [0]) 0 hl h.lt (by decide +kernel) (by omega)
  have hu := dfU_le xl (lL ++ [0]) 0 (by omega)
  have hu1 : dfU xl (lL ++ [0]) 0 = 1 := by omega
  have hb := valB_lt (B := 256) (by decide) (dfL xl (lL ++ [0]) 0) (dfL_lt _ _ _ h.lt)
  rw [dfL_len _ _ _ hl, h.len] at hb
  rw [hu1, Nat.mul_one, h.len, show valB 256 (lL ++ [0]) = oN by decide +kernel] at hd
  have hlt : valB 256 xl < oN := by omega
  have h3 := h.val
  rw [← h3, Nat.add_mul_mod_self_right, Nat.mod_eq_of_lt hlt]
theorem Rem.few {xl : List Nat} {t v : Nat} (h : Rem xl t v) (hv : v < 256 * oN) : t < 256 := by
  have h3 := h.val
  refine Nat.lt_of_not_le fun hle => ?_
  have := Nat.mul_le_mul_right oN hle
  omega
theorem val_drop (a : List Nat) (k : Nat) (hk : k < a.length) : valB 256 (a.drop k) = a.getD k 0 + 256 * valB 256 (a.drop (k + 1)) := by
  rw [drop_getD a k hk, valB]
theorem Rem.first (a rl : List Nat) (k : Nat) (hk : k < a.length) (haW : ∀ x ∈ a, x < 256) (hl : rl.length = 33) (hlt : ∀ x ∈ rl, x < 256) (hv : valB 256 rl = valB 256 (a.drop (k + 1)) % oN) :
    Rem (a.getD k 0 :: rl.take 32) 0 (a.getD k 0 + 256 * valB 256 rl) ∧ a.getD k 0 + 256 * valB 256 rl < 256 * oN ∧ (a.getD k 0 + 256 * valB 256 rl) % oN = valB 256 (a.drop k) % oN := by
  have hp := getD_ltN haW k hk
  have hr : valB 256 rl < oN := hv ▸ Nat.mod_lt _ o_pos
  refine ⟨⟨by rw [List.length_cons, List.length_take, hl]; rfl, ?_, ?_⟩, by omega, ?_⟩
  · intro x hx
    rcases List.mem_cons.1 hx with rfl | hx
    · exact hp
    · exact hlt x (List.mem_of_mem_take hx)
  · rw [valB, take_val rl hl hr]; omega
  · rw [hv, val_drop a k hk, Nat.add_mod, Nat.mul_mod, Nat.mod_mod, ← Nat.mul_mod, ← Nat.add_mod]
end Go.Proofs.YtgnblaaldpniiaaGreatDoor.Sc
end
section
set_option linter.unusedSimpArgs false
set_option linter.unusedVariables false
set_option maxRecDepth 100000
namespace Go.Proofs.YtgnblaaldpniiaaGreatDoor.Sc
open Go.RowKit
theorem SM.swap {w0 w : World} {p q : Nat × List Nat} {L : List (Nat × List Nat)} (H : SM w0 w (p :: q :: L)) : SM w0 w (q :: p :: L) :=
  ⟨H.below, fun g x m => H.holds g x ((List.Perm.swap p q L).mem_iff.1 m), fun g x m => H.ours g x ((List.Perm.swap p q L).mem_iff.1 m), ((List.Perm.swap p q L).map _).nodup_iff.2 H.apart⟩
def modB (a : List Nat) : List UInt8 := (limbs 256 32 (valB 256 a % oN)).map UInt8.ofNat
theorem modB_nat (a : List Nat) : (modB a).map (·.toNat) = limbs 256 32 (valB 256 a % oN) := by
  rw [modB, List.map_map]
  have h : ∀ l : List Nat, (∀ x ∈ l, x < 256) → l.map ((fun x : UInt8 => x.toNat) ∘ UInt8.ofNat) = l := by
    intro l hl
    conv => rhs; rw [← List.map_id l]
    refine List.map_congr_left fun x hx => ?_
    have := hl x hx
    simp
    omega
  exact h _ (limbs_lt (by decide) _ _)
def z32 : List Nat := List.replicate 32 0
theorem made32 : madeCells #[Value.int .u8 0] 32 = (numC .u8 z32).toArray := by kernel_rfl
theorem SM.setOther {w0 w : World} {L : List (Nat × List Nat)} (H : SM w0 w L) (g' i : Nat) (v : Value) (hne : ∀ g x, (g, x) ∈ L → g ≠ g') (hle : w0.heap.size ≤ g') : SM w0 (w.setCell ⟨g', i, none⟩ v) L :=
  ⟨H.below.setCell hle _, fun g x h => (H.holds g x h).of_heap (Below.heap_setCell w ⟨g', i, none⟩ v g (hne g x h)), H.ours, H.apart⟩
theorem modB_len (a : List Nat) : (modB a).length = 32 := by rw [modB, List.length_map, limbs_len]
set_option maxHeartbeats 4000000 in
theorem Mod_walk (a : List Nat) (ga n ca : Nat) (hal : a.length = n) (hn : n ≤ 4096) (haW : ∀ x ∈ a, x < 256) (wS : World) (hA : AtS wS ga a) :
    Calls Tryz.prog 43 #[.slice (some ⟨ga, 0, none⟩) n ca] wS fun e w' => e = .returned (.string (S (modB a))) ∧ Below wS.heap.size wS w' := by
  have H := SM.start wS
  obtain ⟨i0, hi0, hz0, hz1, hz2⟩ := info_parts infoI
  have hll := Kept.mk hal
  replace haW := Kept.mk haW
  have hAm := Kept.mk hA
  obtain ⟨res, hres⟩ : ∃ r, modB a = r := ⟨_, rfl⟩
  rw [hres]
  replace hres := Kept.mk hres
  have cL := fun w => L_any w
  replace cL := Kept.mk cL
  have kn : IntKind.i64.wrap ((n : Int) - 1) = (n : Int) - 1 := by simp [IntKind.wrap, IntKind.signed, IntKind.bits]; omega
  clear hal hA
  go_enter Tryz.func43, Tryz.ntmps43
  go_wp2_with (first
    | (refine s_make rfl _ _ rfl _ _ rfl rfl rfl (by decide) (by decide) (by assumption) ?_; intro g w H; try simp only [Act.put, yI, yC, yZ])
    | (go_at_call 74; refine s_sl (by assumption) (cL.out _) ?_; intro g w H))
  rename_i gr0 _ _ K _
  have H := H.swap
  have hst : valB 256 (List.replicate 33 0) = valB 256 (a.drop n) % oN := by
    rw [List.drop_eq_nil_of_le (by rw [hll.out]; exact Nat.le_refl _)]
    decide +kernel
  go_loopw [3, 5] (fun v3 v5 wr => ∃ (j gr cr : Nat) (rl : List Nat), j ≤ n ∧ v3 = .slice (some ⟨gr, 0, none⟩) 33 cr ∧ 33 ≤ cr ∧ v5 = .int .i64 ((j : Int) - 1) ∧ SM wS wr [(gr, rl), (g, lL)] ∧ Kept (rl.length = 33) ∧ Kept (∀ x ∈ rl, x < 256) ∧ Kept (valB 256 rl = valB 256 (a.drop j) % oN)) (fun _ v5 _ => (RowKit.intOf v5 + 1).toNat)
  case atStart => exact ⟨n, gr0, 33, List.replicate 33 0, Nat.le_refl _, rfl, Nat.le_refl _, rfl, H, ⟨List.length_replicate ..⟩, ⟨by intro x hx; rw [List.eq_of_mem_replicate hx]; decide⟩, ⟨hst⟩⟩
  case round =>
    clear H hst
    obtain ⟨j, gr, cr, rl, hj, rfl, hcr33, rfl, H, HR, HW, HV⟩ := hrel
    cases j with
    | zero =>
      rw [show ((0 : Nat) : Int) - 1 = -1 from rfl]
      have hT : rl.take 32 = res.map (·.toNat) := by
        have h0 : valB 256 rl = valB 256 a % oN := by have h := HV.out; rw [List.drop_zero] at h; exact h
        rw [← hres.out, modB_nat]
        exact limbs_eq (by decide) _ 32 _ (by rw [List.length_take, HR.out]; rfl) (fun x hx => HW.out x (List.mem_of_mem_take hx)) (by rw [take_val rl HR.out (h0 ▸ Nat.mod_lt _ o_pos), h0])
      have hTl : res.length = 32 := by rw [← hres.out, modB_len]
      replace hT := Kept.mk hT
      replace hTl := Kept.mk hTl
      obtain ⟨i1, hi1, hy0, hy1, hy2⟩ := info_parts info5
      go_wp2_with (refine wpList_make_row _ rfl _ _ 37 rfl 5 i1 (.int .u8 0) Tryz.underlying37 hi1 hy0 hy1 rfl .i64 .i64 32 rfl rfl (by rw [hy2]; omega) (by omega) ?_; rw [made32])
      have hB := Arr.new wr 5 .u8 z32
      have hne : gr < wr.heap.size := (H.holds gr rl (.head _)).lt
      have hne2 : g < wr.heap.size := (H.holds g lL (.tail _ (.head _))).lt
      have hsz := H.below.size
      have H := H.grow ((Below.refl _ wr).alloc (Nat.le_refl _) (.cells (numC .u8 z32).toArray 5))
      generalize wr.alloc (.cells (numC .u8 z32).toArray 5) = w1 at hB H ⊢
      generalize wr.heap.size = gb at hB hne hne2 hsz ⊢
      replace hB := Kept.mk hB
      go_loopw [11] (fun v11 wr => ∃ (i : Nat), i ≤ 32 ∧ v11 = .int .i64 (i : Int) ∧ SM wS wr [(gr, rl), (g, lL)] ∧ Kept (Arr wr gb 5 .u8 (rl.take i ++ z32.drop i))) (fun v11 _ => 32 - (RowKit.intOf v11).toNat)
      case atStart => exact ⟨0, by omega, rfl, H, hB⟩
      case round =>
        clear H hB
        obtain ⟨i, hi, rfl, H, HB⟩ := hrel
        by_cases hlt : i < 32
        · obtain ⟨q, hq⟩ : ∃ q, rl.getD i 0 = q := ⟨_, rfl⟩
          have hql : q < 256 := hq ▸ getD_ltN HW.out i (by rw [HR.out]; omega)
          have c1 := H.cell (.head _) i (by rw [HR.out]; omega)
          rw [hq] at c1
          have hlti : (i : Int) < 32 := by omega
          have hlti2 : (i : Int) < 33 := by omega
          have kq : IntKind.u8.wrap (q : Int) = (q : Int) := by simp [IntKind.wrap, IntKind.signed, IntKind.bits]; omega
          have hz0 := drop_getD z32 i (by show i < 32; exact hlt)
          have hdl : (rl.take i).length = i := by rw [List.length_take, HR.out]; omega
          have e0 := HB.out.cellMid hz0 hdl
          have f0 := HB.out.frozen i
          have hBn : Arr (wr.setCell ⟨gb, i, none⟩ (.int .u8 (q : Int))) gb 5 .u8 (rl.take (i + 1) ++ z32.drop (i + 1)) := by
            have h := HB.out.step hz0 hdl q rfl
            rw [show rl.take i ++ [q] = rl.take (i + 1) by rw [List.take_add_one, ← hq]; simp [HR.out, show i < 33 by omega]] at h
            exact h
          have hne3 : ∀ g' x', (g', x') ∈ [(gr, rl), (g, lL)] → g' ≠ gb := by
            intro g' x' h
            simp at h
            omega
          have Hn := H.setOther gb i (.int .u8 (q : Int)) hne3 hsz
          replace hBn := Kept.mk hBn
          replace hq := Kept.mk hq
          clear hz0 hne3 hdl
          go_wp2
          go_roundw
          case rel => exact ⟨i + 1, by omega, val_eq (by omega), Hn, hBn⟩
          case measure => first | (simp [RowKit.intOf]; done) | (simp [RowKit.intOf]; omega)
        · obtain rfl : i = 32 := by omega
          have hA := HB.out
          rw [show z32.drop 32 = [] from rfl, List.append_nil, hT.out] at hA
          have hcv := run_convert_bytes_back (P := Tryz.prog) wr 37 9 5 ⟨gb, 0, none⟩ 32 res Tryz.underlying37 Tryz.underlying5 Tryz.underlying9 (fun j hj => by
            have h := hA.cell j (by rw [List.length_map]; exact hj)
            rw [show ((⟨gb, 0, none⟩ : Addr).add j) = ⟨gb, j, none⟩ by unfold Addr.add; split <;> simp_all]
            rw [h]
            simp [hj])
          rw [hTl.out] at hcv
          have hcv2 : (convert 37 9 (.slice (some ⟨gb, 0, none⟩) 32 32)).run Tryz.prog wr = .ok (.string (S res)) wr := hcv
          clear hcv hA HB
          go_wp2
          go_ret
          exact ⟨rfl, H.below⟩
    | succ k =>
      rw [show ((k + 1 : Nat) : Int) - 1 = (k : Int) by omega]
      obtain ⟨hx1, hx2, hx3⟩ := Rem.first a rl k (by rw [hll.out]; omega) haW.out HR.out HW.out HV.out
      obtain ⟨p, hp⟩ : ∃ p, a.getD k 0 = p := ⟨_, rfl⟩
      rw [hp] at hx1 hx2 hx3
      obtain ⟨v0, hv0⟩ : ∃ v, p + 256 * valB 256 rl = v := ⟨_, rfl⟩
      rw [hv0] at hx1 hx2 hx3
      have hcA : ∀ u, Kept (SM wS u [(gr, rl), (g, lL)]) → u.cell? ⟨ga, k, none⟩ = some (.int .i64 (p : Int)) := fun u hu => by
        have h := (hAm.out.from hu.out.below).cell k (by rw [hll.out]; omega)
        rw [hp] at h
        exact h
      have hkn : (k : Int) < (n : Int) := by omega
      have hkn2 : k < n := by omega
      have hk0 : (0 : Int) ≤ (k : Int) := by omega
      have hcrI : (32 : Int) ≤ (cr : Int) := by omega
      replace hp := Kept.mk hp
      replace hv0 := Kept.mk hv0
      replace hx1 := Kept.mk hx1
      replace hx2 := Kept.mk hx2
      replace hx3 := Kept.mk hx3
      go_wp2
      have hS0 : (fun u => Kept (SM wS u [(gr, rl), (g, lL)])) wr.drew := ⟨H.grow (Below.drew (Below.refl _ _))⟩
      refine wp_region_mix (fun u => Kept (SM wS u [(gr, rl), (g, lL)])) 8 [(0, 0), (1, 0), (2, 0), (3, 0), (5, 0), (6, 0), (4, 1), (7, 1), (8, 2)] (by kernel_rfl) (by kernel_rfl) (fun _ d _ _ _ h => by cases d <;> exact h) ?_
      simp only [pickOps, List.getElem?_cons_succ, List.getElem?_cons_zero]
      (refine wpMix_take ?_ (Or.inl ⟨by rfl, fun u hu => ?_⟩) hS0 ?_; rotate_left; (focus (have c1 := hcA u hu; clear hu; (go_simp; try with_reducible rfl))); simp only [Act.put, List.setIfInBounds_toArray, List.set_cons_zero, List.set_cons_succ])
      (refine wpMix_take ?_ (Or.inl ⟨by rfl, fun u hu => ?_⟩) hS0 ?_; rotate_left; (focus (have c1 := hcA u hu; clear hu; (go_simp; try with_reducible rfl))); simp only [Act.put, List.setIfInBounds_toArray, List.set_cons_zero, List.set_cons_succ])
      (refine wpMix_take ?_ (Or.inl ⟨by rfl, fun u hu => ?_⟩) hS0 ?_; rotate_left; (focus (have c1 := hcA u hu; clear hu; (go_simp; try with_reducible rfl))); simp only [Act.put, List.setIfInBounds_toArray, List.set_cons_zero, List.set_cons_succ])
      (refine wpMix_take ?_ (Or.inl ⟨by rfl, fun u hu => ?_⟩) hS0 ?_; rotate_left; (focus (have c1 := hcA u hu; clear hu; (go_simp; try with_reducible rfl))); simp only [Act.put, List.setIfInBounds_toArray, List.set_cons_zero, List.set_cons_succ])
      (refine wpMix_take ?_ (Or.inl ⟨by rfl, fun u hu => ?_⟩) hS0 ?_; rotate_left; (focus (have c1 := hcA u hu; clear hu; (go_simp; try with_reducible rfl))); simp only [Act.put, List.setIfInBounds_toArray, List.set_cons_zero, List.set_cons_succ])
      (refine wpMix_take ?_ (Or.inl ⟨by rfl, fun u hu => ?_⟩) hS0 ?_; rotate_left; (focus (have c1 := hcA u hu; clear hu; (go_simp; try with_reducible rfl))); simp only [Act.put, List.setIfInBounds_toArray, List.set_cons_zero, List.set_cons_succ])
      refine wpMix_one fun K hK => ?_
      rw [if_pos (by rfl)]
      go_simp
      have hbx := Below.alloc (Below.refl wr.drew.heap.size wr.drew) (Nat.le_refl _) (.cells #[.int .i64 (p : Int)] 3)
      have hS2 : (fun u => Kept (SM wS u [(gr, rl), (g, lL)])) (wr.alloc (.cells #[.int .i64 (p : Int)] 3)).drew := ⟨hS0.out.grow hbx⟩
      refine hK _ _ hS2 ?_
      clear hbx hK K
      have hrn : ∀ (j : Nat) (u : Value), [Value.int .i64 (p : Int)][j]? = some u → (wr.alloc (.cells #[.int .i64 (p : Int)] 3)).drew.cell? ((⟨wr.drew.heap.size, 0, none⟩ : Addr).add j) = some u := row_new wr.drew [.int .i64 (p : Int)] 3
      have hcr := fun j (hj : j < 33) => hS2.out.cell (.head _) j (by rw [HR.out]; exact hj)
      generalize (wr.alloc (.cells #[.int .i64 (p : Int)] 3)).drew = w3 at hS2 hrn hcr ⊢
      clear hS0 H
      refine wpMix_one fun K hK => ?_
      refine step_append_grows rfl (.tmp 25) (.tmp 27) 53 rfl 3 i0 (.int .i64 0) 1 8 Tryz.underlying53 hi0 hz0 hz1 hz2 rfl (by omega) (some ⟨wr.drew.heap.size, 0, none⟩) 1 1 [.int .i64 (p : Int)] rfl (fun e => by cases e) rfl ?c1 ⟨gr, 0, none⟩ 32 cr (numC .i64 (rl.take 32)) rfl ?c2 ?c3 ?c4 (by omega) (by decide) (by omega) ?_
      case c1 => intro b hb; injection hb with hb; subst hb; exact hrn
      case c2 => rw [numC_length, List.length_take, HR.out]; rfl
      case c3 =>
        intro j u hu
        have hj : j < 32 := by
          have := (List.getElem?_eq_some_iff.1 hu).1
          rw [numC_length, List.length_take, HR.out] at this
          omega
        rw [show ((⟨gr, 0, none⟩ : Addr).add j) = ⟨gr, j, none⟩ by unfold Addr.add; split <;> simp_all, hcr j (by omega), ← hu]
        simp [numC, hj, HR.out, show j < 33 by omega]
      case c4 => intro u hu; obtain ⟨z, _, rfl⟩ := List.mem_map.1 hu; rfl
      intro v' w4 ho4 hg4
      obtain ⟨gx, cx, rfl, hgx, hcx⟩ := own_pos2 ho4 (by omega)
      have hA4 := (AtS.own (l := p :: rl.take 32) (show w4.ownsRow w3.heap.size 3 1 (.slice (some ⟨gx, 0, none⟩) 33 cx) 33 (numC .i64 (p :: rl.take 32)) from ho4)).1
      have hb4 : Below w3.heap.size w3 w4 := (Below.refl _ _).grown hg4 (Nat.le_refl _) (fun k hk => by cases hk)
      have H4 := hS2.out.more hb4 hgx hA4
      refine hK _ _ ⟨hS2.out.grow hb4⟩ ?_
      clear hK K hS2 ho4 hg4 hA4 hb4 hgx hcr hrn
      refine wpMix_last fun K hK => ?_
      rw [if_pos (by rfl)]
      go_simp
      refine hK _ _ ?_
      clear hK K
      refine wpMix_nil ?_
      have H5 := H4.only (L' := [(gx, p :: rl.take 32), (g, lL)]) (.cons_cons _ (.cons _ (.cons_cons _ .slnil)))
      clear H4 hcA
      go_wp2
      go_loopw [6, 7] (fun v6 v7 w' => ∃ (t gy cy : Nat) (xl : List Nat), v6 = .slice (some ⟨gy, 0, none⟩) 33 cy ∧ 33 ≤ cy ∧ v7 = .int .i64 (t : Int) ∧ SM wS w' [(gy, xl), (g, lL)] ∧ Kept (Rem xl t v0)) (fun _ v7 _ => 4096 - (RowKit.intOf v7).toNat)
      case atStart => exact ⟨0, gx, cx, p :: rl.take 32, rfl, hcx, rfl, H5, hx1⟩
      case round =>
        clear H5
        obtain ⟨t, gy, cy, xl, rfl, hcy, rfl, H, HX⟩ := hrel
        have ht := HX.out.few hx2.out
        have htI : (t : Int) < 4096 := by omega
        have cl := fun w2 (hy : AtS w2 gy xl) (hl : AtS w2 g lL) => less_walk xl lL gy g cy 32 HX.out.len lL_len HX.out.lt lL_lt w2 hy hl
        by_cases hU : dfU xl (lL ++ [0]) 0 = 0
        · have hb : (dfU xl (lL ++ [0]) 0 == 0) = true := by simp [hU]
          have HX' := HX.out.step hU
          rw [hb] at cl
          generalize dfL xl (lL ++ [0]) 0 = yl at cl HX'
          replace HX' := Kept.mk HX'
          replace cl := Kept.mk cl
          clear hb hU
          go_wp2_with (go_at_call 75; refine s_ls (by assumption) (cl.out _ (H.holds gy xl (.head _)) (H.holds g lL (.tail _ (.head _)))) ?_; intro g' w H)
          go_roundw
          case rel => exact ⟨t + 1, _, 33, yl, rfl, Nat.le_refl _, val_eq (by omega), H.only (.cons_cons _ (.cons _ (.cons_cons _ .slnil))), HX'⟩
          case measure => first | (simp [RowKit.intOf]; done) | (simp [RowKit.intOf]; omega)
        · have hb : (dfU xl (lL ++ [0]) 0 == 0) = false := by simp [hU]
          have HS := HX.out.stop hU
          rw [hx3.out] at HS
          rw [hb] at cl
          generalize dfL xl (lL ++ [0]) 0 = yl at cl
          replace HS := Kept.mk HS
          replace cl := Kept.mk cl
          clear hb hU
          go_wp2_with (go_at_call 75; refine s_ls (by assumption) (cl.out _ (H.holds gy xl (.head _)) (H.holds g lL (.tail _ (.head _)))) ?_; intro g' w H)
          go_roundw
          case rel => exact ⟨k, gy, cy, xl, by omega, rfl, hcy, rfl, H.only (.cons _ (.cons_cons _ (.cons_cons _ .slnil))), ⟨HX.out.len⟩, ⟨HX.out.lt⟩, HS⟩
          case measure => first | (simp [RowKit.intOf]; done) | (simp [RowKit.intOf]; omega)
end Go.Proofs.YtgnblaaldpniiaaGreatDoor.Sc
end
