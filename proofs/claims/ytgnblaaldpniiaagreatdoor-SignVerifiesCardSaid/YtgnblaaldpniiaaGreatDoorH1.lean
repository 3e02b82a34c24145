/- Walks of the document's answer for package sha2: numbers of five digits. -/
import Derived.Test.YtgnblaaldpniiaaGreatDoorZK1
import Derived.Test.YtgnblaaldpniiaaGreatDoorZS3
import Derived.RegionTactic
set_option maxRecDepth 100000
set_option linter.unusedVariables false
set_option linter.unusedSimpArgs false
namespace Go.Proofs.YtgnblaaldpniiaaGreatDoor.Sh
open Go.RowKit Go.Lib
structure Only (g : Nat) (w w' : World) : Prop where
  os : w'.os = w.os
  tape : w'.tape = w.tape
  output : w'.output = w.output
  size : w'.heap.size = w.heap.size
  block : ∀ k, k ≠ g → w'.heap[k]? = w.heap[k]?
theorem Only.refl (g : Nat) (w : World) : Only g w w := ⟨rfl, rfl, rfl, rfl, fun _ _ => rfl⟩
theorem Only.drew {g : Nat} {a w : World} (h : Only g a w) : Only g a w.drew := ⟨h.os, h.tape, h.output, h.size, h.block⟩
theorem Only.setCell {g : Nat} {a w : World} (h : Only g a w) (j : Nat) (u : Value) : Only g a (w.setCell ⟨g, j, none⟩ u) :=
  ⟨h.os, h.tape, h.output, by rw [← h.size]; simp [World.setCell], fun k hk => (heap_setCell_other w ⟨g, j, none⟩ k u hk).trans (h.block k hk)⟩
theorem Only.below {g B : Nat} {a w : World} (h : Only g a w) (hB : B ≤ g) : Below B a w :=
  ⟨h.os, h.tape, h.output, by rw [h.size]; exact Nat.le_refl _, fun k hk => h.block k (by omega)⟩
def digC (l : List Nat) : List Value := l.map fun d => Value.int .u64 (d : Nat)
def BigAt (w : World) (g : Nat) (l : List Nat) : Prop := w.heap[g]? = some (.cells (digC l).toArray 127 (0, 0)) ∧ l.length = 5 ∧ ∀ d ∈ l, d < 4294967296
theorem BigAt.drew {w : World} {g : Nat} {l : List Nat} (h : BigAt w g l) : BigAt w.drew g l := h
theorem BigAt.only {w w' : World} {g k : Nat} {l : List Nat} (h : BigAt w k l) (ho : Only g w w') (hk : k ≠ g) : BigAt w' k l := ⟨(ho.block k hk).trans h.1, h.2⟩
theorem BigAt.lt {w : World} {g : Nat} {l : List Nat} (h : BigAt w g l) : g < w.heap.size := (Array.getElem?_eq_some_iff.1 h.1).1
theorem dig_cell {w : World} {g : Nat} {l : List Nat} {T : TypeId} (h : w.heap[g]? = some (.cells (digC l).toArray T (0, 0))) (i : Nat) (hi : i < l.length) : w.cell? ⟨g, i, none⟩ = some (.int .u64 (l[i] : Nat)) := by
  rw [cell_of_row w g i _ _ _ h]
  simp [digC, hi]
theorem dig_set {w : World} {g : Nat} {l : List Nat} {T : TypeId} (h : w.heap[g]? = some (.cells (digC l).toArray T (0, 0))) (i : Nat) (x : Nat) : (w.setCell ⟨g, i, none⟩ (.int .u64 (x : Nat))).heap[g]? = some (.cells (digC (l.set i x)).toArray T (0, 0)) := by
  rw [heap_setCell_same w g i _ _ _ h]
  simp [digC, List.map_set]
theorem wrap_u64 (x : Nat) : IntKind.u64.wrap (x : Int) = ((x % 18446744073709551616 : Nat) : Int) := by
  simp [IntKind.wrap, IntKind.signed, IntKind.bits]
theorem set_mid (pre s : List Nat) (i x d : Nat) (h : pre.length = i) : (pre ++ d :: s).set i x = (pre ++ [x]) ++ s := by
  rw [List.set_append_right _ _ (by omega), h, Nat.sub_self, List.set_cons_zero]; simp
def GrowPost (g t m : Nat) (l : List Nat) (w : World) (e : Ending) (w' : World) : Prop := e = .returned (.tuple #[]) ∧ BigAt w' g (growL t m l) ∧ Only g w w'
set_option maxHeartbeats 3200000 in
theorem grow_any (g : Nat) (t m : Nat) (l : List Nat) (w : World) (h : BigAt w g l) (_ : m < 18446744073709551616) : Calls Tryz.prog 106 #[.pointer (some ⟨g, 0, none⟩), .int .u64 t, .int .u64 m] w (GrowPost g t m l w) := by
  have h0 := Lib.hid h.1
  have h5 := h.2.1
  have hd := Lib.hid h.2.2
  clear h
  go_enter Tryz.func106, Tryz.ntmps106
  go_wp2
  go_loopw [2, 6] (fun mv iv wr => ∃ (i q : Nat) (pre s : List Nat), i ≤ 5 ∧ iv = .int .i64 i ∧ mv = .int .u64 q ∧ pre.length = i ∧ i + s.length = 5 ∧ Hid (pre ++ growL t q s = growL t m l) ∧ Hid (wr.heap[g]? = some (.cells (digC (pre ++ s)).toArray 127 (0, 0))) ∧ Hid (Only g w wr)) (fun _ iv _ => 5 - (RowKit.intOf iv).toNat)
  case atStart => exact ⟨0, m, [], l, by omega, rfl, rfl, rfl, by omega, rfl, h0.out, Only.refl _ _⟩
  case round =>
    obtain ⟨i, q, pre, s, hi, rfl, rfl, hp, hs, HG, HH, HO⟩ := hrel
    clear h0
    by_cases hlt : i < 5
    · obtain ⟨d, s', rfl⟩ : ∃ d s', s = d :: s' := by
        cases s with
        | nil => simp at hs; omega
        | cons d s' => exact ⟨d, s', rfl⟩
      have hc := dig_cell HH.out i (by rw [List.length_append]; simp at hs ⊢; omega)
      have e1 : (pre ++ d :: s')[i]'(by rw [List.length_append]; simp at hs ⊢; omega) = d := by
        rw [List.getElem_append_right (by omega)]; simp [hp]
      rw [e1] at hc
      have hf := frozen_of_row wr g i _ _ HH.out
      obtain ⟨v, hv⟩ : ∃ v, (q + d * t) % 18446744073709551616 = v := ⟨_, rfl⟩
      have hvl : v < 18446744073709551616 := by omega
      have k1 : IntKind.u64.wrap ((q : Int) + IntKind.u64.wrap ((d : Int) * (t : Int))) = (v : Int) := by
        rw [← Int.natCast_mul, wrap_u64, ← Int.natCast_add, wrap_u64, ← hv]; omega
      obtain ⟨r, hr⟩ : ∃ r, v % 4294967296 = r := ⟨_, rfl⟩
      obtain ⟨z, hz⟩ : ∃ z, v / 4294967296 = z := ⟨_, rfl⟩
      have k2 : (v : Int) / 4294967296 = (z : Int) := by omega
      have k3 : (v : Int) % 4294967296 = (r : Int) := by omega
      have hst := dig_set HH.out i r
      rw [set_mid pre s' i _ d hp] at hst
      have hso := HO.out.setCell i (.int .u64 (r : Nat))
      have hg2 : (pre ++ [r]) ++ growL t z s' = growL t m l := by
        rw [← HG.out, growL, hv, hr, hz]; simp
      clear e1
      simp only [List.length_cons] at hs
      replace hst := Lib.hid hst
      replace hso := Lib.hid hso
      replace hg2 := Lib.hid hg2
      replace hv := Lib.hid hv
      replace hr := Lib.hid hr
      have hzl : z < 18446744073709551616 := by omega
      replace hz := Lib.hid hz
      go_wp2
      go_roundw
      case rel => exact ⟨i + 1, z, pre ++ [r], s', by omega, by go_num, rfl, by rw [List.length_append, hp]; rfl, by omega, hg2, hst, hso⟩
      case measure => simp [RowKit.intOf]; omega
    · have hi5 : i = 5 := by omega
      have hsn : s = [] := List.eq_nil_of_length_eq_zero (by omega)
      have hfin : pre = growL t m l := by rw [← HG.out, hsn]; simp [growL]
      have hh := HH.out
      rw [hsn, List.append_nil, hfin] at hh
      replace hh := Lib.hid hh
      clear hsn hfin hi5
      go_wp2
      go_end0
      exact ⟨rfl, ⟨hh.out, by rw [growL_len]; exact h5, growL_lt t l m⟩, HO.out⟩
def PlusPost (g t : Nat) (l y : List Nat) (w : World) (e : Ending) (w' : World) : Prop := e = .returned (.tuple #[]) ∧ BigAt w' g (plusL t 0 l y) ∧ Only g w w'
set_option maxHeartbeats 3200000 in
theorem plus_any (g k : Nat) (t : Nat) (l y : List Nat) (w : World) (h : BigAt w g l) (hk : k ≠ g) (hy : BigAt w k y) : Calls Tryz.prog 107 #[.pointer (some ⟨g, 0, none⟩), .pointer (some ⟨k, 0, none⟩), .int .u64 t] w (PlusPost g t l y w) := by
  have h0 := Lib.hid h.1
  have h5 := h.2.1
  have y5 := hy.2.1
  replace hy := Lib.hid hy
  clear h
  go_enter Tryz.func107, Tryz.ntmps107
  go_wp2
  go_loopw [6, 7] (fun mv iv wr => ∃ (i q : Nat) (pre s : List Nat), i ≤ 5 ∧ iv = .int .i64 i ∧ mv = .int .u64 q ∧ pre.length = i ∧ i + s.length = 5 ∧ Hid (pre ++ plusL t q s (y.drop i) = plusL t 0 l y) ∧ Hid (wr.heap[g]? = some (.cells (digC (pre ++ s)).toArray 127 (0, 0))) ∧ Hid (Only g w wr)) (fun _ iv _ => 5 - (RowKit.intOf iv).toNat)
  case atStart => exact ⟨0, 0, [], l, by omega, rfl, rfl, rfl, by omega, rfl, h0.out, Only.refl _ _⟩
  case round =>
    obtain ⟨i, q, pre, s, hi, rfl, rfl, hp, hs, HG, HH, HO⟩ := hrel
    clear h0
    by_cases hlt : i < 5
    · obtain ⟨d, s', rfl⟩ : ∃ d s', s = d :: s' := by
        cases s with
        | nil => simp at hs; omega
        | cons d s' => exact ⟨d, s', rfl⟩
      have hc := dig_cell HH.out i (by rw [List.length_append]; simp at hs ⊢; omega)
      have e1 : (pre ++ d :: s')[i]'(by rw [List.length_append]; simp at hs ⊢; omega) = d := by
        rw [List.getElem_append_right (by omega)]; simp [hp]
      rw [e1] at hc
      have hf := frozen_of_row wr g i _ _ HH.out
      have hcy := dig_cell (hy.out.only HO.out hk).1 i (by omega)
      obtain ⟨b, hb⟩ : ∃ b, y[i]'(by omega) = b := ⟨_, rfl⟩
      rw [hb] at hcy
      have hyd : y.drop i = b :: y.drop (i + 1) := by rw [List.drop_eq_getElem_cons (by omega), hb]
      obtain ⟨v, hv⟩ : ∃ v, (q + (d + b * t)) % 18446744073709551616 = v := ⟨_, rfl⟩
      have hvl : v < 18446744073709551616 := by omega
      have k1 : IntKind.u64.wrap ((q : Int) + IntKind.u64.wrap ((d : Int) + IntKind.u64.wrap ((b : Int) * (t : Int)))) = (v : Int) := by
        rw [← Int.natCast_mul, wrap_u64, ← Int.natCast_add, wrap_u64, ← Int.natCast_add, wrap_u64, ← hv]; omega
      obtain ⟨r, hr⟩ : ∃ r, v % 4294967296 = r := ⟨_, rfl⟩
      obtain ⟨z, hz⟩ : ∃ z, v / 4294967296 = z := ⟨_, rfl⟩
      have k2 : (v : Int) / 4294967296 = (z : Int) := by omega
      have k3 : (v : Int) % 4294967296 = (r : Int) := by omega
      have hst := dig_set HH.out i r
      rw [set_mid pre s' i _ d hp] at hst
      have hso := HO.out.setCell i (.int .u64 (r : Nat))
      have hg2 : (pre ++ [r]) ++ plusL t z s' (y.drop (i + 1)) = plusL t 0 l y := by
        rw [← HG.out, hyd, plusL, hv, hr, hz]; simp
      clear e1
      simp only [List.length_cons] at hs
      replace hst := Lib.hid hst
      replace hso := Lib.hid hso
      replace hg2 := Lib.hid hg2
      replace hyd := Lib.hid hyd
      replace hb := Lib.hid hb
      replace hv := Lib.hid hv
      replace hr := Lib.hid hr
      have hzl : z < 18446744073709551616 := by omega
      replace hz := Lib.hid hz
      go_wp2
      go_region
      all_goals
        go_wp2
        go_roundw
        case rel => exact ⟨i + 1, z, pre ++ [r], s', by omega, by go_num, rfl, by rw [List.length_append, hp]; rfl, by omega, hg2, hst, hso.out.drew⟩
        case measure => simp [RowKit.intOf]; omega
    · have hi5 : i = 5 := by omega
      have hsn : s = [] := List.eq_nil_of_length_eq_zero (by omega)
      have hfin : pre = plusL t 0 l y := by rw [← HG.out, hsn]; simp [plusL]
      have hh := HH.out
      rw [hsn, List.append_nil, hfin] at hh
      replace hh := Lib.hid hh
      clear hsn hfin hi5
      go_wp2
      go_end0
      exact ⟨rfl, ⟨hh.out, by rw [plusL_len t l y 0 (by omega)]; exact h5, plusL_lt t l y 0⟩, HO.out⟩
def LessPost (g : Nat) (l y : List Nat) (w : World) (e : Ending) (w' : World) : Prop := e = .returned (.tuple #[]) ∧ BigAt w' g (lessL 0 l y) ∧ Only g w w'
set_option maxHeartbeats 3200000 in
theorem less_any (g k : Nat) (l y : List Nat) (w : World) (h : BigAt w g l) (hk : k ≠ g) (hy : BigAt w k y) : Calls Tryz.prog 109 #[.pointer (some ⟨g, 0, none⟩), .pointer (some ⟨k, 0, none⟩)] w (LessPost g l y w) := by
  have h0 := Lib.hid h.1
  have h5 := h.2.1
  have hd := Lib.hid h.2.2
  have y5 := hy.2.1
  replace hy := Lib.hid hy
  clear h
  go_enter Tryz.func109, Tryz.ntmps109
  go_wp2
  go_loopw [4, 5, 6] (fun uv iv _ wr => ∃ (i u : Nat) (pre s : List Nat), i ≤ 5 ∧ iv = .int .i64 i ∧ uv = .int .u64 u ∧ u ≤ 1 ∧ pre.length = i ∧ i + s.length = 5 ∧ Hid (∀ d ∈ s, d < 4294967296) ∧ Hid (pre ++ lessL u s (y.drop i) = lessL 0 l y) ∧ Hid (wr.heap[g]? = some (.cells (digC (pre ++ s)).toArray 127 (0, 0))) ∧ Hid (Only g w wr)) (fun _ iv _ _ => 5 - (RowKit.intOf iv).toNat)
  case atStart => exact ⟨0, 0, [], l, by omega, rfl, rfl, by omega, rfl, by omega, hd, rfl, h0.out, Only.refl _ _⟩
  case round =>
    obtain ⟨i, u, pre, s, hi, rfl, rfl, hu, hp, hs, HD, HG, HH, HO⟩ := hrel
    clear h0
    by_cases hlt : i < 5
    · obtain ⟨d, s', rfl⟩ : ∃ d s', s = d :: s' := by
        cases s with
        | nil => simp at hs; omega
        | cons d s' => exact ⟨d, s', rfl⟩
      have hdl : d < 4294967296 := HD.out d (by simp)
      have hd' : ∀ x ∈ s', x < 4294967296 := fun x hx => HD.out x (by simp [hx])
      replace hd' := Lib.hid hd'
      have hc := dig_cell HH.out i (by rw [List.length_append]; simp at hs ⊢; omega)
      have e1 : (pre ++ d :: s')[i]'(by rw [List.length_append]; simp at hs ⊢; omega) = d := by
        rw [List.getElem_append_right (by omega)]; simp [hp]
      rw [e1] at hc
      have hf := frozen_of_row wr g i _ _ HH.out
      have hcy := dig_cell (hy.out.only HO.out hk).1 i (by omega)
      obtain ⟨b, hb⟩ : ∃ b, y[i]'(by omega) = b := ⟨_, rfl⟩
      have hbl : b < 4294967296 := by rw [← hb]; exact hy.out.2.2 _ (List.getElem_mem _)
      rw [hb] at hcy
      have hyd : y.drop i = b :: y.drop (i + 1) := by rw [List.drop_eq_getElem_cons (by omega), hb]
      obtain ⟨v, hv⟩ : ∃ v, d + 4294967296 - b - u = v := ⟨_, rfl⟩
      have hvl : v < 8589934592 := by omega
      have k1 : (d : Int) + 4294967296 - (b : Int) - (u : Int) = (v : Int) := by omega
      obtain ⟨r, hr⟩ : ∃ r, v % 4294967296 = r := ⟨_, rfl⟩
      obtain ⟨z, hz⟩ : ∃ z, 1 - v / 4294967296 = z := ⟨_, rfl⟩
      have k2 : (1 : Int) - (v : Int) / 4294967296 = (z : Int) := by omega
      have k3 : (v : Int) % 4294967296 = (r : Int) := by omega
      have hst := dig_set HH.out i r
      rw [set_mid pre s' i _ d hp] at hst
      have hso := HO.out.setCell i (.int .u64 (r : Nat))
      have hg2 : (pre ++ [r]) ++ lessL z s' (y.drop (i + 1)) = lessL 0 l y := by
        rw [← HG.out, hyd, lessL, hv, hr, hz]; simp
      clear e1
      simp only [List.length_cons] at hs
      replace hst := Lib.hid hst
      replace hso := Lib.hid hso
      replace hg2 := Lib.hid hg2
      replace hyd := Lib.hid hyd
      replace hb := Lib.hid hb
      replace hv := Lib.hid hv
      replace hr := Lib.hid hr
      have hzl : z ≤ 1 := by omega
      replace hz := Lib.hid hz
      go_wp2
      go_region
      all_goals
        go_wp2
        go_roundw
        case rel => exact ⟨i + 1, z, pre ++ [r], s', by omega, by go_num, rfl, hzl, by rw [List.length_append, hp]; rfl, by omega, hd', hg2, hst, hso.out.drew⟩
        case measure => simp [RowKit.intOf]; omega
    · have hi5 : i = 5 := by omega
      have hsn : s = [] := List.eq_nil_of_length_eq_zero (by omega)
      have hfin : pre = lessL 0 l y := by rw [← HG.out, hsn]; simp [lessL]
      have hh := HH.out
      rw [hsn, List.append_nil, hfin] at hh
      replace hh := Lib.hid hh
      clear hsn hfin hi5
      go_wp2
      go_end0
      exact ⟨rfl, ⟨hh.out, by rw [lessL_len l y 0 (by omega)]; exact h5, lessL_lt l y 0⟩, HO.out⟩
structure Still (w w' : World) : Prop where
  os : w'.os = w.os
  tape : w'.tape = w.tape
  output : w'.output = w.output
  heap : w'.heap = w.heap
theorem Still.refl (w : World) : Still w w := ⟨rfl, rfl, rfl, rfl⟩
theorem Still.drew {a w : World} (h : Still a w) : Still a w.drew := ⟨h.os, h.tape, h.output, h.heap⟩
theorem Still.only {a w : World} (h : Still a w) (g : Nat) : Only g a w := ⟨h.os, h.tape, h.output, by rw [h.heap], fun k _ => by rw [h.heap]⟩
theorem BigAt.still {w w' : World} {g : Nat} {l : List Nat} (h : BigAt w g l) (hs : Still w w') : BigAt w' g l := ⟨by rw [hs.heap]; exact h.1, h.2⟩
theorem take_rev (l : List Nat) (i : Nat) (h : i < l.length) : (l.take (i + 1)).reverse = l[i] :: (l.take i).reverse := by
  rw [List.take_succ_eq_append_getElem h]; simp
def BelowPost (l y : List Nat) (w : World) (e : Ending) (w' : World) : Prop := e = .returned (.bool (belowL l y)) ∧ Still w w'
set_option maxHeartbeats 3200000 in
theorem below_any (g k : Nat) (l y : List Nat) (w : World) (h : BigAt w g l) (hy : BigAt w k y) : Calls Tryz.prog 108 #[.pointer (some ⟨g, 0, none⟩), .pointer (some ⟨k, 0, none⟩)] w (BelowPost l y w) := by
  have h5 := h.2.1
  have y5 := hy.2.1
  replace h := Lib.hid h
  replace hy := Lib.hid hy
  go_enter Tryz.func108, Tryz.ntmps108
  go_wp2
  go_loopw [5] (fun iv wr => ∃ (j : Nat), j ≤ 5 ∧ iv = .int .i64 ((j : Int) - 1) ∧ Hid (belowR (l.take j).reverse (y.take j).reverse = belowL l y) ∧ Hid (Still w wr)) (fun iv _ => (RowKit.intOf iv + 1).toNat)
  case atStart => exact ⟨5, by omega, rfl, by show _ = _; rw [List.take_of_length_le (by omega), List.take_of_length_le (by omega)]; rfl, Still.refl _⟩
  case round =>
    obtain ⟨j, hj, rfl, HB, HS⟩ := hrel
    by_cases hj0 : 0 < j
    · obtain ⟨i, rfl⟩ : ∃ i, j = i + 1 := ⟨j - 1, by omega⟩
      have e1 : ((i + 1 : Nat) : Int) - 1 = (i : Int) := by omega
      rw [e1]
      clear e1
      have hc := dig_cell (h.out.still HS.out).1 i (by omega)
      have hcy := dig_cell (hy.out.still HS.out).1 i (by omega)
      have hst := HB.out
      rw [take_rev l i (by omega), take_rev y i (by omega)] at hst
      obtain ⟨a, ha⟩ : ∃ a, l[i]'(by omega) = a := ⟨_, rfl⟩
      obtain ⟨b, hb⟩ : ∃ b, y[i]'(by omega) = b := ⟨_, rfl⟩
      rw [ha] at hc hst
      rw [hb] at hcy hst
      rw [belowR] at hst
      replace ha := Lib.hid ha
      replace hb := Lib.hid hb
      by_cases hab : a = b
      · rw [if_pos hab] at hst
        subst hab
        replace hst := Lib.hid hst
        have bb : ((a : Int) != (a : Int)) = false := by simp
        go_wp2
        go_region
        all_goals
          clear hc hcy
          go_wp2
          go_roundw
          case rel => exact ⟨i, by omega, by go_num, hst, HS.out.drew⟩
          case measure => simp [RowKit.intOf]
      · rw [if_neg hab] at hst
        replace hst := Lib.hid hst
        have bb : ((a : Int) != (b : Int)) = true := by simp; omega
        go_wp2
        go_region
        all_goals
          go_wp2
          go_region
          all_goals
            go_wp2
            go_ret
            exact ⟨bool_ret (by rw [← hst.out]), HS.out.drew.drew⟩
    · have hj1 : j = 0 := by omega
      subst hj1
      have hst : belowL l y = false := by rw [← HB.out]; rfl
      replace hst := Lib.hid hst
      go_wp2
      go_ret
      exact ⟨by rw [hst.out]; rfl, HS.out⟩
end Go.Proofs.YtgnblaaldpniiaaGreatDoor.Sh
