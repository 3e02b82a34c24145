/- The law package's own 'turned': bytes turned by others of the same length. -/
import Derived.Test.YtlofmaonlppmiaaD5
import Derived.Lib.ConvBytes
import Derived.RegionTactic
namespace Go.Proofs.Ytlofmaonlppmiaa
open Go.RowKit Go.Lib
/-- A row of bytes that was made out of a string: its first cells are the bytes l, and nothing of it is frozen. -/
def Row8 (w : World) (g : Nat) (l : List UInt8) : Prop := ∃ cs : Array Value, w.heap[g]? = some (.cells cs 5 (cs.size, cs.size + 1)) ∧ cs.toList.take l.length = byteCells l
theorem row8_len {l : List UInt8} {cs : Array Value} (h : cs.toList.take l.length = byteCells l) : l.length ≤ cs.size := by
  have := congrArg List.length h
  rw [List.length_take, byteCells_length] at this
  simp at this
  omega
theorem row8_new (w : World) (l : List UInt8) : Row8 (Lib.bytesWorld w 5 (S l)) w.heap.size l := by
  refine ⟨_, Lib.bytesWorld_at_new w _ _, ?_⟩
  unfold Lib.bytesCells
  rw [Array.toList_append, List.take_append_of_le_length (by simp [S])]
  simp only [S, byteCells, List.map_toArray]
  exact List.take_of_length_le (by simp)
theorem row8_cell {w : World} {g : Nat} {l : List UInt8} (h : Row8 w g l) (j : Nat) (hj : j < l.length) : w.cell? ⟨g, j, none⟩ = some (.int .u8 (l[j].toNat : Int)) := by
  obtain ⟨cs, hg, ht⟩ := h
  have hl := row8_len ht
  rw [cell_of_row w g j cs _ _ hg]
  have e : (cs.toList.take l.length)[j]? = (byteCells l)[j]? := by rw [ht]
  rw [List.getElem?_take, if_pos hj] at e
  rw [Array.getElem?_toList] at e
  rw [e]
  simp [byteCells, hj]
theorem row8_frozen {w : World} {g : Nat} {l : List UInt8} (h : Row8 w g l) (j : Nat) (hj : j < l.length) : w.frozen? ⟨g, j, none⟩ = false := by
  obtain ⟨cs, hg, ht⟩ := h
  have hl := row8_len ht
  simp [World.frozen?, hg]
  omega
theorem row8_set {w : World} {g : Nat} {l : List UInt8} (h : Row8 w g l) (j : Nat) (x : UInt8) : Row8 (w.setCell ⟨g, j, none⟩ (.int .u8 x.toNat)) g (l.set j x) := by
  obtain ⟨cs, hg, ht⟩ := h
  refine ⟨cs.setIfInBounds j (.int .u8 x.toNat), ?_, ?_⟩
  · rw [setCell_eq_setRow w g j cs _ _ _ hg, setRow_heap w g cs _ _ _ hg]
    simp
  · rw [Array.toList_setIfInBounds, List.length_set, List.take_set, ht]
    unfold byteCells; rw [List.map_set]
theorem row8_drew {w : World} {g : Nat} {l : List UInt8} (h : Row8 w g l) : Row8 w.drew g l := h
theorem row8_conv {w : World} {g : Nat} {l : List UInt8} (h : Row8 w g l) (n cap : Nat) (hn : l.length = n) : (convert 36 9 (.slice (some ⟨g, 0, none⟩) n cap)).run Try.prog w = .ok (.string (S l)) w := by
  subst hn
  refine run_convert_bytes_back w 36 9 5 _ _ l Try.underlying36 Try.underlying5 Try.underlying9 (fun j hj => ?_)
  have : ((⟨g, 0, none⟩ : Addr).add j) = ⟨g, j, none⟩ := by
    unfold Addr.add; split <;> simp_all
  rw [this]
  exact row8_cell h j hj
theorem below_bytes {B : Nat} {a w : World} (h : Below B a w) (hB : B ≤ w.heap.size) (s : ByteArray) : Below B a (Lib.bytesWorld w 5 s) :=
  h.trans ⟨rfl, rfl, rfl, by rw [Lib.bytesWorld_size]; omega, fun k hk => Lib.bytesWorld_at_old w _ s k (by omega)⟩
theorem bits_xor_u8 (a b : UInt8) : bits .xor .u8 (a.toNat : Int) (b.toNat : Int) = ((a ^^^ b).toNat : Int) := by
  have ha := a.toNat_lt
  have hb := b.toNat_lt
  have hx : a.toNat ^^^ b.toNat < 2 ^ 8 := Nat.xor_lt_two_pow (by omega) (by omega)
  have h1 : (BitVec.ofInt 8 (a.toNat : Int)).toNat = a.toNat := by
    rw [BitVec.ofInt_natCast, BitVec.toNat_ofNat]; exact Nat.mod_eq_of_lt (by omega)
  have h2 : (BitVec.ofInt 8 (b.toNat : Int)).toNat = b.toNat := by
    rw [BitVec.ofInt_natCast, BitVec.toNat_ofNat]; exact Nat.mod_eq_of_lt (by omega)
  show IntKind.u8.wrap ((BitVec.ofInt 8 (a.toNat : Int) ^^^ BitVec.ofInt 8 (b.toNat : Int)).toNat : Int) = _
  rw [BitVec.toNat_xor, h1, h2, UInt8.toNat_xor]
  simp [IntKind.wrap, IntKind.signed, IntKind.bits]
  omega
theorem xorL_step (a b : List UInt8) (i : Nat) (h : a.length = b.length) (hi : i < a.length) :
    (xorL (a.take i) (b.take i) ++ a.drop i).set i (a[i] ^^^ b[i]) = xorL (a.take (i + 1)) (b.take (i + 1)) ++ a.drop (i + 1) := by
  have l1 : (xorL (a.take i) (b.take i)).length = i := by unfold xorL; rw [List.length_zipWith, List.length_take, List.length_take]; omega
  have l2 : (a.take i).length = (b.take i).length := by rw [List.length_take, List.length_take]; omega
  rw [List.set_append_right _ _ (by omega), l1, Nat.sub_self, List.drop_eq_getElem_cons hi, List.set_cons_zero, List.take_succ_eq_append_getElem hi, List.take_succ_eq_append_getElem (by omega : i < b.length)]
  unfold xorL
  rw [List.zipWith_append l2]
  simp
def TurnedPost (a b : List UInt8) (w : World) (e : Ending) (w' : World) : Prop := e = .returned (.string (S (xorL a b))) ∧ Below w.heap.size w w'
set_option maxRecDepth 100000 in
set_option maxHeartbeats 6400000 in
theorem turned_any (a b : List UInt8) (h : a.length = b.length) (ha : a.length ≤ 140737488351232) (w : World) : Calls Try.prog 21 #[.string (S a), .string (S b)] w (TurnedPost a b w) := by
  obtain ⟨n, hn⟩ : ∃ n, a.length = n := ⟨_, rfl⟩
  have za : (S a).size = n := by rw [S_size, hn]
  have zb : (S b).size = n := by rw [S_size, ← h, hn]
  obtain ⟨cap, hcap⟩ : ∃ cap, grownCap w (S a).size 0 5 = cap := ⟨_, rfl⟩
  have hcv : (convert 9 36 (.string (S a))).run Try.prog w = .ok (.slice (some ⟨w.heap.size, 0, none⟩) n cap) (Lib.bytesWorld w 5 (S a)) := by
    rw [← hcap, ← za]
    exact Lib.run_convert_string_bytes w _ _ _ (S a) Try.underlying9 Try.underlying36 Try.underlying5
  obtain ⟨w1, hw1⟩ : ∃ w1, Lib.bytesWorld w 5 (S a) = w1 := ⟨_, rfl⟩
  rw [hw1] at hcv
  have R1 := row8_new w a
  have B1 := below_bytes (Below.refl w.heap.size w) (Nat.le_refl _) (S a)
  rw [hw1] at R1 B1
  have hnb : b.length = n := by omega
  have hnl : n ≤ 140737488351232 := by omega
  clear hw1 hcap
  replace R1 := Lib.hid R1
  replace B1 := Lib.hid B1
  replace h := Lib.hid h
  replace hn := Lib.hid hn
  replace hnb := Lib.hid hnb
  clear ha
  go_enter Try.func21, Try.ntmps21
  go_wp2
  clear hcv
  go_loopw [6] (fun iv wr => ∃ i : Nat, i ≤ n ∧ iv = .int .i64 i ∧ Hid (Row8 wr w.heap.size (xorL (a.take i) (b.take i) ++ a.drop i)) ∧ Hid (Below w.heap.size w wr)) (fun iv _ => n - (intOf iv).toNat)
  case atStart => exact ⟨0, Nat.zero_le _, rfl, R1, B1⟩
  case round =>
    obtain ⟨i, hi, rfl, HR, HB⟩ := hrel
    clear R1 B1
    by_cases hlt : i < n
    · have hia : i < a.length := by rw [hn.out]; exact hlt
      have hib : i < b.length := by rw [hnb.out]; exact hlt
      have e2 : (S b)[i]'(zb ▸ hlt) = b[i] := by rw [byte_at b i (zb ▸ hlt)]; simp [hib]
      have l1 : (xorL (a.take i) (b.take i)).length = i := by unfold xorL; rw [List.length_zipWith, List.length_take, List.length_take]; omega
      have l2 : (xorL (a.take i) (b.take i) ++ a.drop i).length = n := by rw [List.length_append, l1, List.length_drop, hn.out]; omega
      have hc := row8_cell HR.out i (by omega)
      have hf := row8_frozen HR.out i (by omega)
      have hs := row8_set HR.out i (a[i] ^^^ b[i])
      rw [xorL_step a b i h.out hia] at hs
      have e1 : (xorL (a.take i) (b.take i) ++ a.drop i)[i]'(by omega) = a[i] := by
        rw [List.getElem_append_right (by omega)]
        simp [l1]
      rw [e1] at hc
      have hx := bits_xor_u8 a[i] b[i]
      obtain ⟨p, hp⟩ : ∃ p, a[i] = p := ⟨_, rfl⟩
      obtain ⟨q, hq⟩ : ∃ q, b[i] = q := ⟨_, rfl⟩
      rw [hp] at hc
      rw [hq] at e2
      rw [hp, hq] at hs hx
      obtain ⟨r, hr⟩ : ∃ r, p ^^^ q = r := ⟨_, rfl⟩
      rw [hr] at hs hx
      have hb := HB.out.setCell (p := ⟨w.heap.size, i, none⟩) (Nat.le_refl _) (.int .u8 r.toNat)
      clear l1 l2 e1
      replace hp := Lib.hid hp
      replace hq := Lib.hid hq
      replace hr := Lib.hid hr
      replace hs := Lib.hid hs
      replace hb := Lib.hid hb
      replace hia := Lib.hid hia
      replace hib := Lib.hid hib
      go_wp2
      go_region
      all_goals
        go_wp2
        go_roundw
        case rel => exact ⟨i + 1, by omega, by go_num, row8_drew hs.out, hb.out.drew⟩
        case measure => simp [intOf]; omega
    · have hin : i = n := by omega
      subst hin
      have hfull : xorL (a.take i) (b.take i) ++ a.drop i = xorL a b := by
        rw [List.take_of_length_le (by rw [hn.out]; omega), List.take_of_length_le (by rw [hnb.out]; omega), List.drop_eq_nil_of_le (by rw [hn.out]; omega), List.append_nil]
      have hcv := row8_conv HR.out i cap (by rw [hfull, xorL_len a b h.out, hn.out])
      rw [hfull] at hcv
      clear hfull
      go_wp2
      go_ret
      exact ⟨rfl, HB.out⟩
end Go.Proofs.Ytlofmaonlppmiaa
