/- The document's answer for package curve: the bytes of points. -/
import Derived.Test.YtockcnglennihaaD3
import Derived.Lib.ConvBytes
set_option linter.unusedSimpArgs false
set_option linter.unusedVariables false
set_option maxRecDepth 100000
namespace Go.Proofs.Ytockcnglennihaa
open Go.RowKit
/-- A row of bytes that was made out of a string: its first cells are the bytes l, and nothing of it is frozen. -/
def Row8 (w : World) (g : Nat) (l : List UInt8) : Prop := ∃ cs : Array Value, w.heap[g]? = some (.cells cs 5 (cs.size, cs.size + 1)) ∧ cs.toList.take l.length = Lib.byteCells l
theorem row8_len {l : List UInt8} {cs : Array Value} (h : cs.toList.take l.length = Lib.byteCells l) : l.length ≤ cs.size := by
  have := congrArg List.length h
  rw [List.length_take, Lib.byteCells_length] at this
  simp at this
  omega
theorem row8_new (w : World) (l : List UInt8) : Row8 (Lib.bytesWorld w 5 (S l)) w.heap.size l := by
  refine ⟨_, Lib.bytesWorld_at_new w _ _, ?_⟩
  unfold Lib.bytesCells
  rw [Array.toList_append, List.take_append_of_le_length (by simp [S])]
  simp only [S, Lib.byteCells, List.map_toArray]
  exact List.take_of_length_le (by simp)
theorem row8_cell {w : World} {g : Nat} {l : List UInt8} (h : Row8 w g l) (j : Nat) (hj : j < l.length) : w.cell? ⟨g, j, none⟩ = some (.int .u8 (l[j].toNat : Int)) := by
  obtain ⟨cs, hg, ht⟩ := h
  have hl := row8_len ht
  rw [cell_of_row w g j cs _ _ hg]
  have e : (cs.toList.take l.length)[j]? = (Lib.byteCells l)[j]? := by rw [ht]
  rw [List.getElem?_take, if_pos hj] at e
  rw [Array.getElem?_toList] at e
  rw [e]
  simp [Lib.byteCells, hj]
theorem row8_frozen {w : World} {g : Nat} {l : List UInt8} (h : Row8 w g l) (j : Nat) (hj : j < l.length) : w.frozen? ⟨g, j, none⟩ = false := by
  obtain ⟨cs, hg, ht⟩ := h
  have hl := row8_len ht
  simp [World.frozen?, hg]
  omega
theorem row8_set {w : World} {g : Nat} {l : List UInt8} (h : Row8 w g l) (j : Nat) (x : UInt8) : Row8 (w.setCell ⟨g, j, none⟩ (.int .u8 x.toNat)) g (l.set j x) := by
  obtain ⟨cs, hg, ht⟩ := h
  refine ⟨cs.setIfInBounds j (.int .u8 x.toNat), ?_, ?_⟩
  · rw [setCell_eq_setRow w g j cs _ _ _ hg, setRow_heap w g cs _ _ _ hg]
    simp
  · rw [Array.toList_setIfInBounds, List.length_set, List.take_set, ht]
    unfold Lib.byteCells; rw [List.map_set]
theorem row8_drew {w : World} {g : Nat} {l : List UInt8} (h : Row8 w g l) : Row8 w.drew g l := h
theorem row8_conv {w : World} {g : Nat} {l : List UInt8} (h : Row8 w g l) (n cap : Nat) (hn : l.length = n) : (convert 36 9 (.slice (some ⟨g, 0, none⟩) n cap)).run Try.prog w = .ok (.string (S l)) w := by
  subst hn
  refine run_convert_bytes_back w 36 9 5 _ _ l Try.underlying36 Try.underlying5 Try.underlying9 (fun j hj => ?_)
  have : ((⟨g, 0, none⟩ : Addr).add j) = ⟨g, j, none⟩ := by
    unfold Addr.add; split <;> simp_all
  rw [this]
  exact row8_cell h j hj
theorem below_bytes {B : Nat} {a w : World} (h : Below B a w) (hB : B ≤ w.heap.size) (s : ByteArray) : Below B a (Lib.bytesWorld w 5 s) :=
  h.trans ⟨rfl, rfl, rfl, by rw [Lib.bytesWorld_size]; omega, fun k hk => Lib.bytesWorld_at_old w _ s k (by omega)⟩
theorem row8_from {w w' : World} {g : Nat} {l : List UInt8} (h : Row8 w g l) (hb : Below w.heap.size w w') : Row8 w' g l := by
  obtain ⟨cs, hg, ht⟩ := h
  exact ⟨cs, (hb.block g (Array.getElem?_eq_some_iff.1 hg).1).trans hg, ht⟩
theorem row8_at {w : World} {g : Nat} {l : List UInt8} (h : Row8 w g l) (j : Nat) (hj : j < l.length) (b : UInt8) (hb : l.getD j 0 = b) : w.cell? ⟨g, j, none⟩ = some (.int .u8 (b.toNat : Int)) := by
  rw [row8_cell h j hj, ← hb]
  simp [hj]
theorem to_bytes {w0 w : World} {L : List Cells} (H : RMem w0 w L) (l : List UInt8) (n : Nat) (hn : l.length = n) : ∃ w1 gb cap, (convert 9 36 (.string (S l))).run Try.prog w = .ok (.slice (some ⟨gb, 0, none⟩) n cap) w1 ∧ Row8 w1 gb l ∧ RMem w0 w1 L ∧ w0.heap.size ≤ gb := by
  have hcv := Lib.run_convert_string_bytes w 9 36 5 (S l) Try.underlying9 Try.underlying36 Try.underlying5
  rw [S_size, hn] at hcv
  exact ⟨_, _, _, hcv, row8_new w l, H.grow (below_bytes (Below.refl w.heap.size w) (Nat.le_refl _) (S l)), H.below.size⟩
theorem Zero_at (x : Nat) (hx : x < pF) (w : World) : Calls Try.prog 58 #[.agg (nC x).toArray] w (RetV (.bool (decide (x = 0))) w) := by
  have H := RMem.start w
  have s0 := Kept.mk fun w => small_at 0 (by omega) 0 rfl w
  have cB := Kept.mk fun w => (show Calls Try.prog 69 #[.agg (nC 0).toArray, .agg (nC x).toArray] w (RetV (.bool (decide (0 < x))) w) from Below_any 0 x (Nat.lt_trans (by decide +kernel) p_big) (Nat.lt_trans hx p_big) w)
  have hb : decide (x = 0) = !decide (0 < x) := by
    by_cases h : x = 0
    · subst h; rfl
    · rw [decide_eq_false h, decide_eq_true (by omega : 0 < x)]; rfl
  rw [hb]
  generalize decide (0 < x) = b at cB ⊢
  clear hb hx
  go_enter Try.func58, Try.ntmps58
  go_wp2_with (first
    | (refine p_boxP rfl _ rfl _ _ _ rfl (by assumption) ?_; intro g w H; try simp only [Act.put, List.setIfInBounds_toArray, List.set_cons_succ, List.set_cons_zero])
    | (refine p_boxN rfl _ rfl _ rfl (by assumption) ?_; intro g w H; try simp only [Act.put, List.setIfInBounds_toArray, List.set_cons_succ, List.set_cons_zero])
    | (refine p_allocN rfl rfl (by assumption) ?_; intro g w H; try simp only [Act.put, List.setIfInBounds_toArray, List.set_cons_succ, List.set_cons_zero])
    | (refine p_allocP rfl rfl (by assumption) ?_; intro g w H; try simp only [Act.put, List.setIfInBounds_toArray, List.set_cons_succ, List.set_cons_zero])
    | (refine p_loadN rfl _ rfl _ _ rfl (by assumption) (by (repeat (first | exact .head _ | refine .tail _ ?_))) ?_; try simp only [Act.put, List.setIfInBounds_toArray, List.set_cons_succ, List.set_cons_zero])
    | (refine p_loadP rfl _ rfl _ _ _ _ rfl (by assumption) (by (repeat (first | exact .head _ | refine .tail _ ?_))) ?_; try simp only [Act.put, List.setIfInBounds_toArray, List.set_cons_succ, List.set_cons_zero])
    | (refine p_part0 rfl _ rfl _ _ _ _ rfl (by assumption) (by (repeat (first | exact .head _ | refine .tail _ ?_))) ?_; try simp only [Act.put, List.setIfInBounds_toArray, List.set_cons_succ, List.set_cons_zero])
    | (refine p_part1 rfl _ rfl _ _ _ _ rfl (by assumption) (by (repeat (first | exact .head _ | refine .tail _ ?_))) ?_; try simp only [Act.put, List.setIfInBounds_toArray, List.set_cons_succ, List.set_cons_zero])
    | (refine p_part2 rfl _ rfl _ _ _ _ rfl (by assumption) (by (repeat (first | exact .head _ | refine .tail _ ?_))) ?_; try simp only [Act.put, List.setIfInBounds_toArray, List.set_cons_succ, List.set_cons_zero])
    | (refine p_storeN0 rfl _ _ rfl _ _ _ rfl rfl _ (by assumption) ?_; intro w H; try simp only [Act.put, List.setIfInBounds_toArray, List.set_cons_succ, List.set_cons_zero])
    | (refine p_storeN1 rfl _ _ rfl _ _ _ rfl rfl _ _ (by assumption) ?_; intro w H; try simp only [Act.put, List.setIfInBounds_toArray, List.set_cons_succ, List.set_cons_zero])
    | (refine p_storeP0 rfl _ _ rfl _ _ _ _ _ _ _ rfl rfl _ (by assumption) ?_; intro w H; try simp only [Act.put, List.setIfInBounds_toArray, List.set_cons_succ, List.set_cons_zero]))
  refine wp_region_from (by kernel_rfl) (by kernel_rfl) ?_
  repeat (first
    | (go_big_quiet_want; (first
      | (refine q_loadN _ rfl _ _ _ (From.refl _) rfl (by assumption) (by (repeat (first | exact .head _ | refine .tail _ ?_))) ?_)
      | (refine q_loadP _ rfl _ _ _ _ _ (From.refl _) rfl (by assumption) (by (repeat (first | exact .head _ | refine .tail _ ?_))) ?_)
      | (refine q_part0 _ rfl _ _ _ _ _ (From.refl _) rfl (by assumption) (by (repeat (first | exact .head _ | refine .tail _ ?_))) ?_)
      | (refine q_part1 _ rfl _ _ _ _ _ (From.refl _) rfl (by assumption) (by (repeat (first | exact .head _ | refine .tail _ ?_))) ?_)
      | (refine q_part2 _ rfl _ _ _ _ _ (From.refl _) rfl (by assumption) (by (repeat (first | exact .head _ | refine .tail _ ?_))) ?_)
      | (refine q_build3 _ rfl _ _ _ (by rw [Array.toList_map]; rfl) ?_)
      | (refine q_build1 _ rfl _ (by rw [Array.toList_map]; rfl) ?_)); try simp only [Act.put, List.setIfInBounds_toArray, List.set_cons_succ, List.set_cons_zero]; go_big_quiet_on)
    | go_big_quiet_step (((first | (go_at_call 39; exact held_call _ (s0.out _)) | (go_at_call 69; exact held_call _ (cB.out _))))))
  refine wpQuiet_nil ?_
  intro w5 hw5
  have H := H.from hw5
  clear hw5
  go_wp2
  go_ret
  exact ⟨rfl, H.below⟩
theorem ZeroS_any (w : World) : Calls Try.prog 20 #[] w (RetV (.string (S (leB 1))) w) := by
  have H := RMem.start w
  have s1 := Kept.mk fun w => small_at 1 (by omega) 1 rfl w
  have b1 := Kept.mk fun w => bytesD 1 (by decide +kernel) w
  go_enter Try.func20, Try.ntmps20
  go_wp2_with (first
    | (refine p_boxP rfl _ rfl _ _ _ rfl (by assumption) ?_; intro g w H; try simp only [Act.put, List.setIfInBounds_toArray, List.set_cons_succ, List.set_cons_zero])
    | (refine p_boxN rfl _ rfl _ rfl (by assumption) ?_; intro g w H; try simp only [Act.put, List.setIfInBounds_toArray, List.set_cons_succ, List.set_cons_zero])
    | (refine p_allocN rfl rfl (by assumption) ?_; intro g w H; try simp only [Act.put, List.setIfInBounds_toArray, List.set_cons_succ, List.set_cons_zero])
    | (refine p_allocP rfl rfl (by assumption) ?_; intro g w H; try simp only [Act.put, List.setIfInBounds_toArray, List.set_cons_succ, List.set_cons_zero])
    | (refine p_loadN rfl _ rfl _ _ rfl (by assumption) (by (repeat (first | exact .head _ | refine .tail _ ?_))) ?_; try simp only [Act.put, List.setIfInBounds_toArray, List.set_cons_succ, List.set_cons_zero])
    | (refine p_loadP rfl _ rfl _ _ _ _ rfl (by assumption) (by (repeat (first | exact .head _ | refine .tail _ ?_))) ?_; try simp only [Act.put, List.setIfInBounds_toArray, List.set_cons_succ, List.set_cons_zero])
    | (refine p_part0 rfl _ rfl _ _ _ _ rfl (by assumption) (by (repeat (first | exact .head _ | refine .tail _ ?_))) ?_; try simp only [Act.put, List.setIfInBounds_toArray, List.set_cons_succ, List.set_cons_zero])
    | (refine p_part1 rfl _ rfl _ _ _ _ rfl (by assumption) (by (repeat (first | exact .head _ | refine .tail _ ?_))) ?_; try simp only [Act.put, List.setIfInBounds_toArray, List.set_cons_succ, List.set_cons_zero])
    | (refine p_part2 rfl _ rfl _ _ _ _ rfl (by assumption) (by (repeat (first | exact .head _ | refine .tail _ ?_))) ?_; try simp only [Act.put, List.setIfInBounds_toArray, List.set_cons_succ, List.set_cons_zero])
    | (refine p_storeN0 rfl _ _ rfl _ _ _ rfl rfl _ (by assumption) ?_; intro w H; try simp only [Act.put, List.setIfInBounds_toArray, List.set_cons_succ, List.set_cons_zero])
    | (refine p_storeN1 rfl _ _ rfl _ _ _ rfl rfl _ _ (by assumption) ?_; intro w H; try simp only [Act.put, List.setIfInBounds_toArray, List.set_cons_succ, List.set_cons_zero])
    | (refine p_storeP0 rfl _ _ rfl _ _ _ _ _ _ _ rfl rfl _ (by assumption) ?_; intro w H; try simp only [Act.put, List.setIfInBounds_toArray, List.set_cons_succ, List.set_cons_zero])
    | (go_at_call 39; with_reducible refine r_call (by assumption) (s1.out _) ?_; intro w H)
    | (go_at_call 40; with_reducible refine r_call (by assumption) (b1.out _) ?_; intro w H))
  go_ret
  exact ⟨rfl, H.below⟩
theorem base_y : ml 4 (fi 5) = pbase.y := by
  rw [fi_pm]
  decide +kernel
theorem BaseS_any (w : World) : Calls Try.prog 18 #[] w (RetV (.string (S (leB pbase.y))) w) := by
  have H := RMem.start w
  have s4 := Kept.mk fun w => small_at 4 (by omega) 4 rfl w
  have s5 := Kept.mk fun w => small_at 5 (by omega) 5 rfl w
  have i5 := Kept.mk fun w => inverseD 5 (by decide +kernel) w
  have t1 := Kept.mk fun w => timesD 4 (fi 5) (by decide +kernel) (fi_lt _) w
  have b1 := Kept.mk fun w => bytesD pbase.y pbase_on.yl w
  rw [base_y] at t1
  generalize pbase.y = y at t1 b1 ⊢
  generalize fi 5 = f at i5 t1
  go_enter Try.func18, Try.ntmps18
  go_wp2_with (first
    | (refine p_boxP rfl _ rfl _ _ _ rfl (by assumption) ?_; intro g w H; try simp only [Act.put, List.setIfInBounds_toArray, List.set_cons_succ, List.set_cons_zero])
    | (refine p_boxN rfl _ rfl _ rfl (by assumption) ?_; intro g w H; try simp only [Act.put, List.setIfInBounds_toArray, List.set_cons_succ, List.set_cons_zero])
    | (refine p_allocN rfl rfl (by assumption) ?_; intro g w H; try simp only [Act.put, List.setIfInBounds_toArray, List.set_cons_succ, List.set_cons_zero])
    | (refine p_allocP rfl rfl (by assumption) ?_; intro g w H; try simp only [Act.put, List.setIfInBounds_toArray, List.set_cons_succ, List.set_cons_zero])
    | (refine p_loadN rfl _ rfl _ _ rfl (by assumption) (by (repeat (first | exact .head _ | refine .tail _ ?_))) ?_; try simp only [Act.put, List.setIfInBounds_toArray, List.set_cons_succ, List.set_cons_zero])
    | (refine p_loadP rfl _ rfl _ _ _ _ rfl (by assumption) (by (repeat (first | exact .head _ | refine .tail _ ?_))) ?_; try simp only [Act.put, List.setIfInBounds_toArray, List.set_cons_succ, List.set_cons_zero])
    | (refine p_part0 rfl _ rfl _ _ _ _ rfl (by assumption) (by (repeat (first | exact .head _ | refine .tail _ ?_))) ?_; try simp only [Act.put, List.setIfInBounds_toArray, List.set_cons_succ, List.set_cons_zero])
    | (refine p_part1 rfl _ rfl _ _ _ _ rfl (by assumption) (by (repeat (first | exact .head _ | refine .tail _ ?_))) ?_; try simp only [Act.put, List.setIfInBounds_toArray, List.set_cons_succ, List.set_cons_zero])
    | (refine p_part2 rfl _ rfl _ _ _ _ rfl (by assumption) (by (repeat (first | exact .head _ | refine .tail _ ?_))) ?_; try simp only [Act.put, List.setIfInBounds_toArray, List.set_cons_succ, List.set_cons_zero])
    | (refine p_storeN0 rfl _ _ rfl _ _ _ rfl rfl _ (by assumption) ?_; intro w H; try simp only [Act.put, List.setIfInBounds_toArray, List.set_cons_succ, List.set_cons_zero])
    | (refine p_storeN1 rfl _ _ rfl _ _ _ rfl rfl _ _ (by assumption) ?_; intro w H; try simp only [Act.put, List.setIfInBounds_toArray, List.set_cons_succ, List.set_cons_zero])
    | (refine p_storeP0 rfl _ _ rfl _ _ _ _ _ _ _ rfl rfl _ (by assumption) ?_; intro w H; try simp only [Act.put, List.setIfInBounds_toArray, List.set_cons_succ, List.set_cons_zero])
    | (go_at_call 39; with_reducible refine r_call (by assumption) (s4.out _) ?_; intro w H)
    | (go_at_call 39; with_reducible refine r_call (by assumption) (s5.out _) ?_; intro w H)
    | (go_at_call 42; with_reducible refine r_call (by assumption) (i5.out _) ?_; intro w H)
    | (go_at_call 41; with_reducible refine r_call (by assumption) (t1.out _) ?_; intro w H)
    | (go_at_call 40; with_reducible refine r_call (by assumption) (b1.out _) ?_; intro w H))
  go_ret
  exact ⟨rfl, H.below⟩
/-- A point's bytes, by its numbers. -/
def encL (x y : Nat) : List UInt8 := leB (y + x % 2 * 57896044618658097711785492504343953926634992332820282019728792003956564819968)
theorem two255 : (57896044618658097711785492504343953926634992332820282019728792003956564819968 : Nat) = 128 * 256 ^ 31 := by decide +kernel
theorem numB_set : ∀ (l : List UInt8) (m : Nat) (c : UInt8), m < l.length → numB (l.set m c) + (l.getD m 0).toNat * 256 ^ m = numB l + c.toNat * 256 ^ m
  | [], m, c, h => by simp at h
  | b :: r, 0, c, _ => by
    show (c.toNat + 256 * numB r) + b.toNat * 256 ^ 0 = (b.toNat + 256 * numB r) + c.toNat * 256 ^ 0
    omega
  | b :: r, m + 1, c, h => by
    have ih := numB_set r m c (by simpa using h)
    show (b.toNat + 256 * numB (r.set m c)) + (r.getD m 0).toNat * 256 ^ (m + 1) = (b.toNat + 256 * numB r) + c.toNat * 256 ^ (m + 1)
    rw [Nat.pow_succ, ← Nat.mul_assoc, ← Nat.mul_assoc]
    omega
theorem pF_small : pF < 128 * 256 ^ 31 := by decide +kernel
theorem top_bit (y : Nat) (hy : y < pF) : ((leB y).getD 31 0).toNat < 128 := by
  rw [digit_at (leB y) 31 (by rw [leB_len]; omega), numB_leB y (Nat.lt_trans hy p_big)]
  have h := pF_small
  have h2 : y / 256 ^ 31 < 128 := Nat.div_lt_of_lt_mul (by omega)
  omega
theorem enc_set (x y : Nat) (hy : y < pF) (r : UInt8) (hr : r.toNat = ((leB y).getD 31 0).toNat + x % 2 * 128) : (leB y).set 31 r = encL x y := by
  have h := numB_set (leB y) 31 r (by rw [leB_len]; omega)
  rw [hr, numB_leB y (Nat.lt_trans hy p_big), Nat.add_mul] at h
  have e : numB ((leB y).set 31 r) = y + x % 2 * 57896044618658097711785492504343953926634992332820282019728792003956564819968 := by
    rw [two255, ← Nat.mul_assoc]
    omega
  have hl : ((leB y).set 31 r).length = 32 := by rw [List.length_set, leB_len]
  unfold encL
  rw [← e, leB_numB _ hl (numB_lt _ hl)]
theorem low_digit (x : Nat) : ∃ v : Nat, (nC x)[0]? = some (.int .i64 (v : Int)) ∧ v % 2 = x % 2 ∧ v < 65536 := by
  refine ⟨x % 65536, rfl, by omega, by omega⟩
set_option maxHeartbeats 4000000 in
theorem BytesP_any (X Y Z : Nat) (hX : X < pF) (hY : Y < pF) (hZ : Z < pF) (wS : World) : Calls Try.prog 33 #[.agg (ptC X Y Z).toArray] wS (RetV (.string (S (encL (ml X (fi Z)) (ml Y (fi Z))))) wS) := by
  have H := RMem.start wS
  have iZ := Kept.mk fun w => inverseD Z hZ w
  have tX := Kept.mk fun w => timesD X (fi Z) hX (fi_lt _) w
  have tY := Kept.mk fun w => timesD Y (fi Z) hY (fi_lt _) w
  have hx := ml_lt X (fi Z)
  have hy := ml_lt Y (fi Z)
  generalize ml X (fi Z) = x at tX hx ⊢
  generalize ml Y (fi Z) = y at tY hy ⊢
  generalize fi Z = z at iZ tX tY
  have bY := Kept.mk fun w => bytesD y hy w
  have hlen : (leB y).length = 32 := leB_len y
  obtain ⟨v, hv0, hv2, hv3⟩ := low_digit x
  obtain ⟨b, hb⟩ : ∃ b, (leB y).getD 31 0 = b := ⟨_, rfl⟩
  have hb128 : b.toNat < 128 := hb ▸ top_bit y hy
  obtain ⟨r, hr⟩ : ∃ r : UInt8, r.toNat = b.toNat + x % 2 * 128 := ⟨UInt8.ofNat (b.toNat + x % 2 * 128), by simp; omega⟩
  have hset : (leB y).set 31 r = encL x y := enc_set x y hy r (by rw [hb]; exact hr)
  rw [← hset]
  generalize leB y = l at bY hlen hb ⊢
  clear hset hX hY hZ hx hy
  replace hlen := Kept.mk hlen
  replace hb := Kept.mk hb
  replace hv0 := Kept.mk hv0
  go_enter Try.func33, Try.ntmps33
  go_wp2_with (first
    | (refine p_boxP rfl _ rfl _ _ _ rfl (by assumption) ?_; intro g w H; try simp only [Act.put, List.setIfInBounds_toArray, List.set_cons_succ, List.set_cons_zero])
    | (refine p_boxN rfl _ rfl _ rfl (by assumption) ?_; intro g w H; try simp only [Act.put, List.setIfInBounds_toArray, List.set_cons_succ, List.set_cons_zero])
    | (refine p_allocN rfl rfl (by assumption) ?_; intro g w H; try simp only [Act.put, List.setIfInBounds_toArray, List.set_cons_succ, List.set_cons_zero])
    | (refine p_allocP rfl rfl (by assumption) ?_; intro g w H; try simp only [Act.put, List.setIfInBounds_toArray, List.set_cons_succ, List.set_cons_zero])
    | (refine p_loadN rfl _ rfl _ _ rfl (by assumption) (by (repeat (first | exact .head _ | refine .tail _ ?_))) ?_; try simp only [Act.put, List.setIfInBounds_toArray, List.set_cons_succ, List.set_cons_zero])
    | (refine p_loadP rfl _ rfl _ _ _ _ rfl (by assumption) (by (repeat (first | exact .head _ | refine .tail _ ?_))) ?_; try simp only [Act.put, List.setIfInBounds_toArray, List.set_cons_succ, List.set_cons_zero])
    | (refine p_part0 rfl _ rfl _ _ _ _ rfl (by assumption) (by (repeat (first | exact .head _ | refine .tail _ ?_))) ?_; try simp only [Act.put, List.setIfInBounds_toArray, List.set_cons_succ, List.set_cons_zero])
    | (refine p_part1 rfl _ rfl _ _ _ _ rfl (by assumption) (by (repeat (first | exact .head _ | refine .tail _ ?_))) ?_; try simp only [Act.put, List.setIfInBounds_toArray, List.set_cons_succ, List.set_cons_zero])
    | (refine p_part2 rfl _ rfl _ _ _ _ rfl (by assumption) (by (repeat (first | exact .head _ | refine .tail _ ?_))) ?_; try simp only [Act.put, List.setIfInBounds_toArray, List.set_cons_succ, List.set_cons_zero])
    | (refine p_storeN0 rfl _ _ rfl _ _ _ rfl rfl _ (by assumption) ?_; intro w H; try simp only [Act.put, List.setIfInBounds_toArray, List.set_cons_succ, List.set_cons_zero])
    | (refine p_storeN1 rfl _ _ rfl _ _ _ rfl rfl _ _ (by assumption) ?_; intro w H; try simp only [Act.put, List.setIfInBounds_toArray, List.set_cons_succ, List.set_cons_zero])
    | (refine p_storeP0 rfl _ _ rfl _ _ _ _ _ _ _ rfl rfl _ (by assumption) ?_; intro w H; try simp only [Act.put, List.setIfInBounds_toArray, List.set_cons_succ, List.set_cons_zero])
    | (go_at_call 42; with_reducible refine r_call (by assumption) (iZ.out _) ?_; intro w H)
    | (go_at_call 41; with_reducible refine r_call (by assumption) (tX.out _) ?_; intro w H)
    | (go_at_call 41; with_reducible refine r_call (by assumption) (tY.out _) ?_; intro w H)
    | (go_at_call 40; with_reducible refine r_call (by assumption) (bY.out _) ?_; intro w H; obtain ⟨w1, gb, cap, hcv, R1, H, hgb⟩ := to_bytes H l 32 hlen.out))
  have c1 : ∀ u : Held (From w1.drew), u.w.cell? ⟨gb, 31, none⟩ = some (.int .u8 (b.toNat : Int)) := fun u => row8_at (row8_from R1 u.h.of_drew) 31 (by rw [hlen.out]; omega) b hb.out
  have c2 : ∀ u : Held (From w1.drew), u.w.cell? ⟨g, 0, none⟩ = some (.int .i64 (v : Int)) := fun u => (H.from u.h).cell (.head _) 0 _ hv0.out
  replace R1 := Kept.mk R1
  clear hcv
  refine wp_region_from_tail 10 (by kernel_rfl) (by kernel_rfl) ?_
  simp only [List.take_succ_cons, List.take_zero, List.drop_succ_cons, List.drop_zero]
  repeat (go_big_quiet_step (fail))
  rw [show (b.toNat : Int) + (v : Int) % 2 * 128 = (r.toNat : Int) by omega]
  refine wpQuiet_nil ?_
  intro w5 hw5
  have R5 := row8_from R1.out hw5.of_drew
  have H := H.from hw5
  have c5 := row8_at R5 31 (by rw [hlen.out]; omega) b hb.out
  have f5 := row8_frozen R5 31 (by rw [hlen.out]; omega)
  have S5 := row8_set R5 31 r
  have hcv2 := row8_conv S5 32 cap (by rw [List.length_set]; exact hlen.out)
  have hbe := H.below.setCell (p := ⟨gb, 31, none⟩) hgb (.int .u8 (r.toNat : Int))
  replace R5 := Kept.mk R5
  replace S5 := Kept.mk S5
  replace hr := Kept.mk hr
  clear c1 c2 hw5 hv2 hv3 hb128
  go_wp2
  go_ret
  exact ⟨rfl, hbe⟩
end Go.Proofs.Ytockcnglennihaa
