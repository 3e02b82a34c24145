/- Package curve: the point of bytes.
Package curve: the four numbers of a point: sums, multiples, bytes. No walk but the last three. -/
import Derived.Test.YtgnblaaldpniiaaGreatDoorZM6
import Derived.Test.YtgnblaaldpniiaaGreatDoorZM2
section
set_option linter.unusedSimpArgs false
set_option linter.unusedVariables false
set_option maxRecDepth 100000
namespace Go.Proofs.YtgnblaaldpniiaaGreatDoor
open Go.RowKit
theorem evenX_core (y q e f g h i r : ByteArray) (o : Bool) (c1 : ∀ w, Calls Tryz.prog 80 #[.string y, .string y] w (RetV (.string q) w)) (c2 : ∀ w, Calls Tryz.prog 80 #[.string ⟨#[163, 120, 89, 19, 202, 77, 235, 117, 171, 216, 65, 65, 77, 10, 112, 0, 152, 232, 121, 119, 121, 64, 199, 140, 115, 254, 111, 43, 238, 108, 3, 82]⟩, .string q] w (RetV (.string e) w)) (c3 : ∀ w, Calls Tryz.prog 82 #[.string ⟨#[1, 0, 0, 0, 0, 0, 0, 0, 0, 0, 0, 0, 0, 0, 0, 0, 0, 0, 0, 0, 0, 0, 0, 0, 0, 0, 0, 0, 0, 0, 0, 0]⟩, .string e] w (RetV (.string f) w)) (c4 : ∀ w, Calls Tryz.prog 78 #[.string q, .string ⟨#[1, 0, 0, 0, 0, 0, 0, 0, 0, 0, 0, 0, 0, 0, 0, 0, 0, 0, 0, 0, 0, 0, 0, 0, 0, 0, 0, 0, 0, 0, 0, 0]⟩] w (RetV (.string g) w))
    (c5 : ∀ w, Calls Tryz.prog 79 #[.string f] w (RetV (.string h) w)) (c6 : ∀ w, Calls Tryz.prog 80 #[.string g, .string h] w (RetV (.string i) w)) (c7 : ∀ w, Calls Tryz.prog 99 #[.string i] w (RetV (.tuple #[.string r, .bool o]) w)) (w : World) : Calls Tryz.prog 77 #[.string y] w (RetV (.tuple #[.string r, .bool o]) w) := by
  have H := RMem.start w
  replace c1 := Kept.mk c1
  replace c2 := Kept.mk c2
  replace c3 := Kept.mk c3
  replace c4 := Kept.mk c4
  replace c5 := Kept.mk c5
  replace c6 := Kept.mk c6
  replace c7 := Kept.mk c7
  go_enter Tryz.func77, Tryz.ntmps77
  go_wp2_with (first
    | (go_at_call 80; (with_reducible refine r_call (by assumption) (c1.out _) ?_); intro w H)
    | (go_at_call 80; (with_reducible refine r_call (by assumption) (c2.out _) ?_); intro w H)
    | (go_at_call 80; (with_reducible refine r_call (by assumption) (c6.out _) ?_); intro w H)
    | (go_at_call 82; (with_reducible refine r_call (by assumption) (c3.out _) ?_); intro w H)
    | (go_at_call 78; (with_reducible refine r_call (by assumption) (c4.out _) ?_); intro w H)
    | (go_at_call 79; (with_reducible refine r_call (by assumption) (c5.out _) ?_); intro w H)
    | (go_at_call 99; (with_reducible refine r_call (by assumption) (c7.out _) ?_); intro w H))
  go_ret2
  exact ⟨rfl, H.below⟩
theorem evenX_ok (y : Nat) (hy : y < pF) (hs : cand (sqY y) * cand (sqY y) % pF = sqY y) (w : World) : Calls Tryz.prog 77 #[.string (S (leB y))] w (RetV (.tuple #[.string (S (leB (evenN (cand (sqY y))))), .bool true]) w) :=
  evenX_core _ _ _ _ _ _ _ _ _ (fun w => eTimes y y hy hy w) (fun w => eTimes_d _ (ml_lt _ _) w) (fun w => ePlus_1 _ (ml_lt _ _) w) (fun w => eMinus_1 _ (ml_lt _ _) w) (fun w => eInv _ (ad_lt _ _) w) (fun w => eTimes _ _ (sb_lt _ _) (fi_lt _) w) (fun w => eRoot (sqY y) (sqY_lt y) hs w) w
theorem evenX_no (y : Nat) (hy : y < pF) (hs : ¬ cand (sqY y) * cand (sqY y) % pF = sqY y) (w : World) : Calls Tryz.prog 77 #[.string (S (leB y))] w (RetV (.tuple #[.string ⟨#[]⟩, .bool false]) w) :=
  evenX_core _ _ _ _ _ _ _ _ _ (fun w => eTimes y y hy hy w) (fun w => eTimes_d _ (ml_lt _ _) w) (fun w => ePlus_1 _ (ml_lt _ _) w) (fun w => eMinus_1 _ (ml_lt _ _) w) (fun w => eInv _ (ad_lt _ _) w) (fun w => eTimes _ _ (sb_lt _ _) (fi_lt _) w) (fun w => eRoot_no (sqY y) (sqY_lt y) hs w) w
theorem RMem.other {w0 w : World} {L : List Cells} (H : RMem w0 w L) {gb : Nat} (hgb : w0.heap.size ≤ gb) (hne : ∀ p ∈ L, p.1 ≠ gb) (i : Nat) (v : Value) : RMem w0 (w.setCell ⟨gb, i, none⟩ v) L :=
  ⟨H.below.setCell hgb v, fun g t cs h => (Below.heap_setCell w ⟨gb, i, none⟩ v g (hne _ h)).trans (H.holds g t cs h), H.ours, H.apart⟩
theorem row8_convE {w : World} {g : Nat} {l : List UInt8} (h : Row8 w g l) (n cap : Nat) (hn : l.length = n) : (convert 37 55 (.slice (some ⟨g, 0, none⟩) n cap)).run Tryz.prog w = .ok (.string (S l)) w := by
  subst hn
  refine run_convert_bytes_back w 37 55 5 _ _ l Tryz.underlying37 Tryz.underlying5 Tryz.underlying55 (fun j hj => ?_)
  have : ((⟨g, 0, none⟩ : Addr).add j) = ⟨g, j, none⟩ := by
    unfold Addr.add; split <;> simp_all
  rw [this]
  exact row8_cell h j hj
theorem parse_pre {w0 w : World} {L : List Cells} (H : RMem w0 w L) (l : List UInt8) (hl : l.length = 32) (b c : UInt8) (hb : l.getD 31 0 = b) :
    ∃ w1 gb cap, (convert 9 37 (.string (S l))).run Tryz.prog w = .ok (.slice (some ⟨gb, 0, none⟩) 32 cap) w1 ∧ w1.cell? ⟨gb, 31, none⟩ = some (.int .u8 (b.toNat : Int)) ∧ w1.frozen? ⟨gb, 31, none⟩ = false ∧ RMem w0 (w1.setCell ⟨gb, 31, none⟩ (.int .u8 (c.toNat : Int))) L ∧
      (∀ u : Held (From (w1.setCell ⟨gb, 31, none⟩ (.int .u8 (c.toNat : Int))).drew), (convert 37 55 (.slice (some ⟨gb, 0, none⟩) 32 cap)).run Tryz.prog u.w = .ok (.string (S (l.set 31 c))) u.w) := by
  have hcv := Lib.run_convert_string_bytes w 9 37 5 (S l) Tryz.underlying9 Tryz.underlying37 Tryz.underlying5
  rw [S_size, hl] at hcv
  have R1 := row8_new w l
  have H1 := H.grow (below_bytes (Below.refl w.heap.size w) (Nat.le_refl _) (S l))
  refine ⟨_, _, _, hcv, row8_at R1 31 (by rw [hl]; omega) b hb, row8_frozen R1 31 (by rw [hl]; omega), H1.other H.below.size (fun p hp e => ?_) 31 _, fun u => ?_⟩
  · have h1 := H.lt (g := p.1) (t := p.2.1) (x := p.2.2) hp
    omega
  · exact row8_convE (row8_from (row8_set R1 31 c) u.h.of_drew) 32 _ (by rw [List.length_set, hl])
theorem u_ret2 {fn : Func} {p q : Tmp} {x y z t : ByteArray} {v : Value} {g : Nat} {w0 w : World} {L : List Cells} (hr : fn.results = #[.cell p 57, .tmp q]) (a : Act) (hp : a.tmps.getD p undef = .pointer (some ⟨g, 0, none⟩)) (hq : a.tmps.getD q undef = v) (hd : a.defers = []) (H : RMem w0 w L) (hm : (g, 57, qC x y z t) ∈ L) :
    bodyPost Tryz.prog fn (RetV (.tuple #[.agg (qC x y z t).toArray, v]) w0) .ret a w := by
  have hp' : a.tmps[p]?.getD undef = .pointer (some ⟨g, 0, none⟩) := by simpa using hp
  have hq' : a.tmps[q]?.getD undef = v := by simpa using hq
  have hl := run_loadVar_row (P := Tryz.prog) w g 57 57 (qC x y z t).toArray (0, 0) _ (H.holds g _ _ hm) Tryz.underlying57 rfl (by rw [List.size_toArray]; exact infoQ)
  refine bodyPost_ret (v := .tuple #[.agg (qC x y z t).toArray, v]) ?_ hd ⟨rfl, H.below⟩
  simp [results, hr, hp', hq', asAddr, hl]
set_option maxHeartbeats 1000000 in
theorem uparse_short (s : ByteArray) (hs : ((s.size : Int) != 32) = true) (wS : World) : Calls Tryz.prog 45 #[.string s] wS (RetV (.tuple #[.agg (qC ⟨#[]⟩ ⟨#[]⟩ ⟨#[]⟩ ⟨#[]⟩).toArray, .bool false]) wS) := by
  have H := RMem.start wS
  go_enter Tryz.func45, Tryz.ntmps45
  go_wp2_with (first
    | (refine u_store_fin rfl _ _ rfl _ _ _ _ _ _ _ _ _ rfl rfl (by assumption) (by (repeat (first | exact .head _ | refine .tail _ ?_))) ?_; intro w H; try simp only [Act.put, yI, yC, yZ])
    | (refine u_alloc rfl rfl (by assumption) ?_; intro g w H; try simp only [Act.put, yI, yC, yZ])
    | (refine u_build0 rfl _ rfl (by rw [Array.toList_map]; rfl) ?_; try simp only [Act.put, yI, yC, yZ]))
  exact u_ret2 Tryz.results45 _ rfl rfl rfl H (by repeat (first | exact .head _ | refine .tail _ ?_))
set_option maxHeartbeats 4000000 in
theorem uparse_noel_even (l : List UInt8) (hl : l.length = 32) (b c : UInt8) (hb : l.getD 31 0 = b) (hc : bits .andNot .u8 (b.toNat : Int) 128 = (c.toNat : Int)) (ho : bits .and .u8 (b.toNat : Int) 128 = 0) (ys : ByteArray) (hys : S (l.set 31 c) = ys) (cI : ∀ w, Calls Tryz.prog 76 #[.string ys] w (RetV (.bool false) w)) (wS : World) : Calls Tryz.prog 45 #[.string (S l)] wS (RetV (.tuple #[.agg (qC ⟨#[]⟩ ⟨#[]⟩ ⟨#[]⟩ ⟨#[]⟩).toArray, .bool false]) wS) := by
  have H := RMem.start wS
  have hsz : (S l).size = 32 := by rw [S_size, hl]
  have hs31 : 31 < (S l).size := by omega
  have g31 : (S l)[31] = b := by rw [byte_at, hb]
  replace cI := Kept.mk cI
  replace hl := Kept.mk hl
  replace hb := Kept.mk hb
  replace hys := Kept.mk hys
  replace ho := Kept.mk ho
  go_enter Tryz.func45, Tryz.ntmps45
  go_wp2_with (refine u_alloc rfl rfl (by assumption) ?_; intro g w H; try simp only [Act.put, yI, yC, yZ]; obtain ⟨w1, gb, cap, hcv, k5, f5, H1, hcv2⟩ := parse_pre H l hl.out b c hb.out; rw [hys.out] at hcv2; replace hcv2 := Kept.mk hcv2)
  have H := H1
  clear H1 hcv k5 f5
  have hcv2 := hcv2.out
  have ho := ho.out
  generalize w1.setCell _ _ = w2 at H hcv2 ⊢
  refine wp_region_from (by kernel_rfl) (by kernel_rfl) ?_
  repeat (first
    | (go_big_quiet_want; (first
      | (refine v_load _ rfl _ _ _ _ _ _ (From.refl _) rfl (by assumption) (by (repeat (first | exact .head _ | refine .tail _ ?_))) ?_)); try simp only [Act.put, yI, yC, yZ]; go_big_quiet_on)
    | go_big_quiet_step ((fail)))
  refine wpQuiet_nil ?_
  intro w5 hw5
  have H := H.from hw5
  clear hw5
  clear hcv2
  go_wp2_with (first
    | (refine u_store_fin rfl _ _ rfl _ _ _ _ _ _ _ _ _ rfl rfl (by assumption) (by (repeat (first | exact .head _ | refine .tail _ ?_))) ?_; intro w H; try simp only [Act.put, yI, yC, yZ])
    | (refine u_build0 rfl _ rfl (by rw [Array.toList_map]; rfl) ?_; try simp only [Act.put, yI, yC, yZ])
    | (go_at_call 76; (with_reducible refine r_call (by assumption) (cI.out _) ?_); intro w H))
  exact u_ret2 Tryz.results45 _ rfl rfl rfl H (by repeat (first | exact .head _ | refine .tail _ ?_))
set_option maxHeartbeats 4000000 in
theorem uparse_noel_odd (l : List UInt8) (hl : l.length = 32) (b c : UInt8) (hb : l.getD 31 0 = b) (hc : bits .andNot .u8 (b.toNat : Int) 128 = (c.toNat : Int)) (ho : bits .and .u8 (b.toNat : Int) 128 = 128) (ys : ByteArray) (hys : S (l.set 31 c) = ys) (cI : ∀ w, Calls Tryz.prog 76 #[.string ys] w (RetV (.bool false) w)) (wS : World) : Calls Tryz.prog 45 #[.string (S l)] wS (RetV (.tuple #[.agg (qC ⟨#[]⟩ ⟨#[]⟩ ⟨#[]⟩ ⟨#[]⟩).toArray, .bool false]) wS) := by
  have H := RMem.start wS
  have hsz : (S l).size = 32 := by rw [S_size, hl]
  have hs31 : 31 < (S l).size := by omega
  have g31 : (S l)[31] = b := by rw [byte_at, hb]
  replace cI := Kept.mk cI
  replace hl := Kept.mk hl
  replace hb := Kept.mk hb
  replace hys := Kept.mk hys
  replace ho := Kept.mk ho
  go_enter Tryz.func45, Tryz.ntmps45
  go_wp2_with (refine u_alloc rfl rfl (by assumption) ?_; intro g w H; try simp only [Act.put, yI, yC, yZ]; obtain ⟨w1, gb, cap, hcv, k5, f5, H1, hcv2⟩ := parse_pre H l hl.out b c hb.out; rw [hys.out] at hcv2; replace hcv2 := Kept.mk hcv2)
  have H := H1
  clear H1 hcv k5 f5
  have hcv2 := hcv2.out
  have ho := ho.out
  generalize w1.setCell _ _ = w2 at H hcv2 ⊢
  refine wp_region_from (by kernel_rfl) (by kernel_rfl) ?_
  repeat (first
    | (go_big_quiet_want; (first
      | (refine v_load _ rfl _ _ _ _ _ _ (From.refl _) rfl (by assumption) (by (repeat (first | exact .head _ | refine .tail _ ?_))) ?_)); try simp only [Act.put, yI, yC, yZ]; go_big_quiet_on)
    | go_big_quiet_step ((fail)))
  refine wpQuiet_nil ?_
  intro w5 hw5
  have H := H.from hw5
  clear hw5
  clear hcv2
  go_wp2_with (first
    | (refine u_store_fin rfl _ _ rfl _ _ _ _ _ _ _ _ _ rfl rfl (by assumption) (by (repeat (first | exact .head _ | refine .tail _ ?_))) ?_; intro w H; try simp only [Act.put, yI, yC, yZ])
    | (refine u_build0 rfl _ rfl (by rw [Array.toList_map]; rfl) ?_; try simp only [Act.put, yI, yC, yZ])
    | (go_at_call 76; (with_reducible refine r_call (by assumption) (cI.out _) ?_); intro w H))
  exact u_ret2 Tryz.results45 _ rfl rfl rfl H (by repeat (first | exact .head _ | refine .tail _ ?_))
set_option maxHeartbeats 4000000 in
theorem uparse_noroot_even (l : List UInt8) (hl : l.length = 32) (b c : UInt8) (hb : l.getD 31 0 = b) (hc : bits .andNot .u8 (b.toNat : Int) 128 = (c.toNat : Int)) (ho : bits .and .u8 (b.toNat : Int) 128 = 0) (ys : ByteArray) (hys : S (l.set 31 c) = ys) (cI : ∀ w, Calls Tryz.prog 76 #[.string ys] w (RetV (.bool true) w)) (xs : ByteArray) (cX : ∀ w, Calls Tryz.prog 77 #[.string ys] w (RetV (.tuple #[.string xs, .bool false]) w)) (wS : World) : Calls Tryz.prog 45 #[.string (S l)] wS (RetV (.tuple #[.agg (qC ⟨#[]⟩ ⟨#[]⟩ ⟨#[]⟩ ⟨#[]⟩).toArray, .bool false]) wS) := by
  have H := RMem.start wS
  have hsz : (S l).size = 32 := by rw [S_size, hl]
  have hs31 : 31 < (S l).size := by omega
  have g31 : (S l)[31] = b := by rw [byte_at, hb]
  replace cI := Kept.mk cI
  replace cX := Kept.mk cX
  replace hl := Kept.mk hl
  replace hb := Kept.mk hb
  replace hys := Kept.mk hys
  replace ho := Kept.mk ho
  go_enter Tryz.func45, Tryz.ntmps45
  go_wp2_with (refine u_alloc rfl rfl (by assumption) ?_; intro g w H; try simp only [Act.put, yI, yC, yZ]; obtain ⟨w1, gb, cap, hcv, k5, f5, H1, hcv2⟩ := parse_pre H l hl.out b c hb.out; rw [hys.out] at hcv2; replace hcv2 := Kept.mk hcv2)
  have H := H1
  clear H1 hcv k5 f5
  have hcv2 := hcv2.out
  have ho := ho.out
  generalize w1.setCell _ _ = w2 at H hcv2 ⊢
  refine wp_region_from (by kernel_rfl) (by kernel_rfl) ?_
  repeat (first
    | (go_big_quiet_want; (first
      | (refine v_load _ rfl _ _ _ _ _ _ (From.refl _) rfl (by assumption) (by (repeat (first | exact .head _ | refine .tail _ ?_))) ?_)); try simp only [Act.put, yI, yC, yZ]; go_big_quiet_on)
    | go_big_quiet_step ((fail)))
  refine wpQuiet_nil ?_
  intro w5 hw5
  have H := H.from hw5
  clear hw5
  clear hcv2
  go_wp2_with (first
    | (refine u_store_fin rfl _ _ rfl _ _ _ _ _ _ _ _ _ rfl rfl (by assumption) (by (repeat (first | exact .head _ | refine .tail _ ?_))) ?_; intro w H; try simp only [Act.put, yI, yC, yZ])
    | (refine u_build0 rfl _ rfl (by rw [Array.toList_map]; rfl) ?_; try simp only [Act.put, yI, yC, yZ])
    | (go_at_call 76; (with_reducible refine r_call (by assumption) (cI.out _) ?_); intro w H)
    | (go_at_call 77; (with_reducible refine r_call (by assumption) (cX.out _) ?_); intro w H))
  exact u_ret2 Tryz.results45 _ rfl rfl rfl H (by repeat (first | exact .head _ | refine .tail _ ?_))
set_option maxHeartbeats 4000000 in
theorem uparse_noroot_odd (l : List UInt8) (hl : l.length = 32) (b c : UInt8) (hb : l.getD 31 0 = b) (hc : bits .andNot .u8 (b.toNat : Int) 128 = (c.toNat : Int)) (ho : bits .and .u8 (b.toNat : Int) 128 = 128) (ys : ByteArray) (hys : S (l.set 31 c) = ys) (cI : ∀ w, Calls Tryz.prog 76 #[.string ys] w (RetV (.bool true) w)) (xs : ByteArray) (cX : ∀ w, Calls Tryz.prog 77 #[.string ys] w (RetV (.tuple #[.string xs, .bool false]) w)) (wS : World) : Calls Tryz.prog 45 #[.string (S l)] wS (RetV (.tuple #[.agg (qC ⟨#[]⟩ ⟨#[]⟩ ⟨#[]⟩ ⟨#[]⟩).toArray, .bool false]) wS) := by
  have H := RMem.start wS
  have hsz : (S l).size = 32 := by rw [S_size, hl]
  have hs31 : 31 < (S l).size := by omega
  have g31 : (S l)[31] = b := by rw [byte_at, hb]
  replace cI := Kept.mk cI
  replace cX := Kept.mk cX
  replace hl := Kept.mk hl
  replace hb := Kept.mk hb
  replace hys := Kept.mk hys
  replace ho := Kept.mk ho
  go_enter Tryz.func45, Tryz.ntmps45
  go_wp2_with (refine u_alloc rfl rfl (by assumption) ?_; intro g w H; try simp only [Act.put, yI, yC, yZ]; obtain ⟨w1, gb, cap, hcv, k5, f5, H1, hcv2⟩ := parse_pre H l hl.out b c hb.out; rw [hys.out] at hcv2; replace hcv2 := Kept.mk hcv2)
  have H := H1
  clear H1 hcv k5 f5
  have hcv2 := hcv2.out
  have ho := ho.out
  generalize w1.setCell _ _ = w2 at H hcv2 ⊢
  refine wp_region_from (by kernel_rfl) (by kernel_rfl) ?_
  repeat (first
    | (go_big_quiet_want; (first
      | (refine v_load _ rfl _ _ _ _ _ _ (From.refl _) rfl (by assumption) (by (repeat (first | exact .head _ | refine .tail _ ?_))) ?_)); try simp only [Act.put, yI, yC, yZ]; go_big_quiet_on)
    | go_big_quiet_step ((fail)))
  refine wpQuiet_nil ?_
  intro w5 hw5
  have H := H.from hw5
  clear hw5
  clear hcv2
  go_wp2_with (first
    | (refine u_store_fin rfl _ _ rfl _ _ _ _ _ _ _ _ _ rfl rfl (by assumption) (by (repeat (first | exact .head _ | refine .tail _ ?_))) ?_; intro w H; try simp only [Act.put, yI, yC, yZ])
    | (refine u_build0 rfl _ rfl (by rw [Array.toList_map]; rfl) ?_; try simp only [Act.put, yI, yC, yZ])
    | (go_at_call 76; (with_reducible refine r_call (by assumption) (cI.out _) ?_); intro w H)
    | (go_at_call 77; (with_reducible refine r_call (by assumption) (cX.out _) ?_); intro w H))
  exact u_ret2 Tryz.results45 _ rfl rfl rfl H (by repeat (first | exact .head _ | refine .tail _ ?_))
set_option maxHeartbeats 4000000 in
theorem uparse_zero_odd (l : List UInt8) (hl : l.length = 32) (b c : UInt8) (hb : l.getD 31 0 = b) (hc : bits .andNot .u8 (b.toNat : Int) 128 = (c.toNat : Int)) (ho : bits .and .u8 (b.toNat : Int) 128 = 128) (ys : ByteArray) (hys : S (l.set 31 c) = ys) (cI : ∀ w, Calls Tryz.prog 76 #[.string ys] w (RetV (.bool true) w)) (xs : ByteArray) (cX : ∀ w, Calls Tryz.prog 77 #[.string ys] w (RetV (.tuple #[.string xs, .bool true]) w)) (hz : (xs.toList == [0, 0, 0, 0, 0, 0, 0, 0, 0, 0, 0, 0, 0, 0, 0, 0, 0, 0, 0, 0, 0, 0, 0, 0, 0, 0, 0, 0, 0, 0, 0, 0]) = true) (wS : World) : Calls Tryz.prog 45 #[.string (S l)] wS (RetV (.tuple #[.agg (qC ⟨#[]⟩ ⟨#[]⟩ ⟨#[]⟩ ⟨#[]⟩).toArray, .bool false]) wS) := by
  have H := RMem.start wS
  have hsz : (S l).size = 32 := by rw [S_size, hl]
  have hs31 : 31 < (S l).size := by omega
  have g31 : (S l)[31] = b := by rw [byte_at, hb]
  replace cI := Kept.mk cI
  replace cX := Kept.mk cX
  replace hl := Kept.mk hl
  replace hb := Kept.mk hb
  replace hys := Kept.mk hys
  replace ho := Kept.mk ho
  go_enter Tryz.func45, Tryz.ntmps45
  go_wp2_with (refine u_alloc rfl rfl (by assumption) ?_; intro g w H; try simp only [Act.put, yI, yC, yZ]; obtain ⟨w1, gb, cap, hcv, k5, f5, H1, hcv2⟩ := parse_pre H l hl.out b c hb.out; rw [hys.out] at hcv2; replace hcv2 := Kept.mk hcv2)
  have H := H1
  clear H1 hcv k5 f5
  have hcv2 := hcv2.out
  have ho := ho.out
  generalize w1.setCell _ _ = w2 at H hcv2 ⊢
  refine wp_region_from (by kernel_rfl) (by kernel_rfl) ?_
  repeat (first
    | (go_big_quiet_want; (first
      | (refine v_load _ rfl _ _ _ _ _ _ (From.refl _) rfl (by assumption) (by (repeat (first | exact .head _ | refine .tail _ ?_))) ?_)); try simp only [Act.put, yI, yC, yZ]; go_big_quiet_on)
    | go_big_quiet_step ((fail)))
  refine wpQuiet_nil ?_
  intro w5 hw5
  have H := H.from hw5
  clear hw5
  clear hcv2
  go_wp2_with (first
    | (refine u_store_fin rfl _ _ rfl _ _ _ _ _ _ _ _ _ rfl rfl (by assumption) (by (repeat (first | exact .head _ | refine .tail _ ?_))) ?_; intro w H; try simp only [Act.put, yI, yC, yZ])
    | (refine u_build0 rfl _ rfl (by rw [Array.toList_map]; rfl) ?_; try simp only [Act.put, yI, yC, yZ])
    | (go_at_call 76; (with_reducible refine r_call (by assumption) (cI.out _) ?_); intro w H)
    | (go_at_call 77; (with_reducible refine r_call (by assumption) (cX.out _) ?_); intro w H))
  exact u_ret2 Tryz.results45 _ rfl rfl rfl H (by repeat (first | exact .head _ | refine .tail _ ?_))
set_option maxHeartbeats 4000000 in
theorem uparse_ok_even (l : List UInt8) (hl : l.length = 32) (b c : UInt8) (hb : l.getD 31 0 = b) (hc : bits .andNot .u8 (b.toNat : Int) 128 = (c.toNat : Int)) (ho : bits .and .u8 (b.toNat : Int) 128 = 0) (ys : ByteArray) (hys : S (l.set 31 c) = ys) (cI : ∀ w, Calls Tryz.prog 76 #[.string ys] w (RetV (.bool true) w)) (xs : ByteArray) (cX : ∀ w, Calls Tryz.prog 77 #[.string ys] w (RetV (.tuple #[.string xs, .bool true]) w)) (x y z t : ByteArray) (cA : ∀ w, Calls Tryz.prog 48 #[.string xs, .string ys] w (RetV (.agg (qC x y z t).toArray) w)) (wS : World) : Calls Tryz.prog 45 #[.string (S l)] wS (RetV (.tuple #[.agg (qC x y z t).toArray, .bool true]) wS) := by
  have H := RMem.start wS
  have hsz : (S l).size = 32 := by rw [S_size, hl]
  have hs31 : 31 < (S l).size := by omega
  have g31 : (S l)[31] = b := by rw [byte_at, hb]
  replace cI := Kept.mk cI
  replace cX := Kept.mk cX
  replace cA := Kept.mk cA
  replace hl := Kept.mk hl
  replace hb := Kept.mk hb
  replace hys := Kept.mk hys
  replace ho := Kept.mk ho
  go_enter Tryz.func45, Tryz.ntmps45
  go_wp2_with (refine u_alloc rfl rfl (by assumption) ?_; intro g w H; try simp only [Act.put, yI, yC, yZ]; obtain ⟨w1, gb, cap, hcv, k5, f5, H1, hcv2⟩ := parse_pre H l hl.out b c hb.out; rw [hys.out] at hcv2; replace hcv2 := Kept.mk hcv2)
  have H := H1
  clear H1 hcv k5 f5
  have hcv2 := hcv2.out
  have ho := ho.out
  generalize w1.setCell _ _ = w2 at H hcv2 ⊢
  refine wp_region_from (by kernel_rfl) (by kernel_rfl) ?_
  repeat (first
    | (go_big_quiet_want; (first
      | (refine v_load _ rfl _ _ _ _ _ _ (From.refl _) rfl (by assumption) (by (repeat (first | exact .head _ | refine .tail _ ?_))) ?_)); try simp only [Act.put, yI, yC, yZ]; go_big_quiet_on)
    | go_big_quiet_step ((fail)))
  refine wpQuiet_nil ?_
  intro w5 hw5
  have H := H.from hw5
  clear hw5
  clear hcv2
  go_wp2_with (first
    | (refine u_store_fin rfl _ _ rfl _ _ _ _ _ _ _ _ _ rfl rfl (by assumption) (by (repeat (first | exact .head _ | refine .tail _ ?_))) ?_; intro w H; try simp only [Act.put, yI, yC, yZ])
    | (go_at_call 76; (with_reducible refine r_call (by assumption) (cI.out _) ?_); intro w H)
    | (go_at_call 77; (with_reducible refine r_call (by assumption) (cX.out _) ?_); intro w H)
    | (go_at_call 48; (with_reducible refine r_call (by assumption) (cA.out _) ?_); intro w H))
  exact u_ret2 Tryz.results45 _ rfl rfl rfl H (by repeat (first | exact .head _ | refine .tail _ ?_))
set_option maxHeartbeats 4000000 in
theorem uparse_ok_odd (l : List UInt8) (hl : l.length = 32) (b c : UInt8) (hb : l.getD 31 0 = b) (hc : bits .andNot .u8 (b.toNat : Int) 128 = (c.toNat : Int)) (ho : bits .and .u8 (b.toNat : Int) 128 = 128) (ys : ByteArray) (hys : S (l.set 31 c) = ys) (cI : ∀ w, Calls Tryz.prog 76 #[.string ys] w (RetV (.bool true) w)) (xs : ByteArray) (cX : ∀ w, Calls Tryz.prog 77 #[.string ys] w (RetV (.tuple #[.string xs, .bool true]) w)) (hz : (xs.toList == [0, 0, 0, 0, 0, 0, 0, 0, 0, 0, 0, 0, 0, 0, 0, 0, 0, 0, 0, 0, 0, 0, 0, 0, 0, 0, 0, 0, 0, 0, 0, 0]) = false) (x y z t : ByteArray) (cA : ∀ w, Calls Tryz.prog 48 #[.string xs, .string ys] w (RetV (.agg (qC x y z t).toArray) w)) (x' y' z' t' : ByteArray) (cN : ∀ w, Calls Tryz.prog 46 #[.agg (qC x y z t).toArray] w (RetV (.agg (qC x' y' z' t').toArray) w)) (wS : World) : Calls Tryz.prog 45 #[.string (S l)] wS (RetV (.tuple #[.agg (qC x' y' z' t').toArray, .bool true]) wS) := by
  have H := RMem.start wS
  have hsz : (S l).size = 32 := by rw [S_size, hl]
  have hs31 : 31 < (S l).size := by omega
  have g31 : (S l)[31] = b := by rw [byte_at, hb]
  replace cI := Kept.mk cI
  replace cX := Kept.mk cX
  replace cA := Kept.mk cA
  replace cN := Kept.mk cN
  replace hl := Kept.mk hl
  replace hb := Kept.mk hb
  replace hys := Kept.mk hys
  replace ho := Kept.mk ho
  go_enter Tryz.func45, Tryz.ntmps45
  go_wp2_with (refine u_alloc rfl rfl (by assumption) ?_; intro g w H; try simp only [Act.put, yI, yC, yZ]; obtain ⟨w1, gb, cap, hcv, k5, f5, H1, hcv2⟩ := parse_pre H l hl.out b c hb.out; rw [hys.out] at hcv2; replace hcv2 := Kept.mk hcv2)
  have H := H1
  clear H1 hcv k5 f5
  have hcv2 := hcv2.out
  have ho := ho.out
  generalize w1.setCell _ _ = w2 at H hcv2 ⊢
  refine wp_region_from (by kernel_rfl) (by kernel_rfl) ?_
  repeat (first
    | (go_big_quiet_want; (first
      | (refine v_load _ rfl _ _ _ _ _ _ (From.refl _) rfl (by assumption) (by (repeat (first | exact .head _ | refine .tail _ ?_))) ?_)); try simp only [Act.put, yI, yC, yZ]; go_big_quiet_on)
    | go_big_quiet_step ((fail)))
  refine wpQuiet_nil ?_
  intro w5 hw5
  have H := H.from hw5
  clear hw5
  clear hcv2
  go_wp2_with (first
    | (refine u_store_fin rfl _ _ rfl _ _ _ _ _ _ _ _ _ rfl rfl (by assumption) (by (repeat (first | exact .head _ | refine .tail _ ?_))) ?_; intro w H; try simp only [Act.put, yI, yC, yZ])
    | (go_at_call 76; (with_reducible refine r_call (by assumption) (cI.out _) ?_); intro w H)
    | (go_at_call 77; (with_reducible refine r_call (by assumption) (cX.out _) ?_); intro w H)
    | (go_at_call 48; (with_reducible refine r_call (by assumption) (cA.out _) ?_); intro w H)
    | (go_at_call 46; (with_reducible refine r_call (by assumption) (cN.out _) ?_); intro w H))
  exact u_ret2 Tryz.results45 _ rfl rfl rfl H (by repeat (first | exact .head _ | refine .tail _ ?_))
theorem and_not (b : UInt8) : ∃ c : UInt8, c.toNat = b.toNat % 128 ∧ bits .andNot .u8 (b.toNat : Int) 128 = (c.toNat : Int) := by
  have key : ∀ n : Fin 256, bits .andNot .u8 ((n.val : Nat) : Int) 128 = ((n.val % 128 : Nat) : Int) := by decide +kernel
  have k := key ⟨b.toNat, b.toNat_lt⟩
  simp only at k
  have h : (UInt8.ofNat (b.toNat % 128)).toNat = b.toNat % 128 := by simp; omega
  exact ⟨UInt8.ofNat (b.toNat % 128), h, by rw [k, h]⟩
theorem and_top (b : UInt8) : (b.toNat / 128 = 0 ∧ bits .and .u8 (b.toNat : Int) 128 = 0) ∨ (b.toNat / 128 = 1 ∧ bits .and .u8 (b.toNat : Int) 128 = 128) := by
  have key : ∀ n : Fin 256, (n.val / 128 = 0 ∧ bits .and .u8 ((n.val : Nat) : Int) 128 = 0) ∨ (n.val / 128 = 1 ∧ bits .and .u8 ((n.val : Nat) : Int) 128 = 128) := by decide +kernel
  exact key ⟨b.toNat, b.toNat_lt⟩
theorem zeros_leB : ([0, 0, 0, 0, 0, 0, 0, 0, 0, 0, 0, 0, 0, 0, 0, 0, 0, 0, 0, 0, 0, 0, 0, 0, 0, 0, 0, 0, 0, 0, 0, 0] : List UInt8) = leB 0 := by decide +kernel
theorem nought_beq (x : Nat) (hx : x < pF) : ((S (leB x)).toList == [0, 0, 0, 0, 0, 0, 0, 0, 0, 0, 0, 0, 0, 0, 0, 0, 0, 0, 0, 0, 0, 0, 0, 0, 0, 0, 0, 0, 0, 0, 0, 0]) = decide (x = 0) := by
  rw [toList_beq, S_data, zeros_leB]
  refine decide_eq_decide.2 ⟨fun h => ?_, fun h => by rw [h]⟩
  rw [← numB_leB x (Nat.lt_trans hx p_big), h]
  decide +kernel
theorem neg_times (x y : Nat) (hx : x < pF) : sb 0 (ml x y) = ml (sb 0 x) y := by
  refine nat_M (sb_lt _ _) (ml_lt _ _) ?_
  refine (neg_M _ (Nat.le_of_lt (ml_lt x y))).trans (M.trans ?_ ((ml_M _ _).trans ((neg_M x (Nat.le_of_lt hx)).mul (.refl _))).symm)
  refine M.trans ?_ (.of_eq (Int.neg_mul _ _).symm)
  have h := (M.refl (0 : Int)).sub (ml_M x y)
  rw [Int.zero_sub, Int.zero_sub] at h
  exact h
def upt : Option Pt → Value
  | some P => .tuple #[.agg (rC P.x P.y 1 (ml P.x P.y)).toArray, .bool true]
  | none => .tuple #[.agg (qC ⟨#[]⟩ ⟨#[]⟩ ⟨#[]⟩ ⟨#[]⟩).toArray, .bool false]
theorem upt_some {l : List UInt8} {P : Pt} (h : dec l = some P) : upt (dec l) = .tuple #[.agg (rC P.x P.y 1 (ml P.x P.y)).toArray, .bool true] := by rw [h]; rfl
theorem upt_none {l : List UInt8} (h : dec l = none) : upt (dec l) = .tuple #[.agg (qC ⟨#[]⟩ ⟨#[]⟩ ⟨#[]⟩ ⟨#[]⟩).toArray, .bool false] := by rw [h]; rfl
theorem uparse_any (l : List UInt8) (w : World) : Calls Tryz.prog 45 #[.string (S l)] w (RetV (upt (dec l)) w) := by
  by_cases hl : l.length = 32
  · obtain ⟨b, hb⟩ : ∃ b, l.getD 31 0 = b := ⟨_, rfl⟩
    obtain ⟨c, hc, hcI⟩ := and_not b
    have htl : (l.set 31 c).length = 32 := low_len l hl c
    obtain ⟨y, hy⟩ : ∃ y, numB (l.set 31 c) = y := ⟨_, rfl⟩
    have hys : S (l.set 31 c) = S (leB y) := by rw [← hy, leB_numB _ htl (numB_lt _ htl)]
    have cI := fun w => fIs (l.set 31 c) w
    rw [is_El htl, hy, hys] at cI
    by_cases hyp : y < pF
    · rw [decide_eq_true hyp] at cI
      by_cases hs : cand (sqY y) * cand (sqY y) % pF = sqY y
      · have cX := fun w => evenX_ok y hyp hs w
        have hxl := even_lt (sqY y)
        have hnb := nought_beq _ hxl
        rcases and_top b with ⟨ho, hoI⟩ | ⟨ho, hoI⟩
        · have hd := dec_by l hl c (by rw [hc, hb]) y hy 0 (by rw [hb, ho])
          rw [if_pos hyp, if_pos hs, if_pos rfl] at hd
          rw [upt_some hd]
          exact uparse_ok_even l hl b c hb hcI hoI _ hys cI _ cX _ _ _ _ (fun w => at_any _ y hxl hyp w) w
        · have hd := dec_by l hl c (by rw [hc, hb]) y hy 1 (by rw [hb, ho])
          rw [if_pos hyp, if_pos hs, if_neg (by decide)] at hd
          by_cases hx0 : evenN (cand (sqY y)) = 0
          · rw [if_pos hx0] at hd
            rw [upt_none hd]
            exact uparse_zero_odd l hl b c hb hcI hoI _ hys cI _ cX (hnb.trans (decide_eq_true hx0)) w
          · rw [if_neg hx0] at hd
            rw [upt_some hd]
            have hN := fun w => negate_pt (evenN (cand (sqY y))) y 1 (ml (evenN (cand (sqY y))) y) hxl (ml_lt _ _) w
            rw [neg_times _ y hxl] at hN
            exact uparse_ok_odd l hl b c hb hcI hoI _ hys cI _ cX (hnb.trans (decide_eq_false hx0)) _ _ _ _ (fun w => at_any _ y hxl hyp w) _ _ _ _ hN w
      · have cX := fun w => evenX_no y hyp hs w
        rcases and_top b with ⟨ho, hoI⟩ | ⟨ho, hoI⟩
        · have hd := dec_by l hl c (by rw [hc, hb]) y hy 0 (by rw [hb, ho])
          rw [if_pos hyp, if_neg hs] at hd
          rw [upt_none hd]
          exact uparse_noroot_even l hl b c hb hcI hoI _ hys cI _ cX w
        · have hd := dec_by l hl c (by rw [hc, hb]) y hy 1 (by rw [hb, ho])
          rw [if_pos hyp, if_neg hs] at hd
          rw [upt_none hd]
          exact uparse_noroot_odd l hl b c hb hcI hoI _ hys cI _ cX w
    · rw [decide_eq_false hyp] at cI
      rcases and_top b with ⟨ho, hoI⟩ | ⟨ho, hoI⟩
      · have hd := dec_by l hl c (by rw [hc, hb]) y hy 0 (by rw [hb, ho])
        rw [if_neg hyp] at hd
        rw [upt_none hd]
        exact uparse_noel_even l hl b c hb hcI hoI _ hys cI w
      · have hd := dec_by l hl c (by rw [hc, hb]) y hy 1 (by rw [hb, ho])
        rw [if_neg hyp] at hd
        rw [upt_none hd]
        exact uparse_noel_odd l hl b c hb hcI hoI _ hys cI w
  · have hd : dec l = none := by unfold dec; rw [if_neg hl]
    rw [upt_none hd]
    exact uparse_short (S l) (by rw [S_size]; simp; omega) w
end Go.Proofs.YtgnblaaldpniiaaGreatDoor
end
section
set_option linter.unusedSimpArgs false
set_option linter.unusedVariables false
set_option maxRecDepth 100000
namespace Go.Proofs.YtgnblaaldpniiaaGreatDoor
open Go.RowKit
structure T4.Ok (t : T4) : Prop where
  x : t.x < pF
  y : t.y < pF
  z : t.z < pF
  t : t.t < pF
def Rep4T (t : T4) (P : Pt) : Prop := Rep4 t.x t.y t.z t.t P
theorem dadd_ok (p q : T4) : (dadd p q).Ok := ⟨ml_lt _ _, ml_lt _ _, ml_lt _ _, ml_lt _ _⟩
theorem Rep4.congr {X Y Z T X' Y' Z' T' : Int} {P : Pt} (h : Rep4 X Y Z T P) (hx : M X' X) (hy : M Y' Y) (hz : M Z' Z) (ht : M T' T) : Rep4 X' Y' Z' T' P :=
  ⟨fun h0 => h.nz (hz.symm.trans h0), (((M.refl _).mul hz).trans h.xz).trans hx.symm, (((M.refl _).mul hz).trans h.yz).trans hy.symm, (((M.refl _).mul hz).trans h.tz).trans ht.symm⟩
theorem dadd_rep {p q : T4} {P Q : Pt} (hP : OnC P) (hQ : OnC Q) (h : Rep4T p P) (k : Rep4T q Q) : Rep4T (dadd p q) (padd P Q) := by
  have hz : ¬ M ((p.z : Int) * q.z) 0 := M.nz h.nz k.nz
  have he : M ((ad (ml p.x q.y) (ml q.x p.y) : Nat) : Int) (aI P.x P.y Q.x Q.y * ((p.z : Int) * q.z)) := by
    refine (ad_M _ _).trans ((((ml_M _ _).trans (h.xz.symm.mul k.yz.symm)).add ((ml_M _ _).trans (k.xz.symm.mul h.yz.symm))).trans (.of_eq ?_))
    unfold aI
    rw [Int.add_mul]
    congr 1 <;> ac_rfl
  have hh : M ((ad (ml p.y q.y) (ml p.x q.x) : Nat) : Int) (bI P.x P.y Q.x Q.y * ((p.z : Int) * q.z)) := by
    refine (ad_M _ _).trans ((((ml_M _ _).trans (h.yz.symm.mul k.yz.symm)).add ((ml_M _ _).trans (h.xz.symm.mul k.xz.symm))).trans (.of_eq ?_))
    unfold bI
    rw [Int.add_mul]
    congr 1 <;> ac_rfl
  have hs : M ((ml p.z q.z : Nat) : Int) ((p.z : Int) * q.z) := ml_M _ _
  have hm : M ((ml dF (ml p.t q.t) : Nat) : Int) (tI P.x P.y Q.x Q.y * ((p.z : Int) * q.z)) :=
    (ml_M _ _).trans (((M.refl _).mul (ml_M _ _)).trans (add_c h.tz k.tz))
  have hf : M ((sb (ml p.z q.z) (ml dF (ml p.t q.t)) : Nat) : Int) (vI P.x P.y Q.x Q.y * ((p.z : Int) * q.z)) := by
    refine (sb_M _ _ (Nat.le_of_lt (ml_lt _ _))).trans ((hs.sub hm).trans (.of_eq ?_))
    unfold vI
    rw [Int.sub_mul, Int.one_mul]
  have hg : M ((ad (ml p.z q.z) (ml dF (ml p.t q.t)) : Nat) : Int) (uI P.x P.y Q.x Q.y * ((p.z : Int) * q.z)) := by
    refine (ad_M _ _).trans ((hs.add hm).trans (.of_eq ?_))
    unfold uI
    rw [Int.add_mul, Int.one_mul]
  exact (ext_of hP hQ hz he hf hg hh).congr (ml_M _ _) ((ml_M _ _).trans (.of_eq (Int.mul_comm _ _))) ((ml_M _ _).trans (.of_eq (Int.mul_comm _ _))) (ml_M _ _)
def tof (P : Pt) : T4 := ⟨P.x, P.y, 1, ml P.x P.y⟩
theorem tof_ok {P : Pt} (hP : OnC P) : (tof P).Ok := ⟨hP.xl, hP.yl, show 1 < pF by decide +kernel, ml_lt _ _⟩
theorem tof_rep (P : Pt) : Rep4T (tof P) P := ⟨one_nz, .of_eq (Int.mul_one _), .of_eq (Int.mul_one _), (M.of_eq (Int.mul_one _)).trans (ml_M _ _).symm⟩
def tC4 (t : T4) : List Value := rC t.x t.y t.z t.t
theorem upt_some' {l : List UInt8} {P : Pt} (h : dec l = some P) : upt (dec l) = .tuple #[.agg (tC4 (tof P)).toArray, .bool true] := by rw [h]; rfl
theorem plus_T4 (p q : T4) (hp : p.Ok) (hq : q.Ok) (w : World) : Calls Tryz.prog 50 #[.agg (tC4 p).toArray, .agg (tC4 q).toArray] w (RetV (.agg (tC4 (dadd p q)).toArray) w) :=
  plus_pt _ _ _ _ _ _ _ _ hp.x hp.y hp.z hp.t hq.x hq.y hq.z hq.t w
theorem bytes_T4 {t : T4} {P : Pt} (ht : t.Ok) (hP : OnC P) (h : Rep4T t P) (w : World) : Calls Tryz.prog 47 #[.agg (tC4 t).toArray] w (RetV (.string (S (encP P))) w) := by
  have hb := pbytes_any t.x t.y t.z t.t ht.x ht.y ht.z w
  have he : encL (ml t.x (fi t.z)) (ml t.y (fi t.z)) = encP P := rep_enc (t := ⟨t.x, t.y, t.z⟩) hP ⟨h.nz, h.xz, h.yz⟩
  rw [he] at hb
  exact hb
theorem neg_T4 {P : Pt} (hP : OnC P) (w : World) : Calls Tryz.prog 46 #[.agg (tC4 (tof P)).toArray] w (RetV (.agg (tC4 (tof (pneg P))).toArray) w) := by
  have h := negate_pt P.x P.y 1 (ml P.x P.y) hP.xl (ml_lt _ _) w
  rw [neg_times _ _ hP.xl] at h
  rw [neg_eq hP]
  exact h
theorem mul_bit {P : Pt} (hP : OnC P) (m : Nat) : padd P (pmul m P) = pmul (m + 1) P := by rw [padd_comm]; rfl
theorem half_bit (n j : Nat) : n / 2 ^ j = 2 * (n / 2 ^ (j + 1)) + n / 2 ^ j % 2 := by
  rw [Nat.pow_succ, ← Nat.div_div_eq_div_mul]
  omega
end Go.Proofs.YtgnblaaldpniiaaGreatDoor
end
