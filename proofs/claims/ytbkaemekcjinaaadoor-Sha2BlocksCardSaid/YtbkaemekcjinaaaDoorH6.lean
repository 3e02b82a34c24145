/- Walks of the document's answer for package sha2: words turned three times. -/
import Derived.Test.YtbkaemekcjinaaaDoorH5
namespace Go.Proofs.YtbkaemekcjinaaaDoor
open Go.RowKit Go.Lib
set_option maxRecDepth 100000 in
set_option maxHeartbeats 12800000 in
theorem three0_any (K H : Value) (x n1 n2 n3 v : Nat) (hx : x < 18446744073709551616) (l1 : n1 < 32) (l2 : n2 < 32) (l3 : n3 < 32) (hv : threeN false x n1 n2 n3 = v) (w : World) : Calls Tryd.prog 25 #[.agg (kindC false K H), .int .u64 x, .agg #[.int .i64 n1, .int .i64 n2, .int .i64 n3]] w (U64Post v w) := by
  have hS := holds0_first w K H n1 n2 n3
  rw [kindC0]
  obtain ⟨v1, h1⟩ : ∃ v, rotN false x n1 = v := ⟨_, rfl⟩
  obtain ⟨v2, h2⟩ : ∃ v, rotN false x n2 = v := ⟨_, rfl⟩
  have r1 := fun w => rot0_any K H x n1 v1 hx l1 h1 w
  have r2 := fun w => rot0_any K H x n2 v2 hx l2 h2 w
  rw [kindC0] at r1 r2
  replace r1 := Lib.hid r1
  replace r2 := Lib.hid r2
  obtain ⟨v3, h3⟩ : ∃ v, rotN false x n3 = v := ⟨_, rfl⟩
  have r3 := fun w => rot0_any K H x n3 v3 hx l3 h3 w
  rw [kindC0] at r3
  replace r3 := Lib.hid r3
  have g1 : v1 < 18446744073709551616 := by rw [← h1]; exact rotN_lt false x n1
  have g2 : v2 < 18446744073709551616 := by rw [← h2]; exact rotN_lt false x n2
  have g3 : v3 < 18446744073709551616 := by rw [← h3]; exact rotN_lt false x n3
  have x1 := xor_u64 v1 v2 g1 g2
  obtain ⟨u, hu⟩ : ∃ u, v1 ^^^ v2 = u := ⟨_, rfl⟩
  rw [hu] at x1
  have x2 := xor_u64 u v3 (by rw [← hu]; exact Nat.xor_lt_two_pow (n := 64) g1 g2) g3
  have x3 : u ^^^ v3 = v := by rw [← hu, ← h1, ← h2, ← h3]; exact hv
  rw [x3] at x2
  clear hv
  replace h1 := Lib.hid h1
  replace h2 := Lib.hid h2
  replace h3 := Lib.hid h3
  replace hu := Lib.hid hu
  replace x3 := Lib.hid x3
  go_enter Tryd.func25, Tryd.ntmps25
  go_wp2_with fail
  go_region_held3 (fun w' => w'.cell? ⟨w.heap.size, 0, none⟩ = some (.int .i64 32) ∧ w'.cell? ⟨w.heap.size, 1, none⟩ = some (.int .i64 2) ∧ w'.cell? ⟨w.heap.size, 2, none⟩ = some (.int .i64 13) ∧ w'.cell? ⟨w.heap.size, 3, none⟩ = some (.int .i64 22) ∧ w'.cell? ⟨w.heap.size, 4, none⟩ = some (.int .i64 6) ∧ w'.cell? ⟨w.heap.size, 5, none⟩ = some (.int .i64 11) ∧ w'.cell? ⟨w.heap.size, 6, none⟩ = some (.int .i64 25) ∧ w'.cell? ⟨w.heap.size, 7, none⟩ = some (.int .i64 7) ∧ w'.cell? ⟨w.heap.size, 8, none⟩ = some (.int .i64 18) ∧ w'.cell? ⟨w.heap.size, 9, none⟩ = some (.int .i64 3) ∧ w'.cell? ⟨w.heap.size, 10, none⟩ = some (.int .i64 17) ∧ w'.cell? ⟨w.heap.size, 11, none⟩ = some (.int .i64 19) ∧ w'.cell? ⟨w.heap.size, 12, none⟩ = some (.int .i64 10) ∧ w'.cell? ⟨w.heap.size, 13, none⟩ = some K ∧ w'.cell? ⟨w.heap.size, 14, none⟩ = some H ∧ w'.cell? ⟨w.heap.size + 1, 0, none⟩ = some (.int .i64 (n1 : Nat)) ∧ w'.cell? ⟨w.heap.size + 1, 1, none⟩ = some (.int .i64 (n2 : Nat)) ∧ w'.cell? ⟨w.heap.size + 1, 2, none⟩ = some (.int .i64 (n3 : Nat)) ∧ Hid (w.heap.size + 2 ≤ w'.heap.size) ∧ Hid (Below w.heap.size w w')) (first | exact hS | exact holds0_below (by assumption) hb)
    (first
      | (go_at_call_of 32 (Value.int .i64 (n1 : Nat)); refine (r1.out _).mono ?_; rintro e w' ⟨rfl, hb⟩)
      | (go_at_call_of 32 (Value.int .i64 (n2 : Nat)); refine (r2.out _).mono ?_; rintro e w' ⟨rfl, hb⟩)
      | (go_at_call_of 32 (Value.int .i64 (n3 : Nat)); refine (r3.out _).mono ?_; rintro e w' ⟨rfl, hb⟩))
  all_goals
    go_wp2
    go_ret
    rename_i hheld
    exact ⟨rfl, hheld.2.2.2.2.2.2.2.2.2.2.2.2.2.2.2.2.2.2.2.out⟩
set_option maxRecDepth 100000 in
set_option maxHeartbeats 12800000 in
theorem three1_any (K H : Value) (x n1 n2 n3 v : Nat) (hx : x < 18446744073709551616) (l1 : n1 < 64) (l2 : n2 < 64) (l3 : n3 < 64) (hv : threeN true x n1 n2 n3 = v) (w : World) : Calls Tryd.prog 25 #[.agg (kindC true K H), .int .u64 x, .agg #[.int .i64 n1, .int .i64 n2, .int .i64 n3]] w (U64Post v w) := by
  have hS := holds1_first w K H n1 n2 n3
  rw [kindC1]
  obtain ⟨v1, h1⟩ : ∃ v, rotN true x n1 = v := ⟨_, rfl⟩
  obtain ⟨v2, h2⟩ : ∃ v, rotN true x n2 = v := ⟨_, rfl⟩
  have r1 := fun w => rot1_any K H x n1 v1 hx l1 h1 w
  have r2 := fun w => rot1_any K H x n2 v2 hx l2 h2 w
  rw [kindC1] at r1 r2
  replace r1 := Lib.hid r1
  replace r2 := Lib.hid r2
  obtain ⟨v3, h3⟩ : ∃ v, rotN true x n3 = v := ⟨_, rfl⟩
  have r3 := fun w => rot1_any K H x n3 v3 hx l3 h3 w
  rw [kindC1] at r3
  replace r3 := Lib.hid r3
  have g1 : v1 < 18446744073709551616 := by rw [← h1]; exact rotN_lt true x n1
  have g2 : v2 < 18446744073709551616 := by rw [← h2]; exact rotN_lt true x n2
  have g3 : v3 < 18446744073709551616 := by rw [← h3]; exact rotN_lt true x n3
  have x1 := xor_u64 v1 v2 g1 g2
  obtain ⟨u, hu⟩ : ∃ u, v1 ^^^ v2 = u := ⟨_, rfl⟩
  rw [hu] at x1
  have x2 := xor_u64 u v3 (by rw [← hu]; exact Nat.xor_lt_two_pow (n := 64) g1 g2) g3
  have x3 : u ^^^ v3 = v := by rw [← hu, ← h1, ← h2, ← h3]; exact hv
  rw [x3] at x2
  clear hv
  replace h1 := Lib.hid h1
  replace h2 := Lib.hid h2
  replace h3 := Lib.hid h3
  replace hu := Lib.hid hu
  replace x3 := Lib.hid x3
  go_enter Tryd.func25, Tryd.ntmps25
  go_wp2_with fail
  go_region_held3 (fun w' => w'.cell? ⟨w.heap.size, 0, none⟩ = some (.int .i64 64) ∧ w'.cell? ⟨w.heap.size, 1, none⟩ = some (.int .i64 28) ∧ w'.cell? ⟨w.heap.size, 2, none⟩ = some (.int .i64 34) ∧ w'.cell? ⟨w.heap.size, 3, none⟩ = some (.int .i64 39) ∧ w'.cell? ⟨w.heap.size, 4, none⟩ = some (.int .i64 14) ∧ w'.cell? ⟨w.heap.size, 5, none⟩ = some (.int .i64 18) ∧ w'.cell? ⟨w.heap.size, 6, none⟩ = some (.int .i64 41) ∧ w'.cell? ⟨w.heap.size, 7, none⟩ = some (.int .i64 1) ∧ w'.cell? ⟨w.heap.size, 8, none⟩ = some (.int .i64 8) ∧ w'.cell? ⟨w.heap.size, 9, none⟩ = some (.int .i64 7) ∧ w'.cell? ⟨w.heap.size, 10, none⟩ = some (.int .i64 19) ∧ w'.cell? ⟨w.heap.size, 11, none⟩ = some (.int .i64 61) ∧ w'.cell? ⟨w.heap.size, 12, none⟩ = some (.int .i64 6) ∧ w'.cell? ⟨w.heap.size, 13, none⟩ = some K ∧ w'.cell? ⟨w.heap.size, 14, none⟩ = some H ∧ w'.cell? ⟨w.heap.size + 1, 0, none⟩ = some (.int .i64 (n1 : Nat)) ∧ w'.cell? ⟨w.heap.size + 1, 1, none⟩ = some (.int .i64 (n2 : Nat)) ∧ w'.cell? ⟨w.heap.size + 1, 2, none⟩ = some (.int .i64 (n3 : Nat)) ∧ Hid (w.heap.size + 2 ≤ w'.heap.size) ∧ Hid (Below w.heap.size w w')) (first | exact hS | exact holds1_below (by assumption) hb)
    (first
      | (go_at_call_of 32 (Value.int .i64 (n1 : Nat)); refine (r1.out _).mono ?_; rintro e w' ⟨rfl, hb⟩)
      | (go_at_call_of 32 (Value.int .i64 (n2 : Nat)); refine (r2.out _).mono ?_; rintro e w' ⟨rfl, hb⟩)
      | (go_at_call_of 32 (Value.int .i64 (n3 : Nat)); refine (r3.out _).mono ?_; rintro e w' ⟨rfl, hb⟩))
  all_goals
    go_wp2
    go_ret
    rename_i hheld
    exact ⟨rfl, hheld.2.2.2.2.2.2.2.2.2.2.2.2.2.2.2.2.2.2.2.out⟩
end Go.Proofs.YtbkaemekcjinaaaDoor
