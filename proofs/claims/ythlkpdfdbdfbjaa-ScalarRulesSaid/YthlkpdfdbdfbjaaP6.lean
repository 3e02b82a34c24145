/- Package scalar: what is left of a number below 2^32 times the order. -/
import Derived.Test.YthlkpdfdbdfbjaaP5
import Derived.Test.YthlkpdfdbdfbjaaSwayL
import Derived.Deep.LoopGhost
set_option linter.unusedSimpArgs false
set_option linter.unusedVariables false
namespace Go.Proofs.Ythlkpdfdbdfbjaa
open Go.RowKit
def two252 : Nat := 7237005577332262213973186563042994240829374041602535252466099000494570602496
/-- The quotient that is tried. -/
def qN (n : Nat) : Nat := n / two252
theorem word_at : ∀ (k i x : Nat), i < k → (limbs 4294967296 k x).getD i 0 = x / 4294967296 ^ i % 4294967296
  | 0, _, _, h => by omega
  | k + 1, 0, x, _ => by rw [limbs]; simp
  | k + 1, i + 1, x, h => by
    rw [limbs]
    show (limbs 4294967296 k (x / 4294967296)).getD i 0 = _
    rw [word_at k i _ (by omega), Nat.pow_succ, Nat.mul_comm (4294967296 ^ i), Nat.div_div_eq_div_mul]
theorem Mem.word {w0 w : World} {L : List (Nat × Nat)} {g n : Nat} (H : Mem w0 w L) (hm : (g, n) ∈ L) (i : Nat) (hi : i < 16) : w.cell? ⟨g, i, none⟩ = some (.int .u32 ((n / 4294967296 ^ i % 4294967296 : Nat) : Int)) := by
  have h := (Arr.cell (l := nL n) (k := .u32) ⟨H.holds g n hm⟩ i (by rw [nL_len]; exact hi))
  rw [h]
  unfold nL
  rw [word_at 16 i n hi]
theorem bits_or_u32 (a b : Nat) (ha : a < 4294967296) (hb : b < 4294967296) : bits .or .u32 (a : Int) (b : Int) = ((a ||| b : Nat) : Int) := by
  have hx : a ||| b < 2 ^ 32 := Nat.or_lt_two_pow (by omega) (by omega)
  have h1 : (BitVec.ofInt 32 (a : Int)).toNat = a := by
    rw [BitVec.ofInt_natCast, BitVec.toNat_ofNat]; exact Nat.mod_eq_of_lt (by omega)
  have h2 : (BitVec.ofInt 32 (b : Int)).toNat = b := by
    rw [BitVec.ofInt_natCast, BitVec.toNat_ofNat]; exact Nat.mod_eq_of_lt (by omega)
  show IntKind.u32.wrap ((BitVec.ofInt 32 (a : Int) ||| BitVec.ofInt 32 (b : Int)).toNat : Int) = _
  rw [BitVec.toNat_or, h1, h2]
  simp [IntKind.wrap, IntKind.signed, IntKind.bits]
  omega
theorem or_shift (a b k : Nat) (h : a < 2 ^ k) : a ||| b * 2 ^ k = a + b * 2 ^ k := by
  rw [Nat.or_comm, Nat.mul_comm, ← Nat.two_pow_add_eq_or_of_lt h]
  omega
theorem q_or (a b : Nat) (ha : a < 4294967296) (hb : b < 4294967296) : bits .or .u32 ((a : Int) / 268435456) ((b : Int) * 16 % 4294967296) = ((a / 268435456 + b * 16 % 4294967296 : Nat) : Int) := by
  rw [show (a : Int) / 268435456 = ((a / 268435456 : Nat) : Int) by omega, show (b : Int) * 16 % 4294967296 = ((b * 16 % 4294967296 : Nat) : Int) by omega, bits_or_u32 _ _ (by omega) (by omega)]
  have e := or_shift (a / 268435456) (b % 268435456) 4 (by omega)
  rw [show b * 16 % 4294967296 = b % 268435456 * 2 ^ 4 by omega, e]
theorem built_q (n a b : Nat) (hn : n < 4294967296 * oN) (ha : n / 4294967296 ^ 7 % 4294967296 = a) (hb : n / 4294967296 ^ 8 % 4294967296 = b) :
    Try.prog.built 41 [(0, .int .u32 (bits .or .u32 ((a : Int) / 268435456) ((b : Int) * 16 % 4294967296))), (1, .int .u32 ((b : Int) / 268435456))] = some (numA (qN n)) := by
  have h1 : a < 4294967296 := by omega
  have h2 : b < 4294967296 := by omega
  rw [q_or a b h1 h2, show (b : Int) / 268435456 = ((b / 268435456 : Nat) : Int) by omega, built_two _ _ (by omega) (by omega)]
  have e : qN n = n / 4294967296 ^ 7 / 268435456 := by
    unfold qN
    rw [Nat.div_div_eq_div_mul]
    rfl
  have e8 : n / 4294967296 ^ 8 = n / 4294967296 ^ 7 / 4294967296 := by rw [Nat.div_div_eq_div_mul]
  have ht : n / 4294967296 ^ 7 < 18446744073709551616 := by
    refine Nat.div_lt_of_lt_mul (Nat.lt_trans hn ?_)
    decide +kernel
  rw [e8] at hb
  rw [e]
  generalize n / 4294967296 ^ 7 = t at ha hb ht ⊢
  congr 2
  omega
def d252 : Nat := 27742317777372353535851937790883648493
theorem o_parts : oN = two252 + d252 := by decide +kernel
theorem rem_letters (n K D B q : Nat) (hK : 8589934592 * D < K) (hB : 100000000000 * K < B) (hn : n < 4294967296 * (K + D)) (h1 : q * K ≤ n) (h2 : n < (q + 1) * K) :
    n < B ∧ q < 8589934592 ∧ q * (K + D) < B ∧ (n < q * (K + D) → ((n + B - q * (K + D)) % B + (K + D)) % B = n % (K + D)) ∧ (¬ n < q * (K + D) → (n + B - q * (K + D)) % B = n % (K + D)) := by
  have hq : q < 8589934592 := Nat.lt_of_mul_lt_mul_right (a := K) (by omega)
  have hqD : q * D ≤ 8589934592 * D := Nat.mul_le_mul_right D (by omega)
  have hr : n + (K + D) - q * (K + D) < (K + D) + (K + D) := by
    rw [Nat.mul_add]
    rw [Nat.add_mul, Nat.one_mul] at h2
    generalize q * K = x at *
    generalize q * D = y at *
    omega
  have hle : q * (K + D) ≤ n + K := by
    rw [Nat.mul_add]
    generalize q * K = x at *
    generalize q * D = y at *
    omega
  have hmod : ∀ r, r + q * (K + D) = n + (K + D) → r < K + D → r = n % (K + D) := fun r he hlt => by
    have h := Nat.add_mul_mod_self_right r q (K + D)
    rw [he, Nat.add_mod_right, Nat.mod_eq_of_lt hlt] at h
    exact h.symm
  have hmod2 : ∀ r, r + q * (K + D) = n → r < K + D → r = n % (K + D) := fun r he hlt => by
    have h := Nat.add_mul_mod_self_right r q (K + D)
    rw [he, Nat.mod_eq_of_lt hlt] at h
    exact h.symm
  generalize q * (K + D) = p at *
  refine ⟨by omega, hq, by omega, fun h => ?_, fun h => ?_⟩
  · rw [Nat.mod_eq_of_lt (a := n + B - p) (by omega), show n + B - p + (K + D) = (n + (K + D) - p) + B by omega, Nat.add_mod_right, Nat.mod_eq_of_lt (by omega)]
    exact hmod _ (by omega) (by omega)
  · rw [show n + B - p = (n - p) + B by omega, Nat.add_mod_right, Nat.mod_eq_of_lt (by omega)]
    exact hmod2 _ (by omega) (by omega)
theorem rem_parts (n : Nat) (hn : n < 4294967296 * oN) : n < big ∧ qN n < mid ∧ qN n * oN < big ∧ (n < qN n * oN → ((n + big - qN n * oN) % big + oN) % big = n % oN) ∧ (¬ n < qN n * oN → (n + big - qN n * oN) % big = n % oN) := by
  have h1 : qN n * two252 ≤ n := Nat.div_mul_le_self _ _
  have h2 : n < (qN n + 1) * two252 := by
    have := Nat.lt_div_mul_add (a := n) (b := two252) (by decide +kernel)
    rw [Nat.add_mul, Nat.one_mul]
    exact this
  rw [o_parts] at hn ⊢
  obtain ⟨a1, a2, a3, a4, a5⟩ := rem_letters n two252 d252 big (qN n) (by decide +kernel) (by decide +kernel) hn h1 h2
  exact ⟨a1, Nat.lt_trans a2 (by decide +kernel), a3, a4, a5⟩
set_option maxHeartbeats 1000000 in
theorem remainder_any (n : Nat) (hn : n < 4294967296 * oN) (w : World) : Calls Try.prog 32 #[numV n] w (NP (n % oN) w) := by
  have H := Mem.start w
  obtain ⟨hnb, hqm, hqb, hyes, hno⟩ := rem_parts n hn
  obtain ⟨p, hp⟩ : ∃ p, qN n * oN = p := ⟨_, rfl⟩
  have cO := Kept.mk fun w => order_num w
  have cP := Kept.mk fun w => prodN_any (qN n) oN hqm (by decide +kernel) w
  have cD := Kept.mk fun w => diffN_any n p hnb (by rw [← hp]; exact hqb) w
  have cS := Kept.mk fun w => sumN_any ((n + big - p) % big) oN (Nat.mod_lt _ big_pos) (by decide +kernel) w
  rw [hp] at hqb hyes hno cP
  obtain ⟨a7, h7⟩ : ∃ x, n / 4294967296 ^ 7 % 4294967296 = x := ⟨_, rfl⟩
  obtain ⟨a8, h8⟩ : ∃ x, n / 4294967296 ^ 8 % 4294967296 = x := ⟨_, rfl⟩
  have hb := Kept.mk (built_q n a7 a8 hn h7 h8)
  generalize qN n = q at hp hqm cP hb
  clear hqm hqb hn hnb hp
  rw [numV_eq]
  go_enter Try.func32, Try.ntmps32
  go_wp2_with (first
    | (refine mem_build rfl _ rfl _ (by rw [Array.toList_map]; rfl) _ hb.out ?_; try simp only [Act.put, List.setIfInBounds_toArray, List.set_cons_succ, List.set_cons_zero])
    | (refine mem_box rfl _ rfl _ rfl (by assumption) ?_; intro g w H; try simp only [Act.put, List.setIfInBounds_toArray, List.set_cons_succ, List.set_cons_zero])
    | (refine mem_alloc rfl rfl (by assumption) ?_; intro g w H; have c7 := H.word (.tail _ (.head _)) 7 (by decide); have c8 := H.word (.tail _ (.head _)) 8 (by decide); try rw [h7] at c7; try rw [h8] at c8; try simp only [Act.put, List.setIfInBounds_toArray, List.set_cons_succ, List.set_cons_zero])
    | (refine mem_box rfl _ rfl _ rfl (by assumption) ?_; intro g w H; try simp only [Act.put, List.setIfInBounds_toArray, List.set_cons_succ, List.set_cons_zero])
    | (refine mem_alloc rfl rfl (by assumption) ?_; intro g w H; try simp only [Act.put, List.setIfInBounds_toArray, List.set_cons_succ, List.set_cons_zero])
    | (refine mem_load rfl _ rfl _ _ rfl (by assumption) (by (first | exact .head _ | exact .tail _ (.head _) | exact .tail _ (.tail _ (.head _)) | exact .tail _ (.tail _ (.tail _ (.head _))) | exact .tail _ (.tail _ (.tail _ (.tail _ (.head _)))))) ?_; try simp only [Act.put, List.setIfInBounds_toArray, List.set_cons_succ, List.set_cons_zero])
    | (refine mem_store0 rfl _ _ rfl _ _ _ rfl rfl _ (by assumption) ?_; intro w H; try simp only [Act.put, List.setIfInBounds_toArray, List.set_cons_succ, List.set_cons_zero])
    | (refine mem_store1 rfl _ _ rfl _ _ _ rfl rfl _ _ (by assumption) ?_; intro w H; try simp only [Act.put, List.setIfInBounds_toArray, List.set_cons_succ, List.set_cons_zero])
    | (refine mem_store2 rfl _ _ rfl _ _ _ rfl rfl _ _ _ (by assumption) ?_; intro w H; try simp only [Act.put, List.setIfInBounds_toArray, List.set_cons_succ, List.set_cons_zero])
    | (refine mem_store3 rfl _ _ rfl _ _ _ rfl rfl _ _ _ _ (by assumption) ?_; intro w H; try simp only [Act.put, List.setIfInBounds_toArray, List.set_cons_succ, List.set_cons_zero]))
  by_cases hlt : n < p
  · have hres := hyes hlt
    rw [decide_eq_true hlt] at cD
    replace hres := Kept.mk hres
    clear hyes hno hlt
    refine wp_region_from_allocL 9 8 7 _ _ _ _ 41 (numA 0) rfl rfl rfl rfl rfl zero_num (by kernel_rfl) (by kernel_rfl) (by kernel_rfl) (fun _ _ _ _ h => h) ?_
    apply Exists.intro
    refine And.intro ?_ (And.intro ?_ ?_)
    · intro u hu x
      have H := mem_from H hu
      simp only [List.take_succ_cons, List.take_zero, List.eraseIdx_cons_succ, List.eraseIdx_cons_zero, Act.put, List.setIfInBounds_toArray, List.set_cons_succ, List.set_cons_zero]
      repeat (first
        | (go_big_quiet_want; (refine mem_quiet_load_u _ rfl _ _ rfl (by assumption) (by (first | exact .head _ | exact .tail _ (.head _) | exact .tail _ (.tail _ (.head _)) | exact .tail _ (.tail _ (.tail _ (.head _))) | exact .tail _ (.tail _ (.tail _ (.tail _ (.head _)))))) ?_); try simp only [Act.put, List.setIfInBounds_toArray, List.set_cons_succ, List.set_cons_zero]; go_big_quiet_on)
        | go_big_quiet_step (((first | (go_at_call 35; exact held_call _ (cO.out _)) | (go_at_call 29; exact held_call _ (cP.out _)) | (go_at_call 34; exact held_call _ (cD.out _))))))
      exact wpQuiet_nil rfl
    · exact fun _ => rfl
    intro x w5 hw5 hF
    have H := H.extra hw5 hF
    simp only [List.drop_succ_cons, List.drop_zero]
    go_wp2_with (first
      | (refine mem_box rfl _ rfl _ rfl (by assumption) ?_; intro g w H; try simp only [Act.put, List.setIfInBounds_toArray, List.set_cons_succ, List.set_cons_zero])
      | (refine mem_alloc rfl rfl (by assumption) ?_; intro g w H; try simp only [Act.put, List.setIfInBounds_toArray, List.set_cons_succ, List.set_cons_zero])
      | (refine mem_load rfl _ rfl _ _ rfl (by assumption) (by (first | exact .head _ | exact .tail _ (.head _) | exact .tail _ (.tail _ (.head _)) | exact .tail _ (.tail _ (.tail _ (.head _))) | exact .tail _ (.tail _ (.tail _ (.tail _ (.head _)))))) ?_; try simp only [Act.put, List.setIfInBounds_toArray, List.set_cons_succ, List.set_cons_zero])
      | (refine mem_store0 rfl _ _ rfl _ _ _ rfl rfl _ (by assumption) ?_; intro w H; try simp only [Act.put, List.setIfInBounds_toArray, List.set_cons_succ, List.set_cons_zero])
      | (refine mem_store1 rfl _ _ rfl _ _ _ rfl rfl _ _ (by assumption) ?_; intro w H; try simp only [Act.put, List.setIfInBounds_toArray, List.set_cons_succ, List.set_cons_zero])
      | (refine mem_store2 rfl _ _ rfl _ _ _ rfl rfl _ _ _ (by assumption) ?_; intro w H; try simp only [Act.put, List.setIfInBounds_toArray, List.set_cons_succ, List.set_cons_zero])
      | (refine mem_store3 rfl _ _ rfl _ _ _ rfl rfl _ _ _ _ (by assumption) ?_; intro w H; try simp only [Act.put, List.setIfInBounds_toArray, List.set_cons_succ, List.set_cons_zero]))
    refine wp_region_from_tail 3 (by kernel_rfl) (by kernel_rfl) ?_
    simp only [List.take_succ_cons, List.take_zero, List.drop_succ_cons, List.drop_zero]
    repeat (first
      | (go_big_quiet_want; (refine mem_quiet_load _ rfl _ _ rfl (by assumption) (by (first | exact .head _ | exact .tail _ (.head _) | exact .tail _ (.tail _ (.head _)) | exact .tail _ (.tail _ (.tail _ (.head _))) | exact .tail _ (.tail _ (.tail _ (.tail _ (.head _)))))) ?_); try simp only [Act.put, List.setIfInBounds_toArray, List.set_cons_succ, List.set_cons_zero]; go_big_quiet_on)
      | go_big_quiet_step (((first | (go_at_call 35; exact held_call _ (cO.out _)) | (go_at_call 28; exact held_call _ (cS.out _))))))
    refine wpQuiet_nil ?_
    intro w5 hw5
    have H := mem_from H hw5
    clear hw5
    go_wp2_with (first
      | (refine mem_box rfl _ rfl _ rfl (by assumption) ?_; intro g w H; try simp only [Act.put, List.setIfInBounds_toArray, List.set_cons_succ, List.set_cons_zero])
      | (refine mem_alloc rfl rfl (by assumption) ?_; intro g w H; try simp only [Act.put, List.setIfInBounds_toArray, List.set_cons_succ, List.set_cons_zero])
      | (refine mem_load rfl _ rfl _ _ rfl (by assumption) (by (first | exact .head _ | exact .tail _ (.head _) | exact .tail _ (.tail _ (.head _)) | exact .tail _ (.tail _ (.tail _ (.head _))) | exact .tail _ (.tail _ (.tail _ (.tail _ (.head _)))))) ?_; try simp only [Act.put, List.setIfInBounds_toArray, List.set_cons_succ, List.set_cons_zero])
      | (refine mem_store0 rfl _ _ rfl _ _ _ rfl rfl _ (by assumption) ?_; intro w H; try simp only [Act.put, List.setIfInBounds_toArray, List.set_cons_succ, List.set_cons_zero])
      | (refine mem_store1 rfl _ _ rfl _ _ _ rfl rfl _ _ (by assumption) ?_; intro w H; try simp only [Act.put, List.setIfInBounds_toArray, List.set_cons_succ, List.set_cons_zero])
      | (refine mem_store2 rfl _ _ rfl _ _ _ rfl rfl _ _ _ (by assumption) ?_; intro w H; try simp only [Act.put, List.setIfInBounds_toArray, List.set_cons_succ, List.set_cons_zero])
      | (refine mem_store3 rfl _ _ rfl _ _ _ rfl rfl _ _ _ _ (by assumption) ?_; intro w H; try simp only [Act.put, List.setIfInBounds_toArray, List.set_cons_succ, List.set_cons_zero]))
    rw [hres.out] at *
    exact mem_ret Try.results32 _ rfl rfl (by assumption) (by (first | exact .head _ | exact .tail _ (.head _) | exact .tail _ (.tail _ (.head _)) | exact .tail _ (.tail _ (.tail _ (.head _))) | exact .tail _ (.tail _ (.tail _ (.tail _ (.head _))))))
  · have hres := hno hlt
    rw [decide_eq_false hlt] at cD
    replace hres := Kept.mk hres
    clear hyes hno hlt cS
    refine wp_region_from_allocL 9 8 7 _ _ _ _ 41 (numA 0) rfl rfl rfl rfl rfl zero_num (by kernel_rfl) (by kernel_rfl) (by kernel_rfl) (fun _ _ _ _ h => h) ?_
    apply Exists.intro
    refine And.intro ?_ (And.intro ?_ ?_)
    · intro u hu x
      have H := mem_from H hu
      simp only [List.take_succ_cons, List.take_zero, List.eraseIdx_cons_succ, List.eraseIdx_cons_zero, Act.put, List.setIfInBounds_toArray, List.set_cons_succ, List.set_cons_zero]
      repeat (first
        | (go_big_quiet_want; (refine mem_quiet_load_u _ rfl _ _ rfl (by assumption) (by (first | exact .head _ | exact .tail _ (.head _) | exact .tail _ (.tail _ (.head _)) | exact .tail _ (.tail _ (.tail _ (.head _))) | exact .tail _ (.tail _ (.tail _ (.tail _ (.head _)))))) ?_); try simp only [Act.put, List.setIfInBounds_toArray, List.set_cons_succ, List.set_cons_zero]; go_big_quiet_on)
        | go_big_quiet_step (((first | (go_at_call 35; exact held_call _ (cO.out _)) | (go_at_call 29; exact held_call _ (cP.out _)) | (go_at_call 34; exact held_call _ (cD.out _))))))
      exact wpQuiet_nil rfl
    · exact fun _ => rfl
    intro x w5 hw5 hF
    have H := H.extra hw5 hF
    simp only [List.drop_succ_cons, List.drop_zero]
    go_wp2_with (first
      | (refine mem_box rfl _ rfl _ rfl (by assumption) ?_; intro g w H; try simp only [Act.put, List.setIfInBounds_toArray, List.set_cons_succ, List.set_cons_zero])
      | (refine mem_alloc rfl rfl (by assumption) ?_; intro g w H; try simp only [Act.put, List.setIfInBounds_toArray, List.set_cons_succ, List.set_cons_zero])
      | (refine mem_load rfl _ rfl _ _ rfl (by assumption) (by (first | exact .head _ | exact .tail _ (.head _) | exact .tail _ (.tail _ (.head _)) | exact .tail _ (.tail _ (.tail _ (.head _))) | exact .tail _ (.tail _ (.tail _ (.tail _ (.head _)))))) ?_; try simp only [Act.put, List.setIfInBounds_toArray, List.set_cons_succ, List.set_cons_zero])
      | (refine mem_store0 rfl _ _ rfl _ _ _ rfl rfl _ (by assumption) ?_; intro w H; try simp only [Act.put, List.setIfInBounds_toArray, List.set_cons_succ, List.set_cons_zero])
      | (refine mem_store1 rfl _ _ rfl _ _ _ rfl rfl _ _ (by assumption) ?_; intro w H; try simp only [Act.put, List.setIfInBounds_toArray, List.set_cons_succ, List.set_cons_zero])
      | (refine mem_store2 rfl _ _ rfl _ _ _ rfl rfl _ _ _ (by assumption) ?_; intro w H; try simp only [Act.put, List.setIfInBounds_toArray, List.set_cons_succ, List.set_cons_zero])
      | (refine mem_store3 rfl _ _ rfl _ _ _ rfl rfl _ _ _ _ (by assumption) ?_; intro w H; try simp only [Act.put, List.setIfInBounds_toArray, List.set_cons_succ, List.set_cons_zero]))
    rw [hres.out] at *
    exact mem_ret Try.results32 _ rfl rfl (by assumption) (by (first | exact .head _ | exact .tail _ (.head _) | exact .tail _ (.tail _ (.head _)) | exact .tail _ (.tail _ (.tail _ (.head _))) | exact .tail _ (.tail _ (.tail _ (.tail _ (.head _))))))
end Go.Proofs.Ythlkpdfdbdfbjaa
