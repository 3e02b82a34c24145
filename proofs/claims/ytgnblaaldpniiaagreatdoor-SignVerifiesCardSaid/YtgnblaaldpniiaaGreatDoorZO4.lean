/- Package scalar: the order; a number with a word behind it.
Package scalar: what is left of a number below 2^32 times the order.
Package scalar: a number modulo the order, a word after the other.
Package scalar: the number of bytes.
Package scalar: the bytes of a number. -/
import Derived.Test.YtgnblaaldpniiaaGreatDoorZO3
import Derived.Test.YtgnblaaldpniiaaGreatDoorZK2
import Derived.Deep.LoopGhost
import Derived.Test.YtgnblaaldpniiaaGreatDoorZO2
section
set_option linter.unusedSimpArgs false
set_option linter.unusedVariables false
set_option maxRecDepth 100000
namespace Go.Proofs.YtgnblaaldpniiaaGreatDoor.Sc
open Go.RowKit
theorem order_num (w : World) : Calls Tryz.prog 112 #[] w (NP oN w) := by
  have H := Mem.start w
  have hb := Kept.mk built_order
  go_enter Tryz.func112, Tryz.ntmps112
  go_wp2_with (first
    | (refine mem_alloc rfl rfl (by assumption) ?_; intro g w H; try simp only [Act.put, yI, yC, yZ])
    | (refine mem_store0 rfl _ _ rfl _ _ _ rfl rfl _ (by assumption) ?_; intro w H; try simp only [Act.put, yI, yC, yZ])
    | (refine mem_build rfl _ rfl _ (by rw [Array.toList_map]; rfl) _ hb.out ?_; try simp only [Act.put, yI, yC, yZ]))
  exact mem_ret Tryz.results112 _ rfl rfl (by assumption) (by (repeat (first | exact .head _ | refine .tail _ ?_)))

theorem nL_above (x n : Nat) (h : x < 4294967296) : nL (x + 4294967296 * n) = x :: (nL n).take 15 := by
  unfold nL
  rw [limbs_take _ _ _ _ (by decide), limbs, Nat.add_mul_mod_self_left, Nat.mod_eq_of_lt h, Nat.add_mul_div_left _ _ (by decide), Nat.div_eq_of_lt h, Nat.zero_add]
theorem above_row (x n : Nat) (h : x < 4294967296) : ((numA x).toList.take 1 ++ (((numC .u32 (nL n)).take 15) ++ (numA x).toList.drop (1 + ((numC .u32 (nL n)).take 15).length))).toArray = numA (x + 4294967296 * n) := by
  unfold numA
  rw [nL_above x n h, nL_lo x h]
  have hl : ((numC .u32 (nL n)).take 15).length = 15 := by rw [List.length_take, numC_length, nL_len]; rfl
  rw [hl]
  simp [numC, List.map_take]
theorem add0 (g j : Nat) : ((⟨g, 0, none⟩ : Addr).add j) = ⟨g, j, none⟩ := by
  unfold Addr.add; split <;> simp_all
section
variable {ops : Array Oper} {rest : List Oper} {o : Oper} {a : Act} {w0 w : World} {Q : Exit → Act → World → Prop} {L : List (Nat × Nat)}
theorem mem_copy (hg : o.guard = none) (d s : Operand) (ho : o.op = .call { callee := .builtin .copy, args := #[d, s], argTypes := #[116, 116] }) (g g' x n : Nat) (hd : a.eval d = .slice (some ⟨g, 1, none⟩) 15 15) (hs : a.eval s = .slice (some ⟨g', 0, none⟩) 16 16)
    (H : Mem w0 w ((g, x) :: L)) (hm : (g', n) ∈ (g, x) :: L) (hrow : ((numA x).toList.take 1 ++ (((numC .u32 (nL n)).take 15) ++ (numA x).toList.drop (1 + ((numC .u32 (nL n)).take 15).length))).toArray = numA (x + 4294967296 * n))
    (h : ∀ w', Mem w0 w' ((g, x + 4294967296 * n) :: L) → wpList Tryz.prog ops Q rest (a.put o.dst (goInt 15)) w') : wpList Tryz.prog ops Q (o :: rest) a w := by
  have hl : ((numC .u32 (nL n)).take 15).length = 15 := by rw [List.length_take, numC_length, nL_len]; rfl
  have hone := numA_one n
  have h1 := H.holds g x (.head _)
  have h2 := H.holds g' n hm
  refine wpList_copy_own hg d s _ _ ho 85 Tryz.underlying116 (by kernel_rfl) g 1 15 15 ⟨g', 0, none⟩ 16 16 hd hs (numA x) 87 h1 ((numC .u32 (nL n)).take 15) (by rw [hl]; rfl) (fun j v hj => ?_) (by rw [hl, numA_size]; decide) (fun v hv => ?_) ?_
  · rw [add0, cell_of_row w g' _ _ _ _ h2]
    rw [List.getElem?_take] at hj
    split at hj
    · unfold numA
      rw [List.getElem?_toArray]
      exact hj
    · cases hj
  · obtain ⟨y, _, rfl⟩ := List.mem_map.1 (List.mem_of_mem_take hv)
    rfl
  · rw [hl] at hrow ⊢
    rw [hrow]
    have hk := H.put (.head _) (x + 4294967296 * n)
    rw [show putN g (x + 4294967296 * n) ((g, x) :: L) = (g, x + 4294967296 * n) :: L from putN_mid [] L H.apart] at hk
    exact h _ hk
end
set_option maxHeartbeats 1000000 in
theorem above_any (n x : Nat) (hx : x < 4294967296) (w : World) : Calls Tryz.prog 96 #[numV n, .int .u32 (x : Int)] w (NP (x + 4294967296 * n) w) := by
  have H := Mem.start w
  have hb := Kept.mk (built_one x hx)
  have hrow := Kept.mk (above_row x n hx)
  clear hx
  rw [numV_eq]
  go_enter Tryz.func96, Tryz.ntmps96
  go_wp2_with (first
    | (refine mem_box rfl _ rfl _ rfl (by assumption) ?_; intro g w H; try simp only [Act.put, yI, yC, yZ])
    | (refine mem_alloc rfl rfl (by assumption) ?_; intro g w H; try simp only [Act.put, yI, yC, yZ])
    | (refine mem_store0 rfl _ _ rfl _ _ _ rfl rfl _ (by assumption) ?_; intro w H; try simp only [Act.put, yI, yC, yZ])
    | (refine mem_build rfl _ rfl _ (by rw [Array.toList_map]; rfl) _ hb.out ?_; try simp only [Act.put, yI, yC, yZ]))
  refine wp_region_from_tail 2 (by kernel_rfl) (by kernel_rfl) ?_
  simp only [List.take_succ_cons, List.take_zero, List.drop_succ_cons, List.drop_zero]
  repeat (go_big_quiet_step (fail))
  refine wpQuiet_nil ?_
  intro w5 hw5
  have H := mem_from H hw5
  clear hw5
  go_wp2_with (first
    | (refine mem_load rfl _ rfl _ _ rfl (by assumption) (by (repeat (first | exact .head _ | refine .tail _ ?_))) ?_; try simp only [Act.put, yI, yC, yZ])
    | (refine mem_store1 rfl _ _ rfl _ _ _ rfl rfl _ _ (by assumption) ?_; intro w H; try simp only [Act.put, yI, yC, yZ])
    | (refine mem_copy rfl _ _ rfl _ _ _ _ rfl rfl (by assumption) (by (repeat (first | exact .head _ | refine .tail _ ?_))) hrow.out ?_; intro w H; try simp only [Act.put, yI, yC, yZ]))
  exact mem_ret Tryz.results96 _ rfl rfl (by assumption) (by (repeat (first | exact .head _ | refine .tail _ ?_)))
end Go.Proofs.YtgnblaaldpniiaaGreatDoor.Sc
end
section
set_option linter.unusedSimpArgs false
set_option linter.unusedVariables false
set_option maxRecDepth 100000
namespace Go.Proofs.YtgnblaaldpniiaaGreatDoor.Sc
open Go.RowKit
def two252 : Nat := 7237005577332262213973186563042994240829374041602535252466099000494570602496
def qN (n : Nat) : Nat := n / two252
theorem word_at : ∀ (k i x : Nat), i < k → (limbs 4294967296 k x).getD i 0 = x / 4294967296 ^ i % 4294967296
  | 0, _, _, h => by omega
  | k + 1, 0, x, _ => by rw [limbs]; simp
  | k + 1, i + 1, x, h => by
    rw [limbs]
    show (limbs 4294967296 k (x / 4294967296)).getD i 0 = _
    rw [word_at k i _ (by omega), Nat.pow_succ, Nat.mul_comm (4294967296 ^ i), Nat.div_div_eq_div_mul]
theorem Mem.word {w0 w : World} {L : List (Nat × Nat)} {g n : Nat} (H : Mem w0 w L) (hm : (g, n) ∈ L) (i : Nat) (hi : i < 16) : w.cell? ⟨g, i, none⟩ = some (.int .u32 ((n / 4294967296 ^ i % 4294967296 : Nat) : Int)) := by
  have h := (Arr.cell (l := nL n) (k := .u32) ⟨H.holds g n hm⟩ i (by rw [nL_len]; exact hi))
  rw [h]
  unfold nL
  rw [word_at 16 i n hi]
theorem bits_or_u32 (a b : Nat) (ha : a < 4294967296) (hb : b < 4294967296) : bits .or .u32 (a : Int) (b : Int) = ((a ||| b : Nat) : Int) := by
  have hx : a ||| b < 2 ^ 32 := Nat.or_lt_two_pow (by omega) (by omega)
  have h1 : (BitVec.ofInt 32 (a : Int)).toNat = a := by
    rw [BitVec.ofInt_natCast, BitVec.toNat_ofNat]; exact Nat.mod_eq_of_lt (by omega)
  have h2 : (BitVec.ofInt 32 (b : Int)).toNat = b := by
    rw [BitVec.ofInt_natCast, BitVec.toNat_ofNat]; exact Nat.mod_eq_of_lt (by omega)
  show IntKind.u32.wrap ((BitVec.ofInt 32 (a : Int) ||| BitVec.ofInt 32 (b : Int)).toNat : Int) = _
  rw [BitVec.toNat_or, h1, h2]
  simp [IntKind.wrap, IntKind.signed, IntKind.bits]
  omega
theorem or_shift (a b k : Nat) (h : a < 2 ^ k) : a ||| b * 2 ^ k = a + b * 2 ^ k := by
  rw [Nat.or_comm, Nat.mul_comm, ← Nat.two_pow_add_eq_or_of_lt h]
  omega
theorem q_or (a b : Nat) (ha : a < 4294967296) (hb : b < 4294967296) : bits .or .u32 ((a : Int) / 268435456) ((b : Int) * 16 % 4294967296) = ((a / 268435456 + b * 16 % 4294967296 : Nat) : Int) := by
  rw [show (a : Int) / 268435456 = ((a / 268435456 : Nat) : Int) by omega, show (b : Int) * 16 % 4294967296 = ((b * 16 % 4294967296 : Nat) : Int) by omega, bits_or_u32 _ _ (by omega) (by omega)]
  have e := or_shift (a / 268435456) (b % 268435456) 4 (by omega)
  rw [show b * 16 % 4294967296 = b % 268435456 * 2 ^ 4 by omega, e]
theorem built_q (n a b : Nat) (hn : n < 4294967296 * oN) (ha : n / 4294967296 ^ 7 % 4294967296 = a) (hb : n / 4294967296 ^ 8 % 4294967296 = b) :
    Tryz.prog.built 87 [(0, .int .u32 (bits .or .u32 ((a : Int) / 268435456) ((b : Int) * 16 % 4294967296))), (1, .int .u32 ((b : Int) / 268435456))] = some (numA (qN n)) := by
  have h1 : a < 4294967296 := by omega
  have h2 : b < 4294967296 := by omega
  rw [q_or a b h1 h2, show (b : Int) / 268435456 = ((b / 268435456 : Nat) : Int) by omega, built_two _ _ (by omega) (by omega)]
  have e : qN n = n / 4294967296 ^ 7 / 268435456 := by
    unfold qN
    rw [Nat.div_div_eq_div_mul]
    rfl
  have e8 : n / 4294967296 ^ 8 = n / 4294967296 ^ 7 / 4294967296 := by rw [Nat.div_div_eq_div_mul]
  have ht : n / 4294967296 ^ 7 < 18446744073709551616 := by
    refine Nat.div_lt_of_lt_mul (Nat.lt_trans hn ?_)
    decide +kernel
  rw [e8] at hb
  rw [e]
  generalize n / 4294967296 ^ 7 = t at ha hb ht ⊢
  congr 2
  omega
def d252 : Nat := 27742317777372353535851937790883648493
theorem o_parts : oN = two252 + d252 := by decide +kernel
theorem rem_letters (n K D B q : Nat) (hK : 8589934592 * D < K) (hB : 100000000000 * K < B) (hn : n < 4294967296 * (K + D)) (h1 : q * K ≤ n) (h2 : n < (q + 1) * K) :
    n < B ∧ q < 8589934592 ∧ q * (K + D) < B ∧ (n < q * (K + D) → ((n + B - q * (K + D)) % B + (K + D)) % B = n % (K + D)) ∧ (¬ n < q * (K + D) → (n + B - q * (K + D)) % B = n % (K + D)) := by
  have hq : q < 8589934592 := Nat.lt_of_mul_lt_mul_right (a := K) (by omega)
  have hqD : q * D ≤ 8589934592 * D := Nat.mul_le_mul_right D (by omega)
  have hr : n + (K + D) - q * (K + D) < (K + D) + (K + D) := by
    rw [Nat.mul_add]
    rw [Nat.add_mul, Nat.one_mul] at h2
    generalize q * K = x at *
    generalize q * D = y at *
    omega
  have hle : q * (K + D) ≤ n + K := by
    rw [Nat.mul_add]
    generalize q * K = x at *
    generalize q * D = y at *
    omega
  have hmod : ∀ r, r + q * (K + D) = n + (K + D) → r < K + D → r = n % (K + D) := fun r he hlt => by
    have h := Nat.add_mul_mod_self_right r q (K + D)
    rw [he, Nat.add_mod_right, Nat.mod_eq_of_lt hlt] at h
    exact h.symm
  have hmod2 : ∀ r, r + q * (K + D) = n → r < K + D → r = n % (K + D) := fun r he hlt => by
    have h := Nat.add_mul_mod_self_right r q (K + D)
    rw [he, Nat.mod_eq_of_lt hlt] at h
    exact h.symm
  generalize q * (K + D) = p at *
  refine ⟨by omega, hq, by omega, fun h => ?_, fun h => ?_⟩
  · rw [Nat.mod_eq_of_lt (a := n + B - p) (by omega), show n + B - p + (K + D) = (n + (K + D) - p) + B by omega, Nat.add_mod_right, Nat.mod_eq_of_lt (by omega)]
    exact hmod _ (by omega) (by omega)
  · rw [show n + B - p = (n - p) + B by omega, Nat.add_mod_right, Nat.mod_eq_of_lt (by omega)]
    exact hmod2 _ (by omega) (by omega)
theorem rem_parts (n : Nat) (hn : n < 4294967296 * oN) : n < big ∧ qN n < mid ∧ qN n * oN < big ∧ (n < qN n * oN → ((n + big - qN n * oN) % big + oN) % big = n % oN) ∧ (¬ n < qN n * oN → (n + big - qN n * oN) % big = n % oN) := by
  have h1 : qN n * two252 ≤ n := Nat.div_mul_le_self _ _
  have h2 : n < (qN n + 1) * two252 := by
    have := Nat.lt_div_mul_add (a := n) (b := two252) (by decide +kernel)
    rw [Nat.add_mul, Nat.one_mul]
    exact this
  rw [o_parts] at hn ⊢
  obtain ⟨a1, a2, a3, a4, a5⟩ := rem_letters n two252 d252 big (qN n) (by decide +kernel) (by decide +kernel) hn h1 h2
  exact ⟨a1, Nat.lt_trans a2 (by decide +kernel), a3, a4, a5⟩
set_option maxHeartbeats 1000000 in
theorem remainder_any (n : Nat) (hn : n < 4294967296 * oN) (w : World) : Calls Tryz.prog 97 #[numV n] w (NP (n % oN) w) := by
  have H := Mem.start w
  obtain ⟨hnb, hqm, hqb, hyes, hno⟩ := rem_parts n hn
  obtain ⟨p, hp⟩ : ∃ p, qN n * oN = p := ⟨_, rfl⟩
  have cO := Kept.mk fun w => order_num w
  have cP := Kept.mk fun w => prodN_any (qN n) oN hqm (by decide +kernel) w
  have cD := Kept.mk fun w => diffN_any n p hnb (by rw [← hp]; exact hqb) w
  have cS := Kept.mk fun w => sumN_any ((n + big - p) % big) oN (Nat.mod_lt _ big_pos) (by decide +kernel) w
  rw [hp] at hqb hyes hno cP
  obtain ⟨a7, h7⟩ : ∃ x, n / 4294967296 ^ 7 % 4294967296 = x := ⟨_, rfl⟩
  obtain ⟨a8, h8⟩ : ∃ x, n / 4294967296 ^ 8 % 4294967296 = x := ⟨_, rfl⟩
  have hb := Kept.mk (built_q n a7 a8 hn h7 h8)
  generalize qN n = q at hp hqm cP hb
  clear hqm hqb hn hnb hp
  rw [numV_eq]
  go_enter Tryz.func97, Tryz.ntmps97
  go_wp2_with (first
    | (refine mem_build rfl _ rfl _ (by rw [Array.toList_map]; rfl) _ hb.out ?_; try simp only [Act.put, yI, yC, yZ])
    | (refine mem_box rfl _ rfl _ rfl (by assumption) ?_; intro g w H; try simp only [Act.put, yI, yC, yZ])
    | (refine mem_alloc rfl rfl (by assumption) ?_; intro g w H; have c7 := H.word (.tail _ (.head _)) 7 (by decide); have c8 := H.word (.tail _ (.head _)) 8 (by decide); try rw [h7] at c7; try rw [h8] at c8; try simp only [Act.put, yI, yC, yZ])
    | (refine mem_store0 rfl _ _ rfl _ _ _ rfl rfl _ (by assumption) ?_; intro w H; try simp only [Act.put, yI, yC, yZ]))
  by_cases hlt : n < p
  · have hres := hyes hlt
    rw [decide_eq_true hlt] at cD
    replace hres := Kept.mk hres
    clear hyes hno hlt
    refine wp_region_from_allocL 9 8 7 _ _ _ _ 87 (numA 0) rfl rfl rfl rfl rfl zero_num (by kernel_rfl) (by kernel_rfl) (by kernel_rfl) (fun _ _ _ _ h => h) ?_
    apply Exists.intro
    refine And.intro ?_ (And.intro ?_ ?_)
    · intro u hu x
      have H := mem_from H hu
      simp only [List.take_succ_cons, List.take_zero, List.eraseIdx_cons_succ, List.eraseIdx_cons_zero, Act.put, yI, yC, yZ]
      repeat (first
        | (go_big_quiet_want; (refine mem_quiet_load_u _ rfl _ _ rfl (by assumption) (by (repeat (first | exact .head _ | refine .tail _ ?_))) ?_); try simp only [Act.put, yI, yC, yZ]; go_big_quiet_on)
        | go_big_quiet_step (((first | (go_at_call 112; exact held_call _ (cO.out _)) | (go_at_call 72; exact held_call _ (cP.out _)) | (go_at_call 111; exact held_call _ (cD.out _))))))
      exact wpQuiet_nil rfl
    · exact fun _ => rfl
    intro x w5 hw5 hF
    have H := H.extra hw5 hF
    simp only [List.drop_succ_cons, List.drop_zero]
    go_wp2_with (first
      | (refine mem_store0 rfl _ _ rfl _ _ _ rfl rfl _ (by assumption) ?_; intro w H; try simp only [Act.put, yI, yC, yZ]))
    refine wp_region_from_tail 3 (by kernel_rfl) (by kernel_rfl) ?_
    simp only [List.take_succ_cons, List.take_zero, List.drop_succ_cons, List.drop_zero]
    repeat (first
      | (go_big_quiet_want; (refine mem_quiet_load _ rfl _ _ rfl (by assumption) (by (repeat (first | exact .head _ | refine .tail _ ?_))) ?_); try simp only [Act.put, yI, yC, yZ]; go_big_quiet_on)
      | go_big_quiet_step (((first | (go_at_call 112; exact held_call _ (cO.out _)) | (go_at_call 73; exact held_call _ (cS.out _))))))
    refine wpQuiet_nil ?_
    intro w5 hw5
    have H := mem_from H hw5
    clear hw5
    go_wp2_with (first
      | (refine mem_load rfl _ rfl _ _ rfl (by assumption) (by (repeat (first | exact .head _ | refine .tail _ ?_))) ?_; try simp only [Act.put, yI, yC, yZ])
      | (refine mem_store0 rfl _ _ rfl _ _ _ rfl rfl _ (by assumption) ?_; intro w H; try simp only [Act.put, yI, yC, yZ])
      | (refine mem_store2 rfl _ _ rfl _ _ _ rfl rfl _ _ _ (by assumption) ?_; intro w H; try simp only [Act.put, yI, yC, yZ]))
    rw [hres.out] at *
    exact mem_ret Tryz.results97 _ rfl rfl (by assumption) (by (repeat (first | exact .head _ | refine .tail _ ?_)))
  · have hres := hno hlt
    rw [decide_eq_false hlt] at cD
    replace hres := Kept.mk hres
    clear hyes hno hlt cS
    refine wp_region_from_allocL 9 8 7 _ _ _ _ 87 (numA 0) rfl rfl rfl rfl rfl zero_num (by kernel_rfl) (by kernel_rfl) (by kernel_rfl) (fun _ _ _ _ h => h) ?_
    apply Exists.intro
    refine And.intro ?_ (And.intro ?_ ?_)
    · intro u hu x
      have H := mem_from H hu
      simp only [List.take_succ_cons, List.take_zero, List.eraseIdx_cons_succ, List.eraseIdx_cons_zero, Act.put, yI, yC, yZ]
      repeat (first
        | (go_big_quiet_want; (refine mem_quiet_load_u _ rfl _ _ rfl (by assumption) (by (repeat (first | exact .head _ | refine .tail _ ?_))) ?_); try simp only [Act.put, yI, yC, yZ]; go_big_quiet_on)
        | go_big_quiet_step (((first | (go_at_call 112; exact held_call _ (cO.out _)) | (go_at_call 72; exact held_call _ (cP.out _)) | (go_at_call 111; exact held_call _ (cD.out _))))))
      exact wpQuiet_nil rfl
    · exact fun _ => rfl
    intro x w5 hw5 hF
    have H := H.extra hw5 hF
    simp only [List.drop_succ_cons, List.drop_zero]
    go_wp2_with (first
      | (refine mem_load rfl _ rfl _ _ rfl (by assumption) (by (repeat (first | exact .head _ | refine .tail _ ?_))) ?_; try simp only [Act.put, yI, yC, yZ])
      | (refine mem_store0 rfl _ _ rfl _ _ _ rfl rfl _ (by assumption) ?_; intro w H; try simp only [Act.put, yI, yC, yZ])
      | (refine mem_store2 rfl _ _ rfl _ _ _ rfl rfl _ _ _ (by assumption) ?_; intro w H; try simp only [Act.put, yI, yC, yZ]))
    rw [hres.out] at *
    exact mem_ret Tryz.results97 _ rfl rfl (by assumption) (by (repeat (first | exact .head _ | refine .tail _ ?_)))
end Go.Proofs.YtgnblaaldpniiaaGreatDoor.Sc
end
section
set_option linter.unusedSimpArgs false
set_option linter.unusedVariables false
set_option maxRecDepth 100000
namespace Go.Proofs.YtgnblaaldpniiaaGreatDoor.Sc
open Go.RowKit
theorem red_step (n j : Nat) : (n / 4294967296 ^ j % 4294967296 + 4294967296 * (n / 4294967296 ^ (j + 1) % oN)) % oN = n / 4294967296 ^ j % oN := by
  have e : n / 4294967296 ^ (j + 1) = n / 4294967296 ^ j / 4294967296 := by rw [Nat.div_div_eq_div_mul, Nat.pow_succ]
  rw [e]
  generalize n / 4294967296 ^ j = t
  have h1 := Nat.div_add_mod t 4294967296
  have h2 := Nat.div_add_mod (t / 4294967296) oN
  have h3 : t = (t % 4294967296 + 4294967296 * (t / 4294967296 % oN)) + oN * (4294967296 * (t / 4294967296 / oN)) := by
    rw [Nat.mul_left_comm oN 4294967296]
    omega
  conv => rhs; rw [h3, Nat.add_mul_mod_self_left]
theorem red_lt (n j : Nat) : n / 4294967296 ^ j % 4294967296 + 4294967296 * (n / 4294967296 ^ (j + 1) % oN) < 4294967296 * oN := by
  have h1 : n / 4294967296 ^ j % 4294967296 < 4294967296 := Nat.mod_lt _ (by decide)
  have h2 : n / 4294967296 ^ (j + 1) % oN < oN := Nat.mod_lt _ o_pos
  have h3 : 4294967296 * (n / 4294967296 ^ (j + 1) % oN + 1) ≤ 4294967296 * oN := Nat.mul_le_mul_left _ h2
  rw [Nat.mul_add] at h3
  omega
set_option maxHeartbeats 1000000 in
theorem reduced_any (n : Nat) (hn : n < big) (wS : World) : Calls Tryz.prog 70 #[numV n] wS (NP (n % oN) wS) := by
  have H := Mem.start wS
  have h0 : n / 4294967296 ^ 16 % oN = 0 := by rw [Nat.div_eq_of_lt (show n < 4294967296 ^ 16 from hn)]; rfl
  replace h0 := Kept.mk h0
  clear hn
  rw [numV_eq]
  go_enter Tryz.func70, Tryz.ntmps70
  go_wp2_with (first
    | (refine mem_box rfl _ rfl _ rfl (by assumption) ?_; intro g w H; try simp only [Act.put, yI, yC, yZ])
    | (refine mem_alloc rfl rfl (by assumption) ?_; intro g w H; try simp only [Act.put, yI, yC, yZ]))
  rename_i gn _ _ gr _ _ _ _
  go_loopw [4] (fun v4 wr => ∃ (j : Nat), j ≤ 16 ∧ v4 = .int .i64 ((j : Int) - 1) ∧ Mem wS wr [(g, n / 4294967296 ^ j % oN), (gr, 0), (gn, n)]) (fun v4 _ => (RowKit.intOf v4 + 1).toNat)
  case atStart => exact ⟨16, by omega, rfl, by rw [h0.out]; exact H⟩
  case round =>
    clear H
    obtain ⟨j, hj, rfl, H⟩ := hrel
    by_cases hlt : j = 0
    · subst hlt
      rw [Nat.pow_zero, Nat.div_one] at H
      go_wp2_with (first
        | (refine mem_load rfl _ rfl _ _ rfl (by assumption) (by (repeat (first | exact .head _ | refine .tail _ ?_))) ?_; try simp only [Act.put, yI, yC, yZ])
        | (refine mem_store0 rfl _ _ rfl _ _ _ rfl rfl _ (by assumption) ?_; intro w H; try simp only [Act.put, yI, yC, yZ])
        | (refine mem_store1 rfl _ _ rfl _ _ _ rfl rfl _ _ (by assumption) ?_; intro w H; try simp only [Act.put, yI, yC, yZ]))
      exact mem_ret Tryz.results70 _ rfl rfl (by assumption) (by (repeat (first | exact .head _ | refine .tail _ ?_)))
    · obtain ⟨i, rfl⟩ : ∃ i, j = i + 1 := ⟨j - 1, by omega⟩
      have hst := red_step n i
      have hlo := red_lt n i
      have hwl : n / 4294967296 ^ i % 4294967296 < 4294967296 := Nat.mod_lt _ (by decide)
      have c1 : ∀ u : Held (From wr.drew), u.w.cell? ⟨gn, i, none⟩ = some (.int .u32 ((n / 4294967296 ^ i % 4294967296 : Nat) : Int)) := fun u => (mem_from H u.h).word (.tail _ (.tail _ (.head _))) i (by omega)
      rw [show ((i + 1 : Nat) : Int) - 1 = (i : Int) by omega]
      generalize n / 4294967296 ^ (i + 1) % oN = y at H hst hlo
      generalize n / 4294967296 ^ i % 4294967296 = wd at hst hlo hwl c1
      have cA := Kept.mk fun w => above_any y wd hwl w
      have cR := Kept.mk fun w => remainder_any (wd + 4294967296 * y) hlo w
      rw [hst] at cR
      replace hst := Kept.mk hst
      clear hlo hwl
      have hi0 : (0 : Int) ≤ (i : Int) := by omega
      have hi16 : (i : Int) < 16 := by omega
      have k1 : IntKind.i64.wrap ((i : Int) - 1) = (i : Int) - 1 := by simp [IntKind.wrap, IntKind.signed, IntKind.bits]; omega
      have k2 : wrap64 ((i : Int) - 1) = (i : Int) - 1 := by simp [wrap64]; omega
      go_wp2
      refine wp_region_from_tail 6 (by kernel_rfl) (by kernel_rfl) ?_
      simp only [List.take_succ_cons, List.take_zero, List.drop_succ_cons, List.drop_zero]
      repeat (first
        | (go_big_quiet_want; (refine mem_quiet_load _ rfl _ _ rfl (by assumption) (by (repeat (first | exact .head _ | refine .tail _ ?_))) ?_); try simp only [Act.put, yI, yC, yZ]; go_big_quiet_on)
        | go_big_quiet_step (((first | (go_at_call 96; exact held_call _ (cA.out _)) | (go_at_call 97; exact held_call _ (cR.out _))))))
      refine wpQuiet_nil ?_
      intro w5 hw5
      have H := mem_from H hw5
      clear hw5
      go_wp2_with (first
        | (refine mem_load rfl _ rfl _ _ rfl (by assumption) (by (repeat (first | exact .head _ | refine .tail _ ?_))) ?_; try simp only [Act.put, yI, yC, yZ])
        | (refine mem_store0 rfl _ _ rfl _ _ _ rfl rfl _ (by assumption) ?_; intro w H; try simp only [Act.put, yI, yC, yZ]))
      go_roundw
      case rel => exact ⟨i, by omega, val_eq (by omega), H⟩
      case measure => first | (simp [RowKit.intOf]; done) | (simp [RowKit.intOf]; omega)
end Go.Proofs.YtgnblaaldpniiaaGreatDoor.Sc
end
section
set_option linter.unusedSimpArgs false
set_option linter.unusedVariables false
set_option maxRecDepth 100000
namespace Go.Proofs.YtgnblaaldpniiaaGreatDoor.Sc
open Go.RowKit
theorem Mem.setw {w0 w : World} {L : List (Nat × Nat)} {g x : Nat} (H : Mem w0 w ((g, x) :: L)) (i v y : Nat) (hy : (nL x).set i v = nL y) (u : Int) (hu : u = (v : Int)) : Mem w0 (w.setCell ⟨g, i, none⟩ (.int .u32 u)) ((g, y) :: L) := by
  subst hu
  have hn := (List.nodup_cons.1 (show (g :: L.map (·.1)).Nodup from H.apart)).1
  have h0 : Arr w g 87 .u32 (nL x) := ⟨H.holds g x (.head _)⟩
  refine ⟨H.below.setCell (H.ours g x (.head _)) _, fun g' z h => ?_, fun g' z h => ?_, H.apart⟩
  · rcases List.mem_cons.1 h with h | h
    · injection h with h1 h2; subst h1; subst h2
      have h3 := h0.set i v
      rw [hy] at h3
      exact h3.blk
    · exact (Below.heap_setCell w ⟨g, i, none⟩ _ g' (fun e => hn (List.mem_map.2 ⟨(g', z), h, e⟩))).trans (H.holds g' z (List.mem_cons_of_mem _ h))
  · rcases List.mem_cons.1 h with h | h
    · injection h with h1 h2; subst h1; exact H.ours _ x (.head _)
    · exact H.ours g' z (List.mem_cons_of_mem _ h)
theorem Mem.frozen {w0 w : World} {L : List (Nat × Nat)} {g x : Nat} (H : Mem w0 w L) (hm : (g, x) ∈ L) (i : Nat) : w.frozen? ⟨g, i, none⟩ = false := frozen_of_row w g i _ _ (H.holds g x hm)
theorem limbs_set : ∀ (m k x c : Nat), k < m → x / 4294967296 ^ k % 4294967296 + c < 4294967296 → (limbs 4294967296 m x).set k (x / 4294967296 ^ k % 4294967296 + c) = limbs 4294967296 m (x + c * 4294967296 ^ k)
  | 0, _, _, _, h, _ => by omega
  | m + 1, 0, x, c, _, hc => by
    rw [Nat.pow_zero, Nat.div_one] at hc ⊢
    rw [Nat.mul_one, limbs, limbs, List.set_cons_zero]
    rw [show (x + c) % 4294967296 = x % 4294967296 + c by omega, show (x + c) / 4294967296 = x / 4294967296 by omega]
  | m + 1, k + 1, x, c, h, hc => by
    have e : x / 4294967296 ^ (k + 1) = x / 4294967296 / 4294967296 ^ k := by rw [Nat.div_div_eq_div_mul, Nat.pow_succ, Nat.mul_comm]
    rw [e] at hc ⊢
    rw [limbs, limbs, List.set_cons_succ, limbs_set m k _ c (by omega) hc]
    rw [Nat.pow_succ, Nat.mul_comm (4294967296 ^ k), Nat.mul_left_comm, Nat.add_mul_mod_self_left, Nat.add_mul_div_left _ _ (by decide)]
theorem numB_take (l : List UInt8) (i : Nat) (h : i < l.length) : numB (l.take (i + 1)) = numB (l.take i) + (l.getD i 0).toNat * 256 ^ i := by
  have e : l.take (i + 1) = l.take i ++ [l.getD i 0] := by
    rw [List.take_add_one]
    simp [h]
  have hl : (digs (l.take i)).length = i := by rw [digs_len, List.length_take]; omega
  unfold numB
  rw [e, show digs (l.take i ++ [l.getD i 0]) = digs (l.take i) ++ [(l.getD i 0).toNat] by simp [digs], val_app, hl]
  simp [valB]
  rw [Nat.mul_comm]
theorem numB_lt (l : List UInt8) : numB l < 256 ^ l.length := by
  have h := valB_lt (B := 256) (by decide) (digs l) (digs_lt l)
  rw [digs_len] at h
  exact h
theorem or_at (wd b r : Nat) (hb : b < 256) (hr : r < 4) (hw : wd < 256 ^ r) : bits .or .u32 (wd : Int) ((b : Int) % 4294967296 * 2 ^ (r * 8) % 4294967296) = ((wd + b * 256 ^ r : Nat) : Int) ∧ wd + b * 256 ^ r < 4294967296 := by
  obtain rfl | rfl | rfl | rfl : r = 0 ∨ r = 1 ∨ r = 2 ∨ r = 3 := by omega
  · have e : (2 : Int) ^ (0 * 8) = 1 := by decide
    rw [e, show (b : Int) % 4294967296 * 1 % 4294967296 = ((b * 2 ^ 0 : Nat) : Int) by omega, bits_or_u32 wd (b * 2 ^ 0) (by omega) (by omega), or_shift wd b 0 (by omega)]
    refine ⟨rfl, by omega⟩
  · have e : (2 : Int) ^ (1 * 8) = 256 := by decide
    rw [e, show (b : Int) % 4294967296 * 256 % 4294967296 = ((b * 2 ^ 8 : Nat) : Int) by omega, bits_or_u32 wd (b * 2 ^ 8) (by omega) (by omega), or_shift wd b 8 (by omega)]
    refine ⟨rfl, by omega⟩
  · have e : (2 : Int) ^ (2 * 8) = 65536 := by decide
    rw [e, show (b : Int) % 4294967296 * 65536 % 4294967296 = ((b * 2 ^ 16 : Nat) : Int) by omega, bits_or_u32 wd (b * 2 ^ 16) (by omega) (by omega), or_shift wd b 16 (by omega)]
    refine ⟨rfl, by omega⟩
  · have e : (2 : Int) ^ (3 * 8) = 16777216 := by decide
    rw [e, show (b : Int) % 4294967296 * 16777216 % 4294967296 = ((b * 2 ^ 24 : Nat) : Int) by omega, bits_or_u32 wd (b * 2 ^ 24) (by omega) (by omega), or_shift wd b 24 (by omega)]
    refine ⟨rfl, by omega⟩
theorem pow_at (i : Nat) : 256 ^ i = 4294967296 ^ (i / 4) * 256 ^ (i % 4) := by
  rw [show (4294967296 : Nat) = 256 ^ 4 by decide, ← Nat.pow_mul, ← Nat.pow_add]
  congr 1
  omega
theorem parse_step (l : List UInt8) (i : Nat) (hi : i < l.length) (hl : l.length ≤ 64) (b x wd : Nat) (hb : (l.getD i 0).toNat = b) (hx : numB (l.take i) = x) (hwd : x / 4294967296 ^ (i / 4) % 4294967296 = wd) :
    bits .or .u32 (wd : Int) ((b : Int) % 4294967296 * 2 ^ (i % 4 * 8) % 4294967296) = ((wd + b * 256 ^ (i % 4) : Nat) : Int) ∧ (nL x).set (i / 4) (wd + b * 256 ^ (i % 4)) = nL (numB (l.take (i + 1))) := by
  have hb2 : b < 256 := hb ▸ (l.getD i 0).toNat_lt
  have hxl : x < 4294967296 ^ (i / 4) * 256 ^ (i % 4) := by
    rw [← pow_at, ← hx]
    have h := numB_lt (l.take i)
    rw [List.length_take, Nat.min_eq_left (Nat.le_of_lt hi)] at h
    exact h
  have hw : wd < 256 ^ (i % 4) := by
    rw [← hwd]
    exact Nat.lt_of_le_of_lt (Nat.mod_le _ _) (Nat.div_lt_of_lt_mul hxl)
  obtain ⟨h1, h2⟩ := or_at wd b (i % 4) hb2 (Nat.mod_lt _ (by decide)) hw
  refine ⟨h1, ?_⟩
  unfold nL
  have h3 := limbs_set 16 (i / 4) x (b * 256 ^ (i % 4)) (by omega) (by rw [hwd]; exact h2)
  rw [hwd] at h3
  rw [h3, numB_take l i hi, hx, hb, pow_at i, Nat.mul_assoc, Nat.mul_comm (256 ^ (i % 4))]
set_option maxHeartbeats 1000000 in
theorem parse_any (l : List UInt8) (hl : l.length ≤ 64) (wS : World) : Calls Tryz.prog 69 #[.string (S l)] wS (NP (numB l) wS) := by
  have H := Mem.start wS
  have hsz : (S l).size = l.length := S_size l
  replace hsz := Kept.mk hsz
  go_enter Tryz.func69, Tryz.ntmps69
  go_wp2_with (first
    | (refine mem_box rfl _ rfl _ rfl (by assumption) ?_; intro g w H; try simp only [Act.put, yI, yC, yZ])
    | (refine mem_alloc rfl rfl (by assumption) ?_; intro g w H; try simp only [Act.put, yI, yC, yZ]))
  rename_i gr _ _ _ _
  go_loopw [7] (fun v7 wr => ∃ (i : Nat), i ≤ l.length ∧ v7 = .int .i64 (i : Int) ∧ Mem wS wr [(g, numB (l.take i)), (gr, 0)]) (fun v7 _ => l.length - (RowKit.intOf v7).toNat)
  case atStart => exact ⟨0, by omega, rfl, H⟩
  case round =>
    clear H
    obtain ⟨i, hi, rfl, H⟩ := hrel
    by_cases hlt : i < l.length
    · have hlI : (i : Int) < ((S l).size : Int) := by rw [hsz.out]; omega
      have hs0 : i < (S l).size := by rw [hsz.out]; exact hlt
      obtain ⟨b, hb⟩ : ∃ b, l.getD i 0 = b := ⟨_, rfl⟩
      have g0 : (S l)[i] = b := by rw [byte_at, hb]
      obtain ⟨x, hx⟩ : ∃ x, numB (l.take i) = x := ⟨_, rfl⟩
      rw [hx] at H
      obtain ⟨wd, hwd⟩ : ∃ y, x / 4294967296 ^ (i / 4) % 4294967296 = y := ⟨_, rfl⟩
      have c1 : ∀ u : Held (From wr.drew), u.w.cell? ⟨g, i / 4, none⟩ = some (.int .u32 (wd : Int)) := fun u => hwd ▸ (mem_from H u.h).word (.head _) (i / 4) (by omega)
      go_wp2
      refine wp_region_from_tail 14 (by kernel_rfl) (by kernel_rfl) ?_
      simp only [List.take_succ_cons, List.take_zero, List.drop_succ_cons, List.drop_zero]
      repeat (go_big_quiet_step (fail))
      obtain ⟨hor, hset⟩ := parse_step l i hlt hl b.toNat x wd (by rw [hb]) hx hwd
      rw [hor]
      refine wpQuiet_nil ?_
      intro w5 hw5
      have H := mem_from H hw5
      have c5 := H.word (.head _) (i / 4) (by omega)
      have f5 := H.frozen (.head _) (i / 4)
      rw [hwd] at c5
      replace hset := Kept.mk hset
      replace hx := Kept.mk hx
      replace hwd := Kept.mk hwd
      clear hw5 c1 hor
      go_wp2
      go_roundw
      case rel => exact ⟨i + 1, by omega, val_eq (by omega), H.setw (i / 4) _ _ hset.out _ rfl⟩
      case measure => first | (simp [RowKit.intOf]; done) | (simp [RowKit.intOf]; omega)
    · obtain rfl : i = l.length := by omega
      have hlI : ¬ ((l.length : Nat) : Int) < ((S l).size : Int) := by rw [hsz.out]; omega
      rw [List.take_of_length_le (Nat.le_refl _)] at H
      go_wp2_with (first
        | (refine mem_load rfl _ rfl _ _ rfl (by assumption) (by (repeat (first | exact .head _ | refine .tail _ ?_))) ?_; try simp only [Act.put, yI, yC, yZ])
        | (refine mem_store1 rfl _ _ rfl _ _ _ rfl rfl _ _ (by assumption) ?_; intro w H; try simp only [Act.put, yI, yC, yZ]))
      exact mem_ret Tryz.results69 _ rfl rfl (by assumption) (by (repeat (first | exact .head _ | refine .tail _ ?_)))
end Go.Proofs.YtgnblaaldpniiaaGreatDoor.Sc
end
section
set_option linter.unusedSimpArgs false
set_option linter.unusedVariables false
set_option maxRecDepth 100000
namespace Go.Proofs.YtgnblaaldpniiaaGreatDoor.Sc
open Go.RowKit
def b4 (y : Nat) : List UInt8 := [UInt8.ofNat y, UInt8.ofNat (y / 256), UInt8.ofNat (y / 65536), UInt8.ofNat (y / 16777216)]
def leB (x : Nat) : List UInt8 := ((nL x).take 8).flatMap b4
theorem flat_len : ∀ (ws : List Nat), (ws.flatMap b4).length = 4 * ws.length
  | [] => rfl
  | y :: r => by rw [List.flatMap_cons, List.length_append, flat_len r, List.length_cons]; simp [b4]; omega
theorem flat_val : ∀ (ws : List Nat), (∀ x ∈ ws, x < 4294967296) → numB (ws.flatMap b4) = valB 4294967296 ws
  | [], _ => rfl
  | y :: r, h => by
    have ih := flat_val r fun z hz => h z (by simp [hz])
    have hy := h y (by simp)
    rw [List.flatMap_cons, valB, ← ih]
    simp [b4, numB, digs, valB]
    omega
theorem leB_len (x : Nat) : (leB x).length = 32 := by unfold leB; rw [flat_len, half_len]
theorem leB_num (x : Nat) (h : x < mid) : numB (leB x) = x := by unfold leB; rw [flat_val _ (half_lt x), half_val x h]
theorem o_mid : oN < mid := by decide +kernel
theorem leB_scB (x : Nat) : leB (x % oN) = scB x := by
  have hx : x % oN < oN := Nat.mod_lt _ o_pos
  have e := limbs_val (B := 256) (by decide) (digs (leB (x % oN))) (digs_lt _)
  rw [digs_len, leB_len] at e
  have h2 := leB_num (x % oN) (Nat.lt_trans hx o_mid)
  unfold numB at h2
  rw [h2] at e
  rw [← back_lt (leB (x % oN)), ← e]
  rfl
theorem byte0 (y : Nat) : (y : Int) % 256 = ((UInt8.ofNat y).toNat : Int) := by simp
theorem byte1 (y : Nat) : (y : Int) / 256 % 256 = ((UInt8.ofNat (y / 256)).toNat : Int) := by simp
theorem byte2 (y : Nat) : (y : Int) / 65536 % 256 = ((UInt8.ofNat (y / 65536)).toNat : Int) := by simp
theorem byte3 (y : Nat) (h : y < 4294967296) : (y : Int) / 16777216 = ((UInt8.ofNat (y / 16777216)).toNat : Int) := by simp; omega
theorem b4_cells (y : Nat) : Lib.byteCells (b4 y) = [Value.int .u8 ((UInt8.ofNat y).toNat : Nat), Value.int .u8 ((UInt8.ofNat (y / 256)).toNat : Nat), Value.int .u8 ((UInt8.ofNat (y / 65536)).toNat : Nat), Value.int .u8 ((UInt8.ofNat (y / 16777216)).toNat : Nat)] := rfl
set_option maxHeartbeats 1000000 in
theorem bytes_any (x : Nat) (wS : World) : Calls Tryz.prog 71 #[numV x] wS fun e w' => e = .returned (.string (S (leB x))) ∧ Below wS.heap.size wS w' := by
  obtain ⟨i0, hi0, hz0, hz1, hz2⟩ := info_parts info5
  obtain ⟨a, ha⟩ : ∃ a, nL x = a := ⟨_, rfl⟩
  have hal : a.length = 16 := by rw [← ha, nL_len]
  have haW : ∀ x ∈ a, x < 4294967296 := ha ▸ nL_lt x
  obtain ⟨tot, htot⟩ : ∃ t, leB x = t := ⟨_, rfl⟩
  have htt : (a.take 8).flatMap b4 = tot := by rw [← htot, ← ha]; rfl
  rw [htot]
  obtain ⟨p, hp⟩ : ∃ p, a.take 8 = p := ⟨_, rfl⟩
  have hpl : p.length = 8 := by rw [← hp, List.length_take, hal]; rfl
  have hpg : ∀ i, i < 8 → p.getD i 0 = a.getD i 0 := fun i hi => by rw [← hp]; simp [hi]
  rw [hp] at htt
  obtain ⟨A, hA⟩ : ∃ A, (numC .u32 a).toArray = A := ⟨_, rfl⟩
  unfold numV aggN
  rw [ha, hA]
  replace ha := Kept.mk ha
  replace hal := Kept.mk hal
  replace haW := Kept.mk haW
  replace htt := Kept.mk htt
  replace htot := Kept.mk htot
  replace hp := Kept.mk hp
  replace hpl := Kept.mk hpl
  replace hpg := Kept.mk hpg
  go_enter Tryz.func71, Tryz.ntmps71
  go_wp2_with (refine wpList_make_own _ rfl _ _ 37 rfl (wS.heap.size + 1) 5 i0 (.int .u8 0) 1 Tryz.underlying37 hi0 hz0 hz1 .i64 .i64 32 32 rfl rfl rfl (by rw [hz2]; omega) (by unfold maxLen; omega) (by simp) ?_; intro w1 ho1 hg1)
  have h1 : Arr w1 wS.heap.size 87 .u32 a := by
    have h := Arr.new wS 87 .u32 a
    rw [hA] at h
    exact h.of_heap (hg1.block _ (by simp) (by intro e; cases e))
  have h4 : Below wS.heap.size wS w1 := ((Below.refl _ _).alloc (Nat.le_refl _) _).grown hg1 (by simp) (fun _ e => by cases e)
  have hsz1 : wS.heap.size + 1 ≤ w1.heap.size := by have := hg1.size; simpa using this
  replace hA := Kept.mk hA
  clear hg1
  obtain ⟨n, hn⟩ : ∃ n, wS.heap.size = n := ⟨_, rfl⟩
  rw [World.size_alloc] at ho1
  rw [hn] at h1 ho1 hsz1 ⊢
  generalize Value.slice (some ⟨n + 1, 0, none⟩) 0 32 = v0 at ho1 ⊢
  replace h1 := Kept.mk h1
  replace h4 := Kept.mk h4
  replace ho1 := Kept.mk ho1
  replace hn := Kept.mk hn
  go_loopw [3, 9] (fun v3 v9 wr => ∃ (i : Nat) (acc : List UInt8), i ≤ 8 ∧ v9 = .int .i64 (i : Int) ∧ Kept (acc.length = 4 * i) ∧ Kept (wr.ownsRow (n + 1) 5 1 v3 acc.length (Lib.byteCells acc)) ∧ n + 1 ≤ wr.heap.size ∧ Kept (Arr wr n 87 .u32 a) ∧ Kept (Below wS.heap.size wS wr) ∧ Kept (acc ++ (p.drop i).flatMap b4 = tot)) (fun _ v9 _ => 8 - (RowKit.intOf v9).toNat)
  case atStart => exact ⟨0, [], by omega, rfl, ⟨rfl⟩, ho1, hsz1, h1, h4, htt⟩
  case round =>
    clear h1 h4 ho1 hsz1
    obtain ⟨i, acc, hi, rfl, hacl, HO, hsz, H1, H4, HT⟩ := hrel
    obtain ⟨AA, cap, rfl⟩ := own_form HO.out
    have hle : acc.length ≤ 32 := by have := hacl.out; omega
    by_cases hlt : i < 8
    · obtain ⟨y, hy⟩ : ∃ y, a.getD i 0 = y := ⟨_, rfl⟩
      have hda := drop_getD p i (by rw [hpl.out]; exact hlt)
      rw [hpg.out i hlt, hy] at hda
      have hyl : y < 4294967296 := hy ▸ getD_ltN haW.out i (by rw [hal.out]; omega)
      have c1 : wr.cell? ⟨n, i, none⟩ = some (.int .u32 (y : Int)) := hy ▸ H1.out.cell i (by rw [hal.out]; omega)
      have hlti : (i : Int) < 8 := by omega
      replace hy := Kept.mk hy
      replace hda := Kept.mk hda
      have hb4 : Lib.byteCells (b4 y) = [.int .u8 ((y : Int) % 256), .int .u8 ((y : Int) / 256 % 256), .int .u8 ((y : Int) / 65536 % 256), .int .u8 ((y : Int) / 16777216)] := by
        rw [byte0, byte1, byte2, byte3 y hyl]; rfl
      replace hb4 := Kept.mk hb4
      go_wp2_with (at_builtin; refine wpList_append_own _ rfl _ _ 37 rfl (n + 1) 5 i0 (.int .u8 0) 1 1 Tryz.underlying37 hi0 hz0 hz1 hz2 rfl (by decide) _ _ _ rfl (HO.out.alloc _) ⟨wr.heap.size, 0, none⟩ 4 4 [.int .u8 ((y : Int) % 256), .int .u8 ((y : Int) / 256 % 256), .int .u8 ((y : Int) / 65536 % 256), .int .u8 ((y : Int) / 16777216)] rfl rfl ?c1 ?c2 ?c3 ?c4 ?c5 ?_)
      case c1 => exact row_new wr [_, _, _, _] 5
      case c2 => intro u hu; simp at hu; rcases hu with rfl | rfl | rfl | rfl <;> rfl
      case c3 => unfold maxLen; omega
      case c4 => omega
      case c5 => rw [World.size_alloc]; omega
      intro v' w7 ho7 hgr _
      have hown := HO.out
      have hAA : ∀ g, (Value.slice AA acc.length cap).ownBlock = some g → n + 1 ≤ g := fun g hg => (hown.lt g hg).1
      have H17 : Arr w7 n 87 .u32 a := (H1.out.from ((Below.refl _ _).alloc (Nat.le_refl _) _)).of_heap (hgr.block n (by rw [World.size_alloc]; omega) (fun e => by have := hAA n e.symm; omega))
      have b7 : Below wS.heap.size wS w7 := (H4.out.alloc (by rw [hn.out]; omega) _).grown hgr (by rw [World.size_alloc, hn.out]; omega) (fun g hg => by have := hAA g hg; rw [hn.out]; omega)
      have s7 : n + 1 ≤ w7.heap.size := by have := hgr.size; rw [World.size_alloc] at this; omega
      have ho8 : w7.ownsRow (n + 1) 5 1 v' (acc ++ b4 y).length (Lib.byteCells (acc ++ b4 y)) := by
        rw [Lib.byteCells_append, List.length_append, hb4.out]; exact ho7
      clear ho7 hgr hown hAA
      replace H17 := Kept.mk H17
      replace b7 := Kept.mk b7
      replace ho8 := Kept.mk ho8
      go_wp2
      go_roundw
      case rel => exact ⟨i + 1, acc ++ b4 y, by omega, val_eq (by omega), ⟨by have := hacl.out; rw [List.length_append]; simp [b4]; omega⟩, ho8, s7, H17, b7, ⟨by have h := HT.out; rw [hda.out, List.flatMap_cons] at h; rw [List.append_assoc]; exact h⟩⟩
      case measure => first | (simp [RowKit.intOf]; done) | (simp [RowKit.intOf]; omega)
    · obtain rfl : i = 8 := by omega
      have hd : acc = tot := by have h := HT.out; rw [List.drop_eq_nil_of_le (by rw [hpl.out]; omega), List.flatMap_nil, List.append_nil] at h; exact h
      have hcv := conv_own HO.out
      rw [hd] at hcv
      have Hd := Kept.mk hd
      clear hd HT
      rw [show acc.length = tot.length by rw [Hd.out]]
      go_wp2
      go_ret
      exact ⟨rfl, H4.out⟩
end Go.Proofs.YtgnblaaldpniiaaGreatDoor.Sc
end
