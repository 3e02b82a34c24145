/- Walks of package codes: digits are read. -/
import Derived.Test.YtlofmaonlppmiaaC4
import Derived.Test.YtlofmaonlppmiaaD3
namespace Go.Proofs.Ytlofmaonlppmiaa
open Go.RowKit Go.Lib
def digV (c : UInt8) : Value := if isD c = true then .tuple #[.int .u8 (valD c : Nat), .bool true] else .tuple #[.int .u8 0, .bool false]
theorem tup_ret {k : IntKind} {a b : Int} {v : Value} (h : a = b) : Ending.returned (.tuple #[.int k a, v]) = .returned (.tuple #[.int k b, v]) := by rw [h]
set_option maxHeartbeats 1600000 in
theorem digit_any (c : UInt8) (w : World) : Calls Try.prog 22 #[.int .u8 c.toNat] w fun e w' => e = .returned (digV c) ∧ w' = w := by
  have hc := c.toNat_lt
  by_cases h1 : 48 ≤ c.toNat
  · by_cases h2 : c.toNat ≤ 57
    · have e : Hid (digV c = .tuple #[.int .u8 ((c.toNat - 48 : Nat) : Int), .bool true]) := by
        show _ = _
        unfold digV valD; rw [if_pos ((isD_iff c).2 (by omega)), if_pos (by omega)]
      go_enter Try.func22, Try.ntmps22
      go_wp2
      go_ret2
      rw [e.out]
      exact ⟨tup_ret (by omega), rfl⟩
    · by_cases h3 : 97 ≤ c.toNat
      · by_cases h4 : c.toNat ≤ 102
        · have e : Hid (digV c = .tuple #[.int .u8 ((c.toNat - 87 : Nat) : Int), .bool true]) := by
            show _ = _
            unfold digV valD; rw [if_pos ((isD_iff c).2 (by omega)), if_neg (by omega)]
          go_enter Try.func22, Try.ntmps22
          go_wp2
          go_ret2
          rw [e.out]
          exact ⟨tup_ret (by omega), rfl⟩
        · have e : Hid (digV c = .tuple #[.int .u8 0, .bool false]) := by
            show _ = _
            unfold digV; rw [if_neg (by rw [isD_iff]; omega)]
          go_enter Try.func22, Try.ntmps22
          go_wp2
          go_ret2
          rw [e.out]
          exact ⟨rfl, rfl⟩
      · have e : Hid (digV c = .tuple #[.int .u8 0, .bool false]) := by
          show _ = _
          unfold digV; rw [if_neg (by rw [isD_iff]; omega)]
        go_enter Try.func22, Try.ntmps22
        go_wp2
        go_ret2
        rw [e.out]
        exact ⟨rfl, rfl⟩
  · have e : Hid (digV c = .tuple #[.int .u8 0, .bool false]) := by
      show _ = _
      unfold digV; rw [if_neg (by rw [isD_iff]; omega)]
    go_enter Try.func22, Try.ntmps22
    go_wp2
    go_ret2
    rw [e.out]
    exact ⟨rfl, rfl⟩
theorem digit_yes (c : UInt8) (h : isD c = true) (v : Nat) (hv : valD c = v) (w : World) : Calls Try.prog 22 #[.int .u8 c.toNat] w fun e w' => e = .returned (.tuple #[.int .u8 v, .bool true]) ∧ w' = w := by
  refine (digit_any c w).mono ?_
  rintro e w' ⟨rfl, rfl⟩
  refine ⟨?_, rfl⟩
  unfold digV; rw [if_pos h, hv]
theorem digit_no (c : UInt8) (h : ¬ isD c = true) (w : World) : Calls Try.prog 22 #[.int .u8 c.toNat] w fun e w' => e = .returned (.tuple #[.int .u8 0, .bool false]) ∧ w' = w := by
  refine (digit_any c w).mono ?_
  rintro e w' ⟨rfl, rfl⟩
  refine ⟨?_, rfl⟩
  unfold digV; rw [if_neg h]
theorem pre_set (pre : List UInt8) (n i : Nat) (x : UInt8) (h : i < n) (hp : pre.length = i) : (pre ++ List.replicate (n - i) 0).set i x = (pre ++ [x]) ++ List.replicate (n - (i + 1)) 0 := by
  rw [List.set_append_right _ _ (by omega), hp, show n - i = (n - (i + 1)) + 1 by omega, List.replicate_succ]
  simp
theorem unhexL_odd : ∀ s : List UInt8, s.length % 2 = 1 → unhexL s = none
  | [], h => by simp at h
  | [_], _ => rfl
  | a :: b :: t, h => by
    have := unhexL_odd t (by simp at h; omega)
    rw [unhexL, this]; simp
theorem unhexL_len : ∀ (s t : List UInt8), unhexL s = some t → s.length = 2 * t.length := fun s t h => by
  rw [← hex_unhex s t h, hexL_len]
theorem unhexL_step (s : List UInt8) (i : Nat) (h : i + 1 < (S s).size) : unhexL (s.drop i) = if isD (S s)[i] = true ∧ isD (S s)[i + 1] = true then (unhexL (s.drop (i + 2))).map (UInt8.ofNat (valD (S s)[i] * 16 + valD (S s)[i + 1]) :: ·) else none := by
  rw [drop_cons s i (by omega), drop_cons s (i + 1) h]
  rfl
theorem or_shl4F : ∀ a b : Fin 16, bits .or .u8 ((a.val : Int) * 16) (b.val : Int) = ((a.val * 16 + b.val : Nat) : Int) := by decide +kernel
theorem or_shl4 (a b : Nat) (ha : a < 16) (hb : b < 16) : bits .or .u8 ((a : Int) * 16) (b : Int) = ((a * 16 + b : Nat) : Int) := or_shl4F ⟨a, ha⟩ ⟨b, hb⟩
set_option maxRecDepth 100000 in
set_option maxHeartbeats 6400000 in
theorem unhex_any (s : List UInt8) (hs : s.length ≤ 281474976710656) (w : World) : Calls Try.prog 15 #[.string (S s)] w (UnhexPost s w) := by
  obtain ⟨i0, hi, hz0, hz1, hz2⟩ := info_parts info5
  have hz : (S s).size = s.length := S_size s
  rw [← hz] at hs
  by_cases hodd : s.length % 2 = 1
  · have hu : Hid (unhexL s = none) := unhexL_odd s hodd
    have ho : (((S s).size : Int) % 2 != 0) = true := by simp; omega
    replace hz := Lib.hid hz
    clear hodd
    go_enter Try.func15, Try.ntmps15
    go_wp2
    go_ret2
    unfold UnhexPost; rw [hu.out]
    exact ⟨rfl, Below.refl _ _⟩
  · obtain ⟨n, hn⟩ : ∃ n, s.length = 2 * n := ⟨s.length / 2, by omega⟩
    have hnS : (S s).size = 2 * n := by omega
    have ho : (((S s).size : Int) % 2 != 0) = false := by simp; omega
    have hq : ((S s).size : Int) / 2 = (n : Int) := by omega
    replace hz := Lib.hid hz
    replace hn := Lib.hid hn
    have hn2 : n ≤ 140737488355328 := by omega
    replace hnS := Lib.hid hnS
    clear hodd
    go_enter Try.func15, Try.ntmps15
    go_wp2_with (at_make; refine wpList_make_full _ rfl _ _ 36 rfl w.heap.size 5 i0 (.int .u8 0) 1 Try.underlying36 hi hz0 hz1 .i64 .i64 _ _ n rfl rfl rfl rfl ?b2 ?b3 ?b4 ?_)
    case b2 => rw [hz2]; omega
    case b3 => unfold maxLen; omega
    case b4 => exact Nat.le_refl _
    intro w1 ho1 hg1
    have ho1' : w1.ownsRow w.heap.size 5 1 (.slice (some ⟨w.heap.size, 0, none⟩) n n) n (byteCells ([] ++ List.replicate (n - 0) 0)) := by
      have := ho1; rw [zeros_bytes] at this; exact this
    have hB1 : Below w.heap.size w w1 := (Below.refl w.heap.size w).grown hg1 (Nat.le_refl _) (by intro g hg; cases hg)
    clear ho1 hg1
    replace ho1' := Lib.hid ho1'
    replace hB1 := Lib.hid hB1
    go_wp2
    go_loopw [5, 6, 7, 8, 9, 20] (fun _ _ _ _ _ iv wr => ∃ (i : Nat) (pre : List UInt8), i ≤ n ∧ iv = .int .i64 i ∧ pre.length = i ∧ Hid (unhexL s = (unhexL (s.drop (2 * i))).map (pre ++ ·)) ∧ Hid (wr.ownsRow w.heap.size 5 1 (.slice (some ⟨w.heap.size, 0, none⟩) n n) n (byteCells (pre ++ List.replicate (n - i) 0))) ∧ Hid (Below w.heap.size w wr)) (fun _ _ _ _ _ iv _ => n - (intOf iv).toNat)
    case atStart => exact ⟨0, [], by omega, rfl, rfl, by show _ = _; simp, ho1', hB1⟩
    case round =>
      obtain ⟨i, pre, hik, rfl, hpl, HU, HO, HB⟩ := hrel
      clear ho1' hB1 ho hq
      by_cases hlt : i < n
      · have hi1 : 2 * i + 1 < (S s).size := by rw [hnS.out]; omega
        have hi0 : 2 * i < (S s).size := by omega
        have hst := unhexL_step s (2 * i) hi1
        obtain ⟨a, ha⟩ : ∃ a, (S s)[2 * i] = a := ⟨_, rfl⟩
        obtain ⟨b, hb⟩ : ∃ b, (S s)[2 * i + 1] = b := ⟨_, rfl⟩
        rw [ha, hb] at hst
        replace hst := Lib.hid hst
        by_cases da : isD a = true
        · by_cases db : isD b = true
          · obtain ⟨x, hx⟩ : ∃ x, UInt8.ofNat (valD a * 16 + valD b) = x := ⟨_, rfl⟩
            obtain ⟨va, hva⟩ : ∃ v, valD a = v := ⟨_, rfl⟩
            obtain ⟨vb, hvb⟩ : ∃ v, valD b = v := ⟨_, rfl⟩
            have la := (hexD_back a da).2
            have lb := (hexD_back b db).2
            have qa := digit_yes a da va hva
            have qb := digit_yes b db vb hvb
            rw [hva] at la hx
            rw [hvb] at lb hx
            have hor := or_shl4 va vb la lb
            rw [show va * 16 + vb = x.toNat by rw [← hx, byte_back _ (by omega)]] at hor
            have hst2 : unhexL s = (unhexL (s.drop (2 * (i + 1)))).map (pre ++ [x] ++ ·) := by
              rw [HU.out, hst.out, if_pos ⟨da, db⟩, hva, hvb, hx, Option.map_map]
              congr 1
              funext t; simp
            have hc := HO.out.cellAt i (by omega)
            rw [List.getElem?_eq_getElem (by rw [byteCells_length, List.length_append, List.length_replicate]; omega)] at hc
            have hf := HO.out.frozenAt i
            have hs2 := HO.out.stored i (.int .u8 x.toNat)
            rw [bytes_set, pre_set pre n i x hlt hpl] at hs2
            have ho2 := Lib.hid hs2.1
            have hb2 := Lib.hid (HB.out.grown hs2.2 HB.out.size (by intro g hg; injection hg with hg; subst hg; exact Nat.le_refl _))
            clear hs2
            replace hx := Lib.hid hx
            replace hva := Lib.hid hva
            replace hvb := Lib.hid hvb
            replace hst2 := Lib.hid hst2
            replace da := Lib.hid da
            replace db := Lib.hid db
            go_wp2_with fail
            refine (qa _).mono ?_
            rintro e w' ⟨rfl, rfl⟩
            go_wp2_with fail
            refine (qb _).mono ?_
            rintro e w' ⟨rfl, rfl⟩
            clear qa qb
            go_wp2
            go_roundw
            case rel => exact ⟨i + 1, pre ++ [x], by omega, by go_num, by rw [List.length_append, hpl]; rfl, hst2, ho2, hb2⟩
            case measure => simp [intOf]; omega
          · have hu : unhexL s = none := by rw [HU.out, hst.out, if_neg (fun h => db h.2)]; rfl
            obtain ⟨va, hva⟩ : ∃ v, valD a = v := ⟨_, rfl⟩
            have qa := digit_yes a da va hva
            have qb := digit_no b db
            replace hu := Lib.hid hu
            replace da := Lib.hid da
            replace db := Lib.hid db
            replace hva := Lib.hid hva
            go_wp2_with fail
            refine (qa _).mono ?_
            rintro e w' ⟨rfl, rfl⟩
            go_wp2_with fail
            refine (qb _).mono ?_
            rintro e w' ⟨rfl, rfl⟩
            clear qa qb
            go_wp2
            go_ret2
            unfold UnhexPost; rw [hu.out]
            exact ⟨rfl, HB.out⟩
        · have hu : unhexL s = none := by rw [HU.out, hst.out, if_neg (fun h => da h.1)]; rfl
          have qa := digit_no a da
          have qb := digit_any b
          obtain ⟨vb, tb, htb⟩ : ∃ (v : Nat) (t : Bool), digV b = .tuple #[.int .u8 v, .bool t] := by
            unfold digV; split
            · exact ⟨_, _, rfl⟩
            · exact ⟨0, _, rfl⟩
          rw [htb] at qb
          replace htb := Lib.hid htb
          replace hu := Lib.hid hu
          replace da := Lib.hid da
          go_wp2_with fail
          refine (qa _).mono ?_
          rintro e w' ⟨rfl, rfl⟩
          go_wp2_with fail
          refine (qb _).mono ?_
          rintro e w' ⟨rfl, rfl⟩
          clear qa qb
          go_wp2
          go_ret2
          unfold UnhexPost; rw [hu.out]
          exact ⟨rfl, HB.out⟩
      · have hik2 : i = n := by omega
        subst hik2
        have hu : unhexL s = some pre := by
          rw [HU.out, List.drop_eq_nil_of_le (by rw [hn.out]; exact Nat.le_refl _)]
          show some (pre ++ []) = _
          rw [List.append_nil]
        have hcv := conv_own HO.out
        rw [Nat.sub_self, List.replicate_zero, List.append_nil] at hcv
        replace hu := Lib.hid hu
        go_wp2
        go_ret2
        unfold UnhexPost; rw [hu.out]
        exact ⟨rfl, HB.out⟩
end Go.Proofs.Ytlofmaonlppmiaa
