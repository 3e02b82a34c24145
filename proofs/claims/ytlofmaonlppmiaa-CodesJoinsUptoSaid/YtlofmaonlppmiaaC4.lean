/- Walks of the document's answer for package codes: the bytes of digits. -/
import Derived.Test.YtlofmaonlppmiaaC3
namespace Go.Proofs.Ytlofmaonlppmiaa
open Go.RowKit Go.Lib
def dvZ (c : Nat) : Int := if 48 ≤ c ∧ c ≤ 57 then (c : Int) - 48 else (c : Int) - 87
def nkL (l : List UInt8) : Nat → Int
  | 0 => 0
  | k + 1 => 16 * nkL l k + dvZ (l.getD k 0).toNat
def candB (l : List UInt8) : UInt8 := UInt8.ofNat ((nkL l 2) % 256).toNat
def candL : List UInt8 → List UInt8
  | [] => []
  | [_] => []
  | a :: b :: t => candB [a, b] :: candL t
theorem dvZ_dig (c : UInt8) (h : isD c = true) : dvZ c.toNat = (valD c : Int) ∧ valD c < 16 := by
  rw [isD_iff] at h
  unfold dvZ valD
  rcases h with h | h
  · rw [if_pos (by omega), if_pos (by omega)]; omega
  · rw [if_neg (by omega), if_neg (by omega)]; omega
theorem candL_of : ∀ s t : List UInt8, unhexL s = some t → candL s = t
  | [], t, h => by injection h with h
  | [_], t, h => by cases h
  | a :: b :: s, t, h => by
    rw [unhexL] at h
    split at h
    · rename_i hd
      cases hs : unhexL s with
      | none => rw [hs] at h; cases h
      | some u =>
        rw [hs] at h
        injection h with h
        subst h
        obtain ⟨a1, a2⟩ := dvZ_dig a hd.1
        obtain ⟨b1, b2⟩ := dvZ_dig b hd.2
        rw [candL, candL_of s u hs]
        congr 1
        unfold candB
        have e : nkL [a, b] 2 = 16 * (16 * 0 + dvZ a.toNat) + dvZ b.toNat := rfl
        rw [e, a1, b1]
        have q : ((16 * (16 * 0 + (valD a : Int)) + (valD b : Int)) % 256).toNat = valD a * 16 + valD b := by omega
        rw [q]
    · cases h
theorem unhex_cand (s : List UInt8) : unhexL s = if hexL (candL s) = s then some (candL s) else none := unhex_check s (candL s) (candL_of s)
theorem candL_len : ∀ s : List UInt8, (candL s).length ≤ s.length
  | [] => by simp [candL]
  | [_] => by simp [candL]
  | a :: b :: t => by have := candL_len t; simp only [candL, List.length_cons]; omega
theorem candL_step (s : List UInt8) (i : Nat) (h : i + 1 < (S s).size) : candL (s.drop i) = candB (s.drop i) :: candL (s.drop (i + 2)) := by
  rw [drop_cons s i (by omega), drop_cons s (i + 1) h]
  rfl
theorem candL_end (s : List UInt8) (i : Nat) (h : (S s).size ≤ i + 1) : candL (s.drop i) = [] := by
  by_cases h2 : i < (S s).size
  · rw [drop_cons s i h2, List.drop_eq_nil_of_le (by rw [← S_size]; omega)]; rfl
  · rw [List.drop_eq_nil_of_le (by rw [← S_size]; omega)]; rfl
theorem nkL_bd (l : List UInt8) (k : Nat) (hk : k ≤ 2) : -10000 ≤ nkL l k ∧ nkL l k ≤ 10000 := by
  have d : ∀ c : UInt8, -100 ≤ dvZ c.toNat ∧ dvZ c.toNat ≤ 200 := fun c => by
    have := c.toNat_lt; unfold dvZ; split <;> omega
  have h0 := d (l.getD 0 0)
  have h1 := d (l.getD 1 0)
  have e0 : nkL l 0 = 0 := rfl
  have e1 : nkL l 1 = 16 * 0 + dvZ (l.getD 0 0).toNat := rfl
  have e2 : nkL l 2 = 16 * (16 * 0 + dvZ (l.getD 0 0).toNat) + dvZ (l.getD 1 0).toNat := rfl
  have : k = 0 ∨ k = 1 ∨ k = 2 := by omega
  rcases this with rfl | rfl | rfl
  · rw [e0]; omega
  · rw [e1]; omega
  · rw [e2]; omega
theorem nkL_next (s : List UInt8) (i k : Nat) (h : i + k < (S s).size) : nkL (s.drop i) (k + 1) = 16 * nkL (s.drop i) k + dvZ (S s)[i + k].toNat := by
  rw [byte_at s (i + k) h]
  show 16 * nkL (s.drop i) k + dvZ ((s.drop i).getD k 0).toNat = _
  rw [getD_dropN]
def UnhexV : Option (List UInt8) → Value
  | some p => .tuple #[.string (S p), .int .i64 0]
  | none => .tuple #[.string (S []), .int .i64 21]
def UnhexPost (s : List UInt8) (w : World) (e : Ending) (w' : World) : Prop := e = .returned (UnhexV (unhexL s)) ∧ Below w.heap.size w w'
theorem hexR_is (l m : List UInt8) (h : hexL l = m) (hs : l.length ≤ 8796093022208) (w : World) : Calls Try.prog 20 #[.string (S l)] w fun e w' => e = .returned (.string (S m)) ∧ Below w.heap.size w w' := by
  subst h
  exact hexR_any l hs w
set_option maxRecDepth 100000 in
set_option maxHeartbeats 6400000 in
theorem unhexR_any (s : List UInt8) (hs : s.length ≤ 8796093022208) (w : World) : Calls Try.prog 16 #[.string (S s)] w (UnhexPost s w) := by
  obtain ⟨i0, hi, hz0, hz1, hz2⟩ := info_parts info5
  have hz : (S s).size = s.length := S_size s
  rw [← hz] at hs
  replace hz := Lib.hid hz
  have er := Lib.hid (empty_row w w.heap.size 5 (Nat.le_refl _))
  go_enter Try.func16, Try.ntmps16
  go_wp2
  go_loopw [4, 5] (fun v iv wr => ∃ (i : Nat) (pre : List UInt8), i ≤ (S s).size ∧ iv = .int .i64 i ∧ wr.ownsRow w.heap.size 5 1 v pre.length (byteCells pre) ∧ Hid (Below w.heap.size w wr) ∧ Hid (pre ++ candL (s.drop i) = candL s) ∧ pre.length ≤ i) (fun _ iv _ => (S s).size - (intOf iv).toNat)
  case atStart => exact ⟨0, [], by omega, rfl, er.out, (Below.refl _ _).alloc (Nat.le_refl _) _, rfl, by simp⟩
  case round =>
    obtain ⟨i, pre, hil, rfl, hown, HB, HC, hpl⟩ := hrel
    clear er
    obtain ⟨A, cap, rfl⟩ := own_form hown
    have hbw := HB.out.size
    by_cases hlt : i + 1 < (S s).size
    · have hst := candL_step s i hlt
      obtain ⟨x, hx⟩ : ∃ x, candB (s.drop i) = x := ⟨_, rfl⟩
      rw [hx] at hst
      replace hst := Lib.hid hst
      replace hx := Lib.hid hx
      go_wp2
      go_loop [6, 7, 8] (fun nv kv _ => ∃ (k : Nat) (n : Int), k ≤ 2 ∧ kv = .int .i64 k ∧ nv = .int .i64 n ∧ -10000 ≤ n ∧ n ≤ 10000 ∧ Hid (nkL (s.drop i) k = n)) (fun _ kv _ => 2 - (intOf kv).toNat)
      case atStart => exact ⟨0, 0, by omega, rfl, rfl, by omega, by omega, rfl⟩
      case round =>
        obtain ⟨k, n, hk, rfl, rfl, hn1, hn2, HN⟩ := hrel
        by_cases hk2 : k < 2
        · have hik : i + k < (S s).size := by omega
          have hb := (S s)[i + k].toNat_lt
          have hnext := nkL_next s i k hik
          rw [HN.out] at hnext
          have hbd := nkL_bd (s.drop i) (k + 1) (by omega)
          rw [hnext] at hbd
          by_cases hd : 48 ≤ (S s)[i + k].toNat ∧ (S s)[i + k].toNat ≤ 57
          · have hdv : dvZ (S s)[i + k].toNat = ((S s)[i + k].toNat : Int) - 48 := by unfold dvZ; rw [if_pos hd]
            rw [hdv] at hnext hbd
            obtain ⟨d1, d2⟩ := hd
            have d1' : (48 : Int) ≤ ((S s)[i + k].toNat : Int) := by omega
            have d2' : ((S s)[i + k].toNat : Int) ≤ 57 := by omega
            obtain ⟨hb1, hb2⟩ := hbd
            replace hnext := Lib.hid hnext
            clear hdv d1 d2
            go_wp2
            go_round
            case rel =>
              first
              | exact ⟨k + 1, by omega, by omega, by omega, by omega, by rw [show n * 16 + (((S s)[i + k].toNat : Int) - 48) = 16 * n + (((S s)[i + k].toNat : Int) - 48) by omega]; exact hnext⟩
              | (refine ⟨trivial, ?_⟩
                 rw [show decide ((i : Int) + 1 < ((S s).size : Int)) = true from decide_eq_true (by omega)]
                 repeat apply Exists.intro
                 refine And.intro ?h ?r
                 case r => rfl
                 exact ⟨k + 1, n * 16 + (((S s)[i + k].toNat : Int) - 48), by omega, by go_num, rfl, by omega, by omega, by rw [show n * 16 + (((S s)[i + k].toNat : Int) - 48) = 16 * n + (((S s)[i + k].toNat : Int) - 48) by omega]; exact hnext⟩)
            case measure => simp [intOf]; omega
          · have hdv : dvZ (S s)[i + k].toNat = ((S s)[i + k].toNat : Int) - 87 := by unfold dvZ; rw [if_neg hd]
            rw [hdv] at hnext hbd
            obtain ⟨hb1, hb2⟩ := hbd
            replace hnext := Lib.hid hnext
            clear hdv
            by_cases d1 : (48 : Int) ≤ ((S s)[i + k].toNat : Int)
            · have d2 : (57 : Int) < ((S s)[i + k].toNat : Int) := by omega
              clear hd
              go_wp2
              go_round
              case rel =>
                first
                | exact ⟨k + 1, by omega, by omega, by omega, by omega, by rw [show n * 16 + (((S s)[i + k].toNat : Int) - 97 + 10) = 16 * n + (((S s)[i + k].toNat : Int) - 87) by omega]; exact hnext⟩
                | (refine ⟨trivial, ?_⟩
                   rw [show decide ((i : Int) + 1 < ((S s).size : Int)) = true from decide_eq_true (by omega)]
                   repeat apply Exists.intro
                   refine And.intro ?h ?r
                   case r => rfl
                   exact ⟨k + 1, n * 16 + (((S s)[i + k].toNat : Int) - 97 + 10), by omega, by go_num, rfl, by omega, by omega, by rw [show n * 16 + (((S s)[i + k].toNat : Int) - 97 + 10) = 16 * n + (((S s)[i + k].toNat : Int) - 87) by omega]; exact hnext⟩)
              case measure => simp [intOf]; omega
            · clear hd
              go_wp2
              go_round
              case rel =>
                first
                | exact ⟨k + 1, by omega, by omega, by omega, by omega, by rw [show n * 16 + (((S s)[i + k].toNat : Int) - 97 + 10) = 16 * n + (((S s)[i + k].toNat : Int) - 87) by omega]; exact hnext⟩
                | (refine ⟨trivial, ?_⟩
                   rw [show decide ((i : Int) + 1 < ((S s).size : Int)) = true from decide_eq_true (by omega)]
                   repeat apply Exists.intro
                   refine And.intro ?h ?r
                   case r => rfl
                   exact ⟨k + 1, n * 16 + (((S s)[i + k].toNat : Int) - 97 + 10), by omega, by go_num, rfl, by omega, by omega, by rw [show n * 16 + (((S s)[i + k].toNat : Int) - 97 + 10) = 16 * n + (((S s)[i + k].toNat : Int) - 87) by omega]; exact hnext⟩)
              case measure => simp [intOf]; omega
        · have hk3 : k = 2 := by omega
          have hxn : IntKind.u8.wrap n = (x.toNat : Int) := by
            have h2 := HN.out
            rw [hk3] at h2
            rw [← hx.out]
            unfold candB
            rw [h2]
            simp [IntKind.wrap, IntKind.signed, IntKind.bits, UInt8.toNat_ofNat']
            omega
          have hxm : n % 256 = (x.toNat : Int) := by
            rw [← hxn]; simp [IntKind.wrap, IntKind.signed, IntKind.bits]
          clear hk3
          go_wp2_with (at_builtin; refine wpList_append_own _ rfl _ _ 36 rfl w.heap.size 5 i0 (.int .u8 0) 1 1 Try.underlying36 hi hz0 hz1 hz2 rfl (by decide) _ _ _ rfl (hown.alloc _) ⟨wr.heap.size, 0, none⟩ 1 1 [.int .u8 x.toNat] rfl rfl ?c1 ?c2 ?c3 ?c4 ?c5 ?_)
          case c2 => rfl
          case c3 => unfold maxLen; omega
          case c4 => omega
          case c5 => omega
          intro v' w2 ho2 hgr _
          have ho3 : w2.ownsRow w.heap.size 5 1 v' (pre ++ [x]).length (byteCells (pre ++ [x])) := by
            rw [List.length_append, byteCells_append]; exact ho2
          have hb2 := Lib.hid ((HB.out.alloc hbw _).grown hgr (by rw [World.size_alloc]; omega) fun g hg => (hown.lt g hg).1)
          clear ho2 hgr hown hxn hxm
          replace ho3 := Lib.hid ho3
          go_wp2
          go_roundw
          case rel => exact ⟨i + 2, pre ++ [x], by omega, by go_num, ho3.out, hb2, by show _ = _; rw [← HC.out, hst.out, List.append_assoc]; rfl, by rw [List.length_append]; simp; omega⟩
          case measure => simp [intOf]; omega
    · have hpre : pre = candL s := by rw [← HC.out, candL_end s i (by omega), List.append_nil]
      have hcv := conv_own hown
      have hlen : pre.length ≤ 8796093022208 := by omega
      by_cases hex : hexL pre = s
      · have hu : unhexL s = some pre := by rw [unhex_cand, ← hpre, if_pos hex]
        have bb : ((S s).toList == (S s).toList) = true := by simp
        replace hu := Lib.hid hu
        replace hpre := Lib.hid hpre
        replace hex := Lib.hid hex
        go_wp2_with fail
        refine (hexR_is pre s hex.out hlen _).mono ?_
        rintro e w1 ⟨rfl, hb1⟩
        have hown1 := ownsRow_below hown hb1
        have hcv1 := conv_own hown1
        have B1 := Lib.hid (HB.out.trans (hb1.mono hbw))
        clear hb1
        go_wp2
        go_ret2
        unfold UnhexPost; rw [hu.out]
        exact ⟨rfl, B1.out⟩
      · have hu : unhexL s = none := by rw [unhex_cand, ← hpre, if_neg hex]
        have bb : ((S (hexL pre)).toList == (S s).toList) = false := by rw [S_beq]; simpa using hex
        replace hu := Lib.hid hu
        replace hpre := Lib.hid hpre
        replace hex := Lib.hid hex
        go_wp2_with fail
        refine (hexR_any pre hlen _).mono ?_
        rintro e w1 ⟨rfl, hb1⟩
        have B1 := Lib.hid (HB.out.trans (hb1.mono hbw))
        clear hb1
        go_wp2
        go_ret2
        unfold UnhexPost; rw [hu.out]
        exact ⟨rfl, B1.out⟩
end Go.Proofs.Ytlofmaonlppmiaa
