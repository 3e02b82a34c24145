/- Walks of package words: escapes are written. -/
import Derived.Test.YtcgdocdpdapglaaW6
import Derived.Test.YtcgdocdpdapglaaPlain3
import Derived.Deep.RegionHeld3
import Derived.Deep.RegionLaw
namespace Go.Proofs.Ytcgdocdpdapglaa
open Go.RowKit Go.Lib
theorem info5 : (Try.prog.info? 5).map (fun i => (i.zero, i.size, i.bytes)) = some (some (.int .u8 0), 1, 1) := by kernel_rfl
/-- A row of bytes that the call owns. -/
abbrev OwnB (w : World) (B : Nat) (v : Value) (l : List UInt8) : Prop := w.ownsRow B 5 1 v l.length (byteCells l)
theorem step_own {P : Program} {ops : Array Oper} {o : Oper} {a : Act} {w : World} {K : Act → World → Prop} {Q : Exit → Act → World → Prop} {E : Prop} (hgd : o.guard = none) (s x : Operand) (t : TypeId)
    (ho : o.op = .call { callee := .builtin .append, args := #[s, x], argTypes := #[t, t] })
    (base : Nat) (e : TypeId) (i : TypeInfo) (z : Value) (size bytes : Nat) (ht : P.underlying t = some (.slice e)) (hi : P.info? e = some i) (hz : i.zero = some z)
    (hsize : i.size = size) (hby : i.bytes = bytes) (hzs : z.cells.size = size) (hsz : 0 < size)
    (v : Value) (n : Nat) (xs : List Value) (hs : a.eval s = v) (hown : w.ownsRow base e size v n xs)
    (ad : Addr) (m c : Nat) (news : List Value) (hx : a.eval x = .slice (some ad) m c) (hl : news.length = m * size) (hnews : ∀ j u, news[j]? = some u → w.cell? (ad.add j) = some u) (h1 : ∀ u ∈ news, u.oneCell' = true)
    (h63 : n + m ≤ maxLen) (hbytes : (n + m) * bytes ≤ 140737488355328) (hbase : base ≤ w.heap.size)
    (h : ∀ v' w', w'.ownsRow base e size v' (n + m) (xs ++ news) → w.grownBy w' v.ownBlock → K (a.put o.dst v') w') :
    if Region.wanted o (yielded ops a.tmps) = true then Oper.wp P o a w K Q else E := by
  have hw : Region.wanted o (yielded ops a.tmps) = true := by simp [Region.wanted, hgd]
  rw [if_pos hw]
  exact wp_append_own w s x t ho base e i z size bytes ht hi hz hsize hby hzs hsz v n xs hs hown ad m c news hx hl hnews h1 h63 hbytes hbase fun v' w' h2 h3 _ => h v' w' h2 h3
theorem and15F : ∀ b : Fin 256, bits BinOp.and IntKind.u8 (b.val : Int) 15 = (b.val : Int) % 16 := by decide +kernel
theorem and15 (b : UInt8) : bits BinOp.and IntKind.u8 (b.toNat : Int) 15 = (b.toNat : Int) % 16 := and15F ⟨b.toNat, b.toNat_lt⟩
def digs : ByteArray := ⟨#[48, 49, 50, 51, 52, 53, 54, 55, 56, 57, 97, 98, 99, 100, 101, 102]⟩
theorem digs_size : digs.size = 16 := rfl
theorem digs_atF : ∀ i : Fin 16, digs.data.toList.getD i.val 0 = hexN i.val := by decide +kernel
theorem digs_at (i : Nat) (h : i < digs.size) : digs[i] = hexN i := by
  rw [← getD_at digs i h]; exact digs_atF ⟨i, h⟩
theorem hexs_snoc (m : List UInt8) (k : Nat) (h : k < (S m).size) : (m.take (k + 1)).flatMap hexB = (m.take k).flatMap hexB ++ [92, 120, hexN ((S m)[k].toNat / 16), hexN ((S m)[k].toNat % 16)] := by
  have h2 : k < m.length := by rw [← S_size]; exact h
  rw [List.take_succ_eq_append_getElem h2, List.flatMap_append]
  congr 1
def HexPost (B : Nat) (l m : List UInt8) (w : World) (e : Ending) (w' : World) : Prop :=
  ∃ v, e = .returned v ∧ OwnB w' B v (l ++ m.flatMap hexB) ∧ Below B w w'
set_option maxHeartbeats 3200000 in
theorem appendHex_any (B : Nat) (v : Value) (l m : List UInt8) (w : World) (hB : B ≤ w.heap.size) (hown : OwnB w B v l) (hm : l.length + 4 * m.length ≤ 35184372088832) :
    Calls Try.prog 31 #[v, .string (S m)] w (HexPost B l m w) := by
  obtain ⟨i0, hi, hz0, hz1, hz2⟩ := info_parts info5
  go_enter Try.func31, Try.ntmps31
  go_wp2
  go_loopw [0, 5, 8] (fun v _ i wr => ∃ k : Nat, k ≤ m.length ∧ i = .int .i64 k ∧ wr.ownsRow B 5 1 v (l.length + 4 * k) (byteCells (l ++ (m.take k).flatMap hexB)) ∧ Hid (Below B w wr) ∧ B ≤ wr.heap.size) (fun _ _ i _ => m.length - (intOf i).toNat)
  case atStart => exact ⟨0, Nat.zero_le _, rfl, by simpa using hown, Below.refl _ _, hB⟩
  case round =>
    obtain ⟨k, hk, rfl, hown1, HB, hB1⟩ := hrel
    clear hown
    obtain ⟨A, cap, rfl⟩ := own_form hown1
    have hsz : (S m).size = m.length := S_size m
    by_cases hlt : k < m.length
    · have hlt2 : k < (S m).size := by rw [S_size]; exact hlt
      have hsz2 := Lib.hid hsz
      clear hsz
      go_wp2_with fail
      have hb := (S m)[k].toNat_lt
      have hbits := and15 (S m)[k]
      obtain ⟨c1, hc1⟩ : ∃ c1, hexN ((S m)[k].toNat / 16) = c1 := ⟨_, rfl⟩
      obtain ⟨c2, hc2⟩ : ∃ c2, hexN ((S m)[k].toNat % 16) = c2 := ⟨_, rfl⟩
      have hd1 : ∀ (h : (((S m)[k].toNat : Int) / 16).toNat < (⟨#[48, 49, 50, 51, 52, 53, 54, 55, 56, 57, 97, 98, 99, 100, 101, 102]⟩ : ByteArray).size), (⟨#[48, 49, 50, 51, 52, 53, 54, 55, 56, 57, 97, 98, 99, 100, 101, 102]⟩ : ByteArray)[((((S m)[k].toNat : Int) / 16).toNat)]'h = c1 := by
        intro h
        have e : (((S m)[k].toNat : Int) / 16).toNat = (S m)[k].toNat / 16 := by omega
        rw [← hc1, ← digs_at _ (show (S m)[k].toNat / 16 < digs.size by rw [digs_size]; omega)]
        congr 1
      have hd2 : ∀ (h : (((S m)[k].toNat : Int) % 16).toNat < (⟨#[48, 49, 50, 51, 52, 53, 54, 55, 56, 57, 97, 98, 99, 100, 101, 102]⟩ : ByteArray).size), (⟨#[48, 49, 50, 51, 52, 53, 54, 55, 56, 57, 97, 98, 99, 100, 101, 102]⟩ : ByteArray)[((((S m)[k].toNat : Int) % 16).toNat)]'h = c2 := by
        intro h
        have e : (((S m)[k].toNat : Int) % 16).toNat = (S m)[k].toNat % 16 := by omega
        rw [← hc2, ← digs_at _ (show (S m)[k].toNat % 16 < digs.size by rw [digs_size]; omega)]
        congr 1
      replace hc1 := Lib.hid hc1
      replace hc2 := Lib.hid hc2
      have q0 : (0 : Int) ≤ ((S m)[k].toNat : Int) / 16 := by omega
      have q1 : ((S m)[k].toNat : Int) / 16 < 16 := by omega
      have q2 : (0 : Int) ≤ ((S m)[k].toNat : Int) % 16 := by omega
      have q3 : ((S m)[k].toNat : Int) % 16 < 16 := by omega
      have hmax : (l.length + 4 * k) + 4 ≤ maxLen := by unfold maxLen; omega
      have hby : (l.length + 4 * k + 4) * 1 ≤ 140737488355328 := by omega
      have h1c : ∀ u ∈ [Value.int .u8 92, Value.int .u8 120, Value.int .u8 c1.toNat, Value.int .u8 c2.toNat], u.oneCell' = true := by
        intro u hu; simp at hu; rcases hu with rfl | rfl | rfl | rfl <;> rfl
      have hbs : B ≤ (wr.alloc (.cells #[Value.int .u8 92, Value.int .u8 120, Value.int .u8 c1.toNat, Value.int .u8 c2.toNat] 5)).drew.heap.size := by
        show B ≤ (wr.alloc _).heap.size
        rw [World.size_alloc]; omega
      replace hmax := Lib.hid hmax
      replace hby := Lib.hid hby
      replace h1c := Lib.hid h1c
      replace hbs := Lib.hid hbs
      have hrow : ∀ g, (Value.slice A (l.length + 4 * k) cap).ownBlock = some g → B ≤ g := fun g hg => (hown1.lt g hg).1
      have hsn : ∀ x, byteCells (l ++ (m.take k).flatMap hexB) ++ [Value.int .u8 92, Value.int .u8 120, Value.int .u8 c1.toNat, Value.int .u8 c2.toNat] = x → byteCells (l ++ (m.take (k + 1)).flatMap hexB) = x := by
        intro x hx
        rw [← hx, hexs_snoc m k hlt2, hc1.out, hc2.out, ← List.append_assoc, byteCells_append (l ++ _)]
        rfl
      replace hrow := Lib.hid hrow
      replace hsn := Lib.hid hsn
      go_region_held3 (fun _ => True) (trivial)
        ((refine step_own (by rfl) _ _ _ (by rfl) B 5 i0 (.int .u8 0) 1 1 Try.underlying42 hi hz0 hz1 hz2 rfl (by omega) _ _ _ (by rfl) ((hown1.alloc _).drew) ⟨wr.heap.size, 0, none⟩ 4 4 [.int .u8 92, .int .u8 120, .int .u8 c1.toNat, .int .u8 c2.toNat] (by rfl) (by rfl) (row_new wr [.int .u8 92, .int .u8 120, .int .u8 c1.toNat, .int .u8 c2.toNat] 5) h1c.out hmax.out hby.out hbs.out ?_; intro v' w2 hown2 hgrow))
      all_goals
        clear hown1
        have hB2 : Below B w w2 := by
          refine (((HB.out.alloc hB1 _).drew).grown hgrow hbs.out ?_)
          intro g hg
          exact hrow.out g hg
        have hrow2 : w2.ownsRow B 5 1 v' (l.length + 4 * (k + 1)) (byteCells (l ++ (m.take (k + 1)).flatMap hexB)) := by
          rw [hsn.out _ rfl]; exact hown2
        clear hown2 hgrow
        replace hB2 := Lib.hid hB2
        replace hrow2 := Lib.hid hrow2
        have hB3 : B ≤ w2.heap.size := Nat.le_trans hB hB2.out.size
        go_wp2
        go_roundw
        case rel => exact ⟨k + 1, by omega, by go_num, hrow2.out, hB2, hB3⟩
        case measure => simp [intOf]; omega
    · have hkk : k = m.length := by omega
      subst hkk
      go_wp2
      go_ret
      refine ⟨_, rfl, ?_, HB.out⟩
      rw [List.take_length] at hown1
      unfold OwnB
      rw [show (l ++ m.flatMap hexB).length = l.length + 4 * m.length by rw [List.length_append, hexs_len]]
      exact hown1
end Go.Proofs.Ytcgdocdpdapglaa
