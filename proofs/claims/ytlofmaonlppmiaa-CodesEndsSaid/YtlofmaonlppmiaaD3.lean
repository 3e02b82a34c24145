/- Walks of package codes: digits are written. -/
import Derived.Test.YtlofmaonlppmiaaC3
import Derived.Test.YtlofmaonlppmiaaD1
namespace Go.Proofs.Ytlofmaonlppmiaa
open Go.RowKit Go.Lib
theorem step_fits {P : Program} {ops : Array Oper} {o : Oper} {a : Act} {w : World} {K : Act → World → Prop} {Q : Exit → Act → World → Prop} {E : Prop} (hgd : o.guard = none) (s x : Operand) (t : TypeId)
    (ho : o.op = .call { callee := .builtin .append, args := #[s, x], argTypes := #[t, t] })
    (base : Nat) (e : TypeId) (i : TypeInfo) (size : Nat) (ht : P.underlying t = some (.slice e)) (hi : P.info? e = some i) (hsize : i.size = size)
    (g n cap : Nat) (xs : List Value) (hs : a.eval s = .slice (some ⟨g, 0, none⟩) n cap) (hown : w.ownsRow base e size (.slice (some ⟨g, 0, none⟩) n cap) n xs)
    (ad : Addr) (m c : Nat) (news : List Value) (hx : a.eval x = .slice (some ad) m c) (hl : news.length = m * size) (hnews : ∀ j u, news[j]? = some u → w.cell? (ad.add j) = some u) (h1 : ∀ u ∈ news, u.oneCell' = true)
    (hroom : n + m ≤ cap)
    (h : ∀ w', w'.ownsRow base e size (.slice (some ⟨g, 0, none⟩) (n + m) cap) (n + m) (xs ++ news) → w.grownBy w' (some g) → K (a.put o.dst (.slice (some ⟨g, 0, none⟩) (n + m) cap)) w') :
    if Region.wanted o (yielded ops a.tmps) = true then Oper.wp P o a w K Q else E := by
  have hw : Region.wanted o (yielded ops a.tmps) = true := by simp [Region.wanted, hgd]
  rw [if_pos hw]
  obtain ⟨w', hr, h2, h3⟩ := run_append_fits (P := P) w base t o.type e i size ht hi hsize g n cap xs hown ad m c news hl hnews h1 hroom
  unfold Oper.wp execOp
  simp only [ho, resolve, invoke, builtin, Sem.run_bind, Sem.run_pure, Result.andThen_ok, List.map_toArray, List.map_cons, List.map_nil, hs, hx, hr]
  exact h w' h2 h3
theorem and15F : ∀ b : Fin 256, bits BinOp.and IntKind.u8 (b.val : Int) 15 = (b.val : Int) % 16 := by decide +kernel
theorem and15 (b : UInt8) : bits BinOp.and IntKind.u8 (b.toNat : Int) 15 = (b.toNat : Int) % 16 := and15F ⟨b.toNat, b.toNat_lt⟩
def digs : ByteArray := ⟨#[48, 49, 50, 51, 52, 53, 54, 55, 56, 57, 97, 98, 99, 100, 101, 102]⟩
theorem digs_size : digs.size = 16 := rfl
theorem digs_atF : ∀ i : Fin 16, digs.data.toList.getD i.val 0 = hexD i.val := by decide +kernel
theorem digs_at (i : Nat) (h : i < digs.size) : digs[i] = hexD i := by
  rw [← getD_at digs i h]; exact digs_atF ⟨i, h⟩
set_option maxRecDepth 100000 in
set_option maxHeartbeats 6400000 in
theorem hex_any (s : List UInt8) (hs : s.length ≤ 140737488355328) (w : World) : Calls Try.prog 19 #[.string (S s)] w (HexPost s w) := by
  obtain ⟨i0, hi, hz0, hz1, hz2⟩ := info_parts info5
  have hz : (S s).size = s.length := S_size s
  rw [← hz] at hs
  replace hz := Lib.hid hz
  obtain ⟨N, hN⟩ : ∃ N, 2 * (S s).size = N := ⟨_, rfl⟩
  have hcc : (2 : Int) * ((S s).size : Int) = (N : Int) := by omega
  have hN2 : N ≤ 281474976710656 := by omega
  replace hN := Lib.hid hN
  go_enter Try.func19, Try.ntmps19
  go_wp2_with (at_make; refine wpList_make_own _ rfl _ _ 36 rfl w.heap.size 5 i0 (.int .u8 0) 1 Try.underlying36 hi hz0 hz1 .i64 .i64 _ N rfl rfl rfl ?b2 ?b3 ?b4 ?_)
  case b2 => rw [hz2]; omega
  case b3 => unfold maxLen; omega
  case b4 => exact Nat.le_refl _
  intro w1 ho1 hg1
  have hB1 := Lib.hid ((Below.refl w.heap.size w).grown hg1 (Nat.le_refl _) (by intro g hg; cases hg))
  clear hg1
  replace ho1 := Lib.hid ho1
  go_wp2
  go_loopw [3, 4, 11] (fun v _ iv wr => ∃ i : Nat, i ≤ (S s).size ∧ iv = .int .i64 i ∧ v = .slice (some ⟨w.heap.size, 0, none⟩) (2 * i) N ∧ Hid (wr.ownsRow w.heap.size 5 1 (.slice (some ⟨w.heap.size, 0, none⟩) (2 * i) N) (2 * i) (byteCells (hexL (s.take i)))) ∧ Hid (Below w.heap.size w wr)) (fun _ _ iv _ => (S s).size - (intOf iv).toNat)
  case atStart => exact ⟨0, by omega, rfl, rfl, ho1, hB1⟩
  case round =>
    obtain ⟨i, hil, rfl, rfl, HO, HB⟩ := hrel
    clear ho1 hB1 hcc
    have hbw := HB.out.size
    by_cases hlt : i < (S s).size
    · go_wp2_with fail
      have hb := (S s)[i].toNat_lt
      have hbits := and15 (S s)[i]
      have hsn : hexL (s.take (i + 1)) = hexL (s.take i) ++ [hexD ((S s)[i].toNat / 16), hexD ((S s)[i].toNat % 16)] := by rw [take_snocB s i hlt, hexL_snoc]
      obtain ⟨c1, hc1⟩ : ∃ c, hexD ((S s)[i].toNat / 16) = c := ⟨_, rfl⟩
      obtain ⟨c2, hc2⟩ : ∃ c, hexD ((S s)[i].toNat % 16) = c := ⟨_, rfl⟩
      have hd1 : ∀ (h : (((S s)[i].toNat : Int) / 16).toNat < (⟨#[48, 49, 50, 51, 52, 53, 54, 55, 56, 57, 97, 98, 99, 100, 101, 102]⟩ : ByteArray).size), (⟨#[48, 49, 50, 51, 52, 53, 54, 55, 56, 57, 97, 98, 99, 100, 101, 102]⟩ : ByteArray)[((((S s)[i].toNat : Int) / 16).toNat)]'h = c1 := by
        intro h
        have e : (((S s)[i].toNat : Int) / 16).toNat = (S s)[i].toNat / 16 := by omega
        rw [← hc1, ← digs_at _ (show (S s)[i].toNat / 16 < digs.size by rw [digs_size]; omega)]
        congr 1
      have hd2 : ∀ (h : (((S s)[i].toNat : Int) % 16).toNat < (⟨#[48, 49, 50, 51, 52, 53, 54, 55, 56, 57, 97, 98, 99, 100, 101, 102]⟩ : ByteArray).size), (⟨#[48, 49, 50, 51, 52, 53, 54, 55, 56, 57, 97, 98, 99, 100, 101, 102]⟩ : ByteArray)[((((S s)[i].toNat : Int) % 16).toNat)]'h = c2 := by
        intro h
        have e : (((S s)[i].toNat : Int) % 16).toNat = (S s)[i].toNat % 16 := by omega
        rw [← hc2, ← digs_at _ (show (S s)[i].toNat % 16 < digs.size by rw [digs_size]; omega)]
        congr 1
      rw [hc1, hc2] at hsn
      replace hc1 := Lib.hid hc1
      replace hc2 := Lib.hid hc2
      have q0 : (0 : Int) ≤ ((S s)[i].toNat : Int) / 16 := by omega
      have q1 : ((S s)[i].toNat : Int) / 16 < 16 := by omega
      have q2 : (0 : Int) ≤ ((S s)[i].toNat : Int) % 16 := by omega
      have q3 : ((S s)[i].toNat : Int) % 16 < 16 := by omega
      have hroom : 2 * i + 2 ≤ N := by have := hN.out; omega
      have h1c : ∀ u ∈ [Value.int .u8 c1.toNat, Value.int .u8 c2.toNat], u.oneCell' = true := by
        intro u hu; simp at hu; rcases hu with rfl | rfl <;> rfl
      have hbs : w.heap.size ≤ (wr.alloc (.cells #[Value.int .u8 c1.toNat, Value.int .u8 c2.toNat] 5)).drew.heap.size := by
        show w.heap.size ≤ (wr.alloc _).heap.size
        rw [World.size_alloc]; omega
      replace hroom := Lib.hid hroom
      replace h1c := Lib.hid h1c
      replace hbs := Lib.hid hbs
      replace hsn := Lib.hid hsn
      go_region_held3 (fun _ => True) (trivial)
        ((refine step_fits (by rfl) _ _ _ (by rfl) w.heap.size 5 i0 1 Try.underlying36 hi hz1 w.heap.size (2 * i) N _ (by rfl) ((HO.out.alloc _).drew) ⟨wr.heap.size, 0, none⟩ 2 2 [.int .u8 c1.toNat, .int .u8 c2.toNat] (by rfl) (by rfl) (row_new wr [.int .u8 c1.toNat, .int .u8 c2.toNat] 5) h1c.out hroom.out ?_; intro w2 ho2 hgr))
      all_goals
        have ho3 : w2.ownsRow w.heap.size 5 1 (.slice (some ⟨w.heap.size, 0, none⟩) (2 * (i + 1)) N) (2 * (i + 1)) (byteCells (hexL (s.take (i + 1)))) := by
          rw [hsn.out, byteCells_append]; exact ho2
        have hb2 := Lib.hid (((HB.out.alloc hbw _).drew).grown hgr hbs.out (by intro g hg; injection hg with hg; subst hg; exact Nat.le_refl _))
        clear ho2 hgr
        replace ho3 := Lib.hid ho3
        go_wp2
        go_roundw
        case rel => exact ⟨i + 1, by omega, by go_num, rfl, ho3, hb2⟩
        case measure => simp [intOf]; omega
    · have ht : s.take i = s := List.take_of_length_le (by have := hz.out; omega)
      have hcv := conv_own HO.out
      replace ht := Lib.hid ht
      go_wp2
      go_ret
      unfold HexPost
      refine ⟨?_, HB.out⟩
      rw [← congrArg hexL ht.out]; rfl
end Go.Proofs.Ytlofmaonlppmiaa
