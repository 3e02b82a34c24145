/- The document's answer for package scalar: Digits, Is, Reduce, walked. -/
import Derived.Test.YthlkpdfdbdfbjaaO4
set_option linter.unusedSimpArgs false
set_option linter.unusedVariables false
namespace Go.Proofs.Ythlkpdfdbdfbjaa
open Go.RowKit
def digs (l : List UInt8) : List Nat := l.map (·.toNat)
theorem digs_len (l : List UInt8) : (digs l).length = l.length := by simp [digs]
theorem digs_lt (l : List UInt8) : ∀ x ∈ digs l, x < 256 := fun x hx => by
  obtain ⟨b, _, rfl⟩ := List.mem_map.1 hx
  exact b.toNat_lt
def DgPost (l : List Nat) (w : World) (e : Ending) (w' : World) : Prop := ∃ g c, e = .returned (.slice (some ⟨g, 0, none⟩) l.length c) ∧ Below w.heap.size w w' ∧ w.heap.size ≤ g ∧ AtS w' g l
theorem Digits_any (s : List UInt8) (hs : s.length ≤ 4096) (wS : World) : Calls Try.prog 27 #[.string (S s)] wS (DgPost (digs s) wS) := by
  obtain ⟨i0, hi0, hz0, hz1, hz2⟩ := info_parts infoI
  have er := Kept.mk (empty_row wS wS.heap.size 3 (Nat.le_refl _))
  have hsz : (S s).size = s.length := S_size s
  replace hsz := Kept.mk hsz
  go_enter Try.func27, Try.ntmps27
  go_wp2
  go_loopw [3, 4] (fun v3 v4 wr => ∃ (i g c : Nat), i ≤ s.length ∧ v3 = .slice (some ⟨g, 0, none⟩) i c ∧ v4 = .int .i64 (i : Int) ∧ Kept (wr.ownsRow wS.heap.size 3 1 (.slice (some ⟨g, 0, none⟩) i c) i (numC .i64 ((digs s).take i))) ∧ Kept (Below wS.heap.size wS wr)) (fun _ v4 _ => s.length - (RowKit.intOf v4).toNat)
  case atStart => exact ⟨0, _, 0, by omega, rfl, rfl, er, ⟨(Below.refl _ _).alloc (Nat.le_refl _) _⟩⟩
  case round =>
    obtain ⟨i, g, c, hi, rfl, rfl, HO, HB⟩ := hrel
    clear er
    have hbw := HB.out.size
    by_cases hlt : i < s.length
    · have hs0 : i < (S s).size := by rw [hsz.out]; exact hlt
      obtain ⟨b, hb⟩ : ∃ b, s.getD i 0 = b := ⟨_, rfl⟩
      have g0 : (S s)[i] = b := by rw [byte_at, hb]
      have hlI : (i : Int) < ((S s).size : Int) := by omega
      have kb : wrap64 (b.toNat : Int) = (b.toNat : Int) := by have := b.toNat_lt; simp [wrap64]; omega
      have hnx : (digs s).take (i + 1) = (digs s).take i ++ [b.toNat] := by
        rw [List.take_add_one, ← hb]
        simp [digs, hlt]
      replace hnx := Kept.mk hnx
      replace hb := Kept.mk hb
      go_wp2_with (at_builtin; refine wpList_append_own _ rfl _ _ 35 rfl wS.heap.size 3 i0 (.int .i64 0) 1 8 Try.underlying35 hi0 hz0 hz1 hz2 rfl (by decide) _ _ _ rfl (HO.out.alloc _) ⟨wr.heap.size, 0, none⟩ 1 1 [.int .i64 (b.toNat : Int)] rfl rfl ?c1 ?c2 ?c3 ?c4 ?c5 ?_)
      case c1 => exact row_new wr [_] 3
      case c2 => intro u hu; simp at hu; subst hu; rfl
      case c3 => unfold maxLen; omega
      case c4 => omega
      case c5 => rw [World.size_alloc]; omega
      intro v' w2 ho2 hgr _
      have ho3 : w2.ownsRow wS.heap.size 3 1 v' (i + 1) (numC .i64 ((digs s).take (i + 1))) := by
        rw [hnx.out, numC, List.map_append]; exact ho2
      have hb2 := Kept.mk ((HB.out.alloc hbw _).grown hgr (by rw [World.size_alloc]; omega) fun g hg => (HO.out.lt g hg).1)
      obtain ⟨g2, c2, rfl, _, _⟩ := own_pos2 ho3 (by omega)
      clear ho2 hgr HO
      replace ho3 := Kept.mk ho3
      go_wp2
      go_roundw
      case rel => exact ⟨i + 1, g2, c2, by omega, rfl, val_eq (by omega), ho3, hb2⟩
      case measure => first | (simp [RowKit.intOf]; done) | (simp [RowKit.intOf]; omega)
    · obtain rfl : i = s.length := by omega
      have hfin : (digs s).take s.length = digs s := List.take_of_length_le (by rw [digs_len]; exact Nat.le_refl _)
      have hA := HO.out
      rw [hfin] at hA
      obtain ⟨h1, h2, h3⟩ := AtS.own hA
      have hlI : ¬ (s.length : Int) < ((S s).size : Int) := by rw [hsz.out]; omega
      clear hA hfin HO
      go_wp2
      go_ret
      exact ⟨g, c, by rw [digs_len]; rfl, HB.out, h2, h1⟩
end Go.Proofs.Ythlkpdfdbdfbjaa
