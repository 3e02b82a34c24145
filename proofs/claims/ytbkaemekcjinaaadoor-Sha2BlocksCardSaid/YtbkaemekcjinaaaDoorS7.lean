/- Package sha2 on lists: bytes go into a block one by one. -/
import Derived.Test.YtbkaemekcjinaaaDoorS6
namespace Go.Proofs.YtbkaemekcjinaaaDoor
open Go.RowKit Go.Lib
def KI (o : Bool) : IntKind := if o = true then .u64 else .u32
/-- Bytes of a block. -/
def room (o : Bool) : Nat := 2 * wdI o
theorem room_pos (o : Bool) : 0 < room o := by cases o <;> decide
theorem room_le (o : Bool) : room o ≤ 128 := by cases o <;> decide
structure FS where
  st : List Int
  bl : List UInt8
  f : Nat
def stepF (o : Bool) (s : FS) (b : UInt8) : FS :=
  if s.f + 1 = room o then ⟨mixI (KI o) o s.st (s.bl.set s.f b), s.bl.set s.f b, 0⟩ else ⟨s.st, s.bl.set s.f b, s.f + 1⟩
def feed (o : Bool) (s : FS) (l : List UInt8) : FS := l.foldl (stepF o) s
theorem feed_append (o : Bool) (s : FS) (a b : List UInt8) : feed o s (a ++ b) = feed o (feed o s a) b := List.foldl_append
theorem feed_nil (o : Bool) (s : FS) : feed o s [] = s := rfl
theorem mixI_length (K : IntKind) (o : Bool) (st : List Int) (bl : List UInt8) : (mixI K o st bl).length = st.length := by rw [mixI, sumR_length]
def putB : List UInt8 → Nat → List UInt8 → List UInt8
  | bl, _, [] => bl
  | bl, f, b :: p => putB (bl.set f b) (f + 1) p
theorem putB_length : ∀ (p : List UInt8) (bl : List UInt8) (f : Nat), (putB bl f p).length = bl.length
  | [], _, _ => rfl
  | b :: p, bl, f => by rw [putB, putB_length p, List.length_set]
theorem feed_part (o : Bool) : ∀ (p : List UInt8) (s : FS), s.f + p.length < room o → feed o s p = ⟨s.st, putB s.bl s.f p, s.f + p.length⟩
  | [], s, _ => rfl
  | b :: p, s, h => by
    simp only [List.length_cons] at h
    have h1 : stepF o s b = ⟨s.st, s.bl.set s.f b, s.f + 1⟩ := by unfold stepF; rw [if_neg (by omega)]
    show feed o (stepF o s b) p = _
    rw [h1, feed_part o p _ (by show s.f + 1 + p.length < _; omega), List.length_cons]
    simp only [putB]
    congr 1
    omega
theorem feed_full (o : Bool) : ∀ (p : List UInt8) (s : FS), p ≠ [] → s.f + p.length = room o → feed o s p = ⟨mixI (KI o) o s.st (putB s.bl s.f p), putB s.bl s.f p, 0⟩
  | [], _, h, _ => absurd rfl h
  | [b], s, _, h => by
    show stepF o s b = _
    unfold stepF
    rw [if_pos (show s.f + 1 = room o from h)]
    rfl
  | b :: c :: p, s, _, h => by
    simp only [List.length_cons] at h
    have h1 : stepF o s b = ⟨s.st, s.bl.set s.f b, s.f + 1⟩ := by unfold stepF; rw [if_neg (by omega)]
    show feed o (stepF o s b) (c :: p) = _
    rw [h1, feed_full o (c :: p) _ (by simp) (by simp only [List.length_cons]; omega)]
    rfl
theorem feed_f (o : Bool) : ∀ (l : List UInt8) (s : FS), s.f < room o → (feed o s l).f = (s.f + l.length) % room o
  | [], s, h => by simp [feed, Nat.mod_eq_of_lt h]
  | b :: l, s, h => by
    show (feed o (stepF o s b) l).f = _
    unfold stepF
    by_cases hc : s.f + 1 = room o
    · rw [if_pos hc, feed_f o l _ (room_pos o)]
      simp only [List.length_cons, Nat.zero_add]
      rw [show s.f + (l.length + 1) = l.length + room o by omega, Nat.add_mod_right]
    · rw [if_neg hc, feed_f o l _ (by show s.f + 1 < _; omega)]
      congr 1
      simp only [List.length_cons]
      omega
theorem feed_st (o : Bool) : ∀ (l : List UInt8) (s : FS), (feed o s l).st.length = s.st.length
  | [], _ => rfl
  | b :: l, s => by
    show (feed o (stepF o s b) l).st.length = _
    rw [feed_st o l]
    unfold stepF
    split
    · exact mixI_length _ _ _ _
    · rfl
theorem feed_bl (o : Bool) : ∀ (l : List UInt8) (s : FS), (feed o s l).bl.length = s.bl.length
  | [], _ => rfl
  | b :: l, s => by
    show (feed o (stepF o s b) l).bl.length = _
    rw [feed_bl o l]
    unfold stepF
    split <;> simp
/-- copy of a string into a row that has room for a part of it. -/
theorem run_copy_str {P : Program} (w : World) (dT sT ty elem : TypeId) (b o dLen dCap : Nat) (t : ByteArray) (n : Nat) (hn : n = min t.size dLen)
    (hu : P.underlying dT = some (.slice elem)) (hz : ∀ w, (Go.sizeOf elem).run P w = .ok 1 w)
    (hc : ∀ j, j < n → (w.cell? ⟨b, o + j, none⟩).isSome = true) (hf : ∀ j, j < n → w.frozen? ⟨b, o + j, none⟩ = false) :
    (Builtin.copy_ #[dT, sT] ty #[.slice (some ⟨b, o, none⟩) dLen dCap, .string t]).run P w = .ok (goInt n) (w.setCells b o (byteCells (t.data.toList.take n))) := by
  have hm : Nat.min t.size dLen = n := hn.symm
  have hl : (byteCells (t.data.toList.take n)).length = n := by rw [byteCells_length, List.length_take, ← Lib.size_eq]; omega
  have hst := run_storeCells_cells (P := P) b o (byteCells (t.data.toList.take n)) 0 w (by rw [hl]; simpa using hc) (by rw [hl]; simpa using hf) (by
    intro v hv
    simp only [byteCells, List.mem_map] at hv
    obtain ⟨x, _, rfl⟩ := hv
    rfl)
  simp [Builtin.copy_, run_underlying hu, Builtin.lenOf, Builtin.firstCells, hz, hm]
  rw [← List.map_take, show List.map (fun b : UInt8 => Value.int IntKind.u8 (b.toNat : Int)) (t.data.toList.take n) = byteCells (t.data.toList.take n) from rfl, hst]
  rfl
end Go.Proofs.YtbkaemekcjinaaaDoor
