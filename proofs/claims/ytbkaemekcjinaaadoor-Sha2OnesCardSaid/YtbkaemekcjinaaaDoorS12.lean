/- Package sha2: a hash of the bytes that were written; its calls, for both kinds. -/
import Derived.Test.YtbkaemekcjinaaaDoorS11
namespace Go.Proofs.YtbkaemekcjinaaaDoor
open Go.RowKit Go.Lib
/-- The state behind bytes. -/
def hs (o : Bool) (l : List UInt8) : FS := feed o ⟨initI o, List.replicate 128 0, 0⟩ l
/-- The sum of bytes. -/
def shaL (o : Bool) (l : List UInt8) : List UInt8 := sumL o (hs o l).st (hs o l).bl l.length
def IsHash (w : World) (g : Nat) (o : Bool) (l : List UInt8) : Prop := HashAt w g o (hs o l).st (hs o l).bl l.length
theorem hs_f (o : Bool) (l : List UInt8) : (hs o l).f = l.length % room o := by
  rw [hs, feed_f o l _ (room_pos o)]
  simp
theorem hs_append (o : Bool) (l r : List UInt8) : feed o ⟨(hs o l).st, (hs o l).bl, l.length % room o⟩ r = hs o (l ++ r) := by
  rw [← hs_f, hs, hs, feed_append]
section
variable {w w' : World} {g : Nat} {o : Bool} {l : List UInt8}
theorem IsHash.lt (h : IsHash w g o l) : g < w.heap.size := HashAt.lt h
theorem IsHash.from (h : IsHash w g o l) (hb : Below w.heap.size w w') : IsHash w' g o l := HashAt.from h hb
theorem IsHash.chg {g' : Nat} (h : IsHash w g o l) (hb : Chg g' w w') (hne : g ≠ g') : IsHash w' g o l := hb.hash h hne
end
def NewPostH (o : Bool) (w : World) (e : Ending) (w' : World) : Prop :=
  ∃ g, w.heap.size ≤ g ∧ e = .returned (.tuple #[.pointer (some ⟨g, 0, none⟩), .int .i64 0]) ∧ IsHash w' g o [] ∧ Below w.heap.size w w'
theorem new_any (o : Bool) (w : World) (hv : Vars w) : Calls Tryd.prog 10 #[.int .i64 (kd o)] w (NewPostH o w) := by
  cases o
  · exact (new_u32 w hv).mono fun e w' h => h
  · exact (new_u64 w hv).mono fun e w' h => h
def WriteH (g : Nat) (o : Bool) (l s : List UInt8) (w : World) (e : Ending) (w' : World) : Prop := e = .returned (.tuple #[]) ∧ IsHash w' g o (l ++ s) ∧ Chg g w w'
theorem write_any (g : Nat) (o : Bool) (l s : List UInt8) (w : World) (h : IsHash w g o l) (hv : Vars w) (hg : 1 < g) (hn : l.length + s.length ≤ 4611686018427387904) :
    Calls Tryd.prog 12 #[.pointer (some ⟨g, 0, none⟩), .string (S s)] w (WriteH g o l s w) := by
  have e : ∀ e w', WritePost g o (hs o l).st (hs o l).bl l.length s w e w' → WriteH g o l s w e w' := by
    rintro e w' ⟨he, hh, hc⟩
    rw [hs_append] at hh
    refine ⟨he, ?_, hc⟩
    unfold IsHash
    rw [List.length_append]
    exact hh
  cases o
  · exact (write_u32 g _ _ _ s w h hv hg (by rw [S_size]; exact hn)).mono e
  · exact (write_u64 g _ _ _ s w h hv hg (by rw [S_size]; exact hn)).mono e
def SumH (o : Bool) (l : List UInt8) (w : World) (e : Ending) (w' : World) : Prop := e = .returned (.string (S (shaL o l))) ∧ Below w.heap.size w w'
theorem sum_any (g : Nat) (o : Bool) (l : List UInt8) (w : World) (h : IsHash w g o l) (hv : Vars w) (hn : l.length ≤ 1152921504606846976) :
    Calls Tryd.prog 13 #[.pointer (some ⟨g, 0, none⟩)] w (SumH o l w) := by
  cases o
  · exact (sum_u32 g _ _ _ w h hv hn).mono fun e w' h => h
  · exact (sum_u64 g _ _ _ w h hv hn).mono fun e w' h => h
def CloneH (o : Bool) (l : List UInt8) (w : World) (e : Ending) (w' : World) : Prop :=
  ∃ g', w.heap.size ≤ g' ∧ e = .returned (.pointer (some ⟨g', 0, none⟩)) ∧ IsHash w' g' o l ∧ Below w.heap.size w w'
theorem cloneH_any (g : Nat) (o : Bool) (l : List UInt8) (w : World) (h : IsHash w g o l) : Calls Tryd.prog 11 #[.pointer (some ⟨g, 0, none⟩)] w (CloneH o l w) :=
  (clone_any g o _ _ _ w h).mono fun e w' h => h
theorem sizeH_any (g : Nat) (o : Bool) (l : List UInt8) (w : World) (h : IsHash w g o l) :
    Calls Tryd.prog 14 #[.pointer (some ⟨g, 0, none⟩)] w fun e w' => e = .returned (.int .i64 l.length) ∧ w = w' := size_any g o _ _ _ w h
def OneH (o : Bool) (l : List UInt8) (w : World) (e : Ending) (w' : World) : Prop := e = .returned (.tuple #[.string (S (shaL o l)), .int .i64 0]) ∧ Below w.heap.size w w'
theorem one_any (o : Bool) (s : List UInt8) (w : World) (hv : Vars w) (hn : s.length ≤ 1152921504606846976) :
    Calls Tryd.prog 7 #[.int .i64 (kd o), .string (S s)] w (OneH o s w) := by
  have hv1 := hv.1
  have HV := Lib.hid hv
  have HN := Lib.hid hn
  clear hv hn
  go_enter Tryd.func7, Tryd.ntmps7
  go_wp2_with (first
    | (go_at_call 10; refine (new_any o _ HV.out).mono ?_; rintro e w1 ⟨g, hg, rfl, hh1, hb1⟩; have HH1 := Lib.hid hh1; have HB1 := Lib.hid hb1; clear hh1 hb1)
    | (go_at_call 12; refine (write_any g o [] s _ HH1.out (HV.out.from HB1.out) (by omega) (by have := HN.out; simp; omega)).mono ?_; rintro e w2 ⟨rfl, hh2, hc2⟩; have HH2 := Lib.hid hh2; have HC2 := Lib.hid hc2; clear hh2 hc2)
    | (go_at_call 13; refine (sum_any g o ([] ++ s) _ HH2.out (HC2.out.vars (HV.out.from HB1.out) (by omega)) (by have := HN.out; simp; omega)).mono ?_; rintro e w3 ⟨rfl, hb3⟩; have HB3 := Lib.hid hb3; clear hb3))
  go_ret2
  have h2 := Chg.below HB1.out HC2.out HB1.out.size hg
  exact ⟨rfl, h2.trans (HB3.out.mono h2.size)⟩
theorem one_bad (k : Int) (s : ByteArray) (w : World) (h0 : k ≠ 0) (h1 : k ≠ 1) :
    Calls Tryd.prog 7 #[.int .i64 k, .string s] w fun e w' => e = .returned (.tuple #[.string (S []), .int .i64 30]) ∧ w = w' := by
  have H0 := Lib.hid h0
  have H1 := Lib.hid h1
  clear h0 h1
  go_enter Tryd.func7, Tryd.ntmps7
  go_wp2_with (go_at_call 10; refine (new_bad k _ H0.out H1.out).mono ?_; rintro e w1 ⟨rfl, rfl⟩)
  go_ret2
  exact ⟨rfl, rfl⟩
end Go.Proofs.YtbkaemekcjinaaaDoor
