/- The document's sum and the program's: the numbers are the same. No walk. -/
import Derived.Test.YtbkaemekcjinaaaDoorE6
namespace Go.Proofs.YtbkaemekcjinaaaDoor
open Go.RowKit Go.Lib
theorem lenR_len (n8 : Nat) : ∀ k, (lenR n8 k).length = k
  | 0 => rfl
  | k + 1 => by rw [lenR, List.length_cons, lenR_len n8 k]
theorem dPad_len (o : Bool) (s : List UInt8) : (dPadL o s).length = room o * ((dPadL o s).length / room o) := by
  have h : (dPadL o s).length = s.length + 1 + dPadZ o s.length + wd o / 4 := by
    unfold dPadL
    rw [List.length_append, List.length_append, List.length_append, List.length_replicate, lenR_len]; rfl
  rw [h]
  unfold dPadZ
  cases o
  · show _ + (2 * 32 - (_ + 32 / 4) % (2 * 32)) % (2 * 32) + 32 / 4 = (2 * 32) * (( _ + (2 * 32 - (_ + 32 / 4) % (2 * 32)) % (2 * 32) + 32 / 4) / (2 * 32))
    omega
  · show _ + (2 * 64 - (_ + 64 / 4) % (2 * 64)) % (2 * 64) + 64 / 4 = (2 * 64) * (( _ + (2 * 64 - (_ + 64 / 4) % (2 * 64)) % (2 * 64) + 64 / 4) / (2 * 64))
    omega
/-- But for the padding and the constants. -/
theorem sums_same (o : Bool) (ks hl : List Nat) (s : List UInt8) (hk : ks.length = rnds o) (hkc : ∀ t, t < rnds o → kcI o t = ((ks.getD t 0 : Nat) : Int)) (hi : initI o = hl.map (fun x : Nat => (x : Int))) (h8 : hl.length = 8) (hb : ∀ x ∈ hl, x < 2 ^ wd o)
    (hp : s ++ padL o s.length = dPadL o s) : shaL o s = docSum o ks hl s := by
  unfold shaL sumL
  rw [hs_append, hp]
  unfold hs
  have hl2 := dPad_len o s
  have h := feedK o ks hk hkc (dPadL o s) ((dPadL o s).length / room o) 0 hl (List.replicate 128 0) h8 hb (by simp) (by omega)
  rw [List.drop_zero, ← hl2, List.take_length] at h
  rw [hi, h, outSK, List.nil_append]
  unfold docSum
  rw [show 2 * wd o = room o by cases o <;> rfl]
end Go.Proofs.YtbkaemekcjinaaaDoor
