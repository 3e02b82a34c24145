/- Plain facts on numbers of five digits of base 2^32, the lowest first, and roots by digits. No program is spoken of. -/
set_option linter.unusedVariables false
namespace Go.Proofs.YtbkaemekcjinaaaDoor
def growL (t : Nat) : Nat → List Nat → List Nat
  | _, [] => []
  | m, d :: r => ((m + d * t) % 18446744073709551616 % 4294967296) :: growL t ((m + d * t) % 18446744073709551616 / 4294967296) r
def plusL (t : Nat) : Nat → List Nat → List Nat → List Nat
  | m, d :: r, e :: s => ((m + (d + e * t)) % 18446744073709551616 % 4294967296) :: plusL t ((m + (d + e * t)) % 18446744073709551616 / 4294967296) r s
  | _, _, _ => []
def lessL : Nat → List Nat → List Nat → List Nat
  | u, d :: r, e :: s => ((d + 4294967296 - e - u) % 4294967296) :: lessL (1 - (d + 4294967296 - e - u) / 4294967296) r s
  | _, _, _ => []
/-- Digits, the highest first. -/
def belowR : List Nat → List Nat → Bool
  | d :: r, e :: s => if d = e then belowR r s else decide (d < e)
  | _, _ => false
def belowL (a b : List Nat) : Bool := belowR a.reverse b.reverse
theorem growL_len (t : Nat) : ∀ (l : List Nat) (m : Nat), (growL t m l).length = l.length
  | [], _ => rfl
  | d :: r, m => by rw [growL, List.length_cons, growL_len t r, List.length_cons]
theorem plusL_len (t : Nat) : ∀ (l s : List Nat) (m : Nat), l.length = s.length → (plusL t m l s).length = l.length
  | [], [], _, _ => rfl
  | d :: r, e :: s, m, h => by rw [plusL, List.length_cons, plusL_len t r s _ (by simpa using h), List.length_cons]
theorem lessL_len : ∀ (l s : List Nat) (u : Nat), l.length = s.length → (lessL u l s).length = l.length
  | [], [], _, _ => rfl
  | d :: r, e :: s, u, h => by rw [lessL, List.length_cons, lessL_len r s _ (by simpa using h), List.length_cons]
theorem growL_lt (t : Nat) : ∀ (l : List Nat) (m : Nat), ∀ d ∈ growL t m l, d < 4294967296
  | [], _, d, h => by cases h
  | c :: r, m, d, h => by
    rw [growL] at h
    rcases List.mem_cons.1 h with h | h
    · omega
    · exact growL_lt t r _ d h
theorem plusL_lt (t : Nat) : ∀ (l s : List Nat) (m : Nat), ∀ d ∈ plusL t m l s, d < 4294967296
  | [], _, _, d, h => by simp [plusL] at h
  | _ :: _, [], _, d, h => by simp [plusL] at h
  | c :: r, e :: s, m, d, h => by
    rw [plusL] at h
    rcases List.mem_cons.1 h with h | h
    · omega
    · exact plusL_lt t r s _ d h
theorem lessL_lt : ∀ (l s : List Nat) (u : Nat), ∀ d ∈ lessL u l s, d < 4294967296
  | [], _, _, d, h => by simp [lessL] at h
  | _ :: _, [], _, d, h => by simp [lessL] at h
  | c :: r, e :: s, m, d, h => by
    rw [lessL] at h
    rcases List.mem_cons.1 h with h | h
    · omega
    · exact lessL_lt r s _ d h
end Go.Proofs.YtbkaemekcjinaaaDoor
