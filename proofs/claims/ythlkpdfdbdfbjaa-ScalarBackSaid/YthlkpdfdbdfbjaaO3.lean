/- The document's answer for package scalar: a number modulo the order, walked. -/
import Derived.Test.YthlkpdfdbdfbjaaO2
import Derived.Test.YthlkpdfdbdfbjaaSwayM
import Derived.Laws.CopyOwn
import Derived.Deep.RegionLawGrows
import Derived.Deep.OwnRows
set_option linter.unusedSimpArgs false
set_option linter.unusedVariables false
namespace Go.Proofs.Ythlkpdfdbdfbjaa
open Go.RowKit
section
variable {P : Program} {ops : Array Oper} {Q : Exit → Act → World → Prop} {S : World → Prop} {o : Oper} {r : List (Nat × Oper)} {a : Act} {w : World}
theorem wpMix_take (v : Value) (hy : YieldsIf P ops S o v a) (hS : S w) (h : wpMix P ops Q S r (a.put o.dst v) w) : wpMix P ops Q S ((0, o) :: r) a w := ⟨v, hy, hS, h⟩
theorem wpMix_one (h : ∀ K : Act → World → Prop, (∀ a' w', S w' → wpMix P ops Q S r a' w' → K a' w') → if Region.wanted o (yielded ops a.tmps) = true then o.wp P a w K Q else K (a.put o.dst undef) w) : wpMix P ops Q S ((1, o) :: r) a w := h
theorem wpMix_last (h : ∀ K : Act → World → Prop, (∀ a' w', wpMix P ops Q S r a' w' → K a' w') → if Region.wanted o (yielded ops a.tmps) = true then o.wp P a w K Q else K (a.put o.dst undef) w) : wpMix P ops Q S ((2, o) :: r) a w := h
theorem wpMix_nil (h : Q .normal a w) : wpMix P ops Q S [] a w := h
end
theorem own_pos2 {w : World} {base : Nat} {e : TypeId} {v : Value} {n : Nat} {xs : List Value} (h : w.ownsRow base e 1 v n xs) (hn : 0 < n) :
    ∃ g cap, v = .slice (some ⟨g, 0, none⟩) n cap ∧ base ≤ g ∧ n ≤ cap := by
  rcases h.2 with ⟨_, h0⟩ | ⟨g, cap, cur, hv, hb, hg, hc, _⟩
  · omega
  · exact ⟨g, cap, hv, hb, hc⟩
section
variable {w0 w : World} {L : List (Nat × List Nat)} {f : FuncId} {args : Array Value} {Q : Ending → World → Prop} {l : List Nat} {b : Bool}
theorem s_sl (H : SM w0 w L) (c : Calls Try.prog f args w (SlPost l w)) (h : ∀ g w', SM w0 w' ((g, l) :: L) → Q (.returned (.slice (some ⟨g, 0, none⟩) l.length l.length)) w') : Calls Try.prog f args w Q :=
  c.mono fun _ w' ⟨g, he, hb, hg, hA⟩ => he ▸ h g w' (H.more hb hg hA)
theorem s_ls (H : SM w0 w L) (c : Calls Try.prog f args w (LsPost l b w)) (h : ∀ g w', SM w0 w' ((g, l) :: L) → Q (.returned (.tuple #[.slice (some ⟨g, 0, none⟩) 33 33, .bool b])) w') : Calls Try.prog f args w Q :=
  c.mono fun _ w' ⟨g, he, hb, hg, hA⟩ => he ▸ h g w' (H.more hb hg hA)
end
theorem SM.only {w0 w : World} {L : List (Nat × List Nat)} (H : SM w0 w L) {L' : List (Nat × List Nat)} (h : L'.Sublist L) : SM w0 w L' :=
  ⟨H.below, fun g x m => H.holds g x (h.subset m), fun g x m => H.ours g x (h.subset m), (h.map _).nodup H.apart⟩
theorem o_big : oN < 256 ^ 31 * 17 := by decide +kernel
theorem o_pos : 0 < oN := by decide +kernel
/-- A number below the order has no digit behind the 32nd. -/
theorem take_val (rl : List Nat) (hl : rl.length = 33) (h : valB 256 rl < oN) : valB 256 (rl.take 32) = valB 256 rl := by
  have e : rl = rl.take 32 ++ [rl.getD 32 0] := by
    conv => lhs; rw [← List.take_append_drop 32 rl]
    rw [drop_getD rl 32 (by omega), List.drop_eq_nil_of_le (by omega)]
  have hv : ∀ (l : List Nat) (x : Nat), valB 256 (l ++ [x]) = valB 256 l + 256 ^ l.length * x := by
    intro l x
    induction l with
    | nil => simp [valB]
    | cons y r ih =>
      rw [List.cons_append, valB, valB, ih, List.length_cons, Nat.pow_succ, Nat.mul_comm (256 ^ r.length) 256, Nat.mul_assoc]
      omega
  have h2 : valB 256 rl = valB 256 (rl.take 32) + 256 ^ 32 * rl.getD 32 0 := by
    conv => lhs; rw [e]
    rw [hv, List.length_take, show min 32 rl.length = 32 by omega]
  have h3 : rl.getD 32 0 = 0 := by
    rcases Nat.eq_zero_or_pos (rl.getD 32 0) with h0 | h0
    · exact h0
    · exfalso
      have h4 : 256 ^ 32 ≤ 256 ^ 32 * rl.getD 32 0 := Nat.le_mul_of_pos_right _ h0
      have h5 : oN < 256 ^ 32 := by decide +kernel
      omega
  rw [h2, h3, Nat.mul_zero, Nat.add_zero]
/-- What is left of a number. -/
structure Rem (xl : List Nat) (t v : Nat) : Prop where
  len : xl.length = 33
  lt : ∀ x ∈ xl, x < 256
  val : valB 256 xl + t * oN = v
theorem Rem.step {xl : List Nat} {t v : Nat} (h : Rem xl t v) (hU : dfU xl (lL ++ [0]) 0 = 0) : Rem (dfL xl (lL ++ [0]) 0) (t + 1) v := by
  have hl : xl.length = (lL ++ [0]).length := h.len
  have hd := df_val xl (lL ++ [0]) 0 hl h.lt (by decide +kernel) (by omega)
  rw [hU, Nat.mul_zero, show valB 256 (lL ++ [0]) = oN by decide +kernel] at hd
  refine ⟨by rw [dfL_len _ _ _ hl, h.len], dfL_lt _ _ _ h.lt, ?_⟩
  have h3 := h.val
  rw [Nat.add_mul, Nat.one_mul]
  omega
theorem Rem.stop {xl : List Nat} {t v : Nat} (h : Rem xl t v) (hU : dfU xl (lL ++ [0]) 0 ≠ 0) : valB 256 xl = v % oN := by
  have hl : xl.length = (lL ++ [0]).length := h.len
  have hd := df_val xl (lL ++ [0]) 0 hl h.lt (by decide +kernel) (by omega)
  have hu := dfU_le xl (lL ++ [0]) 0 (by omega)
  have hu1 : dfU xl (lL ++ [0]) 0 = 1 := by omega
  have hb := valB_lt (B := 256) (by decide) (dfL xl (lL ++ [0]) 0) (dfL_lt _ _ _ h.lt)
  rw [dfL_len _ _ _ hl, h.len] at hb
  rw [hu1, Nat.mul_one, h.len, show valB 256 (lL ++ [0]) = oN by decide +kernel] at hd
  have hlt : valB 256 xl < oN := by omega
  have h3 := h.val
  rw [← h3, Nat.add_mul_mod_self_right, Nat.mod_eq_of_lt hlt]
theorem Rem.few {xl : List Nat} {t v : Nat} (h : Rem xl t v) (hv : v < 256 * oN) : t < 256 := by
  have h3 := h.val
  refine Nat.lt_of_not_le fun hle => ?_
  have := Nat.mul_le_mul_right oN hle
  omega
theorem val_drop (a : List Nat) (k : Nat) (hk : k < a.length) : valB 256 (a.drop k) = a.getD k 0 + 256 * valB 256 (a.drop (k + 1)) := by
  rw [drop_getD a k hk, valB]
/-- A round's numbers. -/
theorem Rem.first (a rl : List Nat) (k : Nat) (hk : k < a.length) (haW : ∀ x ∈ a, x < 256) (hl : rl.length = 33) (hlt : ∀ x ∈ rl, x < 256) (hv : valB 256 rl = valB 256 (a.drop (k + 1)) % oN) :
    Rem (a.getD k 0 :: rl.take 32) 0 (a.getD k 0 + 256 * valB 256 rl) ∧ a.getD k 0 + 256 * valB 256 rl < 256 * oN ∧ (a.getD k 0 + 256 * valB 256 rl) % oN = valB 256 (a.drop k) % oN := by
  have hp := getD_ltN haW k hk
  have hr : valB 256 rl < oN := hv ▸ Nat.mod_lt _ o_pos
  refine ⟨⟨by rw [List.length_cons, List.length_take, hl]; rfl, ?_, ?_⟩, by omega, ?_⟩
  · intro x hx
    rcases List.mem_cons.1 hx with rfl | hx
    · exact hp
    · exact hlt x (List.mem_of_mem_take hx)
  · rw [valB, take_val rl hl hr]; omega
  · rw [hv, val_drop a k hk, Nat.add_mod, Nat.mul_mod, Nat.mod_mod, ← Nat.mul_mod, ← Nat.add_mod]
end Go.Proofs.Ythlkpdfdbdfbjaa
