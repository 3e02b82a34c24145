/- The document's answer for package scalar: Digits, Is, Reduce, walked.
The document's answer for package scalar: its calls Is, Reduce, walked.
The document's answer for package scalar: Mul, walked.
Walks of package scalar: sums.
Walks of package scalar: differences. -/
import Derived.Test.YtgnblaaldpniiaaGreatDoorZO1
import Derived.Test.YtgnblaaldpniiaaGreatDoorZA1
section
set_option linter.unusedSimpArgs false
set_option linter.unusedVariables false
set_option maxRecDepth 100000
namespace Go.Proofs.YtgnblaaldpniiaaGreatDoor.Sc
open Go.RowKit
def digs (l : List UInt8) : List Nat := l.map (·.toNat)
theorem digs_len (l : List UInt8) : (digs l).length = l.length := by simp [digs]
theorem digs_lt (l : List UInt8) : ∀ x ∈ digs l, x < 256 := fun x hx => by
  obtain ⟨b, _, rfl⟩ := List.mem_map.1 hx
  exact b.toNat_lt
def DgPost (l : List Nat) (w : World) (e : Ending) (w' : World) : Prop := ∃ g c, e = .returned (.slice (some ⟨g, 0, none⟩) l.length c) ∧ Below w.heap.size w w' ∧ w.heap.size ≤ g ∧ AtS w' g l
theorem Digits_any (s : List UInt8) (hs : s.length ≤ 4096) (wS : World) : Calls Tryz.prog 44 #[.string (S s)] wS (DgPost (digs s) wS) := by
  obtain ⟨i0, hi0, hz0, hz1, hz2⟩ := info_parts infoI
  have er := Kept.mk (empty_row wS wS.heap.size 3 (Nat.le_refl _))
  have hsz : (S s).size = s.length := S_size s
  replace hsz := Kept.mk hsz
  go_enter Tryz.func44, Tryz.ntmps44
  go_wp2
  go_loopw [3, 4] (fun v3 v4 wr => ∃ (i g c : Nat), i ≤ s.length ∧ v3 = .slice (some ⟨g, 0, none⟩) i c ∧ v4 = .int .i64 (i : Int) ∧ Kept (wr.ownsRow wS.heap.size 3 1 (.slice (some ⟨g, 0, none⟩) i c) i (numC .i64 ((digs s).take i))) ∧ Kept (Below wS.heap.size wS wr)) (fun _ v4 _ => s.length - (RowKit.intOf v4).toNat)
  case atStart => exact ⟨0, _, 0, by omega, rfl, rfl, er, ⟨(Below.refl _ _).alloc (Nat.le_refl _) _⟩⟩
  case round =>
    obtain ⟨i, g, c, hi, rfl, rfl, HO, HB⟩ := hrel
    clear er
    have hbw := HB.out.size
    by_cases hlt : i < s.length
    · have hs0 : i < (S s).size := by rw [hsz.out]; exact hlt
      obtain ⟨b, hb⟩ : ∃ b, s.getD i 0 = b := ⟨_, rfl⟩
      have g0 : (S s)[i] = b := by rw [byte_at, hb]
      have hlI : (i : Int) < ((S s).size : Int) := by omega
      have kb : wrap64 (b.toNat : Int) = (b.toNat : Int) := by have := b.toNat_lt; simp [wrap64]; omega
      have hnx : (digs s).take (i + 1) = (digs s).take i ++ [b.toNat] := by
        rw [List.take_add_one, ← hb]
        simp [digs, hlt]
      replace hnx := Kept.mk hnx
      replace hb := Kept.mk hb
      go_wp2_with (at_builtin; refine wpList_append_own _ rfl _ _ 53 rfl wS.heap.size 3 i0 (.int .i64 0) 1 8 Tryz.underlying53 hi0 hz0 hz1 hz2 rfl (by decide) _ _ _ rfl (HO.out.alloc _) ⟨wr.heap.size, 0, none⟩ 1 1 [.int .i64 (b.toNat : Int)] rfl rfl ?c1 ?c2 ?c3 ?c4 ?c5 ?_)
      case c1 => exact row_new wr [_] 3
      case c2 => intro u hu; simp at hu; subst hu; rfl
      case c3 => unfold maxLen; omega
      case c4 => omega
      case c5 => rw [World.size_alloc]; omega
      intro v' w2 ho2 hgr _
      have ho3 : w2.ownsRow wS.heap.size 3 1 v' (i + 1) (numC .i64 ((digs s).take (i + 1))) := by
        rw [hnx.out, numC, List.map_append]; exact ho2
      have hb2 := Kept.mk ((HB.out.alloc hbw _).grown hgr (by rw [World.size_alloc]; omega) fun g hg => (HO.out.lt g hg).1)
      obtain ⟨g2, c2, rfl, _, _⟩ := own_pos2 ho3 (by omega)
      clear ho2 hgr HO
      replace ho3 := Kept.mk ho3
      go_wp2
      go_roundw
      case rel => exact ⟨i + 1, g2, c2, by omega, rfl, val_eq (by omega), ho3, hb2⟩
      case measure => first | (simp [RowKit.intOf]; done) | (simp [RowKit.intOf]; omega)
    · obtain rfl : i = s.length := by omega
      have hfin : (digs s).take s.length = digs s := List.take_of_length_le (by rw [digs_len]; exact Nat.le_refl _)
      have hA := HO.out
      rw [hfin] at hA
      obtain ⟨h1, h2, h3⟩ := AtS.own hA
      have hlI : ¬ (s.length : Int) < ((S s).size : Int) := by rw [hsz.out]; omega
      clear hA hfin HO
      go_wp2
      go_ret
      exact ⟨g, c, by rw [digs_len]; rfl, HB.out, h2, h1⟩
end Go.Proofs.YtgnblaaldpniiaaGreatDoor.Sc
end
section
set_option linter.unusedSimpArgs false
set_option linter.unusedVariables false
set_option maxRecDepth 100000
namespace Go.Proofs.YtgnblaaldpniiaaGreatDoor.Sc
open Go.RowKit
section
variable {w0 w : World} {L : List (Nat × List Nat)} {f : FuncId} {args : Array Value} {Q : Ending → World → Prop} {l : List Nat} {v : Value}
theorem s_dg (H : SM w0 w L) (c : Calls Tryz.prog f args w (DgPost l w)) (h : ∀ g c w', SM w0 w' ((g, l) :: L) → Q (.returned (.slice (some ⟨g, 0, none⟩) l.length c)) w') : Calls Tryz.prog f args w Q :=
  c.mono fun _ w' ⟨g, c, he, hb, hg, hA⟩ => he ▸ h g c w' (H.more hb hg hA)
theorem s_call (H : SM w0 w L) (c : Calls Tryz.prog f args w fun e w' => e = .returned v ∧ Below w.heap.size w w') (h : ∀ w', SM w0 w' L → Q (.returned v) w') : Calls Tryz.prog f args w Q :=
  c.mono fun _ w' ⟨he, hb⟩ => he ▸ h w' (H.grow hb)
end
def numB (l : List UInt8) : Nat := valB 256 (digs l)
def scB (n : Nat) : List UInt8 := (limbs 256 32 (n % oN)).map UInt8.ofNat
theorem modB_num (a : List Nat) : modB a = scB (valB 256 a) := rfl
theorem scB_len (n : Nat) : (scB n).length = 32 := by rw [scB, List.length_map, limbs_len]
theorem scB_num (n : Nat) : numB (scB n) = n % oN := by
  have h := modB_nat (limbs 256 33 (n % oN))
  have hb : n % oN < 256 ^ 32 := Nat.lt_trans (Nat.mod_lt _ o_pos) (by decide +kernel)
  rw [modB_num, val_limbs, Nat.mod_eq_of_lt (Nat.lt_trans hb (by decide +kernel)), scB, Nat.mod_mod] at h
  rw [numB, digs, scB, h, val_limbs, Nat.mod_eq_of_lt hb]
def isSc (l : List UInt8) : Bool := decide (l.length = 32) && decide (numB l < oN)
theorem scB_is (n : Nat) : isSc (scB n) = true := by
  unfold isSc
  rw [scB_len, scB_num]
  simp [Nat.mod_lt _ o_pos]
theorem back_lt (l : List UInt8) : (digs l).map UInt8.ofNat = l := by
  rw [digs, List.map_map]
  conv => rhs; rw [← List.map_id l]
  exact List.map_congr_left fun x _ => by simp
theorem scB_self (l : List UInt8) (h : isSc l = true) : scB (numB l) = l := by
  unfold isSc at h
  rw [Bool.and_eq_true, decide_eq_true_eq, decide_eq_true_eq] at h
  have e := limbs_val (B := 256) (by decide) (digs l) (digs_lt l)
  rw [digs_len, h.1] at e
  rw [scB, Nat.mod_eq_of_lt h.2]
  show (limbs 256 32 (valB 256 (digs l))).map UInt8.ofNat = l
  rw [e, back_lt]
theorem is_same (l : List UInt8) (h : l.length = 32) : ((S (modB (digs l))).toList == (S l).toList) = isSc l := by
  rw [S_beq]
  by_cases hi : isSc l = true
  · rw [hi, decide_eq_true]
    exact scB_self l hi
  · rw [Bool.not_eq_true] at hi
    rw [hi, decide_eq_false]
    intro e
    rw [← e, modB_num, scB_is] at hi
    cases hi
def StrPost (l : List UInt8) (n : Int) (w : World) (e : Ending) (w' : World) : Prop := e = .returned (.tuple #[.string (S l), .int .i64 n]) ∧ Below w.heap.size w w'
theorem Mod_any (a : List Nat) (n : Nat) (hal : a.length = n) (hn : n ≤ 4096) (haW : ∀ x ∈ a, x < 256) (ga ca : Nat) (wS : World) (hA : AtS wS ga a) :
    Calls Tryz.prog 43 #[.slice (some ⟨ga, 0, none⟩) n ca] wS fun e w' => e = .returned (.string (S (scB (valB 256 a)))) ∧ Below wS.heap.size wS w' := Mod_walk a ga n ca hal hn haW wS hA
theorem IsR_any (l : List UInt8) (wS : World) : Calls Tryz.prog 27 #[.string (S l)] wS fun e w' => e = .returned (.bool (isSc l)) ∧ Below wS.heap.size wS w' := by
  have H := SM.start wS
  by_cases hl : l.length = 32
  · have hsz : (S l).size = 32 := by rw [S_size, hl]
    have cD := Kept.mk fun w => Digits_any l (by omega) w
    have cM := Kept.mk fun ga ca w h => Mod_walk (digs l) ga (digs l).length ca rfl (by rw [digs_len]; omega) (digs_lt l) w h
    have hs := is_same l hl
    generalize isSc l = b at hs ⊢
    generalize modB (digs l) = r at hs cM
    generalize digs l = d at cD cM
    clear hl
    go_enter Tryz.func27, Tryz.ntmps27
    go_wp2_with (first
      | (go_at_call 44; refine s_dg (by assumption) (cD.out _) ?_; intro g c w H)
      | (go_at_call 43; refine s_call (by assumption) (cM.out _ _ _ (H.holds _ d (.head _))) ?_; intro w H))
    go_ret
    exact ⟨rfl, H.below⟩
  · have e : isSc l = false := by unfold isSc; simp [hl]
    have hsz : (((S l).size : Int) == 32) = false := by rw [S_size]; simp; omega
    rw [e]
    clear e hl
    go_enter Tryz.func27, Tryz.ntmps27
    go_wp2
    go_ret
    exact ⟨rfl, H.below⟩
end Go.Proofs.YtgnblaaldpniiaaGreatDoor.Sc
end
section
set_option linter.unusedSimpArgs false
set_option linter.unusedVariables false
set_option maxRecDepth 100000
namespace Go.Proofs.YtgnblaaldpniiaaGreatDoor.Sc
open Go.RowKit
def muL (p : Nat) : List Nat → List Nat → Nat → List Nat
  | x :: xs, y :: ys, c => (x + p * y + c) % 256 :: muL p xs ys ((x + p * y + c) / 256)
  | _, _, c => [c]
theorem muL_nil (p : Nat) (ys : List Nat) (c : Nat) : muL p [] ys c = [c] := by cases ys <;> rfl
theorem muL_len (p : Nat) : ∀ (xs ys : List Nat) (c : Nat), xs.length = ys.length → (muL p xs ys c).length = xs.length + 1
  | [], _, _, _ => by rw [muL_nil]; rfl
  | x :: xs, [], _, h => by simp at h
  | x :: xs, y :: ys, c, h => by rw [muL, List.length_cons, List.length_cons, muL_len p xs ys _ (by simpa using h)]
theorem carry_lt {x p y c : Nat} (hx : x < 256) (hp : p < 256) (hy : y < 256) (hc : c < 256) : (x + p * y + c) / 256 < 256 ∧ p * y ≤ 65025 := by
  have h : p * y ≤ 255 * 255 := Nat.mul_le_mul (by omega) (by omega)
  omega
theorem muL_lt (p : Nat) (hp : p < 256) : ∀ (xs ys : List Nat) (c : Nat), (∀ x ∈ xs, x < 256) → (∀ x ∈ ys, x < 256) → c < 256 → ∀ z ∈ muL p xs ys c, z < 256
  | [], _, c, _, _, hc, z, h => by rw [muL_nil] at h; simp at h; omega
  | x :: xs, [], c, _, _, hc, z, h => by simp [muL] at h; omega
  | x :: xs, y :: ys, c, hx, hy, hc, z, h => by
    rw [muL, List.mem_cons] at h
    rcases h with rfl | h
    · exact Nat.mod_lt _ (by decide)
    · exact muL_lt p hp xs ys _ (fun q hq => hx q (by simp [hq])) (fun q hq => hy q (by simp [hq])) (carry_lt (hx x (by simp)) hp (hy y (by simp)) hc).1 z h
theorem mu_val (p : Nat) : ∀ (xs ys : List Nat) (c : Nat), xs.length = ys.length → valB 256 (muL p xs ys c) = valB 256 xs + p * valB 256 ys + c
  | [], [], c, _ => by simp [valB, muL]
  | [], y :: ys, _, h => by simp at h
  | x :: xs, [], _, h => by simp at h
  | x :: xs, y :: ys, c, h => by
    have ih := mu_val p xs ys ((x + p * y + c) / 256) (by simpa using h)
    rw [muL]
    simp only [valB]
    have e : p * (y + 256 * valB 256 ys) = p * y + 256 * (p * valB 256 ys) := by rw [Nat.mul_add, Nat.mul_left_comm]
    rw [ih, e]
    generalize p * y = q
    generalize p * valB 256 ys = r
    omega
theorem val_app : ∀ (d r : List Nat), valB 256 (d ++ r) = valB 256 d + 256 ^ d.length * valB 256 r
  | [], r => by simp [valB]
  | x :: d, r => by
    rw [List.cons_append, valB, valB, val_app d r, List.length_cons, Nat.pow_succ, Nat.mul_comm (256 ^ d.length) 256, Nat.mul_assoc]
    omega
structure Rnd (a b : List Nat) (i : Nat) (d e : List Nat) : Prop where
  dlen : d.length = i
  elen : e.length = 32
  dlt : ∀ x ∈ d, x < 256
  elt : ∀ x ∈ e, x < 256
  val : valB 256 d + 256 ^ i * valB 256 e = valB 256 (a.take i) * valB 256 b
theorem Rnd.step {a b d e : List Nat} {i : Nat} (h : Rnd a b i d e) (hi : i < a.length) (hb : b.length = 32) (haW : ∀ x ∈ a, x < 256) (hbW : ∀ x ∈ b, x < 256) :
    ∃ x f, muL (a.getD i 0) e b 0 = x :: f ∧ Rnd a b (i + 1) (d ++ [x]) f := by
  have hl := muL_len (a.getD i 0) e b 0 (by rw [h.elen, hb])
  have hlt := muL_lt (a.getD i 0) (getD_ltN haW i hi) e b 0 h.elt hbW (by omega)
  have hv := mu_val (a.getD i 0) e b 0 (by rw [h.elen, hb])
  cases hm : muL (a.getD i 0) e b 0 with
  | nil => rw [hm, h.elen] at hl; simp at hl
  | cons x f =>
    rw [hm] at hl hlt hv
    refine ⟨x, f, rfl, by rw [List.length_append, h.dlen]; rfl, by rw [List.length_cons, h.elen] at hl; omega, ?_, fun y hy => hlt y (by simp [hy]), ?_⟩
    · intro y hy
      rcases List.mem_append.1 hy with hy | hy
      · exact h.dlt y hy
      · simp at hy; subst hy; exact hlt _ (by simp)
    · have h1 : valB 256 (d ++ [x]) + 256 ^ (i + 1) * valB 256 f = valB 256 d + 256 ^ i * valB 256 (x :: f) := by
        rw [val_app, h.dlen]
        simp only [valB]
        rw [Nat.pow_succ, Nat.mul_zero, Nat.add_zero, Nat.mul_add, Nat.mul_assoc, Nat.add_assoc]
      have h2 : a.take (i + 1) = a.take i ++ [a.getD i 0] := by
        rw [List.take_add_one]; simp [hi]
      have h3 : valB 256 (a.take (i + 1)) = valB 256 (a.take i) + 256 ^ i * a.getD i 0 := by
        rw [h2, val_app, List.length_take, Nat.min_eq_left (by omega)]
        simp [valB]
      rw [h1, hv, h3, Nat.add_zero, Nat.add_mul, ← h.val, Nat.mul_add, Nat.mul_assoc]
      omega
end Go.Proofs.YtgnblaaldpniiaaGreatDoor.Sc
end
section
set_option linter.unusedSimpArgs false
set_option linter.unusedVariables false
set_option maxRecDepth 100000
namespace Go.Proofs.YtgnblaaldpniiaaGreatDoor.Sc
open Go.RowKit Go.Lib
def addL : List Nat → List Nat → Nat → List Nat
  | x :: xs, y :: ys, c => (x + y + c) % 4294967296 :: addL xs ys ((x + y + c) / 4294967296)
  | _, _, _ => []
theorem addL_nil (ys : List Nat) (c : Nat) : addL [] ys c = [] := by cases ys <;> rfl
theorem infoN : (Tryz.prog.info? 87).map (·.size) = some 16 := by kernel_rfl
theorem zeroN : ∃ Z : Array Value, Z.size = 16 ∧ ∀ w, (zeroValue 87).run Tryz.prog w = .ok (.agg Z) w :=
  ⟨(numC .u32 (List.replicate 16 0)).toArray, by kernel_rfl, (zero_of_info (n := 16) (by kernel_rfl)).1⟩
def NumPost (l : List Nat) (w : World) (e : Ending) (w' : World) : Prop := e = .returned (aggN .u32 l) ∧ Below w.heap.size w w'
set_option maxHeartbeats 1000000 in
theorem sum_any (a b : List Nat) (ha : a.length = 16) (hb : b.length = 16) (hal : ∀ x ∈ a, x < 4294967296) (hbl : ∀ x ∈ b, x < 4294967296) (w : World) :
    Calls Tryz.prog 73 #[aggN .u32 a, aggN .u32 b] w (NumPost (addL a b 0) w) := by
  obtain ⟨Z, hZ, hz⟩ := zeroN
  replace hZ := Kept.mk hZ
  replace ha := Kept.mk ha
  replace hb := Kept.mk hb
  replace hal := Kept.mk hal
  replace hbl := Kept.mk hbl
  obtain ⟨A, hA⟩ : ∃ A, (numC .u32 a).toArray = A := ⟨_, rfl⟩
  obtain ⟨B, hB⟩ : ∃ B, (numC .u32 b).toArray = B := ⟨_, rfl⟩
  unfold aggN
  rw [hA, hB]
  go_enter Tryz.func73, Tryz.ntmps73
  go_wp2
  have h1 : Arr (((w.alloc (.cells A 87)).alloc (.cells B 87)).alloc (.cells Z 87)) w.heap.size 87 .u32 a := by
    have h := Arr.new w 87 .u32 a
    rw [hA] at h
    exact (h.from ((Below.refl _ _).alloc (Nat.le_refl _) _)).from ((Below.refl _ _).alloc (Nat.le_refl _) _)
  have h2 : Arr (((w.alloc (.cells A 87)).alloc (.cells B 87)).alloc (.cells Z 87)) (w.heap.size + 1) 87 .u32 b := by
    have h := Arr.new (w.alloc (.cells A 87)) 87 .u32 b
    rw [hB, World.size_alloc] at h
    exact h.from ((Below.refl _ _).alloc (Nat.le_refl _) _)
  have h3 : (((w.alloc (.cells A 87)).alloc (.cells B 87)).alloc (.cells Z 87)).heap[w.heap.size + 2]? = some (.cells Z 87 (0, 0)) := by
    have h := heap_alloc_new ((w.alloc (.cells A 87)).alloc (.cells B 87)) (.cells Z 87)
    simpa using h
  have h4 : Below w.heap.size w (((w.alloc (.cells A 87)).alloc (.cells B 87)).alloc (.cells Z 87)) :=
    (((Below.refl _ _).alloc (Nat.le_refl _) _).alloc (by simp) _).alloc (by simp; omega) _
  replace hA := Kept.mk hA
  replace hB := Kept.mk hB
  generalize ((w.alloc (.cells A 87)).alloc (.cells B 87)).alloc (.cells Z 87) = w0 at h1 h2 h3 h4 ⊢
  obtain ⟨n, hn⟩ : ∃ n, w.heap.size = n := ⟨_, rfl⟩
  rw [hn] at h1 h2 h3 ⊢
  replace h1 := Kept.mk h1
  replace h2 := Kept.mk h2
  replace h3 := Kept.mk h3
  replace h4 := Kept.mk h4
  replace hn := Kept.mk hn
  go_loopw [5, 8] (fun v5 v8 wr => ∃ (i c : Nat) (d : List Nat), i ≤ 16 ∧ c ≤ 1 ∧ v5 = .int .u64 (c : Int) ∧ v8 = .int .i64 (i : Int) ∧ Kept (d.length = i) ∧ Kept (Arr wr n 87 .u32 (d ++ a.drop i)) ∧ Kept (Arr wr (n + 1) 87 .u32 b) ∧
    Kept (wr.heap[n + 2]? = some (.cells Z 87 (0, 0))) ∧ Kept (Below w.heap.size w wr) ∧ Kept (d ++ addL (a.drop i) (b.drop i) c = addL a b 0)) (fun _ v8 _ => 16 - (RowKit.intOf v8).toNat)
  case atStart => exact ⟨0, 0, [], by omega, by omega, rfl, rfl, ⟨rfl⟩, h1, h2, h3, h4, ⟨rfl⟩⟩
  case round =>
    clear h1 h2 h3 h4
    obtain ⟨i, c, d, hi, hc, rfl, rfl, HD, H1, H2, H3, H4, HE⟩ := hrel
    by_cases hlt : i < 16
    · obtain ⟨x, hx⟩ : ∃ x, a.getD i 0 = x := ⟨_, rfl⟩
      obtain ⟨y, hy⟩ : ∃ y, b.getD i 0 = y := ⟨_, rfl⟩
      have hda := drop_getD a i (by rw [ha.out]; exact hlt)
      have hdb := drop_getD b i (by rw [hb.out]; exact hlt)
      rw [hx] at hda
      rw [hy] at hdb
      have c1 : ∀ u : Held (From wr.drew), u.w.cell? ⟨n, i, none⟩ = some (.int .u32 (x : Int)) := fun u => (H1.out.from u.h.of_drew).cellMid hda HD.out
      have c2 : ∀ u : Held (From wr.drew), u.w.cell? ⟨n + 1, i, none⟩ = some (.int .u32 (y : Int)) := fun u => hy ▸ (H2.out.from u.h.of_drew).cell i (by rw [hb.out]; exact hlt)
      replace hda := Kept.mk hda
      replace hdb := Kept.mk hdb
      have hxl : x < 4294967296 := hx ▸ getD_ltN hal.out i (by rw [ha.out]; exact hlt)
      have hyl : y < 4294967296 := hy ▸ getD_ltN hbl.out i (by rw [hb.out]; exact hlt)
      replace hx := Kept.mk hx
      replace hy := Kept.mk hy
      go_wp2
      refine wp_region_from (by kernel_rfl) (by kernel_rfl) ?_
      repeat (go_big_quiet_step (fail))
      refine wpQuiet_nil ?_
      intro w5 hw5
      have H15 := H1.out.from hw5.of_drew
      have H25 := H2.out.from hw5.of_drew
      have f5 := H15.frozen i
      have c5 := H15.cellMid hda.out HD.out
      have b5 := H4.out.trans (hw5.of_drew.mono H4.out.size)
      have h35 := (hw5.of_drew.block (n + 2) (Array.getElem?_eq_some_iff.1 H3.out).1).trans H3.out
      replace H15 := Kept.mk H15
      replace H25 := Kept.mk H25
      replace b5 := Kept.mk b5
      replace h35 := Kept.mk h35
      clear c1 c2
      go_wp2
      go_roundw
      case rel => exact ⟨i + 1, (x + y + c) / 4294967296, d ++ [(x + y + c) % 4294967296], by omega, by omega, val_eq (by omega), val_eq (by omega), ⟨by rw [List.length_append, HD.out]; rfl⟩, ⟨H15.out.step hda.out HD.out _ (by omega)⟩,
        ⟨H25.out.other (by omega) _ _⟩, ⟨(Below.heap_setCell w5 ⟨n, i, none⟩ _ (n + 2) (by simp)).trans h35.out⟩, ⟨b5.out.setCell (by simp [hn.out]) _⟩, ⟨by
          have h := HE.out
          rw [hda.out, hdb.out, addL] at h
          rw [List.append_assoc]
          exact h⟩⟩
      case measure => simp [RowKit.intOf]; omega
    · obtain rfl : i = 16 := by omega
      have hA8 : Arr wr n 87 .u32 d := by have h := H1.out; rw [List.drop_eq_nil_of_le (by rw [ha.out]; omega), List.append_nil] at h; exact h
      have hd : d = addL a b 0 := by have h := HE.out; rw [List.drop_eq_nil_of_le (by rw [ha.out]; omega), addL_nil, List.append_nil] at h; exact h
      replace hA8 := Kept.mk hA8
      replace hd := Kept.mk hd
      clear HE H1
      go_wp2_with (first
        | (refine wpList_load_row rfl 87 (.tmp 2) rfl n rfl 87 (numC .u32 d).toArray (0, 0) _ hA8.out.blk Tryz.underlying87 rfl ?_ ?_; (rw [infoN, List.size_toArray, numC_length, HD.out]))
        | (refine wpList_store_row rfl 87 (.tmp 4) (.tmp 29) rfl (n + 2) (numC .u32 d).toArray rfl rfl 87 Z H3.out ?_ ?_ (numC_one _ _) ?_; (rw [infoN, List.size_toArray, numC_length, HD.out]); (rw [hZ.out, List.size_toArray, numC_length, HD.out])))
      exact bodyPost_ret (results_cell_row (p := 4) (ty := 87) Tryz.results73 _ _ (n + 2) 87 (numC .u32 d).toArray (0, 0) _ rfl (setRow_heap _ _ _ _ _ _ H3.out) Tryz.underlying87 rfl (by rw [infoN, List.size_toArray, numC_length, HD.out])) rfl
        ⟨by rw [← hd.out]; rfl, below_setRow H4.out (by rw [hn.out]; omega) _⟩
end Go.Proofs.YtgnblaaldpniiaaGreatDoor.Sc
end
section
set_option linter.unusedSimpArgs false
set_option linter.unusedVariables false
set_option maxRecDepth 100000
namespace Go.Proofs.YtgnblaaldpniiaaGreatDoor.Sc
open Go.RowKit Go.Lib
def subL : List Nat → List Nat → Nat → List Nat
  | x :: xs, y :: ys, c => (x + 4294967296 - y - c) % 4294967296 :: subL xs ys (if x < y + c then 1 else 0)
  | _, _, _ => []
theorem subL_nil (ys : List Nat) (c : Nat) : subL [] ys c = [] := by cases ys <;> rfl
def subU : List Nat → List Nat → Nat → Nat
  | x :: xs, y :: ys, c => subU xs ys (if x < y + c then 1 else 0)
  | _, _, c => c
theorem subU_nil (ys : List Nat) (c : Nat) : subU [] ys c = c := by cases ys <;> rfl
theorem subU_le : ∀ (xs ys : List Nat) (c : Nat), c ≤ 1 → subU xs ys c ≤ 1
  | [], _, _, h => by rw [subU_nil]; exact h
  | x :: xs, [], _, h => h
  | x :: xs, y :: ys, c, h => by rw [subU]; exact subU_le xs ys _ (by split <;> omega)
def DiffPost (l : List Nat) (u : Nat) (w : World) (e : Ending) (w' : World) : Prop := e = .returned (.tuple #[aggN .u32 l, .bool (decide (u = 1))]) ∧ Below w.heap.size w w'
theorem eq_one (c : Nat) : ((c : Int) == 1) = decide (c = 1) := by
  rw [Bool.eq_iff_iff, beq_iff_eq, decide_eq_true_eq]; omega
theorem under_hi (x y c : Nat) (hx : x < 4294967296) (hy : y < 4294967296) (hc : c ≤ 1) : IntKind.u64.wrap (IntKind.u64.wrap ((x : Int) - (y : Int)) - (c : Int)) / 9223372036854775808 = (((if x < y + c then 1 else 0 : Nat)) : Int) := by
  simp only [IntKind.wrap, IntKind.signed, IntKind.bits]
  by_cases h : x < y + c
  · rw [if_pos h]; simp; omega
  · rw [if_neg h]; simp; omega
theorem under_lo (x y c : Nat) (hx : x < 4294967296) (hy : y < 4294967296) (hc : c ≤ 1) : IntKind.u64.wrap (IntKind.u64.wrap ((x : Int) - (y : Int)) - (c : Int)) % 4294967296 = (((x + 4294967296 - y - c) % 4294967296 : Nat) : Int) := by
  simp only [IntKind.wrap, IntKind.signed, IntKind.bits]
  simp; omega
set_option maxHeartbeats 1000000 in
theorem diff_any (a b : List Nat) (ha : a.length = 16) (hb : b.length = 16) (hal : ∀ x ∈ a, x < 4294967296) (hbl : ∀ x ∈ b, x < 4294967296) (w : World) :
    Calls Tryz.prog 111 #[aggN .u32 a, aggN .u32 b] w (DiffPost (subL a b 0) (subU a b 0) w) := by
  obtain ⟨Z, hZ, hz⟩ := zeroN
  replace hZ := Kept.mk hZ
  replace ha := Kept.mk ha
  replace hb := Kept.mk hb
  replace hal := Kept.mk hal
  replace hbl := Kept.mk hbl
  obtain ⟨A, hA⟩ : ∃ A, (numC .u32 a).toArray = A := ⟨_, rfl⟩
  obtain ⟨B, hB⟩ : ∃ B, (numC .u32 b).toArray = B := ⟨_, rfl⟩
  unfold aggN
  rw [hA, hB]
  go_enter Tryz.func111, Tryz.ntmps111
  go_wp2
  have h1 : Arr (((w.alloc (.cells A 87)).alloc (.cells B 87)).alloc (.cells Z 87)) w.heap.size 87 .u32 a := by
    have h := Arr.new w 87 .u32 a
    rw [hA] at h
    exact (h.from ((Below.refl _ _).alloc (Nat.le_refl _) _)).from ((Below.refl _ _).alloc (Nat.le_refl _) _)
  have h2 : Arr (((w.alloc (.cells A 87)).alloc (.cells B 87)).alloc (.cells Z 87)) (w.heap.size + 1) 87 .u32 b := by
    have h := Arr.new (w.alloc (.cells A 87)) 87 .u32 b
    rw [hB, World.size_alloc] at h
    exact h.from ((Below.refl _ _).alloc (Nat.le_refl _) _)
  have h3 : (((w.alloc (.cells A 87)).alloc (.cells B 87)).alloc (.cells Z 87)).heap[w.heap.size + 2]? = some (.cells Z 87 (0, 0)) := by
    have h := heap_alloc_new ((w.alloc (.cells A 87)).alloc (.cells B 87)) (.cells Z 87)
    simpa using h
  have h4 : Below w.heap.size w (((w.alloc (.cells A 87)).alloc (.cells B 87)).alloc (.cells Z 87)) :=
    (((Below.refl _ _).alloc (Nat.le_refl _) _).alloc (by simp) _).alloc (by simp; omega) _
  replace hA := Kept.mk hA
  replace hB := Kept.mk hB
  generalize ((w.alloc (.cells A 87)).alloc (.cells B 87)).alloc (.cells Z 87) = w0 at h1 h2 h3 h4 ⊢
  obtain ⟨n, hn⟩ : ∃ n, w.heap.size = n := ⟨_, rfl⟩
  rw [hn] at h1 h2 h3 ⊢
  replace h1 := Kept.mk h1
  replace h2 := Kept.mk h2
  replace h3 := Kept.mk h3
  replace h4 := Kept.mk h4
  replace hn := Kept.mk hn
  go_loopw [6, 9] (fun v6 v9 wr => ∃ (i c : Nat) (d : List Nat), i ≤ 16 ∧ c ≤ 1 ∧ v6 = .int .u64 (c : Int) ∧ v9 = .int .i64 (i : Int) ∧ Kept (d.length = i) ∧ Kept (Arr wr n 87 .u32 (d ++ a.drop i)) ∧ Kept (Arr wr (n + 1) 87 .u32 b) ∧
    Kept (wr.heap[n + 2]? = some (.cells Z 87 (0, 0))) ∧ Kept (Below w.heap.size w wr) ∧ Kept (d ++ subL (a.drop i) (b.drop i) c = subL a b 0) ∧ Kept (subU (a.drop i) (b.drop i) c = subU a b 0)) (fun _ v9 _ => 16 - (RowKit.intOf v9).toNat)
  case atStart => exact ⟨0, 0, [], by omega, by omega, rfl, rfl, ⟨rfl⟩, h1, h2, h3, h4, ⟨rfl⟩, ⟨rfl⟩⟩
  case round =>
    clear h1 h2 h3 h4
    obtain ⟨i, c, d, hi, hc, rfl, rfl, HD, H1, H2, H3, H4, HE, HU⟩ := hrel
    by_cases hlt : i < 16
    · obtain ⟨x, hx⟩ : ∃ x, a.getD i 0 = x := ⟨_, rfl⟩
      obtain ⟨y, hy⟩ : ∃ y, b.getD i 0 = y := ⟨_, rfl⟩
      have hda := drop_getD a i (by rw [ha.out]; exact hlt)
      have hdb := drop_getD b i (by rw [hb.out]; exact hlt)
      rw [hx] at hda
      rw [hy] at hdb
      have c1 : ∀ u : Held (From wr.drew), u.w.cell? ⟨n, i, none⟩ = some (.int .u32 (x : Int)) := fun u => (H1.out.from u.h.of_drew).cellMid hda HD.out
      have c2 : ∀ u : Held (From wr.drew), u.w.cell? ⟨n + 1, i, none⟩ = some (.int .u32 (y : Int)) := fun u => hy ▸ (H2.out.from u.h.of_drew).cell i (by rw [hb.out]; exact hlt)
      replace hda := Kept.mk hda
      replace hdb := Kept.mk hdb
      have hxl : x < 4294967296 := hx ▸ getD_ltN hal.out i (by rw [ha.out]; exact hlt)
      have hyl : y < 4294967296 := hy ▸ getD_ltN hbl.out i (by rw [hb.out]; exact hlt)
      replace hx := Kept.mk hx
      replace hy := Kept.mk hy
      go_wp2
      refine wp_region_from (by kernel_rfl) (by kernel_rfl) ?_
      repeat (go_big_quiet_step (fail))
      refine wpQuiet_nil ?_
      intro w5 hw5
      have H15 := H1.out.from hw5.of_drew
      have H25 := H2.out.from hw5.of_drew
      have f5 := H15.frozen i
      have c5 := H15.cellMid hda.out HD.out
      have b5 := H4.out.trans (hw5.of_drew.mono H4.out.size)
      have h35 := (hw5.of_drew.block (n + 2) (Array.getElem?_eq_some_iff.1 H3.out).1).trans H3.out
      replace H15 := Kept.mk H15
      replace H25 := Kept.mk H25
      replace b5 := Kept.mk b5
      replace h35 := Kept.mk h35
      clear c1 c2
      go_wp2
      go_roundw
      case rel => exact ⟨i + 1, (if x < y + c then 1 else 0), d ++ [(x + 4294967296 - y - c) % 4294967296], by omega, by split <;> omega, val_eq (under_hi x y c hxl hyl hc), val_eq (by omega), ⟨by rw [List.length_append, HD.out]; rfl⟩, ⟨H15.out.step hda.out HD.out _ (under_lo x y c hxl hyl hc)⟩,
        ⟨H25.out.other (by omega) _ _⟩, ⟨(Below.heap_setCell w5 ⟨n, i, none⟩ _ (n + 2) (by simp)).trans h35.out⟩, ⟨b5.out.setCell (by simp [hn.out]) _⟩, ⟨by
          have h := HE.out
          rw [hda.out, hdb.out, subL] at h
          rw [List.append_assoc]
          exact h⟩, ⟨by
          have h := HU.out
          rw [hda.out, hdb.out, subU] at h
          exact h⟩⟩
      case measure => simp [RowKit.intOf]; omega
    · obtain rfl : i = 16 := by omega
      have hA8 : Arr wr n 87 .u32 d := by have h := H1.out; rw [List.drop_eq_nil_of_le (by rw [ha.out]; omega), List.append_nil] at h; exact h
      have hd : d = subL a b 0 := by have h := HE.out; rw [List.drop_eq_nil_of_le (by rw [ha.out]; omega), subL_nil, List.append_nil] at h; exact h
      have hu : decide (c = 1) = decide (subU a b 0 = 1) := by have h := HU.out; rw [List.drop_eq_nil_of_le (by rw [ha.out]; omega), subU_nil] at h; rw [h]
      have hce := eq_one c
      replace hA8 := Kept.mk hA8
      replace hd := Kept.mk hd
      replace hu := Kept.mk hu
      clear HE H1 HU
      go_wp2_with (first
        | (refine wpList_load_row rfl 87 (.tmp 2) rfl n rfl 87 (numC .u32 d).toArray (0, 0) _ hA8.out.blk Tryz.underlying87 rfl ?_ ?_; (rw [infoN, List.size_toArray, numC_length, HD.out]))
        | (refine wpList_store_row rfl 87 (.tmp 4) (.tmp 30) rfl (n + 2) (numC .u32 d).toArray rfl rfl 87 Z H3.out ?_ ?_ (numC_one _ _) ?_; (rw [infoN, List.size_toArray, numC_length, HD.out]); (rw [hZ.out, List.size_toArray, numC_length, HD.out])))
      have hl := run_loadVar_row (P := Tryz.prog) (wr.setRow (n + 2) (numC .u32 d).toArray) (n + 2) 87 87 (numC .u32 d).toArray (0, 0) _ (setRow_heap _ _ _ _ _ _ H3.out) Tryz.underlying87 rfl (by rw [infoN, List.size_toArray, numC_length, HD.out])
      refine bodyPost_ret (v := .tuple #[.agg (numC .u32 d).toArray, .bool (decide (c = 1))]) ?_ rfl ⟨by rw [hd.out, hu.out]; rfl, below_setRow H4.out (by rw [hn.out]; omega) _⟩
      simp [results, Tryz.results111, asAddr, hl]
end Go.Proofs.YtgnblaaldpniiaaGreatDoor.Sc
end
