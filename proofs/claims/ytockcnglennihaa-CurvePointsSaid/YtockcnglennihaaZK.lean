/- Small facts for walks over texts and rows of bytes: a list of bytes as a string, rows that the call owns, tests in the walk's own spelling. No program is spoken of.
Rows of bytes in this program: what the call owns, as a string.
The last step of a row whose call leaves a world of which we know that nothing below the old heap's end has changed.
Regions that draw their order, walked once in the order of the text, where the operations read and the callees make memory: the world at hand is any one that has grown out of the first one. A law for a region that stores at its end, too. No program is spoken of.
Regions that draw their order and end in a store or an append, of which one operation (a move, which looks at no world) may come late: it is taken first, wherever it comes. No program is spoken of.
Regions that draw their order, of which one operation makes a new block (a variable), whenever it comes up: the others read, their callees make memory, the last ones stand in the order of the text. What the new block's number is hangs on the order; what the others yield does not. No program is spoken of.
Regions that draw their order: what only reads is taken first, what acts comes up one by one; the condition on the world need not hold behind the last operation. No program is spoken of.
A law for regions that draw their order: one operation takes a component of what a call told, and may come late; one makes a new block, whenever it comes up; the others read; the last ones stand in the order of the text. No program is spoken of.
Regions that draw their order, of which two operations make new blocks (variables), whenever they come up: the others read, their callees make memory, the last ones stand in the order of the text. No program is spoken of.
A whole row loaded in a region that draws its order. No program is spoken of.
A call's own blocks as one state of the memory: which block holds which cells; laws of the walk over it. No program is spoken of. -/
import Derived.WalkKit
import Derived.WalkSpells
import Derived.OwnWalk
import Derived.Laws.AppendOwn
import Derived.Laws.AppendOwnNone
import Derived.Deep.QuietTactic
import Derived.BigQuiet
import Derived.Deep.RegionHeld3
import Derived.Deep.RegionWith
import Derived.Outline
import Derived.Lib.Hide
import Derived.Lib.OthersKept
import Derived.Lib.AppendStr
import Derived.Lib.UnsafeStr
import Derived.Lib.Strings
import Derived.RowKit3
import Derived.Test.YtockcnglennihaaProg
import Derived.Below
import Derived.ChangeSame
import Derived.StillTail
import Derived.OrdersHeld
import Derived.Laws.Rows
import Derived.Deep.WholeRow
import Derived.Deep.MidRow
import Derived.Great.Ranges
import Derived.Laws.Tables
import Derived.Laws.CopyOwn
section
set_option linter.unusedVariables false
namespace Go.Proofs.Ytockcnglennihaa
open Go.RowKit Go.Lib
theorem bool_ret {a b : Bool} (h : a = b) : Ending.returned (.bool a) = .returned (.bool b) := by rw [h]
theorem int_ret {k : IntKind} {a b : Int} (h : a = b) : Ending.returned (.int k a) = .returned (.int k b) := by rw [h]
theorem beq_dec (a b : List UInt8) : (a == b) = decide (a = b) := by
  by_cases h : a = b <;> simp [h]
/-- A list of bytes as a string. -/
def S (l : List UInt8) : ByteArray := ⟨l.toArray⟩
theorem S_data (l : List UInt8) : (S l).data.toList = l := rfl
theorem S_of (s : ByteArray) : S s.data.toList = s := rfl
theorem S_size (l : List UInt8) : (S l).size = l.length := by rw [Lib.size_eq]; rfl
theorem S_append (a b : List UInt8) : S a ++ S b = S (a ++ b) := by
  apply ByteArray.ext
  apply Array.ext'
  show (S a ++ S b).data.toList = _
  rw [ByteArray.data_append]; simp [S]
theorem toList_beq (s : ByteArray) (l : List UInt8) : (s.toList == l) = decide (s.data.toList = l) := by rw [Lib.toList_data, beq_dec]
theorem S_beq (a b : List UInt8) : ((S a).toList == (S b).toList) = decide (a = b) := by
  rw [Lib.toList_data, Lib.toList_data, S_data, S_data, beq_dec]
theorem beq_self (l : List UInt8) : ((S l).toList == l) = true := by rw [toList_beq]; simp [S]
theorem beq_S_nil (r : List UInt8) (hne : r ≠ []) : ((S r).toList == []) = false := by
  rw [toList_beq, decide_eq_false_iff_not]; exact hne
theorem isEmpty_S (r : List UInt8) (hne : r ≠ []) : (S r).toList.isEmpty = false := by
  rw [Lib.toList_data]; show r.isEmpty = false; cases r <;> simp_all
theorem getD_at (s : ByteArray) (k : Nat) (h : k < s.size) : s.data.toList.getD k 0 = s[k] := by
  rw [List.getD_eq_getElem?_getD, List.getElem?_eq_getElem (by rw [← Lib.size_eq]; exact h)]; rfl
theorem byte_at (s : List UInt8) (k : Nat) (h : k < (S s).size) : (S s)[k] = s.getD k 0 := by
  have := getD_at (S s) k h
  rw [S_data] at this
  exact this.symm
theorem drop_cons (s : List UInt8) (k : Nat) (h : k < (S s).size) : s.drop k = (S s)[k] :: s.drop (k + 1) := by
  have h2 : k < s.length := by rw [← S_size]; exact h
  rw [List.drop_eq_getElem_cons h2, byte_at s k h]; simp [h2]
theorem take_snocB (s : List UInt8) (k : Nat) (h : k < (S s).size) : s.take (k + 1) = s.take k ++ [(S s)[k]] := by
  have h2 : k < s.length := by rw [← S_size]; exact h
  rw [List.take_succ_eq_append_getElem h2, byte_at s k h]; simp [h2]
theorem getD_dropN (l : List UInt8) (i k : Nat) : (l.drop i).getD k 0 = l.getD (i + k) 0 := by simp [List.getD, List.getElem?_drop]
theorem beq_byte (c : UInt8) (n : Nat) (hn : n < 256) : ((c.toNat : Int) == (n : Int)) = decide (c = UInt8.ofNat n) := by
  rw [Bool.eq_iff_iff, beq_iff_eq, decide_eq_true_eq]
  constructor
  · intro h
    have h2 : c.toNat = n := by omega
    subst h2; simp
  · intro h
    subst h
    simp; omega
theorem beq_no {c : UInt8} {n : Nat} (hn : n < 256) (h : c ≠ UInt8.ofNat n) : ((c.toNat : Int) == (n : Int)) = false := by
  rw [beq_byte c n hn]; simpa using h
theorem row_new (w : World) (xs : List Value) (t : TypeId) : ∀ (j : Nat) (u : Value), xs[j]? = some u → (w.alloc (.cells xs.toArray t)).cell? ((⟨w.heap.size, 0, none⟩ : Addr).add j) = some u := by
  intro j u h
  have e : ((⟨w.heap.size, 0, none⟩ : Addr).add j) = ⟨w.heap.size, j, none⟩ := by
    unfold Addr.add; split <;> simp_all
  rw [e, cell_of_row _ w.heap.size j xs.toArray t (0, 0) (heap_alloc_new w _)]
  simpa using h
theorem ownsRow_below {B : Nat} {e : TypeId} {k : Nat} {v : Value} {n : Nat} {xs : List Value} {w w' : World} (h : w.ownsRow B e k v n xs) (hb : Below w.heap.size w w') : w'.ownsRow B e k v n xs := by
  refine ⟨h.1, ?_⟩
  rcases h.2 with hn | ⟨g, cap, cur, hv, hB, hg, rest⟩
  · exact Or.inl hn
  · exact Or.inr ⟨g, cap, cur, hv, hB, (hb.block g (Array.getElem?_eq_some_iff.1 hg).1).trans hg, rest⟩
theorem own_form {w : World} {base : Nat} {e : TypeId} {size : Nat} {v : Value} {n : Nat} {xs : List Value} (h : w.ownsRow base e size v n xs) : ∃ A cap, v = .slice A n cap := by
  rcases h.2 with ⟨rfl, rfl⟩ | ⟨g, cap, cur, rfl, _⟩
  · exact ⟨_, _, rfl⟩
  · exact ⟨_, _, rfl⟩
theorem empty_row (w : World) (B : Nat) (t : TypeId) (hB : B ≤ w.heap.size) : (w.alloc (.cells #[] t)).ownsRow B t 1 (.slice (some ⟨w.heap.size, 0, none⟩) 0 0) 0 [] :=
  ⟨rfl, Or.inr ⟨w.heap.size, 0, #[], rfl, hB, heap_alloc_new w _, by omega, by unfold maxLen; omega, rfl, rfl⟩⟩
theorem step_own {P : Program} {ops : Array Oper} {o : Oper} {a : Act} {w : World} {K : Act → World → Prop} {Q : Exit → Act → World → Prop} {E : Prop} (hgd : o.guard = none) (s x : Operand) (t : TypeId)
    (ho : o.op = .call { callee := .builtin .append, args := #[s, x], argTypes := #[t, t] })
    (base : Nat) (e : TypeId) (i : TypeInfo) (z : Value) (size bytes : Nat) (ht : P.underlying t = some (.slice e)) (hi : P.info? e = some i) (hz : i.zero = some z)
    (hsize : i.size = size) (hby : i.bytes = bytes) (hzs : z.cells.size = size) (hsz : 0 < size)
    (v : Value) (n : Nat) (xs : List Value) (hs : a.eval s = v) (hown : w.ownsRow base e size v n xs)
    (ad : Addr) (m c : Nat) (news : List Value) (hx : a.eval x = .slice (some ad) m c) (hl : news.length = m * size) (hnews : ∀ j u, news[j]? = some u → w.cell? (ad.add j) = some u) (h1 : ∀ u ∈ news, u.oneCell' = true)
    (h63 : n + m ≤ maxLen) (hbytes : (n + m) * bytes ≤ 140737488355328) (hbase : base ≤ w.heap.size)
    (h : ∀ v' w', w'.ownsRow base e size v' (n + m) (xs ++ news) → w.grownBy w' v.ownBlock → K (a.put o.dst v') w') :
    if Region.wanted o (yielded ops a.tmps) = true then Oper.wp P o a w K Q else E := by
  have hw : Region.wanted o (yielded ops a.tmps) = true := by simp [Region.wanted, hgd]
  rw [if_pos hw]
  exact wp_append_own w s x t ho base e i z size bytes ht hi hz hsize hby hzs hsz v n xs hs hown ad m c news hx hl hnews h1 h63 hbytes hbase fun v' w' h2 h3 _ => h v' w' h2 h3
theorem bits_xor_u32 (a b : Nat) (ha : a < 4294967296) (hb : b < 4294967296) :
    bits .xor .u32 (a : Int) (b : Int) = ((a ^^^ b : Nat) : Int) := by
  have hx : a ^^^ b < 2 ^ 32 := Nat.xor_lt_two_pow (by omega) (by omega)
  have h1 : (BitVec.ofInt 32 (a : Int)).toNat = a := by
    rw [BitVec.ofInt_natCast, BitVec.toNat_ofNat]; exact Nat.mod_eq_of_lt (by omega)
  have h2 : (BitVec.ofInt 32 (b : Int)).toNat = b := by
    rw [BitVec.ofInt_natCast, BitVec.toNat_ofNat]; exact Nat.mod_eq_of_lt (by omega)
  show IntKind.u32.wrap ((BitVec.ofInt 32 (a : Int) ^^^ BitVec.ofInt 32 (b : Int)).toNat : Int) = _
  rw [BitVec.toNat_xor, h1, h2]
  simp [IntKind.wrap, IntKind.signed, IntKind.bits]
  omega
end Go.Proofs.Ytockcnglennihaa
end
section
namespace Go.Proofs.Ytockcnglennihaa
open Go.RowKit Go.Lib
theorem info5 : (Try.prog.info? 5).map (fun i => (i.zero, i.size, i.bytes)) = some (some (.int .u8 0), 1, 1) := by kernel_rfl
theorem conv_own {w : World} {B : Nat} {A : Option Addr} {n cap : Nat} {l : List UInt8} (h : w.ownsRow B 5 1 (.slice A n cap) n (byteCells l)) : (convert 36 9 (.slice A n cap)).run Try.prog w = .ok (.string (S l)) w := by
  have hl : l.length = n := by have := h.1; rw [byteCells_length] at this; omega
  rcases h.2 with ⟨hv, h0⟩ | ⟨g, cap', cur, hv, _⟩
  · obtain ⟨rfl, rfl, rfl⟩ : A = none ∧ n = 0 ∧ cap = 0 := by injection hv with e1 e2 e3; exact ⟨e1, e2, e3⟩
    have : l = [] := List.eq_nil_of_length_eq_zero hl
    subst this
    rw [run_convert_bytes_string w 36 9 5 none _ _ Try.underlying36 Try.underlying5 Try.underlying9]
    rfl
  · obtain ⟨rfl, rfl⟩ : A = some ⟨g, 0, none⟩ ∧ cap = cap' := by injection hv with e1 e2 e3; exact ⟨e1, e3⟩
    subst hl
    refine run_convert_bytes_back w 36 9 5 _ _ l Try.underlying36 Try.underlying5 Try.underlying9 (fun j hj => ?_)
    refine h.cells (g := g) rfl j _ ?_
    simp [byteCells, hj]
end Go.Proofs.Ytockcnglennihaa
end
section
set_option linter.unusedVariables false
namespace Go.Proofs.Ytockcnglennihaa
open Go.RowKit Go.WideShapes Go.ChangeShapes
theorem post_below {H : Type} {enc : TypeId × Value → H} {P : Program} {f : Func} {s : ChangeSpec} {apart fresh handsOn again : Bool} {W W' : World} {args : Array Value} {v : Value} {ds gs : List (DataW H)} {before pa pv : List MemPlace}
    (hW : DataW.Whole enc P f.params.toList s.vars apart W args.toList ds gs before) (hb : Below W.heap.size W W')
    (hres : ∀ (b : Nat) (sp : Nat → Bool) (hd : Bool), DataW.TrodAll enc P W' b sp hd f.resultTypes.toList (v.resultList f.resultTypes.size) (s.fn H (ds ++ gs)).results [])
    (hargs : ∀ sp : Nat → Bool, (∀ p ∈ before, sp p.block = true) → DataW.TrodAll enc P W' 0 sp true f.params.toList args.toList (s.fn H (ds ++ gs)).args pa)
    (hvars : ∀ sp : Nat → Bool, (∀ p ∈ before, sp p.block = true) → DataW.TrodVars enc P W' sp s.vars (s.fn H (ds ++ gs)).vars pv)
    (hps : before = pa ++ pv)
    (hok : ∀ (j : Nat) (t : TypeId) (r : Value), f.resultTypes[j]? = some t → (v.resultList f.resultTypes.size)[j]? = some r → Value.okWide P W' .any 0 t r) :
    s.post enc P f apart fresh handsOn again W args v W' := by
  have hlt : ∀ p ∈ before, p.block < W.heap.size := fun p hp => hW.lt p hp
  have hold : ∀ p ∈ before, (fun b => decide (b < W.heap.size)) p.block = true := fun p hp => by simpa using hlt p hp
  refine ⟨ds, gs, before, [], pa, pv, hW, hres _ _ _, hargs _ hold, hvars _ hold, World.keptBut_mono (fun p hp => ⟨hp, ?_⟩) (hb.frame (· ∈ before)), fun _ => ?_⟩
  · rw [hps, List.mem_append] at hp
    exact Or.inr hp
  · obtain ⟨_, _, _, _, _, hz, hn⟩ := hW
    refine ⟨hok, _, _, ([] ++ pa) ++ pv, ⟨[] ++ pa, pv, trodAll_append (hargs _ (fun _ _ => rfl)) (hres _ _ _), hvars _ (fun _ _ => rfl), rfl, ?_, ?_⟩, ?_⟩
    · intro b off hp
      have hin : MemPlace.cell b off ∈ before := by rw [hps]; simpa using hp
      rw [hb.frozen (hlt _ hin)]
      exact hz b off hin
    · intro ha
      have := hn ha
      rw [hps] at this
      simpa using this
    · intro p hp _
      rw [hps]
      simpa using hp
end Go.Proofs.Ytockcnglennihaa
end
section
namespace Go.Proofs.Ytockcnglennihaa
open Go.RowKit
/-- A fact kept from the walk's looks: what is reckoned in it is reckoned by nobody. -/
structure Kept (p : Prop) : Prop where
  out : p
/-- A world that meets S. -/
structure Held (S : World → Prop) where
  w : World
  h : S w
/-- What has grown out of w. -/
def From (w w' : World) : Prop := Below w.heap.size w w'
theorem From.refl (w : World) : From w w := Below.refl _ _
theorem From.trans {a b c : World} (h : From a b) (k : From b c) : From a c := Below.trans h (Below.mono k h.size)
theorem From.below {a b : World} (h : From a b) : Below a.heap.size a b := h
theorem From.cell {a b : World} (h : From a b) (g o : Nat) (hg : g < a.heap.size) : b.cell? ⟨g, o, none⟩ = a.cell? ⟨g, o, none⟩ := Below.cell (p := ⟨g, o, none⟩) h hg
theorem From.frozen {a b : World} (h : From a b) (g o : Nat) (hg : g < a.heap.size) : b.frozen? ⟨g, o, none⟩ = a.frozen? ⟨g, o, none⟩ := Below.frozen (p := ⟨g, o, none⟩) h hg
theorem From.heap {a b : World} (h : From a b) (g : Nat) (hg : g < a.heap.size) : b.heap[g]? = a.heap[g]? := h.block g hg
theorem From.of_drew {w w' : World} (h : From w.drew w') : Below w.heap.size w w' := ((Below.refl _ w).drew).trans h
section
variable {P : Program} {ops : Array Oper} {md : Region.Mode} {C : World → Prop}
/-- A callee's contract, met in a world that has grown out of w. -/
theorem held_call {f : FuncId} {args : Array Value} {w : World} {v : Value} (u : Held (From w)) (h : Calls P f args u.w fun e w' => e = .returned v ∧ Below u.w.heap.size u.w w') :
    Calls P f args u.w fun e w'' => e = .returned v ∧ ∃ u' : Held (From w), w'' = u'.w :=
  h.mono fun _ w' ⟨he, hb⟩ => ⟨he, ⟨w', u.h.trans hb⟩, rfl⟩
instance (w : World) : Nonempty (Held (From w)) := ⟨⟨w, From.refl w⟩⟩
/-- The whole region reads, its callees make memory. -/
theorem wp_region_from {id : Nat} {Q : Exit → Act → World → Prop} {a : Act} {w : World} {l : List Oper} (hm : P.follows .mixedOrders = true) (hB : Region.lexB .any l.toArray = true)
    (h : wpQuiet P l.toArray (fun w' => ∃ u : Held (From w.drew), w' = u.w) (fun a' => ∀ w', From w.drew w' → Q .normal a' w') l a) : (Code.region id l.toArray true).wp P Q a w := by
  refine wp_region_quiet (C := fun w' => ∃ u : Held (From w.drew), w' = u.w) hm hB ⟨⟨w.drew, From.refl _⟩, rfl⟩ ?_
  have e : (fun a' => ∀ w', (∃ u : Held (From w.drew), w' = u.w) → Q .normal a' w') = (fun a' => ∀ w', From w.drew w' → Q .normal a' w') := by
    funext a'
    refine propext ⟨fun k w' hw => k w' ⟨⟨w', hw⟩, rfl⟩, fun k w' hw => ?_⟩
    obtain ⟨u, rfl⟩ := hw
    exact k _ u.h
  rw [e]
  simpa using h
/-- Whatever order is picked, till the first n operations have come up. -/
def wpAnyT (P : Program) (md : Region.Mode) (ops : Array Oper) (C : World → Prop) (n : Nat) (L : Array Bool → Act → Prop) : Nat → Array Bool → Act → Prop
  | 0, listed, a => L listed a
  | f + 1, listed, a => Region.ready md ops listed ≠ [] ∧ ∀ i ∈ Region.ready md ops listed, i < n ∧ qOp P ops C i (wpAnyT P md ops C n L f (listed.setIfInBounds i true)) a
theorem wpAny_of_T {n g : Nat} {L : Array Bool → Act → Prop} {Q : Exit → Act → World → Prop} (hL : ∀ listed a w, C w → L listed a → wpAny P md ops Q g listed a w) :
    ∀ (f : Nat) (listed : Array Bool) (a : Act) (w : World), C w → wpAnyT P md ops C n L f listed a → wpAny P md ops Q (f + g) listed a w
  | 0, _, _, _, hw, h => by rw [Nat.zero_add]; exact hL _ _ _ hw h
  | f + 1, _, _, _, hw, h => by
    rw [Nat.add_right_comm]
    exact ⟨fun h0 => absurd h0 h.1, fun i hi => wpOp_of_qOp hw (fun a' w' hw' => wpAny_of_T hL f _ a' w' hw') (h.2 i hi).2⟩
theorem wpAnyT_first {n i : Nat} {oi : Oper} {v : Value} {L : Array Bool → Act → Prop} (hi : ops[i]? = some oi) (hsel : ∀ (j : Nat) (o : Oper) cs b, ops[j]? = some o → o.op ≠ .select cs b)
    (hs : Region.sinkB md ops n = true) (hc : Region.chainB md ops n = true) (hn : n < ops.size) (hin : i < n)
    (hdone : ∀ listed a, L listed a → ∀ j ∈ Region.ready md ops listed, n ≤ j) :
    ∀ (f : Nat) (listed : Array Bool) (a : Act), HeadInv md ops n listed →
      (∀ j oj, ops[j]? = some oj → j ≠ i → listed.getD j true = false → (∀ e ∈ oj.after, Region.binds md e = true → e.on ≠ i) → oi.apart ops oj = true) →
      i ∈ Region.ready md ops listed → YieldsIn P ops C oi v a →
      wpAnyT P md ops C n L f (listed.setIfInBounds i true) (a.put oi.dst v) → wpAnyT P md ops C n L (f + 1) listed a := by
  intro f
  induction f with
  | zero =>
    intro listed a inv _ hr hy H
    refine ⟨List.ne_nil_of_mem hr, fun j hj => ?_⟩
    have hjn : j < n := by
      apply Classical.byContradiction
      intro hge
      exact tail_waits hs hc hn inv _ i rfl hin (mem_ready.1 hr).1 j (by omega) hj
    refine ⟨hjn, ?_⟩
    by_cases hji : j = i
    · exact hji ▸ hy.qOp hi H
    · exact absurd (hdone _ _ H j (ready_mono hj hji)) (by omega)
  | succ f ih =>
    intro listed a inv hfree hr hy H
    refine ⟨List.ne_nil_of_mem hr, fun j hj => ?_⟩
    have hjn : j < n := by
      apply Classical.byContradiction
      intro hge
      exact tail_waits hs hc hn inv _ i rfl hin (mem_ready.1 hr).1 j (by omega) hj
    refine ⟨hjn, ?_⟩
    by_cases hji : j = i
    · exact hji ▸ hy.qOp hi H
    · obtain ⟨hjun, oj, hoj, hall⟩ := mem_ready.1 hj
      have hnot : ∀ e ∈ oj.after, Region.binds md e = true → e.on ≠ i := by
        intro e he hb heq
        have h1 := hall e he hb
        rw [heq, getD_both (mem_ready.1 hr).1] at h1
        exact Bool.noConfusion h1
      have h2 := qOp_put hoj (hfree j oj hoj hji hjun hnot) (fun cs b => hsel i oi cs b hi) (fun cs b => hsel j oj cs b hoj) hy (H.2 j (ready_mono hj hji)).2
      refine qOp_mono (fun a' h3 => ih (listed.setIfInBounds j true) a' (inv.set hj hjn) (fun k ok hk hki hun hno => hfree k ok hk hki ?_ hno) (ready_mono hr (Ne.symm hji)) h3.1 ?_) h2
      · by_cases hjk : j = k
        · exact hjk ▸ hjun
        · rwa [getD_set_ne true hjk] at hun
      · rw [Array.setIfInBounds_comm _ _ hji]
        exact h3.2
theorem wpAnyT_lex {n g : Nat} {Lq : Act → Prop} (hsel : Region.noSelect ops = true) (hs : Region.sinkB md ops n = true) (hc : Region.chainB md ops n = true) (hn : n < ops.size) :
    ∀ (l : List Oper) (k : Nat) (listed : Array Bool) (a : Act), (∀ j, j < l.length → l[j]? = ops[k + j]?) → k + l.length = n → HeadInv md ops n listed →
    Region.lexHead md ops g l.length k listed = true → wpQuiet P ops C Lq l a →
    wpAnyT P md ops C n (fun listed' a' => Region.seqB md ops g n listed' = true ∧ Lq a') l.length listed a
  | [], k, listed, a, _, hk, _, hB, h => by
    obtain rfl : k = n := by simpa using hk
    exact ⟨by simpa [Region.lexHead] using hB, h⟩
  | o :: l, k, listed, a, hl, hk, inv, hB, h => by
    have h0 : ops[k]? = some o := by simpa using (hl 0 (by simp)).symm
    simp only [List.length_cons, Region.lexHead, Bool.and_eq_true] at hB
    simp only [List.length_cons] at hk
    have hr' : k ∈ Region.ready md ops listed := by simpa using hB.1.1
    have hst : qOp P ops C k (wpQuiet P ops C Lq l) a := by unfold qOp; simp only [h0]; exact h
    obtain ⟨v, hy, hK⟩ := yieldsIn_of_qOp h0 hst
    exact wpAnyT_first h0 (Region.noSelect_spec hsel) hs hc hn (by omega) (fun _ _ hL => seqB_ready hL.1) l.length listed a inv (Region.free_spec h0 hB.1.2) hr' hy
      (wpAnyT_lex hsel hs hc hn l (k + 1) _ _ (fun j hj => by have := hl (j + 1) (by simp; omega); simpa [Nat.add_assoc, Nat.add_comm 1 j] using this) (by omega) (inv.set hr' (by omega)) hB.2 hK)
/-- The first n operations read, their callees make memory; the others are walked as they stand. -/
theorem wp_region_from_tail {id : Nat} {Q : Exit → Act → World → Prop} {a : Act} {w : World} {l : List Oper} (n : Nat) (hm : P.follows .mixedOrders = true) (hB : Region.lexTailB .any l.toArray n = true)
    (h : wpQuiet P l.toArray (fun w' => ∃ u : Held (From w.drew), w' = u.w) (fun a' => ∀ w', From w.drew w' → wpList P l.toArray Q (l.drop n) a' w') (l.take n) a) : (Code.region id l.toArray true).wp P Q a w := by
  simp only [Region.lexTailB, Bool.and_eq_true, decide_eq_true_eq] at hB
  obtain ⟨⟨⟨⟨hsel, hn⟩, hs⟩, hc⟩, hlex⟩ := hB
  have hnl : n < l.length := by simpa using hn
  have htl : (l.take n).length = n := by simp; omega
  have hdl : (l.drop n).length = l.toArray.size - n := by simp
  have inv0 : HeadInv .any l.toArray n (Array.replicate l.toArray.size false) :=
    ⟨by simp, fun j oj _ hl => (by rw [getD_replicate_false] at hl; cases hl), fun t _ ht => getD_in (by simpa using ht) (getD_replicate_false _ _)⟩
  have H := wpAnyT_lex (md := .any) (g := l.toArray.size - n) hsel hs hc hn (l.take n) 0 _ a (fun j hj => by
    rw [htl] at hj
    simp [hj]) (by simpa using htl) inv0 (by rw [htl]; exact hlex) h
  refine wp_region_any hm ?_
  have K := wpAny_of_T (Q := Q) (g := l.toArray.size - n) (fun listed a' w' hw hL => by
    obtain ⟨u, rfl⟩ := hw
    have := wpAny_of_seq (md := .any) (Q' := Q) (l.drop n) n listed a' u.w (fun j => by simp [List.getElem?_drop]) (by rw [hdl]; exact hL.1) (hL.2 _ u.h)
    rwa [hdl] at this) _ _ _ w.drew ⟨⟨w.drew, From.refl _⟩, rfl⟩ H
  rw [htl, show n + (l.toArray.size - n) = l.toArray.size by omega] at K
  exact K
end
end Go.Proofs.Ytockcnglennihaa
end
section
namespace Go.Proofs.Ytockcnglennihaa
open Go.RowKit
section
variable {P : Program} {ops : Array Oper} {md : Region.Mode} {C : World → Prop}
/-- For each of the first n operations but those of pre there is one behind it, up to number n, that waits for it. -/
def sinkP (md : Region.Mode) (ops : Array Oper) (n : Nat) (pre : List Nat) : Bool :=
  (List.range n).all fun i => pre.contains i || (List.range (n + 1)).any fun j => decide (i < j) && Region.waitsFor md ops j i
theorem tail_waitsP {n : Nat} {pre : List Nat} {listed : Array Bool} (hs : sinkP md ops n pre = true) (hc : Region.chainB md ops n = true) (hn : n < ops.size) (inv : HeadInv md ops n listed)
    (hp : ∀ i ∈ pre, listed.getD i true = true) : ∀ (d i : Nat), n - i = d → i < n → listed.getD i true = false → ∀ t, n ≤ t → t ∉ Region.ready md ops listed := by
  intro d
  induction d using Nat.strongRecOn with
  | _ d ih =>
    intro i hd hi hun t ht hr
    obtain ⟨_, ot, hot, hall⟩ := mem_ready.1 hr
    have htlt : t < ops.size := (Array.getElem?_eq_some_iff.1 hot).1
    have late : ∀ k, n < k → k = t → False := fun k hk e => by
      subst e
      have h1 := List.all_eq_true.1 hc k (List.mem_range.2 htlt)
      simp only [Bool.or_eq_true, decide_eq_true_eq] at h1
      rcases h1 with h1 | h1
      · omega
      · obtain ⟨o', ho', e, he, hb, hon⟩ := Region.waitsFor_spec h1
        obtain rfl : o' = ot := Option.some.inj (ho'.symm.trans hot)
        have h2 := hall e he hb
        rw [hon, getD_both (inv.tail (k - 1) (by omega) (by omega))] at h2
        exact Bool.noConfusion h2
    by_cases htn : t = n
    · subst htn
      have h1 := List.all_eq_true.1 hs i (List.mem_range.2 hi)
      simp only [Bool.or_eq_true, List.contains_iff_mem] at h1
      rcases h1 with h1 | h1
      · rw [hp i h1] at hun; exact Bool.noConfusion hun
      · obtain ⟨j, hj, hj2⟩ := List.any_eq_true.1 h1
        simp only [Bool.and_eq_true, decide_eq_true_eq] at hj2
        obtain ⟨oj, hoj, e, he, hb, hon⟩ := Region.waitsFor_spec hj2.2
        have hjle : j ≤ t := by have := List.mem_range.1 hj; omega
        by_cases hjt : j = t
        · subst hjt
          obtain rfl : oj = ot := Option.some.inj (hoj.symm.trans hot)
          have h2 := hall e he hb
          rw [hon, getD_both hun] at h2
          exact Bool.noConfusion h2
        · cases hl : listed.getD j false with
          | true =>
            have h2 := inv.closed j oj hoj hl e he hb
            rw [hon, getD_both hun] at h2
            exact Bool.noConfusion h2
          | false => exact ih (t - j) (by omega) j rfl (by omega) (getD_in (by rw [inv.size]; omega) hl) t (Nat.le_refl _) hr
    · exact late t (by omega) rfl
theorem wpAnyT_firstP {n i : Nat} {pre : List Nat} {oi : Oper} {v : Value} {L : Array Bool → Act → Prop} (hi : ops[i]? = some oi) (hsel : ∀ (j : Nat) (o : Oper) cs b, ops[j]? = some o → o.op ≠ .select cs b)
    (hs : sinkP md ops n pre = true) (hc : Region.chainB md ops n = true) (hn : n < ops.size) (hin : i < n)
    (hdone : ∀ listed a, L listed a → ∀ j ∈ Region.ready md ops listed, n ≤ j) :
    ∀ (f : Nat) (listed : Array Bool) (a : Act), HeadInv md ops n listed → (∀ i ∈ pre, listed.getD i true = true) →
      (∀ j oj, ops[j]? = some oj → j ≠ i → listed.getD j true = false → (∀ e ∈ oj.after, Region.binds md e = true → e.on ≠ i) → oi.apart ops oj = true) →
      i ∈ Region.ready md ops listed → YieldsIn P ops C oi v a →
      wpAnyT P md ops C n L f (listed.setIfInBounds i true) (a.put oi.dst v) → wpAnyT P md ops C n L (f + 1) listed a := by
  intro f
  induction f with
  | zero =>
    intro listed a inv hp _ hr hy H
    refine ⟨List.ne_nil_of_mem hr, fun j hj => ?_⟩
    have hjn : j < n := by
      apply Classical.byContradiction
      intro hge
      exact tail_waitsP hs hc hn inv hp _ i rfl hin (mem_ready.1 hr).1 j (by omega) hj
    refine ⟨hjn, ?_⟩
    by_cases hji : j = i
    · exact hji ▸ hy.qOp hi H
    · exact absurd (hdone _ _ H j (ready_mono hj hji)) (by omega)
  | succ f ih =>
    intro listed a inv hp hfree hr hy H
    refine ⟨List.ne_nil_of_mem hr, fun j hj => ?_⟩
    have hjn : j < n := by
      apply Classical.byContradiction
      intro hge
      exact tail_waitsP hs hc hn inv hp _ i rfl hin (mem_ready.1 hr).1 j (by omega) hj
    refine ⟨hjn, ?_⟩
    by_cases hji : j = i
    · exact hji ▸ hy.qOp hi H
    · obtain ⟨hjun, oj, hoj, hall⟩ := mem_ready.1 hj
      have hnot : ∀ e ∈ oj.after, Region.binds md e = true → e.on ≠ i := by
        intro e he hb heq
        have h1 := hall e he hb
        rw [heq, getD_both (mem_ready.1 hr).1] at h1
        exact Bool.noConfusion h1
      have h2 := qOp_put hoj (hfree j oj hoj hji hjun hnot) (fun cs b => hsel i oi cs b hi) (fun cs b => hsel j oj cs b hoj) hy (H.2 j (ready_mono hj hji)).2
      refine qOp_mono (fun a' h3 => ih (listed.setIfInBounds j true) a' (inv.set hj hjn) (fun k hk => ?_) (fun k ok hk hki hun hno => hfree k ok hk hki ?_ hno) (ready_mono hr (Ne.symm hji)) h3.1 ?_) h2
      · by_cases hjk : j = k
        · subst hjk
          have := hp j hk
          rw [hjun] at this
          exact Bool.noConfusion this
        · rw [getD_set_ne true hjk]; exact hp k hk
      · by_cases hjk : j = k
        · exact hjk ▸ hjun
        · rwa [getD_set_ne true hjk] at hun
      · rw [Array.setIfInBounds_comm _ _ hji]
        exact h3.2
/-- In this order the numbers may come up, each free. -/
def ordB (md : Region.Mode) (ops : Array Oper) (g n : Nat) : List Nat → Array Bool → Bool
  | [], listed => Region.seqB md ops g n listed
  | k :: r, listed => decide (k < n) && (Region.ready md ops listed).contains k && Region.free md ops listed k && ordB md ops g n r (listed.setIfInBounds k true)
theorem wpAnyT_ord {n g : Nat} {pre : List Nat} {Lq : Act → Prop} (hsel : Region.noSelect ops = true) (hs : sinkP md ops n pre = true) (hc : Region.chainB md ops n = true) (hn : n < ops.size) :
    ∀ (ord : List Nat) (l : List Oper) (listed : Array Bool) (a : Act), ord.map (ops[·]?) = l.map some → HeadInv md ops n listed → (∀ i ∈ pre, listed.getD i true = true) →
    ordB md ops g n ord listed = true → wpQuiet P ops C Lq l a →
    wpAnyT P md ops C n (fun listed' a' => Region.seqB md ops g n listed' = true ∧ Lq a') l.length listed a
  | [], [], listed, a, _, _, _, hB, h => ⟨by simpa [ordB] using hB, h⟩
  | [], _ :: _, _, _, he, _, _, _, _ => by simp at he
  | _ :: _, [], _, _, he, _, _, _, _ => by simp at he
  | k :: ord, o :: l, listed, a, he, inv, hp, hB, h => by
    simp only [List.map_cons, List.cons.injEq] at he
    obtain ⟨h0, he⟩ := he
    simp only [ordB, Bool.and_eq_true, decide_eq_true_eq] at hB
    obtain ⟨⟨⟨hkn, hr⟩, hf⟩, hB⟩ := hB
    have hr' : k ∈ Region.ready md ops listed := by simpa using hr
    have hst : qOp P ops C k (wpQuiet P ops C Lq l) a := by unfold qOp; simp only [h0]; exact h
    obtain ⟨v, hy, hK⟩ := yieldsIn_of_qOp h0 hst
    have hun := (mem_ready.1 hr').1
    exact wpAnyT_firstP h0 (Region.noSelect_spec hsel) hs hc hn hkn (fun _ _ hL => seqB_ready hL.1) l.length listed a inv hp (Region.free_spec h0 hf) hr' hy
      (wpAnyT_ord hsel hs hc hn ord l _ _ he (inv.set hr' hkn) (fun i hi => by
        by_cases hki : k = i
        · subst hki
          have := hp k hi
          rw [hun] at this
          exact Bool.noConfusion this
        · rw [getD_set_ne true hki]; exact hp i hi) hB hK)
/-- What is asked of a region: number p, a move, may come up at once and touches nobody's; the others of the first n in their order; then the rest in its. -/
def tailPB (md : Region.Mode) (ops : Array Oper) (n p : Nat) : Bool :=
  Region.noSelect ops && decide (n < ops.size) && decide (p < n) && sinkP md ops n [p] && Region.chainB md ops n && (Region.ready md ops (Array.replicate ops.size false)).contains p &&
  Region.free md ops (Array.replicate ops.size false) p && ordB md ops (ops.size - n) n ((List.range n).eraseIdx p) ((Array.replicate ops.size false).setIfInBounds p true)
theorem wp_region_from_tailP {id : Nat} {Q : Exit → Act → World → Prop} {a : Act} {w : World} {l : List Oper} (n p : Nat) (op : Oper) (x : Operand) (hop : l[p]? = some op) (hmv : op.op = .move x) (hgd : op.guard = none)
    (hm : P.follows .mixedOrders = true) (hB : tailPB .any l.toArray n p = true) (hQ2 : ∀ c a' w, Q (.panic c) (a'.put op.dst (a.eval x)) w → Q (.panic c) a' w)
    (h : wpQuiet P l.toArray (fun w' => ∃ u : Held (From w.drew), w' = u.w) (fun a' => ∀ w', From w.drew w' → wpList P l.toArray Q (l.drop n) a' w') ((l.take n).eraseIdx p) (a.put op.dst (a.eval x))) : (Code.region id l.toArray true).wp P Q a w := by
  simp only [tailPB, Bool.and_eq_true, decide_eq_true_eq] at hB
  obtain ⟨⟨⟨⟨⟨⟨⟨hsel, hn⟩, hpn⟩, hs⟩, hc⟩, hrp⟩, hfp⟩, hord⟩ := hB
  have hnl : n < l.length := by simpa using hn
  have htl : ((l.take n).eraseIdx p).length = n - 1 := by rw [List.length_eraseIdx, if_pos (by simp; omega)]; simp; omega
  have hdl : (l.drop n).length = l.toArray.size - n := by simp
  have hopA : l.toArray[p]? = some op := by simpa using hop
  have hrp' : p ∈ Region.ready .any l.toArray (Array.replicate l.toArray.size false) := by simpa using hrp
  have inv0 : HeadInv .any l.toArray n (Array.replicate l.toArray.size false) :=
    ⟨by simp, fun j oj _ hl => (by rw [getD_replicate_false] at hl; cases hl), fun t _ ht => getD_in (by simpa using ht) (getD_replicate_false _ _)⟩
  have inv1 := inv0.set hrp' hpn
  have hp1 : ∀ i ∈ [p], ((Array.replicate l.toArray.size false).setIfInBounds p true).getD i true = true := by
    intro i hi
    obtain rfl : i = p := by simpa using hi
    have hi2 : i < l.length := by omega
    simp [hi2]
  have hmap : ((List.range n).eraseIdx p).map (l.toArray[·]?) = ((l.take n).eraseIdx p).map some := by
    rw [List.eraseIdx_eq_take_drop_succ, List.eraseIdx_eq_take_drop_succ, List.map_append, List.map_append, List.map_take, List.map_take, List.map_drop, List.map_drop]
    suffices e : (List.range n).map (l.toArray[·]?) = (l.take n).map some by rw [e]
    apply List.ext_getElem?
    intro j
    simp only [List.getElem?_map, List.getElem?_take]
    by_cases hj : j < n
    · rw [List.getElem?_range hj]
      simp [hj, show j < l.length by omega]
    · rw [List.getElem?_eq_none (by simp; omega)]
      simp [hj]
  have H := wpAnyT_ord (md := .any) (g := l.toArray.size - n) hsel hs hc hn _ _ _ _ hmap inv1 hp1 hord h
  refine wp_region_any hm ?_
  have hy : Yields P l.toArray op (a.eval x) a := Or.inl ⟨by simp [Region.wanted, hgd], fun w => by rw [BigFrame.run_move x hmv]⟩
  have hsz : l.toArray.size = (n - 1 + (l.toArray.size - n)) + 1 := by simp; omega
  have K := wpAny_of_T (Q := Q) (g := l.toArray.size - n) (fun listed a' w' hw hL => by
    obtain ⟨u, rfl⟩ := hw
    have := wpAny_of_seq (md := .any) (Q' := Q) (l.drop n) n listed a' u.w (fun j => by simp [List.getElem?_drop]) (by rw [hdl]; exact hL.1) (hL.2 _ u.h)
    rwa [hdl] at this) _ _ _ w.drew ⟨⟨w.drew, From.refl _⟩, rfl⟩ H
  rw [htl] at K
  have K2 := wpAny_take (P := P) (md := .any) (i := p) (v := a.eval x) hopA hsel hfp hrp hQ2 hy K
  rw [← hsz] at K2
  exact K2
end
end Go.Proofs.Ytockcnglennihaa
end
section
namespace Go.Proofs.Ytockcnglennihaa
open Go.RowKit
section
variable {P : Program} {ops : Array Oper} {md : Region.Mode}
/-- What has grown out of u. -/
def cls (u : World) : World → Prop := fun w' => ∃ h : Held (From u), w' = h.w
theorem cls.of {u w : World} (h : From u w) : cls u w := ⟨⟨w, h⟩, rfl⟩
theorem cls.from {u w : World} (h : cls u w) : From u w := by obtain ⟨h, rfl⟩ := h; exact h.h
theorem put_same (a : Act) (d : Tmp) (v : Value) (hd : d < a.tmps.size) : (a.put (some d) v).tmps.getD d undef = v := by
  simp [Act.put, hd]
theorem put_else (a : Act) (x : Option Tmp) (d : Tmp) (v : Value) (h : x ≠ some d) : (a.put x v).tmps.getD d undef = a.tmps.getD d undef := by
  cases x with
  | none => rfl
  | some e =>
    have hne : e ≠ d := fun he => h (by rw [he])
    simp [Act.put, hne]
theorem put_size (a : Act) (x : Option Tmp) (v : Value) : (a.put x v).tmps.size = a.tmps.size := by
  cases x with
  | none => rfl
  | some e => simp [Act.put]
/-- Each of the first n operations has a slot of its own. -/
def ownB (ops : Array Oper) (n m : Nat) : Bool := (List.range n).all fun i => match ops[i]? with
  | some o => (match o.dst with
    | some d => decide (d < m) && (List.range n).all fun j => i == j || match ops[j]? with
      | some o' => !(o'.dst == some d)
      | none => true
    | none => false)
  | none => false
theorem ownB_spec {n m i : Nat} {o : Oper} (h : ownB ops n m = true) (hi : i < n) (ho : ops[i]? = some o) : ∃ d, o.dst = some d ∧ d < m ∧ ∀ j o', j < n → j ≠ i → ops[j]? = some o' → o'.dst ≠ some d := by
  have h1 := List.all_eq_true.1 h i (List.mem_range.2 hi)
  simp only [ho] at h1
  cases hd : o.dst with
  | none => rw [hd] at h1; simp at h1
  | some d =>
    rw [hd] at h1
    simp only [Bool.and_eq_true, decide_eq_true_eq] at h1
    refine ⟨d, rfl, h1.1, fun j o' hj hne ho' e => ?_⟩
    have h2 := List.all_eq_true.1 h1.2 j (List.mem_range.2 hj)
    simp only [ho', e, Bool.or_eq_true, beq_iff_eq] at h2
    rcases h2 with h2 | h2
    · exact hne h2.symm
    · simp at h2
variable {C : World → Prop}
theorem anyT_keep {n : Nat} {A : Act} {d : Tmp} {S : Array Bool → Prop} : ∀ (f : Nat) (listed : Array Bool) (a : Act), wpAnyT P md ops C n (fun l a' => S l ∧ a' = A) f listed a →
    (∀ j oj, ops[j]? = some oj → listed.getD j true = false → j < n → oj.dst ≠ some d) → A.tmps.getD d undef = a.tmps.getD d undef
  | 0, _, _, h, _ => by rw [h.2]
  | f + 1, listed, a, h, hd => by
    obtain ⟨hne, hall⟩ := h
    obtain ⟨i, hi⟩ := List.exists_mem_of_ne_nil _ hne
    obtain ⟨hin, hq⟩ := hall i hi
    obtain ⟨hun, oi, hoi, _⟩ := mem_ready.1 hi
    obtain ⟨v, _, hK⟩ := yieldsIn_of_qOp hoi hq
    rw [anyT_keep f _ _ hK fun j oj hj hl hjn => hd j oj hj (by
      by_cases e : i = j
      · subst e; exact hun
      · rwa [getD_set_ne true e] at hl) hjn]
    exact put_else a oi.dst d v (hd i oi hoi hun hin)
/-- The new block holds its first value, and is new. -/
def Fresh (w0 : World) (ty : TypeId) (Z : Array Value) (x : Nat) (w : World) : Prop := w.heap[x]? = some (.cells Z ty (0, 0)) ∧ w0.heap.size ≤ x
theorem Fresh.from {w0 w w' : World} {ty : TypeId} {Z : Array Value} {x : Nat} (h : Fresh w0 ty Z x w) (hf : From w w') : Fresh w0 ty Z x w' :=
  ⟨(hf.heap x (Array.getElem?_eq_some_iff.1 h.1).1).trans h.1, h.2⟩
theorem anyA {n g p m : Nat} {op : Oper} {ty : TypeId} {Z : Array Value} {Q : Exit → Act → World → Prop} {AF : Nat → Act} {w0 : World}
    (hp : ops[p]? = some op) (hal : op.op = .alloc ty) (hgd : op.guard = none) (hz : ∀ w, (zeroValue ty).run P w = .ok (.agg Z) w)
    (hsel : ∀ (j : Nat) (o : Oper) cs b, ops[j]? = some o → o.op ≠ .select cs b) (hs : sinkP md ops n [] = true) (hc : Region.chainB md ops n = true) (hn : n < ops.size) (hpn : p < n) (how : ownB ops n m = true)
    (hAF : ∀ x d, op.dst ≠ some d → (AF x).tmps.getD d undef = (AF 0).tmps.getD d undef)
    (hT : ∀ x w, From w0 w → Fresh w0 ty Z x w → ∀ listed, Region.seqB md ops g n listed = true → wpAny P md ops Q g listed (AF x) w) :
    ∀ (f : Nat) (listed : Array Bool) (a : Act) (w : World), HeadInv md ops n listed → a.tmps.size = m → p ∈ Region.ready md ops listed →
      (∀ j oj, ops[j]? = some oj → j ≠ p → listed.getD j true = false → (∀ e ∈ oj.after, Region.binds md e = true → e.on ≠ p) → op.apart ops oj = true) → From w0 w →
      (∀ u, From w u → ∀ x, wpAnyT P md ops (cls u) n (fun l a' => Region.seqB md ops g n l = true ∧ a' = AF x) f (listed.setIfInBounds p true) (a.put op.dst (.pointer (some ⟨x, 0, none⟩)))) →
      wpAny P md ops Q (f + 1 + g) listed a w := by
  have halloc : ∀ (f : Nat) (listed : Array Bool) (a : Act) (w : World), From w0 w →
      (∀ u, From w u → ∀ x, wpAnyT P md ops (cls u) n (fun l a' => Region.seqB md ops g n l = true ∧ a' = AF x) f (listed.setIfInBounds p true) (a.put op.dst (.pointer (some ⟨x, 0, none⟩)))) →
      wpOp P ops Q p (wpAny P md ops Q (f + g) (listed.setIfInBounds p true)) a w := by
    intro f listed a w hw H
    unfold wpOp
    simp only [hp]
    have hwt : Region.wanted op (yielded ops a.tmps) = true := by simp [Region.wanted, hgd]
    rw [if_pos hwt]
    refine .inl ?_
    unfold Oper.wp execOp
    simp only [hal, Instr.alloc, Sem.run_bind, hz, newVar, newRow, run_newObj_alloc, Sem.run_pure, Result.andThen_ok]
    show wpAny P md ops Q (f + g) (listed.setIfInBounds p true) (a.put op.dst (.pointer (some ⟨w.heap.size, 0, none⟩))) (w.alloc (.cells Z ty))
    have hfr : From w (w.alloc (.cells Z ty)) := (Below.refl _ _).alloc (Nat.le_refl _) _
    have hF : Fresh w0 ty Z w.heap.size (w.alloc (.cells Z ty)) := ⟨heap_alloc_new w _, hw.size⟩
    refine wpAny_of_T (C := cls (w.alloc (.cells Z ty))) (L := fun l a' => Region.seqB md ops g n l = true ∧ a' = AF w.heap.size) (fun l a' w' hw' hL => ?_) f _ _ _ (cls.of (From.refl _)) (H _ hfr w.heap.size)
    rw [hL.2]
    exact hT _ _ ((hw.trans hfr).trans hw'.from) (hF.from hw'.from) l hL.1
  intro f
  induction f with
  | zero =>
    intro listed a w inv _ hpr _ hw H
    rw [Nat.zero_add, Nat.add_comm]
    refine ⟨fun h0 => absurd h0 (List.ne_nil_of_mem hpr), fun i hi => ?_⟩
    by_cases hip : i = p
    · subst hip
      have := halloc 0 listed a w hw H
      rwa [Nat.zero_add] at this
    · exfalso
      have hL := H w (From.refl w) 0
      have hr2 := ready_mono hi hip
      have hge := seqB_ready hL.1 i hr2
      exact tail_waitsP (pre := []) hs hc hn inv (fun _ h => by simp at h) _ p rfl hpn (mem_ready.1 hpr).1 i hge hi
  | succ f ih =>
    intro listed a w inv ham hpr hfree hw H
    rw [show f + 1 + 1 + g = (f + 1 + g) + 1 by omega]
    refine ⟨fun h0 => absurd h0 (List.ne_nil_of_mem hpr), fun i hi => ?_⟩
    by_cases hip : i = p
    · subst hip
      exact halloc (f + 1) listed a w hw H
    · obtain ⟨hiun, oi, hoi, hall⟩ := mem_ready.1 hi
      have hpun := (mem_ready.1 hpr).1
      have hnot : ∀ e ∈ oi.after, Region.binds md e = true → e.on ≠ p := by
        intro e he hb heq
        have h1 := hall e he hb
        rw [heq, getD_both hpun] at h1
        exact Bool.noConfusion h1
      have hap := Oper.apart_spec (hfree i oi hoi hip hiun hnot)
      have hr2 := ready_mono (md := md) hi hip
      have hin : i < n := ((H w (From.refl w) 0).2 i hr2).1
      obtain ⟨d, hdd, hdm, hdo⟩ := ownB_spec how hin hoi
      -- whatever has grown, it yields the same
      have key : ∀ u, From w u → ∀ x, YieldsIn P ops (cls u) oi ((AF 0).tmps.getD d undef) a ∧
          wpAnyT P md ops (cls u) n (fun l a' => Region.seqB md ops g n l = true ∧ a' = AF x) f ((listed.setIfInBounds i true).setIfInBounds p true) ((a.put oi.dst ((AF 0).tmps.getD d undef)).put op.dst (.pointer (some ⟨x, 0, none⟩))) := by
        intro u hu x
        obtain ⟨v, hy, hK⟩ := yieldsIn_of_qOp hoi ((H u hu x).2 i hr2).2
        have hkeep := anyT_keep (d := d) f _ _ hK (fun j oj hj hl hjn => hdo j oj hjn (fun e => by
          subst e
          rw [Array.getD_eq_getD_getElem?, Array.getElem?_setIfInBounds_self] at hl
          split at hl <;> simp at hl) hj)
        rw [hdd, put_same _ d v (by rw [put_size, ham]; exact hdm)] at hkeep
        have hv : (AF 0).tmps.getD d undef = v := by
          rw [← hkeep]
          exact (hAF x d (fun e => hdo p op hpn (Ne.symm hip) hp e)).symm
        rw [hv]
        refine ⟨hy.of_same (execOp_put oi (fun cs b => hsel i oi cs b hoi) a op.dst _ hap.1).symm (wanted_put oi a op.dst _ hap.1).symm, ?_⟩
        rw [Array.setIfInBounds_comm _ _ hip, Act.put_comm a v (.pointer (some ⟨x, 0, none⟩)) (x := oi.dst) (y := op.dst) (fun e he => by
          intro he2
          exact hap.2.1 e he2 he)]
        exact hK
      refine wpOp_of_qOp (C := cls w) (K := fun a' => a' = a.put oi.dst ((AF 0).tmps.getD d undef)) (cls.of (From.refl w)) (fun a' w' hw' ha' => ?_) ((key w (From.refl w) 0).1.qOp hoi rfl)
      subst ha'
      refine ih _ _ _ (inv.set hi hin) (by rw [put_size]; exact ham) (ready_mono hpr (Ne.symm hip)) (fun j oj hj hjp hl hno => hfree j oj hj hjp ?_ hno) (hw.trans hw'.from) fun u hu x => (key u (hw'.from.trans hu) x).2
      by_cases e : i = j
      · subst e; exact hiun
      · rwa [getD_set_ne true e] at hl
/-- What is asked of a region: number p may come up at once and touches nobody's; the others of the first n in their order; then the rest in its; each has a slot of its own. -/
def tailAB (md : Region.Mode) (ops : Array Oper) (n p m : Nat) : Bool :=
  Region.noSelect ops && decide (n < ops.size) && decide (p < n) && sinkP md ops n [] && Region.chainB md ops n && (Region.ready md ops (Array.replicate ops.size false)).contains p &&
  Region.free md ops (Array.replicate ops.size false) p && ordB md ops (ops.size - n) n ((List.range n).eraseIdx p) ((Array.replicate ops.size false).setIfInBounds p true) && ownB ops n m
theorem wp_region_from_alloc {id : Nat} {Q : Exit → Act → World → Prop} {a : Act} {w : World} {l : List Oper} (n p : Nat) (op : Oper) (ty : TypeId) (Z : Array Value) (hop : l[p]? = some op) (hal : op.op = .alloc ty) (hgd : op.guard = none)
    (hz : ∀ w, (zeroValue ty).run P w = .ok (.agg Z) w) (hm : P.follows .mixedOrders = true) (hB : tailAB .any l.toArray n p a.tmps.size = true)
    (H : ∃ AF : Nat → Act, (∀ u, From w.drew u → ∀ x, wpQuiet P l.toArray (fun w' => ∃ h : Held (From u), w' = h.w) (fun a' => a' = AF x) ((l.take n).eraseIdx p) (a.put op.dst (.pointer (some ⟨x, 0, none⟩)))) ∧
      (∀ x, AF x = (AF 0).put op.dst (.pointer (some ⟨x, 0, none⟩))) ∧ (∀ x w', From w.drew w' → Fresh w ty Z x w' → wpList P l.toArray Q (l.drop n) (AF x) w')) : (Code.region id l.toArray true).wp P Q a w := by
  obtain ⟨AF, h, hAF, hT⟩ := H
  simp only [tailAB, Bool.and_eq_true, decide_eq_true_eq] at hB
  obtain ⟨⟨⟨⟨⟨⟨⟨⟨hsel, hn⟩, hpn⟩, hs⟩, hc⟩, hrp⟩, hfp⟩, hord⟩, how⟩ := hB
  have hnl : n < l.length := by simpa using hn
  have htl : ((l.take n).eraseIdx p).length = n - 1 := by rw [List.length_eraseIdx, if_pos (by simp; omega)]; simp; omega
  have hdl : (l.drop n).length = l.toArray.size - n := by simp
  have hopA : l.toArray[p]? = some op := by simpa using hop
  have hrp' : p ∈ Region.ready .any l.toArray (Array.replicate l.toArray.size false) := by simpa using hrp
  have inv0 : HeadInv .any l.toArray n (Array.replicate l.toArray.size false) :=
    ⟨by simp, fun j oj _ hl => (by rw [getD_replicate_false] at hl; cases hl), fun t _ ht => getD_in (by simpa using ht) (getD_replicate_false _ _)⟩
  have inv1 := inv0.set hrp' hpn
  have hmap : ((List.range n).eraseIdx p).map (l.toArray[·]?) = ((l.take n).eraseIdx p).map some := by
    rw [List.eraseIdx_eq_take_drop_succ, List.eraseIdx_eq_take_drop_succ, List.map_append, List.map_append, List.map_take, List.map_take, List.map_drop, List.map_drop]
    suffices e : (List.range n).map (l.toArray[·]?) = (l.take n).map some by rw [e]
    apply List.ext_getElem?
    intro j
    simp only [List.getElem?_map, List.getElem?_take]
    by_cases hj : j < n
    · rw [List.getElem?_range hj]
      simp [hj, show j < l.length by omega]
    · rw [List.getElem?_eq_none (by simp; omega)]
      simp [hj]
  refine wp_region_any hm ?_
  have hsz : l.toArray.size = (n - 1) + 1 + (l.toArray.size - n) := by simp; omega
  have hT2 : ∀ x w', From w.drew w' → Fresh w.drew ty Z x w' → ∀ listed, Region.seqB .any l.toArray (l.toArray.size - n) n listed = true → wpAny P .any l.toArray Q (l.toArray.size - n) listed (AF x) w' := fun x w' hw' hF listed hl => by
    have := wpAny_of_seq (md := .any) (Q' := Q) (l.drop n) n listed (AF x) w' (fun j => by simp [List.getElem?_drop]) (by rw [hdl]; exact hl) (hT x w' hw' hF)
    rwa [hdl] at this
  have K := anyA (g := l.toArray.size - n) (w0 := w.drew) hopA hal hgd hz (Region.noSelect_spec hsel) hs hc hn hpn how (fun x d hd => by rw [hAF x]; exact put_else _ _ _ _ hd) hT2 (n - 1) _ a w.drew inv0 rfl hrp' (Region.free_spec hopA hfp) (From.refl _) fun u hu x => by
    have H := wpAnyT_ord (md := .any) (g := l.toArray.size - n) (pre := []) (C := cls u) (Lq := fun a' => a' = AF x) hsel hs hc hn _ _ _ _ hmap inv1 (fun _ h => by simp at h) hord (h u hu x)
    rw [htl] at H
    exact H
  rw [← hsz] at K
  exact K
end
end Go.Proofs.Ytockcnglennihaa
end
section
namespace Go.Proofs.Ytockcnglennihaa
open Go.RowKit
section
variable {P : Program} {ops : Array Oper} {Q : Exit → Act → World → Prop} {md : Region.Mode} {S : World → Prop} {last : Nat}
def wpAnyG (P : Program) (md : Region.Mode) (ops : Array Oper) (Q : Exit → Act → World → Prop) (S : World → Prop) (last : Nat) : Nat → Array Bool → Act → World → Prop
  | 0, listed, a, w => Region.ready md ops listed = [] ∧ Q .normal a w
  | fuel + 1, listed, a, w =>
    (Region.ready md ops listed = [] → Q .normal a w) ∧
    ∀ i ∈ Region.ready md ops listed, wpOp P ops Q i (fun a' w' => (i = last ∨ S w') ∧ wpAnyG P md ops Q S last fuel (listed.setIfInBounds i true) a' w') a w
theorem wpAny_of_G : ∀ (fuel : Nat) (listed : Array Bool) (a : Act) (w : World), wpAnyG P md ops Q S last fuel listed a w → wpAny P md ops Q fuel listed a w
  | 0, _, _, _, h => h
  | fuel + 1, _, _, _, h => ⟨h.1, fun i hi => wpOp_mono (fun a' w' h' => wpAny_of_G fuel _ a' w' h'.2) (h.2 i hi)⟩
/-- The last one waits for all others. -/
def lastB (md : Region.Mode) (ops : Array Oper) (last : Nat) : Bool := (List.range ops.size).all fun k => k == last || Region.waitsFor md ops last k
theorem last_only (hl : lastB md ops last = true) {listed : Array Bool} {i j : Nat} (hi : i ∈ Region.ready md ops listed) (hj : j ∈ Region.ready md ops listed) (hij : j ≠ i) : j ≠ last := by
  intro e
  subst e
  obtain ⟨hiun, oi, hoi, _⟩ := mem_ready.1 hi
  obtain ⟨_, oj, hoj, hall⟩ := mem_ready.1 hj
  have h1 := List.all_eq_true.1 hl i (List.mem_range.2 (Array.getElem?_eq_some_iff.1 hoi).1)
  simp only [Bool.or_eq_true, beq_iff_eq] at h1
  rcases h1 with h1 | h1
  · exact hij h1.symm
  · obtain ⟨o', ho', e, he, hb, hon⟩ := Region.waitsFor_spec h1
    obtain rfl : o' = oj := Option.some.inj (ho'.symm.trans hoj)
    have h2 := hall e he hb
    rw [hon, getD_both hiun] at h2
    exact Bool.noConfusion h2
theorem wpAnyG_first {i : Nat} {oi : Oper} {v : Value} (hlast : lastB md ops last = true) (hi : ops[i]? = some oi) (hsel : ∀ (j : Nat) (o : Oper) cs b, ops[j]? = some o → o.op ≠ .select cs b)
    (hQ : ∀ c a w, Q (.panic c) (a.put oi.dst v) w → Q (.panic c) a w) :
    ∀ (fuel : Nat) (listed : Array Bool) (a : Act) (w : World),
      (∀ j oj, ops[j]? = some oj → j ≠ i → listed.getD j true = false → (∀ e ∈ oj.after, Region.binds md e = true → e.on ≠ i) → oi.apart ops oj = true) →
      i ∈ Region.ready md ops listed → YieldsIf P ops S oi v a → S w →
      wpAnyG P md ops Q S last fuel (listed.setIfInBounds i true) (a.put oi.dst v) w → wpAnyG P md ops Q S last (fuel + 1) listed a w := by
  intro fuel
  induction fuel with
  | zero =>
    intro listed a w _ hr hy hS H
    refine ⟨fun h => (by rw [h] at hr; cases hr), fun j hj => ?_⟩
    by_cases hji : j = i
    · subst hji; exact hy.wpOp hi hS ⟨Or.inr hS, H⟩
    · have := ready_mono hj hji
      rw [H.1] at this
      cases this
  | succ fuel ih =>
    intro listed a w hfree hr hy hS H
    refine ⟨fun h => (by rw [h] at hr; cases hr), fun j hj => ?_⟩
    by_cases hji : j = i
    · subst hji; exact hy.wpOp hi hS ⟨Or.inr hS, H⟩
    · have h1 := H.2 j (ready_mono hj hji)
      obtain ⟨hjun, oj, hoj, hall⟩ := mem_ready.1 hj
      have hnot : ∀ e ∈ oj.after, Region.binds md e = true → e.on ≠ i := by
        intro e he hb heq
        have h1 := hall e he hb
        rw [heq, getD_both (mem_ready.1 hr).1] at h1
        exact Bool.noConfusion h1
      have h2 := wpOp_putIf hoj (hfree j oj hoj hji hjun hnot) (fun cs b => hsel i oi cs b hi) (fun cs b => hsel j oj cs b hoj) hQ hy h1
      have hfree' : ∀ k ok, ops[k]? = some ok → k ≠ i → (listed.setIfInBounds j true).getD k true = false →
          (∀ e ∈ ok.after, Region.binds md e = true → e.on ≠ i) → oi.apart ops ok = true := fun k ok hk hki hun hno => by
        refine hfree k ok hk hki ?_ hno
        by_cases hjk : j = k
        · subst hjk; exact hjun
        · rw [getD_set_ne true hjk] at hun; exact hun
      have hjl := last_only hlast hr hj hji
      refine wpOp_mono (fun a' w' h3 => ⟨h3.2.1, ih (listed.setIfInBounds j true) a' w' hfree' (ready_mono hr (Ne.symm hji)) h3.1 (h3.2.1.resolve_left hjl) ?_⟩) h2
      rw [Array.setIfInBounds_comm _ _ hji]
      exact h3.2.2
/-- The walk: kind 0 only reads, kind 1 acts, kind 2 acts and is the last. -/
def wpMix (P : Program) (ops : Array Oper) (Q : Exit → Act → World → Prop) (S : World → Prop) : List (Nat × Oper) → Act → World → Prop
  | [], a, w => Q .normal a w
  | (0, o) :: r, a, w => ∃ v, YieldsIf P ops S o v a ∧ S w ∧ wpMix P ops Q S r (a.put o.dst v) w
  | (1, o) :: r, a, w => ∀ K : Act → World → Prop, (∀ a' w', S w' → wpMix P ops Q S r a' w' → K a' w') → if Region.wanted o (yielded ops a.tmps) = true then o.wp P a w K Q else K (a.put o.dst undef) w
  | (_ + 2, o) :: r, a, w => ∀ K : Act → World → Prop, (∀ a' w', wpMix P ops Q S r a' w' → K a' w') → if Region.wanted o (yielded ops a.tmps) = true then o.wp P a w K Q else K (a.put o.dst undef) w
def pickOps (l : List Oper) : List (Nat × Nat) → List (Nat × Oper)
  | [] => []
  | p :: r => match l[p.1]? with
    | some o => (p.2, o) :: pickOps l r
    | none => []
def mixB (md : Region.Mode) (ops : Array Oper) (last : Nat) : List (Nat × Nat) → Array Bool → Bool
  | [], listed => (Region.ready md ops listed).isEmpty
  | (k, 0) :: r, listed => Region.free md ops listed k && (Region.ready md ops listed).contains k && mixB md ops last r (listed.setIfInBounds k true)
  | (k, 1) :: r, listed => decide (Region.ready md ops listed = [k]) && mixB md ops last r (listed.setIfInBounds k true)
  | (k, _ + 2) :: r, listed => decide (k = last) && decide (Region.ready md ops listed = [k]) && mixB md ops last r (listed.setIfInBounds k true)
theorem wpAnyG_mix {l : List Oper} (hlast : lastB md l.toArray last = true) (hsel : Region.noSelect l.toArray = true) (hQ : ∀ c d v a w, Q (.panic c) (a.put d v) w → Q (.panic c) a w) :
    ∀ (ks : List (Nat × Nat)) (listed : Array Bool) (a : Act) (w : World), mixB md l.toArray last ks listed = true → wpMix P l.toArray Q S (pickOps l ks) a w → wpAnyG P md l.toArray Q S last ks.length listed a w
  | [], listed, a, w, hB, h => ⟨by simpa [mixB] using hB, h⟩
  | (k, 0) :: r, listed, a, w, hB, h => by
    simp only [mixB, Bool.and_eq_true] at hB
    obtain ⟨⟨hf, hr⟩, hB⟩ := hB
    have hr' : k ∈ Region.ready md l.toArray listed := by simpa using hr
    obtain ⟨_, o, ho, _⟩ := mem_ready.1 hr'
    have hol : l[k]? = some o := by simpa using ho
    simp only [pickOps, hol] at h
    obtain ⟨v, hy, hS, h⟩ := h
    exact wpAnyG_first hlast ho (Region.noSelect_spec hsel) (fun c a w => hQ c _ _ a w) r.length listed a w (Region.free_spec ho hf) hr' hy hS (wpAnyG_mix hlast hsel hQ r _ _ _ hB h)
  | (k, 1) :: r, listed, a, w, hB, h => by
    simp only [mixB, Bool.and_eq_true, decide_eq_true_eq] at hB
    obtain ⟨hr, hB⟩ := hB
    have hr' : k ∈ Region.ready md l.toArray listed := by rw [hr]; simp
    obtain ⟨_, o, ho, _⟩ := mem_ready.1 hr'
    have hol : l[k]? = some o := by simpa using ho
    simp only [pickOps, hol] at h
    refine ⟨fun h0 => (by rw [hr] at h0; cases h0), fun i hi => ?_⟩
    rw [hr] at hi
    obtain rfl : i = k := by simpa using hi
    unfold wpOp
    simp only [ho]
    have h2 := h (fun a' w' => (i = last ∨ S w') ∧ wpAnyG P md l.toArray Q S last r.length (listed.setIfInBounds i true) a' w') fun a' w' hs hm => ⟨Or.inr hs, wpAnyG_mix hlast hsel hQ r _ _ _ hB hm⟩
    by_cases hw : Region.wanted o (yielded l.toArray a.tmps) = true
    · rw [if_pos hw] at h2 ⊢; exact Or.inl h2
    · rw [if_neg hw] at h2 ⊢; exact h2
  | (k, _ + 2) :: r, listed, a, w, hB, h => by
    simp only [mixB, Bool.and_eq_true, decide_eq_true_eq] at hB
    obtain ⟨⟨hk, hr⟩, hB⟩ := hB
    have hr' : k ∈ Region.ready md l.toArray listed := by rw [hr]; simp
    obtain ⟨_, o, ho, _⟩ := mem_ready.1 hr'
    have hol : l[k]? = some o := by simpa using ho
    simp only [pickOps, hol] at h
    refine ⟨fun h0 => (by rw [hr] at h0; cases h0), fun i hi => ?_⟩
    rw [hr] at hi
    obtain rfl : i = k := by simpa using hi
    unfold wpOp
    simp only [ho]
    have h2 := h (fun a' w' => (i = last ∨ S w') ∧ wpAnyG P md l.toArray Q S last r.length (listed.setIfInBounds i true) a' w') fun a' w' hm => ⟨Or.inl hk, wpAnyG_mix hlast hsel hQ r _ _ _ hB hm⟩
    by_cases hw : Region.wanted o (yielded l.toArray a.tmps) = true
    · rw [if_pos hw] at h2 ⊢; exact Or.inl h2
    · rw [if_neg hw] at h2 ⊢; exact h2
/-- The region: S holds behind the draw; the operations in the order given. -/
theorem wp_region_mix {id : Nat} {a : Act} {w : World} {l : List Oper} (S : World → Prop) (last : Nat) (ks : List (Nat × Nat)) (hm : P.follows .mixedOrders = true)
    (hB : (decide (ks.length = l.length) && lastB .any l.toArray last && Region.noSelect l.toArray && mixB .any l.toArray last ks (Array.replicate l.toArray.size false)) = true)
    (hQ : ∀ c d v a w, Q (.panic c) (a.put d v) w → Q (.panic c) a w)
    (h : wpMix P l.toArray Q S (pickOps l ks) a w.drew) : (Code.region id l.toArray true).wp P Q a w := by
  simp only [Bool.and_eq_true, decide_eq_true_eq] at hB
  obtain ⟨⟨⟨hlen, hl⟩, hs⟩, hB⟩ := hB
  refine wp_region_any hm (wpAny_of_G (S := S) (last := last) _ _ _ _ ?_)
  have := wpAnyG_mix (Q := Q) (S := S) (P := P) hl hs hQ ks _ a w.drew hB h
  rw [hlen] at this
  simpa using this
end
end Go.Proofs.Ytockcnglennihaa
end
section
namespace Go.Proofs.Ytockcnglennihaa
open Go.RowKit
section
variable {P : Program} {ops : Array Oper} {Q : Exit → Act → World → Prop}
/-- Only number q may come late, and whatever might come ahead of it waits for all that q waits for. -/
def lateB (ops : Array Oper) (q : Nat) : Bool :=
  Region.noSelect ops && (List.range ops.size).all fun j => match ops[j]?, ops[q]? with
    | some oj, some oq => (oj.after.all fun e => Region.binds .any e || !Region.binds .text e || (e.on == q && !(j == q) && oq.after.all fun d => !Region.binds .any d || oj.after.any fun e' => Region.binds .any e' && e'.on == d.on)) &&
        (j == q || (oj.after.any fun e => Region.binds .any e && e.on == q) || (oq.after.any fun e => Region.binds .any e && e.on == j) || oq.apart ops oj)
    | _, _ => false
theorem binds_any_text {e : Edge} (h : Region.binds .any e = true) : Region.binds .text e = true := by
  cases e with
  | mk on g => cases g <;> simp_all [Region.binds]
theorem late_spec {q j : Nat} {oj oq : Oper} (h : lateB ops q = true) (hj : ops[j]? = some oj) (hq : ops[q]? = some oq) :
    (∀ e ∈ oj.after, Region.binds .text e = true → Region.binds .any e = true ∨ (e.on = q ∧ j ≠ q ∧ ∀ d ∈ oq.after, Region.binds .any d = true → ∃ e' ∈ oj.after, Region.binds .any e' = true ∧ e'.on = d.on)) ∧
    (j = q ∨ (∃ e ∈ oj.after, Region.binds .any e = true ∧ e.on = q) ∨ (∃ e ∈ oq.after, Region.binds .any e = true ∧ e.on = j) ∨ oq.apart ops oj = true) := by
  unfold lateB at h
  rw [Bool.and_eq_true] at h
  have hlt : j < ops.size := (Array.getElem?_eq_some_iff.1 hj).1
  have h1 := List.all_eq_true.1 h.2 j (List.mem_range.2 hlt)
  simp only [hj, hq, Bool.and_eq_true] at h1
  obtain ⟨h1, h2⟩ := h1
  refine ⟨fun e he hb => ?_, ?_⟩
  · have h3 := Array.all_eq_true_iff_forall_mem.1 h1 e he
    simp only [Bool.or_eq_true, Bool.and_eq_true, Bool.not_eq_true', beq_iff_eq] at h3
    rcases h3 with (h3 | h3) | h3
    · exact .inl h3
    · rw [hb] at h3; exact Bool.noConfusion h3
    · refine .inr ⟨h3.1.1, by simpa using h3.1.2, fun d hd hbd => ?_⟩
      have h4 := Array.all_eq_true_iff_forall_mem.1 h3.2 d hd
      simp only [Bool.or_eq_true, Bool.not_eq_true'] at h4
      rcases h4 with h4 | h4
      · rw [hbd] at h4; exact Bool.noConfusion h4
      · obtain ⟨i, hi, h5⟩ := Array.any_eq_true.1 h4
        simp only [Bool.and_eq_true, beq_iff_eq] at h5
        exact ⟨_, Array.getElem_mem hi, h5.1, h5.2⟩
  · simp only [Bool.or_eq_true, beq_iff_eq] at h2
    rcases h2 with ((h2 | h2) | h2) | h2
    · exact .inl h2
    · obtain ⟨i, hi, h5⟩ := Array.any_eq_true.1 h2
      simp only [Bool.and_eq_true, beq_iff_eq] at h5
      exact .inr (.inl ⟨_, Array.getElem_mem hi, h5.1, h5.2⟩)
    · obtain ⟨i, hi, h5⟩ := Array.any_eq_true.1 h2
      simp only [Bool.and_eq_true, beq_iff_eq] at h5
      exact .inr (.inr (.inl ⟨_, Array.getElem_mem hi, h5.1, h5.2⟩))
    · exact .inr (.inr (.inr h2))
theorem ready_text_any {i : Nat} {listed : Array Bool} (h : i ∈ Region.ready .text ops listed) : i ∈ Region.ready .any ops listed := by
  obtain ⟨h1, o, ho, h2⟩ := mem_ready.1 h
  exact mem_ready.2 ⟨h1, o, ho, fun e he hb => h2 e he (binds_any_text hb)⟩
theorem ready_late {q i : Nat} {oq : Oper} {listed : Array Bool} (hB : lateB ops q = true) (hq : ops[q]? = some oq) (hs : listed.size = ops.size) (h : i ∈ Region.ready .any ops listed) :
    i ∈ Region.ready .text ops listed ∨ q ∈ Region.ready .text ops listed := by
  obtain ⟨h1, o, ho, h2⟩ := mem_ready.1 h
  by_cases hall : ∀ e ∈ o.after, Region.binds .text e = true → listed.getD e.on false = true
  · exact .inl (mem_ready.2 ⟨h1, o, ho, hall⟩)
  · simp only [Classical.not_forall] at hall
    obtain ⟨e, he, hb, hl⟩ := hall
    rcases (late_spec hB ho hq).1 e he hb with h3 | ⟨h3, _, h4⟩
    · exact absurd (h2 e he h3) hl
    · refine .inr (mem_ready.2 ⟨?_, oq, hq, fun d hd hbd => ?_⟩)
      · rw [h3] at hl
        have hlt : q < listed.size := by rw [hs]; exact (Array.getElem?_eq_some_iff.1 hq).1
        simp only [Array.getD_eq_getD_getElem?, Array.getElem?_eq_getElem hlt, Option.getD_some] at hl ⊢
        simpa using hl
      · rcases (late_spec hB hq hq).1 d hd hbd with h5 | ⟨_, h5, _⟩
        · obtain ⟨e', he', hb', hon⟩ := h4 d hd h5
          rw [← hon]
          exact h2 e' he' hb'
        · exact absurd rfl h5
theorem run_extractL {o : Oper} {x : Operand} {k : Nat} (ho : o.op = .extract x k) (a : Act) {w : World} {K : Act → World → Prop} (h : o.wp P a w K Q ∨ (o.asks P a w ∧ LetsOut Q)) :
    ∃ v, (∀ w, (execOp a.eval o).run P w = .ok (.value v) w) ∧ K (a.put o.dst v) w := by
  by_cases hv : ∃ vs v, a.eval x = .tuple vs ∧ vs[k]? = some v
  · obtain ⟨vs, v, h1, h2⟩ := hv
    have hr : ∀ w, (execOp a.eval o).run P w = .ok (.value v) w := fun w => by
      simp [execOp, ho, Instr.extract, h1, h2]
    refine ⟨v, hr, ?_⟩
    rcases h with h | h
    · unfold Oper.wp at h
      rw [hr w] at h
      exact h
    · have h3 := h.1.1
      simp [execOp, ho, Instr.extract, h1, h2] at h3
      exact absurd (show noRoomEvent ∈ (#[] : Array Event) from h3) (by simp)
  · have hr : ∃ why, execOp a.eval o = (do pure (.value (← (stuck why : Sem Value)))) := by
      cases hx : a.eval x with
      | tuple vs =>
        cases hk : vs[k]? with
        | some v => exact absurd ⟨vs, v, hx, hk⟩ hv
        | none => exact Exists.intro "Extract: no such component" (by simp only [execOp, ho, Instr.extract, hx, hk])
      | _ => exact Exists.intro "Extract: tuple expected" (by simp only [execOp, ho, Instr.extract, hx])
    obtain ⟨why, hr⟩ := hr
    exfalso
    rcases h with h | h
    · unfold Oper.wp at h
      rw [hr] at h
      simp [stuck, Oper.upon] at h
    · have h3 := h.1.1
      rw [hr] at h3
      exact absurd (show noRoomEvent ∈ (#[] : Array Event) from h3) (by simp)
theorem any_of_text {q : Nat} {oq : Oper} {x : Operand} {k : Nat} (hq : ops[q]? = some oq) (hex : oq.op = .extract x k) (hB : lateB ops q = true) (hQ : ∀ c v a w, Q (.panic c) (a.put oq.dst v) w → Q (.panic c) a w) :
    ∀ (f : Nat) (listed : Array Bool) (a : Act) (w : World), listed.size = ops.size → wpAny P .text ops Q f listed a w → wpAny P .any ops Q f listed a w := by
  have hsel : ∀ (j : Nat) (o : Oper) cs b, ops[j]? = some o → o.op ≠ .select cs b := by
    unfold lateB at hB
    rw [Bool.and_eq_true] at hB
    exact Region.noSelect_spec hB.1
  intro f
  induction f with
  | zero =>
    intro listed a w hs h
    refine ⟨?_, h.2⟩
    match hr : Region.ready .any ops listed with
    | [] => rfl
    | i :: r =>
      exfalso
      rcases ready_late hB hq hs (i := i) (by rw [hr]; simp) with h1 | h1 <;> (rw [h.1] at h1; simp at h1)
  | succ f ih =>
    intro listed a w hs h
    by_cases hqr : q ∈ Region.ready .text ops listed
    · have h2 := h.2 q hqr
      unfold wpOp at h2
      simp only [hq] at h2
      have hfree : ∀ j oj, ops[j]? = some oj → j ≠ q → listed.getD j true = false → (∀ e ∈ oj.after, Region.binds .any e = true → e.on ≠ q) → oq.apart ops oj = true := fun j oj hj hne hun hno => by
        rcases (late_spec hB hj hq).2 with h3 | ⟨e, he, hb, hon⟩ | ⟨e, he, hb, hon⟩ | h3
        · exact absurd h3 hne
        · exact absurd hon (hno e he hb)
        · obtain ⟨_, oq', hq', h4⟩ := mem_ready.1 hqr
          obtain rfl : oq = oq' := Option.some.inj (hq.symm.trans hq')
          have h5 := h4 e he (binds_any_text hb)
          rw [hon, getD_both hun] at h5
          exact Bool.noConfusion h5
        · exact h3
      by_cases hw : Region.wanted oq (yielded ops a.tmps) = true
      · rw [if_pos hw] at h2
        obtain ⟨v, hr, hK⟩ := run_extractL hex a h2
        exact wpAny_first hq hsel (fun c a w hp => hQ c v a w hp) f listed a w hfree (ready_text_any hqr) (.inl ⟨hw, hr⟩) (ih _ _ _ (by simpa using hs) hK)
      · rw [if_neg hw] at h2
        exact wpAny_first hq hsel (fun c a w hp => hQ c undef a w hp) f listed a w hfree (ready_text_any hqr) (.inr ⟨by simpa using hw, rfl⟩) (ih _ _ _ (by simpa using hs) h2)
    · have hsub : ∀ i, i ∈ Region.ready .any ops listed → i ∈ Region.ready .text ops listed := fun i hi => by
        rcases ready_late hB hq hs hi with h1 | h1
        · exact h1
        · exact absurd h1 hqr
      refine ⟨fun h0 => h.1 ?_, fun i hi => wpOp_mono (fun a w hK => ih _ a w (by simpa using hs) hK) (h.2 i (hsub i hi))⟩
      match hr : Region.ready .text ops listed with
      | [] => rfl
      | i :: r =>
        exfalso
        have := ready_text_any (ops := ops) (listed := listed) (i := i) (by rw [hr]; simp)
        rw [h0] at this
        simp at this
theorem wp_region_from_allocL {id : Nat} {Q : Exit → Act → World → Prop} {a : Act} {w : World} {l : List Oper} (n p q : Nat) (op oq : Oper) (xq : Operand) (kq : Nat) (ty : TypeId) (Z : Array Value) (hop : l[p]? = some op) (hoq : l[q]? = some oq) (hex : oq.op = .extract xq kq) (hal : op.op = .alloc ty) (hgd : op.guard = none)
    (hz : ∀ w, (zeroValue ty).run P w = .ok (.agg Z) w) (hm : P.follows .mixedOrders = true) (hB : tailAB .text l.toArray n p a.tmps.size = true) (hL : lateB l.toArray q = true) (hQ2 : ∀ c v a' w, Q (.panic c) (a'.put oq.dst v) w → Q (.panic c) a' w)
    (H : ∃ AF : Nat → Act, (∀ u, From w.drew u → ∀ x, wpQuiet P l.toArray (fun w' => ∃ h : Held (From u), w' = h.w) (fun a' => a' = AF x) ((l.take n).eraseIdx p) (a.put op.dst (.pointer (some ⟨x, 0, none⟩)))) ∧
      (∀ x, AF x = (AF 0).put op.dst (.pointer (some ⟨x, 0, none⟩))) ∧ (∀ x w', From w.drew w' → Fresh w ty Z x w' → wpList P l.toArray Q (l.drop n) (AF x) w')) : (Code.region id l.toArray true).wp P Q a w := by
  obtain ⟨AF, h, hAF, hT⟩ := H
  simp only [tailAB, Bool.and_eq_true, decide_eq_true_eq] at hB
  obtain ⟨⟨⟨⟨⟨⟨⟨⟨hsel, hn⟩, hpn⟩, hs⟩, hc⟩, hrp⟩, hfp⟩, hord⟩, how⟩ := hB
  have hnl : n < l.length := by simpa using hn
  have htl : ((l.take n).eraseIdx p).length = n - 1 := by rw [List.length_eraseIdx, if_pos (by simp; omega)]; simp; omega
  have hdl : (l.drop n).length = l.toArray.size - n := by simp
  have hopA : l.toArray[p]? = some op := by simpa using hop
  have hrp' : p ∈ Region.ready .text l.toArray (Array.replicate l.toArray.size false) := by simpa using hrp
  have inv0 : HeadInv .text l.toArray n (Array.replicate l.toArray.size false) :=
    ⟨by simp, fun j oj _ hl => (by rw [getD_replicate_false] at hl; cases hl), fun t _ ht => getD_in (by simpa using ht) (getD_replicate_false _ _)⟩
  have inv1 := inv0.set hrp' hpn
  have hmap : ((List.range n).eraseIdx p).map (l.toArray[·]?) = ((l.take n).eraseIdx p).map some := by
    rw [List.eraseIdx_eq_take_drop_succ, List.eraseIdx_eq_take_drop_succ, List.map_append, List.map_append, List.map_take, List.map_take, List.map_drop, List.map_drop]
    suffices e : (List.range n).map (l.toArray[·]?) = (l.take n).map some by rw [e]
    apply List.ext_getElem?
    intro j
    simp only [List.getElem?_map, List.getElem?_take]
    by_cases hj : j < n
    · rw [List.getElem?_range hj]
      simp [hj, show j < l.length by omega]
    · rw [List.getElem?_eq_none (by simp; omega)]
      simp [hj]
  refine wp_region_any hm (any_of_text (by simpa using hoq) hex hL hQ2 _ _ _ _ (by simp) ?_)
  have hsz : l.toArray.size = (n - 1) + 1 + (l.toArray.size - n) := by simp; omega
  have hT2 : ∀ x w', From w.drew w' → Fresh w.drew ty Z x w' → ∀ listed, Region.seqB .text l.toArray (l.toArray.size - n) n listed = true → wpAny P .text l.toArray Q (l.toArray.size - n) listed (AF x) w' := fun x w' hw' hF listed hl => by
    have := wpAny_of_seq (md := .text) (Q' := Q) (l.drop n) n listed (AF x) w' (fun j => by simp [List.getElem?_drop]) (by rw [hdl]; exact hl) (hT x w' hw' hF)
    rwa [hdl] at this
  have K := anyA (g := l.toArray.size - n) (w0 := w.drew) hopA hal hgd hz (Region.noSelect_spec hsel) hs hc hn hpn how (fun x d hd => by rw [hAF x]; exact put_else _ _ _ _ hd) hT2 (n - 1) _ a w.drew inv0 rfl hrp' (Region.free_spec hopA hfp) (From.refl _) fun u hu x => by
    have H := wpAnyT_ord (md := .text) (g := l.toArray.size - n) (pre := []) (C := cls u) (Lq := fun a' => a' = AF x) hsel hs hc hn _ _ _ _ hmap inv1 (fun _ h => by simp at h) hord (h u hu x)
    rw [htl] at H
    exact H
  rw [← hsz] at K
  exact K
end
end Go.Proofs.Ytockcnglennihaa
end
section
namespace Go.Proofs.Ytockcnglennihaa
open Go.RowKit
section
variable {P : Program} {ops : Array Oper} {md : Region.Mode}
theorem alloc_op {p : Nat} {op : Oper} {ty : TypeId} {Z : Array Value} {Q : Exit → Act → World → Prop} {K : Act → World → Prop} (hp : ops[p]? = some op) (hal : op.op = .alloc ty) (hgd : op.guard = none) (hz : ∀ w, (zeroValue ty).run P w = .ok (.agg Z) w) {a : Act} {w : World}
    (h : K (a.put op.dst (.pointer (some ⟨w.heap.size, 0, none⟩))) (w.alloc (.cells Z ty))) : wpOp P ops Q p K a w := by
  unfold wpOp
  simp only [hp]
  have hwt : Region.wanted op (yielded ops a.tmps) = true := by simp [Region.wanted, hgd]
  rw [if_pos hwt]
  refine .inl ?_
  unfold Oper.wp execOp
  simp only [hal, Instr.alloc, Sem.run_bind, hz, newVar, newRow, run_newObj_alloc, Sem.run_pure, Result.andThen_ok]
  exact h
theorem anyA2 {n g p q m : Nat} {op oq : Oper} {ty : TypeId} {Z : Array Value} {Q : Exit → Act → World → Prop} {AF : Nat → Nat → Act} {w0 : World}
    (hp : ops[p]? = some op) (hal : op.op = .alloc ty) (hgd : op.guard = none) (hq : ops[q]? = some oq) (halq : oq.op = .alloc ty) (hgdq : oq.guard = none) (hpq : p ≠ q) (hdq : ∀ d, op.dst = some d → oq.dst ≠ some d) (hz : ∀ w, (zeroValue ty).run P w = .ok (.agg Z) w)
    (hsel : ∀ (j : Nat) (o : Oper) cs b, ops[j]? = some o → o.op ≠ .select cs b) (hs : sinkP md ops n [] = true) (hc : Region.chainB md ops n = true) (hn : n < ops.size) (hpn : p < n) (hqn : q < n) (how : ownB ops n m = true)
    (hAF : ∀ x y d, op.dst ≠ some d → oq.dst ≠ some d → (AF x y).tmps.getD d undef = (AF 0 0).tmps.getD d undef)
    (hAp : ∀ x y d, op.dst ≠ some d → (AF x y).tmps.getD d undef = (AF 0 y).tmps.getD d undef) (hAq : ∀ x y d, oq.dst ≠ some d → (AF x y).tmps.getD d undef = (AF x 0).tmps.getD d undef)
    (hT : ∀ x y w, x ≠ y → From w0 w → Fresh w0 ty Z x w → Fresh w0 ty Z y w → ∀ listed, Region.seqB md ops g n listed = true → wpAny P md ops Q g listed (AF x y) w) :
    ∀ (f : Nat) (listed : Array Bool) (a : Act) (w : World), HeadInv md ops n listed → a.tmps.size = m → p ∈ Region.ready md ops listed → q ∈ Region.ready md ops listed →
      (∀ j oj, ops[j]? = some oj → j ≠ p → listed.getD j true = false → (∀ e ∈ oj.after, Region.binds md e = true → e.on ≠ p) → op.apart ops oj = true) →
      (∀ j oj, ops[j]? = some oj → j ≠ q → listed.getD j true = false → (∀ e ∈ oj.after, Region.binds md e = true → e.on ≠ q) → oq.apart ops oj = true) → From w0 w →
      (∀ u, From w u → ∀ x y, wpAnyT P md ops (cls u) n (fun l a' => Region.seqB md ops g n l = true ∧ a' = AF x y) f ((listed.setIfInBounds p true).setIfInBounds q true) ((a.put op.dst (.pointer (some ⟨x, 0, none⟩))).put oq.dst (.pointer (some ⟨y, 0, none⟩)))) →
      wpAny P md ops Q (f + 2 + g) listed a w := by
  have growA : ∀ w : World, From w (w.alloc (.cells Z ty)) := fun w => (Below.refl _ _).alloc (Nat.le_refl _) _
  -- one of the two has come up: the other's turn is anyA's
  have first : ∀ (f : Nat) (listed : Array Bool) (a : Act) (w : World), HeadInv md ops n listed → a.tmps.size = m → p ∈ Region.ready md ops listed → q ∈ Region.ready md ops listed →
      (∀ j oj, ops[j]? = some oj → j ≠ q → listed.getD j true = false → (∀ e ∈ oj.after, Region.binds md e = true → e.on ≠ q) → oq.apart ops oj = true) → From w0 w →
      (∀ u, From w u → ∀ x y, wpAnyT P md ops (cls u) n (fun l a' => Region.seqB md ops g n l = true ∧ a' = AF x y) f ((listed.setIfInBounds p true).setIfInBounds q true) ((a.put op.dst (.pointer (some ⟨x, 0, none⟩))).put oq.dst (.pointer (some ⟨y, 0, none⟩)))) →
      wpOp P ops Q p (wpAny P md ops Q (f + 1 + g) (listed.setIfInBounds p true)) a w := by
    intro f listed a w inv ham hpr hqr hfq hw H
    refine alloc_op hp hal hgd hz ?_
    have hF : Fresh w0 ty Z w.heap.size (w.alloc (.cells Z ty)) := ⟨heap_alloc_new w _, hw.size⟩
    refine anyA (AF := fun y => AF w.heap.size y) (w0 := w.alloc (.cells Z ty)) hq halq hgdq hz hsel hs hc hn hqn how (fun y d hd => hAq _ y d hd) (fun y w' hw' hFy listed hl => ?_) f _ _ _ (inv.set hpr hpn) (by rw [put_size]; exact ham) (ready_mono hqr (Ne.symm hpq))
      (fun j oj hj hjq hl hno => hfq j oj hj hjq ?_ hno) (From.refl _) (fun u hu y => H u ((growA w).trans hu) _ y)
    · refine hT _ _ _ ?_ ((hw.trans (growA w)).trans hw') (hF.from hw') ⟨hFy.1, Nat.le_trans (hw.trans (growA w)).size hFy.2⟩ listed hl
      have h1 := hFy.2
      rw [World.size_alloc] at h1
      omega
    · by_cases e : p = j
      · subst e; exact (mem_ready.1 hpr).1
      · rwa [getD_set_ne true e] at hl
  have second : ∀ (f : Nat) (listed : Array Bool) (a : Act) (w : World), HeadInv md ops n listed → a.tmps.size = m → p ∈ Region.ready md ops listed → q ∈ Region.ready md ops listed →
      (∀ j oj, ops[j]? = some oj → j ≠ p → listed.getD j true = false → (∀ e ∈ oj.after, Region.binds md e = true → e.on ≠ p) → op.apart ops oj = true) → From w0 w →
      (∀ u, From w u → ∀ x y, wpAnyT P md ops (cls u) n (fun l a' => Region.seqB md ops g n l = true ∧ a' = AF x y) f ((listed.setIfInBounds p true).setIfInBounds q true) ((a.put op.dst (.pointer (some ⟨x, 0, none⟩))).put oq.dst (.pointer (some ⟨y, 0, none⟩)))) →
      wpOp P ops Q q (wpAny P md ops Q (f + 1 + g) (listed.setIfInBounds q true)) a w := by
    intro f listed a w inv ham hpr hqr hfp hw H
    refine alloc_op hq halq hgdq hz ?_
    have hF : Fresh w0 ty Z w.heap.size (w.alloc (.cells Z ty)) := ⟨heap_alloc_new w _, hw.size⟩
    refine anyA (AF := fun x => AF x w.heap.size) (w0 := w.alloc (.cells Z ty)) hp hal hgd hz hsel hs hc hn hpn how (fun x d hd => hAp x _ d hd) (fun x w' hw' hFx listed hl => ?_) f _ _ _ (inv.set hqr hqn) (by rw [put_size]; exact ham) (ready_mono hpr hpq)
      (fun j oj hj hjp hl hno => hfp j oj hj hjp ?_ hno) (From.refl _) (fun u hu x => ?_)
    · refine hT _ _ _ ?_ ((hw.trans (growA w)).trans hw') ⟨hFx.1, Nat.le_trans (hw.trans (growA w)).size hFx.2⟩ (hF.from hw') listed hl
      have h1 := hFx.2
      rw [World.size_alloc] at h1
      omega
    · by_cases e : q = j
      · subst e; exact (mem_ready.1 hqr).1
      · rwa [getD_set_ne true e] at hl
    · have h := H u ((growA w).trans hu) x w.heap.size
      rw [Array.setIfInBounds_comm _ _ hpq, Act.put_comm a (.pointer (some ⟨x, 0, none⟩)) (.pointer (some ⟨w.heap.size, 0, none⟩)) (x := op.dst) (y := oq.dst) (fun e he => fun he2 => hdq e he he2)] at h
      exact h
  intro f
  induction f with
  | zero =>
    intro listed a w inv ham hpr hqr hfp hfq hw H
    rw [show 0 + 2 + g = (0 + 1 + g) + 1 by omega]
    refine ⟨fun h0 => absurd h0 (List.ne_nil_of_mem hpr), fun i hi => ?_⟩
    by_cases hip : i = p
    · subst hip
      exact first 0 listed a w inv ham hpr hqr hfq hw H
    · by_cases hiq : i = q
      · subst hiq
        exact second 0 listed a w inv ham hpr hqr hfp hw H
      · exfalso
        have hL := H w (From.refl w) 0 0
        have hr2 := ready_mono (ready_mono hi hip) hiq
        have hge := seqB_ready hL.1 i hr2
        exact tail_waitsP (pre := []) hs hc hn inv (fun _ h => by simp at h) _ p rfl hpn (mem_ready.1 hpr).1 i hge hi
  | succ f ih =>
    intro listed a w inv ham hpr hqr hfp hfq hw H
    rw [show f + 1 + 2 + g = (f + 2 + g) + 1 by omega]
    refine ⟨fun h0 => absurd h0 (List.ne_nil_of_mem hpr), fun i hi => ?_⟩
    by_cases hip : i = p
    · subst hip
      exact first (f + 1) listed a w inv ham hpr hqr hfq hw H
    by_cases hiq : i = q
    · subst hiq
      exact second (f + 1) listed a w inv ham hpr hqr hfp hw H
    obtain ⟨hiun, oi, hoi, hall⟩ := mem_ready.1 hi
    have hnotp : ∀ e ∈ oi.after, Region.binds md e = true → e.on ≠ p := by
      intro e he hb heq
      have h1 := hall e he hb
      rw [heq, getD_both (mem_ready.1 hpr).1] at h1
      exact Bool.noConfusion h1
    have hnotq : ∀ e ∈ oi.after, Region.binds md e = true → e.on ≠ q := by
      intro e he hb heq
      have h1 := hall e he hb
      rw [heq, getD_both (mem_ready.1 hqr).1] at h1
      exact Bool.noConfusion h1
    have hap := Oper.apart_spec (hfp i oi hoi hip hiun hnotp)
    have haq := Oper.apart_spec (hfq i oi hoi hiq hiun hnotq)
    have hr2 := ready_mono (md := md) (ready_mono (md := md) hi hip) hiq
    have hin : i < n := ((H w (From.refl w) 0 0).2 i hr2).1
    obtain ⟨d, hdd, hdm, hdo⟩ := ownB_spec how hin hoi
    have key : ∀ u, From w u → ∀ x y, YieldsIn P ops (cls u) oi ((AF 0 0).tmps.getD d undef) a ∧
        wpAnyT P md ops (cls u) n (fun l a' => Region.seqB md ops g n l = true ∧ a' = AF x y) f (((listed.setIfInBounds i true).setIfInBounds p true).setIfInBounds q true) (((a.put oi.dst ((AF 0 0).tmps.getD d undef)).put op.dst (.pointer (some ⟨x, 0, none⟩))).put oq.dst (.pointer (some ⟨y, 0, none⟩))) := by
      intro u hu x y
      obtain ⟨v, hy, hK⟩ := yieldsIn_of_qOp hoi ((H u hu x y).2 i hr2).2
      have hkeep := anyT_keep (d := d) f _ _ hK (fun j oj hj hl hjn => hdo j oj hjn (fun e => by
        subst e
        rw [Array.getD_eq_getD_getElem?, Array.getElem?_setIfInBounds_self] at hl
        split at hl <;> simp at hl) hj)
      rw [hdd, put_same _ d v (by rw [put_size, put_size, ham]; exact hdm)] at hkeep
      have hv : (AF 0 0).tmps.getD d undef = v := by
        rw [← hkeep]
        exact (hAF x y d (fun e => hdo p op hpn (Ne.symm hip) hp e) (fun e => hdo q oq hqn (Ne.symm hiq) hq e)).symm
      rw [hv]
      have hy1 : YieldsIn P ops (cls u) oi v (a.put op.dst (.pointer (some ⟨x, 0, none⟩))) := hy.of_same (execOp_put oi (fun cs b => hsel i oi cs b hoi) (a.put op.dst (.pointer (some ⟨x, 0, none⟩))) oq.dst _ haq.1).symm (wanted_put oi (a.put op.dst (.pointer (some ⟨x, 0, none⟩))) oq.dst _ haq.1).symm
      refine ⟨hy1.of_same (execOp_put oi (fun cs b => hsel i oi cs b hoi) a op.dst _ hap.1).symm (wanted_put oi a op.dst _ hap.1).symm, ?_⟩
      rw [Array.setIfInBounds_comm _ _ hip, Array.setIfInBounds_comm _ _ hiq]
      rw [Act.put_comm a v (.pointer (some ⟨x, 0, none⟩)) (x := oi.dst) (y := op.dst) (fun e he he2 => hap.2.1 e he2 he)]
      rw [Act.put_comm (a.put op.dst (.pointer (some ⟨x, 0, none⟩))) v (.pointer (some ⟨y, 0, none⟩)) (x := oi.dst) (y := oq.dst) (fun e he he2 => haq.2.1 e he2 he)]
      exact hK
    refine wpOp_of_qOp (C := cls w) (K := fun a' => a' = a.put oi.dst ((AF 0 0).tmps.getD d undef)) (cls.of (From.refl w)) (fun a' w' hw' ha' => ?_) ((key w (From.refl w) 0 0).1.qOp hoi rfl)
    subst ha'
    refine ih _ _ _ (inv.set hi hin) (by rw [put_size]; exact ham) (ready_mono hpr (Ne.symm hip)) (ready_mono hqr (Ne.symm hiq)) (fun j oj hj hjp hl hno => hfp j oj hj hjp ?_ hno) (fun j oj hj hjp hl hno => hfq j oj hj hjp ?_ hno) (hw.trans hw'.from) fun u hu x y => (key u (hw'.from.trans hu) x y).2
    · by_cases e : i = j
      · subst e; exact hiun
      · rwa [getD_set_ne true e] at hl
    · by_cases e : i = j
      · subst e; exact hiun
      · rwa [getD_set_ne true e] at hl
/-- What is asked of a region: numbers p and q may come up at once and touch nobody's; the others of the first n in their order; then the rest in its; each has a slot of its own. -/
def tailAAB (md : Region.Mode) (ops : Array Oper) (n p q m : Nat) : Bool :=
  Region.noSelect ops && decide (n < ops.size) && decide (p < n) && decide (q < n) && decide (q < p) && sinkP md ops n [] && Region.chainB md ops n && (Region.ready md ops (Array.replicate ops.size false)).contains p && (Region.ready md ops (Array.replicate ops.size false)).contains q &&
  Region.free md ops (Array.replicate ops.size false) p && Region.free md ops (Array.replicate ops.size false) q && ordB md ops (ops.size - n) n (((List.range n).eraseIdx p).eraseIdx q) (((Array.replicate ops.size false).setIfInBounds p true).setIfInBounds q true) && ownB ops n m
theorem wp_region_from_alloc2 {id : Nat} {Q : Exit → Act → World → Prop} {a : Act} {w : World} {l : List Oper} (n p q : Nat) (op oq : Oper) (ty : TypeId) (Z : Array Value) (hop : l[p]? = some op) (hal : op.op = .alloc ty) (hgd : op.guard = none) (hoq : l[q]? = some oq) (halq : oq.op = .alloc ty) (hgdq : oq.guard = none) (hdq : ∀ d, op.dst = some d → oq.dst ≠ some d)
    (hz : ∀ w, (zeroValue ty).run P w = .ok (.agg Z) w) (hm : P.follows .mixedOrders = true) (hB : tailAAB .any l.toArray n p q a.tmps.size = true)
    (H : ∃ AF : Nat → Nat → Act, (∀ u, From w.drew u → ∀ x y, wpQuiet P l.toArray (fun w' => ∃ h : Held (From u), w' = h.w) (fun a' => a' = AF x y) (((l.take n).eraseIdx p).eraseIdx q) ((a.put op.dst (.pointer (some ⟨x, 0, none⟩))).put oq.dst (.pointer (some ⟨y, 0, none⟩)))) ∧
      (∀ x y, AF x y = ((AF 0 0).put op.dst (.pointer (some ⟨x, 0, none⟩))).put oq.dst (.pointer (some ⟨y, 0, none⟩))) ∧ (∀ x y w', x ≠ y → From w.drew w' → Fresh w ty Z x w' → Fresh w ty Z y w' → wpList P l.toArray Q (l.drop n) (AF x y) w')) : (Code.region id l.toArray true).wp P Q a w := by
  obtain ⟨AF, h, hAF, hT⟩ := H
  simp only [tailAAB, Bool.and_eq_true, decide_eq_true_eq] at hB
  obtain ⟨⟨⟨⟨⟨⟨⟨⟨⟨⟨⟨⟨hsel, hn⟩, hpn⟩, hqn⟩, hqp⟩, hs⟩, hc⟩, hrp⟩, hrq⟩, hfp⟩, hfq⟩, hord⟩, how⟩ := hB
  have hnl : n < l.length := by simpa using hn
  have htl1 : ((l.take n).eraseIdx p).length = n - 1 := by rw [List.length_eraseIdx, if_pos (by simp; omega)]; simp; omega
  have htl : (((l.take n).eraseIdx p).eraseIdx q).length = n - 2 := by rw [List.length_eraseIdx, if_pos (by omega)]; omega
  have hdl : (l.drop n).length = l.toArray.size - n := by simp
  have hopA : l.toArray[p]? = some op := by simpa using hop
  have hoqA : l.toArray[q]? = some oq := by simpa using hoq
  have hrp' : p ∈ Region.ready .any l.toArray (Array.replicate l.toArray.size false) := by simpa using hrp
  have hrq' : q ∈ Region.ready .any l.toArray (Array.replicate l.toArray.size false) := by simpa using hrq
  have inv0 : HeadInv .any l.toArray n (Array.replicate l.toArray.size false) :=
    ⟨by simp, fun j oj _ hl => (by rw [getD_replicate_false] at hl; cases hl), fun t _ ht => getD_in (by simpa using ht) (getD_replicate_false _ _)⟩
  have inv1 := inv0.set hrp' hpn
  have inv2 := inv1.set (ready_mono hrq' (by omega)) hqn
  have hmap1 : ((List.range n).eraseIdx p).map (l.toArray[·]?) = ((l.take n).eraseIdx p).map some := by
    rw [List.eraseIdx_eq_take_drop_succ, List.eraseIdx_eq_take_drop_succ, List.map_append, List.map_append, List.map_take, List.map_take, List.map_drop, List.map_drop]
    suffices e : (List.range n).map (l.toArray[·]?) = (l.take n).map some by rw [e]
    apply List.ext_getElem?
    intro j
    simp only [List.getElem?_map, List.getElem?_take]
    by_cases hj : j < n
    · rw [List.getElem?_range hj]
      simp [hj, show j < l.length by omega]
    · rw [List.getElem?_eq_none (by simp; omega)]
      simp [hj]
  have hmap : (((List.range n).eraseIdx p).eraseIdx q).map (l.toArray[·]?) = (((l.take n).eraseIdx p).eraseIdx q).map some := by
    rw [List.eraseIdx_eq_take_drop_succ _ q, List.eraseIdx_eq_take_drop_succ _ q, List.map_append, List.map_append, List.map_take, List.map_take, List.map_drop, List.map_drop, hmap1]
  refine wp_region_any hm ?_
  have hsz : l.toArray.size = (n - 2) + 2 + (l.toArray.size - n) := by simp; omega
  have hT2 : ∀ x y w', x ≠ y → From w.drew w' → Fresh w.drew ty Z x w' → Fresh w.drew ty Z y w' → ∀ listed, Region.seqB .any l.toArray (l.toArray.size - n) n listed = true → wpAny P .any l.toArray Q (l.toArray.size - n) listed (AF x y) w' := fun x y w' hxy hw' hF hF2 listed hl => by
    have := wpAny_of_seq (md := .any) (Q' := Q) (l.drop n) n listed (AF x y) w' (fun j => by simp [List.getElem?_drop]) (by rw [hdl]; exact hl) (hT x y w' hxy hw' hF hF2)
    rwa [hdl] at this
  have K := anyA2 (g := l.toArray.size - n) (w0 := w.drew) hopA hal hgd hoqA halq hgdq (by omega) hdq hz (Region.noSelect_spec hsel) hs hc hn hpn hqn how
    (fun x y d hd hd2 => by rw [hAF x y]; exact (put_else _ _ _ _ hd2).trans (put_else _ _ _ _ hd))
    (fun x y d hd => by
      rw [hAF x y, hAF 0 y]
      by_cases e : oq.dst = some d
      · rw [e]
        by_cases hlt : d < (((AF 0 0).put op.dst (.pointer (some ⟨x, 0, none⟩)))).tmps.size
        · rw [put_same _ _ _ hlt, put_same _ _ _ (by rw [put_size] at hlt ⊢; exact hlt)]
        · rw [Array.getD_eq_getD_getElem?, Array.getD_eq_getD_getElem?, Array.getElem?_eq_none (by rw [put_size]; exact Nat.not_lt.1 hlt), Array.getElem?_eq_none (by rw [put_size, put_size]; rw [put_size] at hlt; exact Nat.not_lt.1 hlt)]
      · rw [put_else _ _ _ _ e, put_else _ _ _ _ e, put_else _ _ _ _ hd, put_else _ _ _ _ hd])
    (fun x y d hd => by rw [hAF x y, hAF x 0, put_else _ _ _ _ hd, put_else _ _ _ _ hd]) hT2 (n - 2) _ a w.drew inv0 rfl hrp' hrq' (Region.free_spec hopA hfp) (Region.free_spec hoqA hfq) (From.refl _) fun u hu x y => by
    have H := wpAnyT_ord (md := .any) (g := l.toArray.size - n) (pre := []) (C := cls u) (Lq := fun a' => a' = AF x y) hsel hs hc hn _ _ _ _ hmap inv2 (fun _ h => by simp at h) hord (h u hu x y)
    rw [htl] at H
    exact H
  rw [← hsz] at K
  exact K
end
end Go.Proofs.Ytockcnglennihaa
end
section
namespace Go.Proofs.Ytockcnglennihaa
open Go.RowKit
section
variable {P : Program} {ops : Array Oper} {C : World → Prop}
/-- The whole block at g is loaded, in every world of the class. -/
theorem quiet_load_row {K : Act → Prop} {a : Act} {o : Oper} (ty : TypeId) (x : Operand) (ho : o.op = .load ty x) (g : Nat) (hx : a.eval x = .pointer (some ⟨g, 0, none⟩)) (t : TypeId) (cs : Array Value) (d : TypeDesc)
    (hg : ∀ w, C w → ∃ fr, w.heap[g]? = some (.cells cs t fr))
    (hu : P.underlying ty = some d) (hd : (match d with | .struct _ | .array _ _ => true | _ => false) = true) (hi : (P.info? ty).map (·.size) = some cs.size)
    (h : K (a.put o.dst (.agg cs))) : o.quiet P a C K := by
  refine ⟨.agg cs, fun w hw => ?_, h⟩
  obtain ⟨fr, hg⟩ := hg w hw
  unfold Oper.quietAt execOp
  simp only [ho, hx, Instr.loadAt, Instr.sureAddr, Sem.run_bind, Sem.run_pure, Result.andThen_ok, run_loadVar_row w g t ty cs fr d hg hu hd hi]
  exact ⟨rfl, rfl⟩
end
end Go.Proofs.Ytockcnglennihaa
end
section
set_option linter.unusedSimpArgs false
set_option linter.unusedVariables false
namespace Go.Proofs.Ytockcnglennihaa
open Go.RowKit
abbrev Cells := Nat × TypeId × List Value
/-- Since its first world what was there is as it was, and of the call's own blocks these hold these cells. -/
structure RMem (w0 w : World) (L : List Cells) : Prop where
  below : Below w0.heap.size w0 w
  holds : ∀ g t cs, (g, t, cs) ∈ L → w.heap[g]? = some (.cells cs.toArray t (0, 0))
  ours : ∀ g t cs, (g, t, cs) ∈ L → w0.heap.size ≤ g
  apart : (L.map (·.1)).Nodup
section
variable {w0 w w' : World} {L : List Cells} {g : Nat} {t : TypeId} {x y : List Value}
theorem RMem.start (w : World) : RMem w w [] := ⟨Below.refl _ _, by simp, by simp, by simp⟩
theorem RMem.lt (H : RMem w0 w L) (h : (g, t, x) ∈ L) : g < w.heap.size := (Array.getElem?_eq_some_iff.1 (H.holds g t x h)).1
theorem RMem.grow (H : RMem w0 w L) (hb : Below w.heap.size w w') : RMem w0 w' L :=
  ⟨H.below.trans (hb.mono H.below.size), fun g t x h => (hb.block g (H.lt h)).trans (H.holds g t x h), H.ours, H.apart⟩
theorem RMem.more (H : RMem w0 w L) (hb : Below w.heap.size w w') (hg : w.heap.size ≤ g) (hx : w'.heap[g]? = some (.cells x.toArray t (0, 0))) : RMem w0 w' ((g, t, x) :: L) := by
  have H2 := H.grow hb
  refine ⟨H2.below, fun g' t' y h => ?_, fun g' t' y h => ?_, ?_⟩
  · rcases List.mem_cons.1 h with h | h
    · injection h with h1 h2; injection h2 with h2 h3; subst h1; subst h2; subst h3; exact hx
    · exact H2.holds g' t' y h
  · rcases List.mem_cons.1 h with h | h
    · injection h with h1 h2; subst h1; exact Nat.le_trans H.below.size hg
    · exact H.ours g' t' y h
  · rw [List.map_cons, List.nodup_cons]
    refine ⟨fun h => ?_, H.apart⟩
    obtain ⟨⟨g', t', y⟩, hm, he⟩ := List.mem_map.1 h
    have := H.lt hm
    simp only at he
    omega
theorem RMem.new (H : RMem w0 w L) (t : TypeId) (x : List Value) : RMem w0 (w.alloc (.cells x.toArray t)) ((w.heap.size, t, x) :: L) :=
  H.more ((Below.refl _ w).alloc (Nat.le_refl _) _) (Nat.le_refl _) (heap_alloc_new w _)
theorem RMem.from (H : RMem w0 w L) (h : From w.drew w') : RMem w0 w' L := H.grow h.of_drew
theorem RMem.drop {p : Cells} (H : RMem w0 w (p :: L)) : RMem w0 w L :=
  ⟨H.below, fun g t x h => H.holds g t x (List.mem_cons_of_mem _ h), fun g t x h => H.ours g t x (List.mem_cons_of_mem _ h), (List.nodup_cons.1 (show (p.1 :: L.map (·.1)).Nodup from H.apart)).2⟩
theorem RMem.cell (H : RMem w0 w L) (hm : (g, t, x) ∈ L) (i : Nat) (v : Value) (hi : x[i]? = some v) : w.cell? ⟨g, i, none⟩ = some v := by
  rw [cell_of_row w g _ _ _ _ (H.holds g t x hm), List.getElem?_toArray]
  exact hi
theorem RMem.frozen (H : RMem w0 w L) (hm : (g, t, x) ∈ L) (i : Nat) : w.frozen? ⟨g, i, none⟩ = false := frozen_of_row w g i _ _ (H.holds g t x hm)
theorem RMem.range (H : RMem w0 w L) (hm : (g, t, x) ∈ L) (o n : Nat) : w.rangeAt g o ((x.drop o).take n) := fun j v hj => by
  refine H.cell hm (o + j) v ?_
  rw [List.getElem?_take] at hj
  split at hj
  · rw [List.getElem?_drop] at hj
    exact hj
  · cases hj
theorem RMem.change {A B : List Cells} (H : RMem w0 w (A ++ (g, t, x) :: B)) (hb : Below w0.heap.size w0 w') (ho : ∀ g', g' ≠ g → w'.heap[g']? = w.heap[g']?) (hy : w'.heap[g]? = some (.cells y.toArray t (0, 0))) : RMem w0 w' (A ++ (g, t, y) :: B) := by
  have hk : (A ++ (g, t, y) :: B).map (·.1) = (A ++ (g, t, x) :: B).map (·.1) := by simp
  have hne : ∀ p ∈ A ++ B, p.1 ≠ g := by
    have h := H.apart
    rw [List.map_append, List.map_cons] at h
    have h2 := List.nodup_append.1 h
    intro p hp e
    rcases List.mem_append.1 hp with hp | hp
    · exact h2.2.2 p.1 (List.mem_map.2 ⟨p, hp, rfl⟩) g (List.mem_cons_self ..) e
    · exact (List.nodup_cons.1 h2.2.1).1 (List.mem_map.2 ⟨p, hp, e⟩)
  have hin : ∀ g' t' z, (g', t', z) ∈ A ++ (g, t, y) :: B → (g' = g ∧ t' = t ∧ z = y) ∨ ((g', t', z) ∈ A ++ B) := by
    intro g' t' z h
    rcases List.mem_append.1 h with h | h
    · exact .inr (List.mem_append_left _ h)
    · rcases List.mem_cons.1 h with h | h
      · injection h with h1 h2; injection h2 with h2 h3; exact .inl ⟨h1, h2, h3⟩
      · exact .inr (List.mem_append_right _ h)
  have hold : ∀ g' t' z, (g', t', z) ∈ A ++ B → (g', t', z) ∈ A ++ (g, t, x) :: B := fun g' t' z h => by
    rcases List.mem_append.1 h with h | h
    · exact List.mem_append_left _ h
    · exact List.mem_append_right _ (List.mem_cons_of_mem _ h)
  refine ⟨hb, fun g' t' z h => ?_, fun g' t' z h => ?_, by rw [hk]; exact H.apart⟩
  · rcases hin g' t' z h with ⟨rfl, rfl, rfl⟩ | h
    · exact hy
    · exact (ho g' (hne _ h)).trans (H.holds g' t' z (hold _ _ _ h))
  · rcases hin g' t' z h with ⟨rfl, rfl, rfl⟩ | h
    · exact H.ours g' t' x (by simp)
    · exact H.ours g' t' z (hold _ _ _ h)
theorem setRow_elsewhere (w : World) (g g' : Nat) (cs : Array Value) (h : g' ≠ g) : (w.setRow g cs).heap[g']? = w.heap[g']? := by
  show (w.heap.modify g _)[g']? = _
  rw [Array.getElem?_modify, if_neg (Ne.symm h)]
theorem RMem.put {A B : List Cells} (H : RMem w0 w (A ++ (g, t, x) :: B)) (y : List Value) : RMem w0 (w.setRow g y.toArray) (A ++ (g, t, y) :: B) :=
  H.change (below_setRow H.below (H.ours g t x (by simp)) _) (fun g' h => setRow_elsewhere w g g' _ h) (setRow_heap _ _ _ _ _ _ (H.holds g t x (by simp)))
theorem RMem.set {A B : List Cells} (H : RMem w0 w (A ++ (g, t, x) :: B)) (i : Nat) (v : Value) : RMem w0 (w.setCell ⟨g, i, none⟩ v) (A ++ (g, t, x.set i v) :: B) :=
  H.change (H.below.setCell (H.ours g t x (by simp)) _) (fun g' h => Below.heap_setCell w ⟨g, i, none⟩ v g' h) (by
    rw [heap_setCell_same _ _ _ _ _ _ (H.holds g t x (by simp)), List.setIfInBounds_toArray])
theorem RMem.set0 {B : List Cells} (H : RMem w0 w ((g, t, x) :: B)) (i : Nat) (v : Value) : RMem w0 (w.setCell ⟨g, i, none⟩ v) ((g, t, x.set i v) :: B) := RMem.set (A := []) H i v
end
section
variable {P : Program} {ops : Array Oper} {rest : List Oper} {o : Oper} {a : Act} {w0 w : World} {Q : Exit → Act → World → Prop} {L : List Cells}
theorem r_box (hg : o.guard = none) (T : TypeId) (x : Operand) (ho : o.op = .box T x) (cs : List Value) (hx : a.eval x = .agg cs.toArray) (H : RMem w0 w L)
    (h : ∀ g w', RMem w0 w' ((g, T, cs) :: L) → wpList P ops Q rest (a.put o.dst (.pointer (some ⟨g, 0, none⟩))) w') : wpList P ops Q (o :: rest) a w :=
  Great.wpList_boxTo hg T x ho o.dst rfl w.heap.size rfl cs.toArray (by rw [hx]; rfl) (h _ _ (H.new T cs))
theorem r_alloc (hg : o.guard = none) (T : TypeId) (ho : o.op = .alloc T) (Z : List Value) (hz : ∀ w, (zeroValue T).run P w = .ok (.agg Z.toArray) w) (H : RMem w0 w L)
    (h : ∀ g w', RMem w0 w' ((g, T, Z) :: L) → wpList P ops Q rest (a.put o.dst (.pointer (some ⟨g, 0, none⟩))) w') : wpList P ops Q (o :: rest) a w := by
  refine wpList_plain hg fun K hK => ?_
  unfold Oper.wp execOp
  simp only [ho, Instr.alloc, Sem.run_bind, hz, newVar, newRow, run_newObj_alloc, Sem.run_pure, Result.andThen_ok]
  exact hK _ _ (h _ _ (H.new T Z))
theorem r_load (hg : o.guard = none) (T : TypeId) (x : Operand) (ho : o.op = .load T x) (d : TypeDesc) (hu : P.underlying T = some d) (hd : (match d with | .struct _ | .array _ _ => true | _ => false) = true) (g : Nat) (t : TypeId) (cs : List Value)
    (hx : a.eval x = .pointer (some ⟨g, 0, none⟩)) (H : RMem w0 w L) (hm : (g, t, cs) ∈ L) (hi : (P.info? T).map (·.size) = some cs.length)
    (h : wpList P ops Q rest (a.put o.dst (.agg cs.toArray)) w) : wpList P ops Q (o :: rest) a w :=
  wpList_load_row hg T x ho g hx t cs.toArray (0, 0) d (H.holds g t cs hm) hu hd (by rw [List.size_toArray]; exact hi) h
theorem r_part (hg : o.guard = none) (T : TypeId) (x : Operand) (ho : o.op = .load T x) (d : TypeDesc) (hu : P.underlying T = some d) (hd : d.isRow = true) (g off n : Nat) (t : TypeId) (cs ys : List Value)
    (hx : a.eval x = .pointer (some ⟨g, off, none⟩)) (H : RMem w0 w L) (hm : (g, t, cs) ∈ L) (hn : (P.info? T).map (·.size) = some n) (hy : (cs.drop off).take n = ys) (hl : ys.length = n)
    (h : wpList P ops Q rest (a.put o.dst (.agg ys.toArray)) w) : wpList P ops Q (o :: rest) a w :=
  wpList_load_mid hg T x ho g off hx ys d (hy ▸ H.range hm off n) hu hd (by rw [hl]; exact hn) h
theorem r_store (hg : o.guard = none) (T : TypeId) (x v : Operand) (ho : o.op = .store T x v) (g : Nat) (t : TypeId) (old cs : List Value) (hx : a.eval x = .pointer (some ⟨g, 0, none⟩)) (hv : a.eval v = .agg cs.toArray) (A B : List Cells)
    (H : RMem w0 w (A ++ (g, t, old) :: B)) (hi : (P.info? T).map (·.size) = some cs.length) (hl : old.length = cs.length) (h1 : cs.toArray.all (·.oneCell') = true)
    (h : ∀ w', RMem w0 w' (A ++ (g, t, cs) :: B) → wpList P ops Q rest (a.put o.dst undef) w') : wpList P ops Q (o :: rest) a w :=
  wpList_store_row hg T x v ho g cs.toArray hx hv t old.toArray (H.holds g t old (by simp)) (by rw [List.size_toArray]; exact hi) (by rw [List.size_toArray, List.size_toArray, hl]) h1 (h _ (H.put cs))
/-- The last store: what stands there then. -/
theorem r_store_fin (hg : o.guard = none) (T : TypeId) (x v : Operand) (ho : o.op = .store T x v) (g : Nat) (t : TypeId) (old cs : List Value) (hx : a.eval x = .pointer (some ⟨g, 0, none⟩)) (hv : a.eval v = .agg cs.toArray)
    (H : RMem w0 w L) (hm : (g, t, old) ∈ L) (hi : (P.info? T).map (·.size) = some cs.length) (hl : old.length = cs.length) (h1 : cs.toArray.all (·.oneCell') = true)
    (h : ∀ w', RMem w0 w' [(g, t, cs)] → wpList P ops Q rest (a.put o.dst undef) w') : wpList P ops Q (o :: rest) a w := by
  obtain ⟨A, B, rfl⟩ := List.append_of_mem hm
  refine r_store hg T x v ho g t old cs hx hv A B H hi hl h1 fun w' H' => h w' ?_
  have hm' : (g, t, cs) ∈ A ++ (g, t, cs) :: B := by simp
  exact ⟨H'.below, fun g' t' z h => by rw [List.mem_singleton] at h; injection h with h1 h2; injection h2 with h2 h3; subst h1; subst h2; subst h3; exact H'.holds g' t' z hm',
    fun g' t' z h => by rw [List.mem_singleton] at h; injection h with h1 h2; injection h2 with h2 h3; subst h1; subst h2; subst h3; exact H'.ours g' t' z hm', by simp⟩
theorem r_call {f : FuncId} {args : Array Value} {v : Value} {Q : Ending → World → Prop} (H : RMem w0 w L) (c : Calls P f args w fun e w' => e = .returned v ∧ Below w.heap.size w w')
    (h : ∀ w', RMem w0 w' L → Q (.returned v) w') : Calls P f args w Q :=
  c.mono fun _ w' ⟨he, hb⟩ => he ▸ h w' (H.grow hb)
theorem r_ret {fn : Func} {p : Tmp} {T t : TypeId} {cs : List Value} {g : Nat} {d : TypeDesc} (hr : fn.results = #[.cell p T]) (hu : P.underlying T = some d) (hd : (match d with | .struct _ | .array _ _ => true | _ => false) = true) (a : Act) (hp : a.tmps.getD p undef = .pointer (some ⟨g, 0, none⟩)) (hf : a.defers = []) (H : RMem w0 w L) (hm : (g, t, cs) ∈ L)
    (hi : (P.info? T).map (·.size) = some cs.length) {R : Ending → World → Prop} (h : R (.returned (.agg cs.toArray)) w) : bodyPost P fn R .ret a w :=
  bodyPost_ret (results_cell_row hr _ _ g t cs.toArray (0, 0) d hp (H.holds g t cs hm) hu hd (by rw [List.size_toArray]; exact hi)) hf h
theorem r_build (hg : o.guard = none) (T : TypeId) (parts : Array (Nat × Operand)) (ho : o.op = .build T parts) (ps : List (Nat × Value)) (e : (parts.map fun (i, x) => (i, a.eval x)).toList = ps) (cs : List Value) (hb : P.built T ps = some cs.toArray)
    (h : wpList P ops Q rest (a.put o.dst (.agg cs.toArray)) w) : wpList P ops Q (o :: rest) a w := by
  refine wpList_build hg T parts ho ?_ ?_
  · rw [e, hb]; rfl
  · rw [e, hb]; exact h
end
section
variable {P : Program} {ops : Array Oper} {o : Oper} {a : Act} {w0 w : World} {L : List Cells} {K : Act → Prop}
/-- The same in a region that draws its order. -/
theorem rq_load (T : TypeId) (x : Operand) (ho : o.op = .load T x) (d : TypeDesc) (hu : P.underlying T = some d) (hd : (match d with | .struct _ | .array _ _ => true | _ => false) = true) (g : Nat) (t : TypeId) (cs : List Value) (u : World) (hw : From w.drew u)
    (hx : a.eval x = .pointer (some ⟨g, 0, none⟩)) (H : RMem w0 w L) (hm : (g, t, cs) ∈ L) (hi : (P.info? T).map (·.size) = some cs.length)
    (h : K (a.put o.dst (.agg cs.toArray))) : o.quiet P a (fun w' => ∃ k : Held (From u), w' = k.w) K :=
  quiet_load_row T x ho g hx t cs.toArray d (fun _ ⟨k, e⟩ => ⟨(0, 0), e ▸ (H.from (hw.trans k.h)).holds g t cs hm⟩) hu hd (by rw [List.size_toArray]; exact hi) h
theorem rq_part (T : TypeId) (x : Operand) (ho : o.op = .load T x) (d : TypeDesc) (hu : P.underlying T = some d) (hd : d.isRow = true) (g off n : Nat) (t : TypeId) (cs ys : List Value) (u : World) (hw : From w.drew u)
    (hx : a.eval x = .pointer (some ⟨g, off, none⟩)) (H : RMem w0 w L) (hm : (g, t, cs) ∈ L) (hn : (P.info? T).map (·.size) = some n) (hy : (cs.drop off).take n = ys) (hl : ys.length = n)
    (h : K (a.put o.dst (.agg ys.toArray))) : o.quiet P a (fun w' => ∃ k : Held (From u), w' = k.w) K := by
  refine ⟨.agg ys.toArray, fun w' hw' => ?_, h⟩
  obtain ⟨k, rfl⟩ := hw'
  have hr := (H.from (hw.trans k.h)).range hm off n
  rw [hy] at hr
  unfold Oper.quietAt execOp
  simp only [ho, hx, Instr.loadAt, Instr.sureAddr, Sem.run_bind, Sem.run_pure, Result.andThen_ok, run_loadVar_mid k.w g off T ys d hr hu hd (by rw [hl]; exact hn)]
  exact ⟨rfl, rfl⟩
theorem rq_build (T : TypeId) (parts : Array (Nat × Operand)) (ho : o.op = .build T parts) (ps : List (Nat × Value)) (e : (parts.map fun (i, x) => (i, a.eval x)).toList = ps) (cs : List Value) (hb : P.built T ps = some cs.toArray) {C : World → Prop}
    (h : K (a.put o.dst (.agg cs.toArray))) : o.quiet P a C K := by
  refine ⟨.agg cs.toArray, fun w' _ => ?_, h⟩
  unfold Oper.quietAt execOp
  simp only [ho, Sem.run_bind, run_build w' T (parts.map fun (i, x) => (i, a.eval x)) cs.toArray (by rw [e]; exact hb), Result.andThen_ok, Sem.run_pure]
  exact ⟨rfl, rfl⟩
theorem RMem.extra {w' : World} {g : Nat} {t : TypeId} {Z : List Value} (H : RMem w0 w L) (h : From w.drew w') (hF : Fresh w t Z.toArray g w') : RMem w0 w' ((g, t, Z) :: L) := H.more h.of_drew hF.2 hF.1
end
end Go.Proofs.Ytockcnglennihaa
end
