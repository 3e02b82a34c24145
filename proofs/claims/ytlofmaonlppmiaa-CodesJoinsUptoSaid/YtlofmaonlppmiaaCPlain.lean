/- Plain facts on checksums of 32 bits: the step of a bit, of a byte; it is linear, and nothing but 0 goes to 0; what follows for a sum that goes on, for texts turned by one another, for a text with its own sum behind it. No program is spoken of. -/
set_option linter.unusedVariables false
namespace Go.Proofs.Ytlofmaonlppmiaa
def poly : Nat := 3988292384
def ones : Nat := 4294967295
def bit1 (r : Nat) : Nat := if r % 2 = 1 then (r / 2) ^^^ poly else r / 2
def bit8 (r : Nat) : Nat := bit1 (bit1 (bit1 (bit1 (bit1 (bit1 (bit1 (bit1 r)))))))
def byteC (r b : Nat) : Nat := bit8 (r ^^^ b)
def regC (r : Nat) (l : List UInt8) : Nat := l.foldl (fun r b => byteC r b.toNat) r
def crcN (sum : Nat) (l : List UInt8) : Nat := ones - regC (ones - sum) l

theorem xor_half (a b : Nat) : (a ^^^ b) / 2 = (a / 2) ^^^ (b / 2) := by
  have := Nat.xor_div_two_pow (a := a) (b := b) (n := 1)
  simpa using this
theorem xor_par (a b : Nat) : (a ^^^ b) % 2 = (a + b) % 2 := by
  have h : (a ^^^ b) % 2 = (a % 2) ^^^ (b % 2) := by
    have := Nat.xor_mod_two_pow (a := a) (b := b) (n := 1)
    simpa using this
  rw [h]
  rcases Nat.mod_two_eq_zero_or_one a with ha | ha <;> rcases Nat.mod_two_eq_zero_or_one b with hb | hb <;> rw [ha, hb] <;> simp <;> omega
theorem xor_same {a b : Nat} (h : a ^^^ b = 0) : a = b := by
  have : a = (a ^^^ b) ^^^ b := by rw [Nat.xor_assoc, Nat.xor_self, Nat.xor_zero]
  rw [this, h, Nat.zero_xor]
theorem xor_left {x a b : Nat} (h : x ^^^ a = x ^^^ b) : a = b := by
  have : a = x ^^^ (x ^^^ a) := by rw [← Nat.xor_assoc, Nat.xor_self, Nat.zero_xor]
  rw [this, h, ← Nat.xor_assoc, Nat.xor_self, Nat.zero_xor]
theorem xor4 (a b c d : Nat) : (a ^^^ b) ^^^ (c ^^^ d) = (a ^^^ c) ^^^ (b ^^^ d) := by
  rw [Nat.xor_assoc, ← Nat.xor_assoc b c d, Nat.xor_comm b c, Nat.xor_assoc c b d, ← Nat.xor_assoc]
theorem bit1_xor (a b : Nat) : bit1 (a ^^^ b) = bit1 a ^^^ bit1 b := by
  unfold bit1
  rw [xor_par, xor_half]
  rcases Nat.mod_two_eq_zero_or_one a with ha | ha <;> rcases Nat.mod_two_eq_zero_or_one b with hb | hb
  · rw [if_neg (by omega), if_neg (by omega), if_neg (by omega)]
  · rw [if_pos (by omega), if_neg (by omega), if_pos (by omega), Nat.xor_assoc]
  · rw [if_pos (by omega), if_pos (by omega), if_neg (by omega), Nat.xor_assoc, Nat.xor_comm (b / 2), Nat.xor_assoc]
  · rw [if_neg (by omega), if_pos (by omega), if_pos (by omega), xor4, Nat.xor_self, Nat.xor_zero]
theorem bit8_xor (a b : Nat) : bit8 (a ^^^ b) = bit8 a ^^^ bit8 b := by
  unfold bit8; simp only [bit1_xor]
theorem bit1_lt {r : Nat} (h : r < 4294967296) : bit1 r < 4294967296 := by
  unfold bit1
  split
  · exact Nat.xor_lt_two_pow (n := 32) (by omega) (by decide)
  · omega
theorem bit8_lt {r : Nat} (h : r < 4294967296) : bit8 r < 4294967296 := by
  unfold bit8
  exact bit1_lt (bit1_lt (bit1_lt (bit1_lt (bit1_lt (bit1_lt (bit1_lt (bit1_lt h)))))))
theorem byteC_lt {r b : Nat} (h : r < 4294967296) (hb : b < 4294967296) : byteC r b < 4294967296 := bit8_lt (Nat.xor_lt_two_pow (n := 32) h hb)
theorem regC_lt (l : List UInt8) : ∀ r, r < 4294967296 → regC r l < 4294967296 := by
  induction l with
  | nil => intro r h; exact h
  | cons a t ih => intro r h; exact ih _ (byteC_lt h (by have := a.toNat_lt; omega))
theorem regC_nil (r : Nat) : regC r [] = r := rfl
theorem regC_cons (r : Nat) (a : UInt8) (t : List UInt8) : regC r (a :: t) = regC (byteC r a.toNat) t := rfl
theorem regC_append (a b : List UInt8) (r : Nat) : regC r (a ++ b) = regC (regC r a) b := by unfold regC; rw [List.foldl_append]
theorem crcN_lt (sum : Nat) (l : List UInt8) : crcN sum l ≤ ones := by unfold crcN; omega
/-- A sum goes on. -/
theorem crcN_append (sum : Nat) (h : sum ≤ ones) (a b : List UInt8) : crcN (crcN sum a) b = crcN sum (a ++ b) := by
  have hr := regC_lt a (ones - sum) (by unfold ones at *; omega)
  unfold crcN
  rw [regC_append]
  congr 2
  unfold ones at *; omega
theorem crcN_nil (sum : Nat) (h : sum ≤ ones) : crcN sum [] = sum := by unfold crcN; rw [regC_nil]; omega

/-! ### linear -/
def xorL (a b : List UInt8) : List UInt8 := List.zipWith (· ^^^ ·) a b
theorem byteC_xor (r s a b : Nat) : byteC (r ^^^ s) (a ^^^ b) = byteC r a ^^^ byteC s b := by unfold byteC; rw [xor4, bit8_xor]
theorem regC_xor (a : List UInt8) : ∀ (b : List UInt8) (r s : Nat), a.length = b.length → regC (r ^^^ s) (xorL a b) = regC r a ^^^ regC s b := by
  induction a with
  | nil => intro b r s h; cases b with
    | nil => rfl
    | cons _ _ => simp at h
  | cons x t ih => intro b r s h; cases b with
    | nil => simp at h
    | cons y u =>
      show regC (byteC (r ^^^ s) (x ^^^ y).toNat) (xorL t u) = _
      rw [UInt8.toNat_xor, byteC_xor]
      exact ih u _ _ (by simpa using h)
theorem ones_sub (x : Nat) (h : x < 4294967296) : ones - x = x ^^^ ones := by
  have h1 := BitVec.toNat_not (x := BitVec.ofNat 32 x)
  have h2 : (BitVec.ofNat 32 x ^^^ BitVec.allOnes 32) = ~~~ (BitVec.ofNat 32 x) := BitVec.xor_allOnes
  rw [← h2, BitVec.toNat_xor, BitVec.toNat_allOnes, BitVec.toNat_ofNat, Nat.mod_eq_of_lt h] at h1
  unfold ones
  exact h1.symm
theorem xorL_len (a b : List UInt8) (h : a.length = b.length) : (xorL a b).length = a.length := by unfold xorL; rw [List.length_zipWith]; omega
/-- Three texts of one length, turned by one another. -/
theorem crcN_three (a b c : List UInt8) (h1 : a.length = b.length) (h2 : a.length = c.length) : crcN 0 (xorL (xorL a b) c) = (crcN 0 a ^^^ crcN 0 b) ^^^ crcN 0 c := by
  have hl := xorL_len a b h1
  have e : ones = (ones ^^^ ones) ^^^ ones := by rw [Nat.xor_self, Nat.zero_xor]
  have hr : regC ones (xorL (xorL a b) c) = (regC ones a ^^^ regC ones b) ^^^ regC ones c := by
    conv => lhs; rw [e]
    rw [regC_xor (xorL a b) c _ _ (by omega), regC_xor a b _ _ h1]
  have la := regC_lt a ones (by decide)
  have lb := regC_lt b ones (by decide)
  have lc := regC_lt c ones (by decide)
  have lx := regC_lt (xorL (xorL a b) c) ones (by decide)
  unfold crcN
  rw [Nat.sub_zero, ones_sub _ la, ones_sub _ lb, ones_sub _ lc, ones_sub _ lx, hr, xor4 (regC ones a) ones (regC ones b) ones, Nat.xor_self, Nat.xor_zero, Nat.xor_assoc (regC ones a ^^^ regC ones b)]

/-! ### nothing but 0 goes to 0 -/
theorem bit1_zero {r : Nat} (h : r < 4294967296) (h0 : bit1 r = 0) : r = 0 := by
  unfold bit1 at h0
  split at h0
  · have := xor_same h0; unfold poly at this; omega
  · omega
theorem bit8_zero {r : Nat} (h : r < 4294967296) (h0 : bit8 r = 0) : r = 0 := by
  unfold bit8 at h0
  have l1 := bit1_lt h
  have l2 := bit1_lt l1
  have l3 := bit1_lt l2
  have l4 := bit1_lt l3
  have l5 := bit1_lt l4
  have l6 := bit1_lt l5
  have l7 := bit1_lt l6
  exact bit1_zero h (bit1_zero l1 (bit1_zero l2 (bit1_zero l3 (bit1_zero l4 (bit1_zero l5 (bit1_zero l6 (bit1_zero l7 h0)))))))
theorem bit8_inj {a b : Nat} (ha : a < 4294967296) (hb : b < 4294967296) (h : bit8 a = bit8 b) : a = b := by
  have h1 : bit8 (a ^^^ b) = 0 := by rw [bit8_xor, h, Nat.xor_self]
  have := bit8_zero (Nat.xor_lt_two_pow (n := 32) ha hb) h1
  exact xor_same this
theorem byteC_inj_reg {a b x : Nat} (ha : a < 4294967296) (hb : b < 4294967296) (hx : x < 4294967296) (h : byteC a x = byteC b x) : a = b := by
  have := bit8_inj (Nat.xor_lt_two_pow (n := 32) ha hx) (Nat.xor_lt_two_pow (n := 32) hb hx) h
  exact xor_left (x := x) (by rw [Nat.xor_comm x a, Nat.xor_comm x b]; exact this)
theorem regC_inj (l : List UInt8) : ∀ a b, a < 4294967296 → b < 4294967296 → regC a l = regC b l → a = b := by
  induction l with
  | nil => intro a b _ _ h; exact h
  | cons x t ih =>
    intro a b ha hb h
    have hx : x.toNat < 4294967296 := by have := x.toNat_lt; omega
    exact byteC_inj_reg ha hb hx (ih _ _ (byteC_lt ha hx) (byteC_lt hb hx) h)
/-- One byte that is another one makes another sum. -/
theorem crcN_one (a b : List UInt8) (x y : UInt8) (h : x ≠ y) : crcN 0 (a ++ x :: b) ≠ crcN 0 (a ++ y :: b) := by
  intro he
  have l0 := regC_lt a ones (by decide)
  have hx : x.toNat < 4294967296 := by have := x.toNat_lt; omega
  have hy : y.toNat < 4294967296 := by have := y.toNat_lt; omega
  have l1 := regC_lt (a ++ x :: b) ones (by decide)
  have l2 := regC_lt (a ++ y :: b) ones (by decide)
  have hr : regC ones (a ++ x :: b) = regC ones (a ++ y :: b) := by
    unfold crcN at he; rw [Nat.sub_zero] at he; unfold ones at *; omega
  rw [regC_append, regC_append, regC_cons, regC_cons] at hr
  have h1 := regC_inj b _ _ (byteC_lt l0 hx) (byteC_lt l0 hy) hr
  have h2 := bit8_inj (Nat.xor_lt_two_pow (n := 32) l0 hx) (Nat.xor_lt_two_pow (n := 32) l0 hy) h1
  have h3 := xor_left h2
  exact h (UInt8.toNat_inj.1 h3)

/-! ### a text with its own sum behind it -/
theorem bit8_shift (y : Nat) : bit8 (y * 256) = y := by
  have h : ∀ z, bit1 (2 * z) = z := fun z => by unfold bit1; rw [if_neg (by omega)]; omega
  unfold bit8
  rw [show y * 256 = 2 * (2 * (2 * (2 * (2 * (2 * (2 * (2 * y))))))) by omega]
  simp only [h]
theorem low_xor (b y : Nat) (hb : b < 256) : b ^^^ (y * 256) = b + y * 256 := by
  have h := Nat.two_pow_add_eq_or_of_lt (i := 8) (b := b) (by omega) y
  have h2 : (2 ^ 8 * y) ^^^ b = (2 ^ 8 * y) ||| b := by
    apply Nat.eq_of_testBit_eq
    intro i
    rw [Nat.testBit_xor, Nat.testBit_or, Nat.testBit_two_pow_mul]
    by_cases hi : i < 8
    · have : ¬ 8 ≤ i := by omega
      simp [this]
    · have : b.testBit i = false := Nat.testBit_lt_two_pow (Nat.lt_of_lt_of_le hb (by have := Nat.pow_le_pow_right (n := 2) (by omega) (show 8 ≤ i by omega); simpa using this))
      simp [this]
  rw [Nat.xor_comm, Nat.mul_comm y 256, show (256 : Nat) = 2 ^ 8 from rfl, h2, ← h]
  omega
/-- A byte, then what stands above it. -/
theorem bit8_word (r b y : Nat) (hb : b < 256) : bit8 (r ^^^ (b + y * 256)) = byteC r b ^^^ y := by
  rw [← low_xor b y hb, ← Nat.xor_assoc, bit8_xor, bit8_shift]; rfl
theorem reg_word (r : Nat) (b0 b1 b2 b3 : Nat) (h0 : b0 < 256) (h1 : b1 < 256) (h2 : b2 < 256) (h3 : b3 < 256) :
    byteC (byteC (byteC (byteC r b0) b1) b2) b3 = bit8 (bit8 (bit8 (bit8 (r ^^^ (b0 + (b1 + (b2 + b3 * 256) * 256) * 256))))) := by
  rw [bit8_word r b0 _ h0, bit8_word _ b1 _ h1, bit8_word _ b2 _ h2]
  rfl
def le4 (n : Nat) : List UInt8 := [UInt8.ofNat (n % 256), UInt8.ofNat (n / 256 % 256), UInt8.ofNat (n / 65536 % 256), UInt8.ofNat (n / 16777216 % 256)]
theorem reg_le4 (r n : Nat) (hn : n < 4294967296) : regC r (le4 n) = bit8 (bit8 (bit8 (bit8 (r ^^^ n)))) := by
  unfold le4
  rw [regC_cons, regC_cons, regC_cons, regC_cons, regC_nil]
  have e : ∀ k, k < 256 → (UInt8.ofNat k).toNat = k := fun k hk => by rw [UInt8.toNat_ofNat']; omega
  rw [e _ (by omega), e _ (by omega), e _ (by omega), e _ (by omega), reg_word r _ _ _ _ (by omega) (by omega) (by omega) (by omega)]
  congr 6
  omega
/-- Bytes with a number of four bytes behind them have just then the one sum when the number is their own sum. -/
theorem crcN_end (s : List UInt8) (n : Nat) (hn : n < 4294967296) : crcN 0 (s ++ le4 n) = 558161692 ↔ n = crcN 0 s := by
  have hr := regC_lt s ones (by decide)
  have hx : regC ones s ^^^ n < 4294967296 := Nat.xor_lt_two_pow (n := 32) hr hn
  have key : bit8 (bit8 (bit8 (bit8 ones))) = ones - 558161692 := by decide +kernel
  have l1 : regC ones (s ++ le4 n) < 4294967296 := regC_lt _ ones (by decide)
  have e1 : crcN 0 (s ++ le4 n) = 558161692 ↔ regC ones (s ++ le4 n) = ones - 558161692 := by
    unfold crcN; rw [Nat.sub_zero]; unfold ones at *; omega
  rw [e1, regC_append, reg_le4 _ n hn, ← key]
  have l2 := bit8_lt hx
  have l3 := bit8_lt l2
  have l4 := bit8_lt l3
  have o1 : ones < 4294967296 := by decide
  have o2 := bit8_lt o1
  have o3 := bit8_lt o2
  have o4 := bit8_lt o3
  have e2 : n = crcN 0 s ↔ regC ones s ^^^ n = ones := by
    unfold crcN
    rw [Nat.sub_zero, ones_sub _ hr]
    constructor
    · intro h; rw [h, ← Nat.xor_assoc, Nat.xor_self, Nat.zero_xor]
    · intro h
      have : n = regC ones s ^^^ (regC ones s ^^^ n) := by rw [← Nat.xor_assoc, Nat.xor_self, Nat.zero_xor]
      rw [this, h]
  rw [e2]
  constructor
  · intro h
    exact bit8_inj hx o1 (bit8_inj l2 o2 (bit8_inj l3 o3 (bit8_inj l4 o4 h)))
  · intro h; rw [h]
end Go.Proofs.Ytlofmaonlppmiaa
