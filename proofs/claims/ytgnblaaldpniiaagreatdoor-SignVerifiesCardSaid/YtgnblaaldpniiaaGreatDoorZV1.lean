/- Signatures by numbers and points: multiples of the base; a message's key, point and number; the numbers of the first test. No walk, no program is spoken of.
The hash of package sha2 and of the document as one function; its answers at four inputs.
The document's answer for package sign, walked: its parts over letters.
Package sign, walked: its calls over letters. -/
import Derived.Test.YtgnblaaldpniiaaGreatDoorZM2
import Derived.Test.YtgnblaaldpniiaaGreatDoorZM5
import Derived.Test.YtgnblaaldpniiaaGreatDoorZS10
import Derived.Test.YtgnblaaldpniiaaGreatDoorZS3
import Derived.Test.YtgnblaaldpniiaaGreatDoorZO2
import Derived.Test.YtgnblaaldpniiaaGreatDoorZK3
import Derived.Great.Walk
section
set_option linter.unusedVariables false
set_option maxRecDepth 100000
set_option linter.unusedSimpArgs false
namespace Go.Proofs.YtgnblaaldpniiaaGreatDoor.Sg
open Go.RowKit
theorem base_inj {m n : Nat} (h : pmul m pbase = pmul n pbase) : m % oL = n % oL := by
  have key : ∀ {a b : Nat}, a ≤ b → pmul a pbase = pmul b pbase → a % oL = b % oL := by
    intro a b hab e
    obtain ⟨c, hc⟩ := base_free (pmul_lt_cancel pbase_on hab e)
    have hb : b = a + oL * c := by omega
    rw [hb, Nat.add_mul_mod_self_left]
  rcases Nat.le_total m n with hl | hl
  · exact key hl h
  · exact (key hl h.symm).symm
theorem base_mod (n : Nat) : pmul (n % oL) pbase = pmul n pbase := pmul_mod pbase_on base_order n
def secB (h : List UInt8) : List UInt8 := ((h.take 32).set 0 (UInt8.ofNat ((h.getD 0 0).toNat / 8 * 8))).set 31 (UInt8.ofNat ((h.getD 31 0).toNat % 64 + 64))
theorem secB_len (h : List UInt8) (hl : h.length = 64) : (secB h).length = 32 := by unfold secB; rw [List.length_set, List.length_set, List.length_take, hl]; rfl
section
variable (H : List UInt8 → List UInt8)
def secN (seed : List UInt8) : Nat := numB (secB (H seed))
def preL (seed : List UInt8) : List UInt8 := (H seed).drop 32
def keyP (seed : List UInt8) : Pt := pmul (secN H seed) pbase
def keyL (seed : List UInt8) : List UInt8 := encP (keyP H seed)
def redN (l : List UInt8) : Nat := numB (H l) % oL
def rN (seed m : List UInt8) : Nat := redN H (preL H seed ++ m)
def rP (seed m : List UInt8) : Pt := pmul (rN H seed m) pbase
def rL (seed m : List UInt8) : List UInt8 := encP (rP H seed m)
def kN (r key m : List UInt8) : Nat := redN H (r ++ key ++ m)
def sN (seed m : List UInt8) : Nat := (rN H seed m + kN H (rL H seed m) (keyL H seed) m * secN H seed) % oL
def sigL (seed m : List UInt8) : List UInt8 := rL H seed m ++ leB (sN H seed m)
def verB (key m sig : List UInt8) : Bool :=
  decide (sig.length = 64) && match dec key, dec (sig.take 32) with
    | some A, some R => decide (numB (sig.drop 32) < oL) && decide (encP (pmul (numB (sig.drop 32)) pbase) = encP (padd R (pmul (kN H (sig.take 32) key m) A)))
    | _, _ => false
theorem keyP_on (seed : List UInt8) : OnC (keyP H seed) := pmul_on pbase_on _
theorem rP_on (seed m : List UInt8) : OnC (rP H seed m) := pmul_on pbase_on _
theorem keyL_dec (seed : List UInt8) : dec (keyL H seed) = some (keyP H seed) := dec_enc (keyP_on H seed)
theorem rL_dec (seed m : List UInt8) : dec (rL H seed m) = some (rP H seed m) := dec_enc (rP_on H seed m)
theorem rL_len (seed m : List UInt8) : (rL H seed m).length = 32 := encP_len _
theorem sigL_len (seed m : List UInt8) : (sigL H seed m).length = 64 := by unfold sigL; rw [List.length_append, rL_len, leB_len]
theorem sigL_take (seed m : List UInt8) : (sigL H seed m).take 32 = rL H seed m := by unfold sigL; rw [List.take_append_of_le_length (by rw [rL_len]; omega), List.take_of_length_le (by rw [rL_len]; omega)]
theorem sigL_drop (seed m : List UInt8) : (sigL H seed m).drop 32 = leB (sN H seed m) := by unfold sigL; rw [List.drop_append_of_le_length (by rw [rL_len]; omega), List.drop_eq_nil_of_le (by rw [rL_len]; omega), List.nil_append]
theorem oL_big : oL < big := by decide +kernel
theorem oL_pos : 0 < oL := by decide +kernel
theorem sN_lt (seed m : List UInt8) : sN H seed m < oL := Nat.mod_lt _ oL_pos
theorem num_s (seed m : List UInt8) : numB (leB (sN H seed m)) = sN H seed m := numB_leB _ (Nat.lt_trans (sN_lt H seed m) oL_big)
theorem ver_some {key m sig : List UInt8} {A R : Pt} (hl : sig.length = 64) (hA : dec key = some A) (hR : dec (sig.take 32) = some R) (hs : numB (sig.drop 32) < oL) : verB H key m sig = decide (encP (pmul (numB (sig.drop 32)) pbase) = encP (padd R (pmul (kN H (sig.take 32) key m) A))) := by
  unfold verB
  rw [decide_eq_true hl, hA, hR]
  simp only [Bool.true_and]
  rw [decide_eq_true hs, Bool.true_and]
theorem ver_len {key m sig : List UInt8} (hl : sig.length ≠ 64) : verB H key m sig = false := by unfold verB; rw [decide_eq_false hl, Bool.false_and]
theorem ver_key {key m sig : List UInt8} (h : dec key = none) : verB H key m sig = false := by unfold verB; rw [h]; simp
theorem ver_r {key m sig : List UInt8} (h : dec (sig.take 32) = none) : verB H key m sig = false := by unfold verB; rw [h]; cases dec key <;> simp
theorem ver_s {key m sig : List UInt8} (h : ¬ numB (sig.drop 32) < oL) : verB H key m sig = false := by
  unfold verB
  rw [decide_eq_false h]
  cases dec key <;> cases dec (sig.take 32) <;> simp
theorem ver_sig (seed m : List UInt8) : verB H (keyL H seed) m (sigL H seed m) = true := by
  rw [ver_some H (sigL_len H seed m) (keyL_dec H seed) (by rw [sigL_take, rL_dec]) (by rw [sigL_drop, num_s]; exact sN_lt H seed m)]
  refine decide_eq_true (congrArg encP ?_)
  rw [sigL_drop, num_s, sigL_take]
  unfold sN
  rw [base_mod, pmul_add pbase_on, pmul_mul pbase_on]
  rfl
end
def seed1 : List UInt8 := [157, 97, 177, 157, 239, 253, 90, 96, 186, 132, 74, 244, 146, 236, 44, 196, 68, 73, 197, 105, 123, 50, 105, 25, 112, 59, 172, 3, 28, 174, 127, 96]
def hash1 : List UInt8 := [53, 124, 131, 134, 79, 40, 51, 203, 66, 122, 46, 241, 192, 10, 1, 60, 253, 255, 39, 104, 217, 128, 192, 163, 165, 32, 240, 6, 144, 77, 233, 15, 155, 79, 10, 254, 40, 11, 116, 106, 119, 134, 132, 231, 84, 66, 80, 32, 87, 183, 71, 58, 3, 240, 143, 150, 245, 163, 142, 146, 135, 224, 31, 143]
def pre1 : List UInt8 := [155, 79, 10, 254, 40, 11, 116, 106, 119, 134, 132, 231, 84, 66, 80, 32, 87, 183, 71, 58, 3, 240, 143, 150, 245, 163, 142, 146, 135, 224, 31, 143]
def a1N : Nat := 36144925721603087658594284515452164870581325872720374094707712194495455132720
def key1 : Pt := ⟨38815646466658113194383306759739515082307681141926459231621296960732224964046, 11903303657706407974989296177215005343713679411332034699907763981919547054807⟩
def keyB1 : List UInt8 := [215, 90, 152, 1, 130, 177, 10, 183, 213, 75, 254, 211, 201, 100, 7, 58, 14, 225, 114, 243, 218, 166, 35, 37, 175, 2, 26, 104, 247, 7, 81, 26]
def hash2 : List UInt8 := [182, 177, 156, 216, 224, 66, 111, 89, 131, 250, 17, 45, 137, 161, 67, 170, 151, 218, 184, 188, 93, 235, 141, 91, 98, 83, 201, 40, 182, 82, 114, 244, 4, 64, 152, 194, 169, 144, 3, 156, 222, 91, 106, 72, 24, 223, 11, 251, 110, 64, 220, 93, 238, 84, 36, 128, 50, 150, 35, 35, 231, 1, 53, 45]
def r1N : Nat := 2015312323900227545039973048451112962192803170366412514267238242679089760755
def r1P : Pt := ⟨44370630452101398467924320556439323233869374150616132215183787387252341590058, 38448863731492799660668882834560725606410712239157980760146247592118262650597⟩
def rB1 : List UInt8 := [229, 86, 67, 0, 195, 96, 172, 114, 144, 134, 226, 204, 128, 110, 130, 138, 132, 135, 127, 30, 184, 229, 217, 116, 216, 115, 224, 101, 34, 73, 1, 85]
def hash3 : List UInt8 := [39, 113, 6, 43, 107, 83, 111, 231, 255, 189, 218, 3, 32, 195, 130, 123, 3, 93, 241, 13, 40, 77, 243, 240, 130, 34, 240, 77, 188, 167, 164, 194, 14, 241, 91, 220, 152, 138, 34, 199, 32, 116, 17, 55, 124, 51, 242, 172, 9, 177, 232, 106, 4, 98, 52, 40, 55, 104, 238, 123, 160, 60, 14, 159]
def k1N : Nat := 1958233733501237659471134851339390337284068724042047466985993338226439154310
def s1N : Nat := 5004556735901913393272427758925840403246877222315506387332009764265656498271
def hash4 : List UInt8 := [89, 237, 8, 166, 163, 128, 145, 157, 10, 68, 9, 165, 205, 19, 76, 171, 210, 246, 73, 242, 102, 43, 163, 213, 32, 18, 219, 124, 131, 20, 136, 214, 209, 201, 46, 32, 142, 7, 205, 226, 241, 76, 202, 64, 207, 136, 241, 82, 18, 166, 164, 25, 31, 25, 22, 42, 72, 4, 239, 65, 20, 139, 77, 2]
def k2N : Nat := 7105053535885340757715205778169356927404386393052748833402476575000598598480
theorem key1_on : OnC key1 := ⟨by decide +kernel, by decide +kernel, by unfold Rule M; decide +kernel⟩
theorem r1P_on : OnC r1P := ⟨by decide +kernel, by decide +kernel, by unfold Rule M; decide +kernel⟩
theorem key1_is : pmul a1N pbase = key1 := mul_by pbase_on key1_on 255 a1N (by decide +kernel) (by decide +kernel)
theorem r1P_is : pmul r1N pbase = r1P := mul_by pbase_on r1P_on 253 r1N (by decide +kernel) (by decide +kernel)
theorem keyB1_is : encP key1 = keyB1 := by decide +kernel
theorem rB1_is : encP r1P = rB1 := by decide +kernel
theorem one_sec {H : List UInt8 → List UInt8} (h1 : H seed1 = hash1) : secN H seed1 = a1N := by unfold secN; rw [h1]; decide +kernel
theorem one_pre {H : List UInt8 → List UInt8} (h1 : H seed1 = hash1) : preL H seed1 = pre1 := by unfold preL; rw [h1]; decide +kernel
theorem one_key {H : List UInt8 → List UInt8} (h1 : H seed1 = hash1) : keyL H seed1 = keyB1 := by unfold keyL keyP; rw [one_sec h1, key1_is, keyB1_is]
theorem one_r {H : List UInt8 → List UInt8} (h1 : H seed1 = hash1) (h2 : H pre1 = hash2) : rN H seed1 [] = r1N := by unfold rN redN; rw [one_pre h1, List.append_nil, h2]; decide +kernel
theorem one_rL {H : List UInt8 → List UInt8} (h1 : H seed1 = hash1) (h2 : H pre1 = hash2) : rL H seed1 [] = rB1 := by unfold rL rP; rw [one_r h1 h2, r1P_is, rB1_is]
theorem one_k {H : List UInt8 → List UInt8} (h1 : H seed1 = hash1) (h2 : H pre1 = hash2) (h3 : H (rB1 ++ keyB1) = hash3) : kN H (rL H seed1 []) (keyL H seed1) [] = k1N := by unfold kN redN; rw [one_rL h1 h2, one_key h1, List.append_nil, h3]; decide +kernel
theorem one_s {H : List UInt8 → List UInt8} (h1 : H seed1 = hash1) (h2 : H pre1 = hash2) (h3 : H (rB1 ++ keyB1) = hash3) : sN H seed1 [] = s1N := by unfold sN; rw [one_k h1 h2 h3, one_r h1 h2, one_sec h1]; decide +kernel
theorem one_k2 {H : List UInt8 → List UInt8} (h1 : H seed1 = hash1) (h2 : H pre1 = hash2) (h4 : H (rB1 ++ keyB1 ++ [120]) = hash4) : kN H (rL H seed1 []) (keyL H seed1) [120] = k2N := by unfold kN redN; rw [one_rL h1 h2, one_key h1, h4]; decide +kernel
theorem one_no {H : List UInt8 → List UInt8} (h1 : H seed1 = hash1) (h2 : H pre1 = hash2) (h3 : H (rB1 ++ keyB1) = hash3) (h4 : H (rB1 ++ keyB1 ++ [120]) = hash4) : verB H (keyL H seed1) [120] (sigL H seed1 []) = false := by
  rw [ver_some H (sigL_len H seed1 []) (keyL_dec H seed1) (by rw [sigL_take, rL_dec]) (by rw [sigL_drop, num_s]; exact sN_lt H seed1 [])]
  refine decide_eq_false fun he => ?_
  have h := enc_inj (pmul_on pbase_on _) (padd_on (rP_on H _ _) (pmul_on (keyP_on H _) _)) he
  rw [sigL_drop, num_s, sigL_take, one_k2 h1 h2 h4] at h
  unfold rP keyP at h
  rw [one_r h1 h2, one_sec h1, one_s h1 h2 h3, ← pmul_mul pbase_on, ← pmul_add pbase_on] at h
  have hm := base_inj h
  revert hm
  decide +kernel
end Go.Proofs.YtgnblaaldpniiaaGreatDoor.Sg
end
section
set_option linter.unusedVariables false
set_option linter.unusedSimpArgs false
set_option maxRecDepth 100000
namespace Go.Proofs.YtgnblaaldpniiaaGreatDoor.Sg
open Go.RowKit
def H5 (l : List UInt8) : List UInt8 := Sh.shaL true l
theorem H5_len (l : List UInt8) : (H5 l).length = 64 := Sh.sha_length true l
def KL : List Nat := [   4794697086780616226, 8158064640168781261, 13096744586834688815, 16840607885511220156, 4131703408338449720,   6480981068601479193, 10538285296894168987, 12329834152419229976, 15566598209576043074, 1334009975649890238,   2608012711638119052, 6128411473006802146, 8268148722764581231, 9286055187155687089, 11230858885718282805,   13951009754708518548, 16472876342353939154, 17275323862435702243, 1135362057144423861, 2597628984639134821,   3308224258029322869, 5365058923640841347, 6679025012923562964, 8573033837759648693, 10970295158949994411,   12119686244451234320, 12683024718118986047, 13788192230050041572, 14330467153632333762, 15395433587784984357,   489312712824947311, 1452737877330783856, 2861767655752347644, 3322285676063803686, 5560940570517711597,   5996557281743188959, 7280758554555802590, 8532644243296465576, 9350256976987008742, 10552545826968843579,   11727347734174303076, 12113106623233404929, 14000437183269869457, 14369950271660146224, 15101387698204529176,   15463397548674623760, 17586052441742319658, 1182934255886127544, 1847814050463011016, 2177327727835720531,   2830643537854262169, 3796741975233480872, 4115178125766777443, 5681478168544905931, 6601373596472566643,   7507060721942968483, 8399075790359081724, 8693463985226723168, 9568029438360202098, 10144078919501101548,   10430055236837252648, 11840083180663258601, 13761210420658862357, 14299343276471374635, 14566680578165727644,   15097957966210449927, 16922976911328602910, 17689382322260857208, 500013540394364858, 748580250866718886,   1242879168328830382, 1977374033974150939, 2944078676154940804, 3659926193048069267, 4368137639120453308,   4836135668995329356, 5532061633213252278, 6448918945643986474, 6902733635092675308, 7801388544844847127]
def HL : List Nat := [   7640891576956012808, 13503953896175478587, 4354685564936845355, 11912009170470909681, 5840696475078001361,   11170449401992604703, 2270897969802886507, 6620516959819538809]
theorem kl_of : Sh.cubesL.map Int.toNat = KL := by decide +kernel
theorem hl_of : Sh.squaresL.map Int.toNat = HL := by decide +kernel
theorem wd_t : 64 - Sh.wd true = 0 := by decide
theorem constR_is (n p : Nat) : Sh.constR true n p = ((Sh.rootN p n : Nat) : Int).toNat := by
  rw [Int.toNat_natCast]
  unfold Sh.constR
  rw [wd_t, Nat.pow_zero, Nat.div_one]
theorem constK_is : Sh.constK true (Sh.prO true) = KL := by
  rw [← kl_of, ← Sh.cubes_all, Sh.prO_t, List.map_map]
  unfold Sh.constK
  refine List.map_congr_left fun p _ => ?_
  rw [constR_is 3 p, Function.comp_apply]
theorem constH_is : Sh.constH true (Sh.prO true) = HL := by
  rw [← hl_of, ← Sh.squares_all, Sh.prO_t, List.map_map]
  unfold Sh.constH
  refine List.map_congr_left fun p _ => ?_
  rw [constR_is 2 p, Function.comp_apply]
theorem H5_is (l : List UInt8) (hl : l.length ≤ 2000) : H5 l = Sh.docSum true KL HL l := by
  unfold H5
  rw [Sh.doc_same true l hl, constK_is, constH_is]
theorem h5_1 : H5 seed1 = hash1 := by rw [H5_is _ (by decide)]; decide +kernel
theorem h5_2 : H5 pre1 = hash2 := by rw [H5_is _ (by decide)]; decide +kernel
theorem h5_3 : H5 (rB1 ++ keyB1) = hash3 := by rw [H5_is _ (by decide)]; decide +kernel
theorem h5_4 : H5 (rB1 ++ keyB1 ++ [120]) = hash4 := by rw [H5_is _ (by decide)]; decide +kernel
theorem oneR (s : List UInt8) (w : World) (hn : s.length ≤ 2000) : Calls Tryz.prog 32 #[.int .i64 1, .string (S s)] w (RetV (.tuple #[.string (S (H5 s)), .int .i64 0]) w) := Sh.ref_one true rfl s hn w
end Go.Proofs.YtgnblaaldpniiaaGreatDoor.Sg
end
section
set_option linter.unusedSimpArgs false
set_option linter.unusedVariables false
set_option maxRecDepth 100000
namespace Go.Proofs.YtgnblaaldpniiaaGreatDoor.Sg
open Go.RowKit
theorem reduced_core (s h : List UInt8) (hl : h.length ≤ 4096) (cO : ∀ w, Calls Tryz.prog 32 #[.int .i64 1, .string (S s)] w (RetV (.tuple #[.string (S h), .int .i64 0]) w)) (wS : World) : Calls Tryz.prog 20 #[.string (S s)] wS (RetV (.string (S (Sc.scB (Sc.numB h)))) wS) := by
  have H := Sc.SM.start wS
  have cD := Kept.mk fun w => Sc.Digits_any h hl w
  have cM := Kept.mk fun ga ca w hA => Sc.Mod_any (Sc.digs h) (Sc.digs h).length rfl (by rw [Sc.digs_len]; exact hl) (Sc.digs_lt h) ga ca w hA
  replace cO := Kept.mk cO
  unfold Sc.numB
  generalize Sc.scB (valB 256 (Sc.digs h)) = r at cM ⊢
  generalize Sc.digs h = d at cD cM
  clear hl
  generalize S s = sb at cO ⊢
  generalize S h = hb at cO cD
  go_enter Tryz.func20, Tryz.ntmps20
  go_wp2_with (first
    | (go_at_call 32; refine Sc.s_call (by assumption) (cO.out _) ?_; intro w H)
    | (go_at_call 44; refine Sc.s_dg (by assumption) (cD.out _) ?_; intro g c w H)
    | (go_at_call 43; refine Sc.s_call (by assumption) (cM.out _ _ _ (H.holds _ d (.head _))) ?_; intro w H))
  go_ret
  exact ⟨rfl, H.below⟩
theorem take_S (l : List UInt8) (n : Nat) (hl : n ≤ l.length) : (S l).extract 0 n = S (l.take n) := by
  apply ByteArray.ext
  apply Array.ext'
  rw [ByteArray.data_extract, Array.toList_extract]
  show (l.drop 0).take (n - 0) = _
  rw [List.drop_zero, Nat.sub_zero]
  rfl
theorem drop_S (l : List UInt8) (n m : Nat) (hl : l.length = m) : (S l).extract n m = S (l.drop n) := by
  apply ByteArray.ext
  apply Array.ext'
  rw [ByteArray.data_extract, Array.toList_extract]
  show (l.drop n).take (m - n) = l.drop n
  exact List.take_of_length_le (by rw [List.length_drop]; omega)
theorem mem_other {w0 w : World} {L : List Cells} (H : RMem w0 w L) {gb : Nat} (hgb : w0.heap.size ≤ gb) (hne : ∀ p ∈ L, p.1 ≠ gb) (i : Nat) (v : Value) : RMem w0 (w.setCell ⟨gb, i, none⟩ v) L :=
  ⟨H.below.setCell hgb v, fun g t cs h => (Below.heap_setCell w ⟨gb, i, none⟩ v g (hne _ h)).trans (H.holds g t cs h), H.ours, H.apart⟩
theorem sec_pre {w0 w : World} {L : List Cells} (H : RMem w0 w L) (l : List UInt8) (hl : l.length = 32) (b0 c0 b1 c1 : UInt8) (h0 : l.getD 0 0 = b0) (h1 : l.getD 31 0 = b1) :
    ∃ w1 gb cap, (convert 9 37 (.string (S l))).run Tryz.prog w = .ok (.slice (some ⟨gb, 0, none⟩) 32 cap) w1 ∧ w1.cell? ⟨gb, 0, none⟩ = some (.int .u8 (b0.toNat : Int)) ∧ w1.frozen? ⟨gb, 0, none⟩ = false ∧
      (w1.setCell ⟨gb, 0, none⟩ (.int .u8 (c0.toNat : Int))).cell? ⟨gb, 31, none⟩ = some (.int .u8 (b1.toNat : Int)) ∧ (w1.setCell ⟨gb, 0, none⟩ (.int .u8 (c0.toNat : Int))).frozen? ⟨gb, 31, none⟩ = false ∧
      RMem w0 ((w1.setCell ⟨gb, 0, none⟩ (.int .u8 (c0.toNat : Int))).setCell ⟨gb, 31, none⟩ (.int .u8 (c1.toNat : Int))) L ∧
      (∀ u : Held (From ((w1.setCell ⟨gb, 0, none⟩ (.int .u8 (c0.toNat : Int))).setCell ⟨gb, 31, none⟩ (.int .u8 (c1.toNat : Int))).drew), (convert 37 9 (.slice (some ⟨gb, 0, none⟩) 32 cap)).run Tryz.prog u.w = .ok (.string (S ((l.set 0 c0).set 31 c1))) u.w) := by
  have hcv := Lib.run_convert_string_bytes w 9 37 5 (S l) Tryz.underlying9 Tryz.underlying37 Tryz.underlying5
  rw [S_size, hl] at hcv
  have R1 := row8_new w l
  have H1 := H.grow (below_bytes (Below.refl w.heap.size w) (Nat.le_refl _) (S l))
  have hne : ∀ p ∈ L, p.1 ≠ w.heap.size := fun p hp e => by
    have h1 := H.lt (g := p.1) (t := p.2.1) (x := p.2.2) hp
    omega
  have R2 := row8_set R1 0 c0
  have l2 : (l.set 0 c0).length = 32 := by rw [List.length_set, hl]
  have g2 : (l.set 0 c0).getD 31 0 = b1 := by rw [← h1]; simp [List.getD, List.getElem?_set]
  refine ⟨_, _, _, hcv, row8_at R1 0 (by omega) b0 h0, row8_frozen R1 0 (by omega), row8_at R2 31 (by omega) b1 g2, row8_frozen R2 31 (by omega), mem_other (mem_other H1 H.below.size hne 0 _) H.below.size hne 31 _, fun u => ?_⟩
  exact row8_conv (row8_from (row8_set R2 31 c1) u.h.of_drew) 32 _ (by rw [List.length_set, l2])
theorem lowq (b : UInt8) : ∃ c : UInt8, c = UInt8.ofNat (b.toNat / 8 * 8) ∧ c.toNat = b.toNat / 8 * 8 := ⟨_, rfl, by have := b.toNat_lt; simp; omega⟩
theorem topq (b : UInt8) : ∃ c : UInt8, c = UInt8.ofNat (b.toNat % 64 + 64) ∧ c.toNat = b.toNat % 64 + 64 := ⟨_, rfl, by simp; omega⟩
end Go.Proofs.YtgnblaaldpniiaaGreatDoor.Sg
end
section
set_option linter.unusedSimpArgs false
set_option linter.unusedVariables false
set_option maxRecDepth 100000
namespace Go.Proofs.YtgnblaaldpniiaaGreatDoor.Sg
open Go.RowKit
structure HW (w0 w : World) (g : Nat) (l : List UInt8) (B : Nat) : Prop where
  b : Below w0.heap.size w0 w
  v : Sh.Vars w
  h : Sh.IsHash w g true l
  lo : w0.heap.size ≤ g
  one : 1 < g
  ln : l.length ≤ B
theorem HW.start {w0 w : World} {g : Nat} (hb : Below w0.heap.size w0 w) (hv : Sh.Vars w0) (hh : Sh.IsHash w g true []) (hg : w0.heap.size ≤ g) : HW w0 w g [] 0 := ⟨hb, hv.from hb, hh, hg, Nat.lt_of_lt_of_le hv.1 hg, Nat.le_refl _⟩
theorem HW.write {w0 w w2 : World} {g B C : Nat} {l s : List UInt8} (H : HW w0 w g l B) (hs : s.length ≤ C) (hh : Sh.IsHash w2 g true (l ++ s)) (hc : Sh.Chg g w w2) : HW w0 w2 g (l ++ s) (B + C) := ⟨Sh.Chg.below H.b hc H.b.size H.lo, hc.vars H.v H.one, hh, H.lo, H.one, by rw [List.length_append]; exact Nat.add_le_add H.ln hs⟩
theorem HW.first {w0 w w2 : World} {g C : Nat} {s : List UInt8} (H : HW w0 w g [] 0) (hs : s.length ≤ C) (hh : Sh.IsHash w2 g true ([] ++ s)) (hc : Sh.Chg g w w2) : HW w0 w2 g s C := ⟨Sh.Chg.below H.b hc H.b.size H.lo, hc.vars H.v H.one, hh, H.lo, H.one, hs⟩
theorem HW.wr {w0 w : World} {g B C : Nat} {l s : List UInt8} (H : HW w0 w g l B) (hs : s.length ≤ C) (hB : B + C ≤ 1152921504606846976) : l.length + s.length ≤ 4611686018427387904 := Nat.le_trans (Nat.add_le_add H.ln hs) (Nat.le_trans hB (by decide))
theorem HW.sm {w0 w : World} {g B : Nat} {l : List UInt8} (H : HW w0 w g l B) (hB : B ≤ 1152921504606846976) : l.length ≤ 1152921504606846976 := Nat.le_trans H.ln hB
theorem r_callR {P : Program} {w0 w : World} {L : List Cells} {f : FuncId} {args : Array Value} {v : Value} {Q : Ending → World → Prop} (H : RMem w0 w L) (c : Calls P f args w (RetV v w)) (h : ∀ w', RMem w0 w' L → Q (.returned v) w') : Calls P f args w Q := r_call H c h
theorem mem_hd {p : Cells} {L : List Cells} : p ∈ p :: L := List.mem_cons_self ..
theorem low_and (b : UInt8) : bits .andNot .u8 (b.toNat : Int) 7 = ((b.toNat / 8 * 8 : Nat) : Int) := by
  have h : ∀ n : Fin 256, bits .andNot .u8 ((n.val : Nat) : Int) 7 = ((n.val / 8 * 8 : Nat) : Int) := by decide +kernel
  exact h ⟨b.toNat, b.toNat_lt⟩
theorem top_and (b : UInt8) : bits .or .u8 (bits .andNot .u8 (b.toNat : Int) 128) 64 = ((b.toNat % 64 + 64 : Nat) : Int) := by
  have h : ∀ n : Fin 256, bits .or .u8 (bits .andNot .u8 ((n.val : Nat) : Int) 128) 64 = ((n.val % 64 + 64 : Nat) : Int) := by decide +kernel
  exact h ⟨b.toNat, b.toNat_lt⟩
section
variable {ops : Array Oper} {rest : List Oper} {o : Oper} {a : Act} {w0 w : World} {Q : Exit → Act → World → Prop} {L : List Cells}
theorem p_load (hg : o.guard = none) (x : Operand) (ho : o.op = .load 9 x) (g i : Nat) (cs : List Value) (s : ByteArray) (hs : w0.heap[g]? = some (.cells cs.toArray 9 (0, 0)))
    (hx : a.eval x = .pointer (some ⟨g, i, none⟩)) (hi : cs[i]? = some (.string s)) (hb : Below w0.heap.size w0 w)
    (h : wpList Tryz.prog ops Q rest (a.put o.dst (.string s)) w) : wpList Tryz.prog ops Q (o :: rest) a w := by
  have hlt : g < w0.heap.size := (Array.getElem?_eq_some_iff.1 hs).1
  have hc : w.cell? ⟨g, i, none⟩ = some (.string s) := by
    rw [cell_of_row w g _ _ _ _ ((hb.block g hlt).trans hs), List.getElem?_toArray]
    exact hi
  refine wpList_plain hg fun K hK => ?_
  unfold Oper.wp execOp
  simp only [ho, hx, Instr.loadAt, Instr.sureAddr, Sem.run_bind, Sem.run_pure, Result.andThen_ok, run_load_cell w 9 _ Tryz.underlying9 rfl _ _ hc]
  exact hK _ _ h
theorem built1 (s0 : ByteArray) : Tryz.prog.builtSlice 9 1 [(0, .string s0)] = some ([.string s0] : List Value).toArray := by kernel_rfl
theorem b_slice1 (hg : o.guard = none) (parts : Array (Nat × Operand)) (ho : o.op = .buildSlice 51 1 parts) (s0 : ByteArray) (e : (parts.map fun (i, x) => (i, a.eval x)).toList = [(0, .string s0)]) (H : RMem w0 w L)
    (h : ∀ g w', RMem w0 w' ((g, 9, [.string s0]) :: L) → wpList Tryz.prog ops Q rest (a.put o.dst (.slice (some ⟨g, 0, none⟩) 1 1)) w') : wpList Tryz.prog ops Q (o :: rest) a w :=
  Great.wpList_buildSliceTo hg 51 9 1 parts ho _ rfl _ rfl Tryz.underlying51 _ (by rw [e]; exact built1 s0) (h _ _ (H.new 9 _))
theorem built2 (s0 s1 : ByteArray) : Tryz.prog.builtSlice 9 2 [(0, .string s0), (1, .string s1)] = some ([.string s0, .string s1] : List Value).toArray := by kernel_rfl
theorem b_slice2 (hg : o.guard = none) (parts : Array (Nat × Operand)) (ho : o.op = .buildSlice 51 2 parts) (s0 s1 : ByteArray) (e : (parts.map fun (i, x) => (i, a.eval x)).toList = [(0, .string s0), (1, .string s1)]) (H : RMem w0 w L)
    (h : ∀ g w', RMem w0 w' ((g, 9, [.string s0, .string s1]) :: L) → wpList Tryz.prog ops Q rest (a.put o.dst (.slice (some ⟨g, 0, none⟩) 2 2)) w') : wpList Tryz.prog ops Q (o :: rest) a w :=
  Great.wpList_buildSliceTo hg 51 9 2 parts ho _ rfl _ rfl Tryz.underlying51 _ (by rw [e]; exact built2 s0 s1) (h _ _ (H.new 9 _))
theorem built3 (s0 s1 s2 : ByteArray) : Tryz.prog.builtSlice 9 3 [(0, .string s0), (1, .string s1), (2, .string s2)] = some ([.string s0, .string s1, .string s2] : List Value).toArray := by kernel_rfl
theorem b_slice3 (hg : o.guard = none) (parts : Array (Nat × Operand)) (ho : o.op = .buildSlice 51 3 parts) (s0 s1 s2 : ByteArray) (e : (parts.map fun (i, x) => (i, a.eval x)).toList = [(0, .string s0), (1, .string s1), (2, .string s2)]) (H : RMem w0 w L)
    (h : ∀ g w', RMem w0 w' ((g, 9, [.string s0, .string s1, .string s2]) :: L) → wpList Tryz.prog ops Q rest (a.put o.dst (.slice (some ⟨g, 0, none⟩) 3 3)) w') : wpList Tryz.prog ops Q (o :: rest) a w :=
  Great.wpList_buildSliceTo hg 51 9 3 parts ho _ rfl _ rfl Tryz.underlying51 _ (by rw [e]; exact built3 s0 s1 s2) (h _ _ (H.new 9 _))
end
set_option maxHeartbeats 4000000 in
theorem hashW1 (s0 : List UInt8) (h0 : s0.length ≤ 2000) (gs : Nat) (wS : World) (hv : Sh.Vars wS) (hs : wS.heap[gs]? = some (.cells ([.string (S s0)] : List Value).toArray 9 (0, 0))) : Calls Tryz.prog 29 #[.slice (some ⟨gs, 0, none⟩) 1 1] wS (RetV (.string (S (H5 (s0)))) wS) := by
  unfold H5
  try rw [List.append_assoc]
  replace hv := Kept.mk hv
  replace hs := Kept.mk hs
  replace h0 := Kept.mk h0
  go_enter Tryz.func29, Tryz.ntmps29
  go_wp2_with (first
    | (go_at_call 53; refine (Sh.new_any true rfl _ hv.out).mono ?_; rintro e w1 ⟨g, hg, rfl, hh, hb⟩; have H := HW.start hb hv.out hh hg; clear hh hb hg))
  refine wp_loop_rounds 2 ?_
  rw [rounds_succ]
  go_wp2_with (first
    | (refine p_load rfl _ rfl _ _ _ _ hs.out rfl rfl H.b ?_; try simp only [Act.put, yI, yC, yZ])
    | (go_at_call 54; refine (Sh.write_any g true rfl _ _ _ H.h H.v H.one (H.wr h0.out (by decide))).mono ?_; rintro e w2 ⟨rfl, hh2, hc2⟩; replace H := H.first h0.out hh2 hc2; clear hh2 hc2))
  rw [rounds_succ]
  go_wp2_with (first
    | (go_at_call 55; refine (Sh.sum_any g true rfl _ _ H.h H.v (H.sm (by decide))).mono ?_; rintro e w3 ⟨rfl, hb3⟩; have HB := H.b.trans (hb3.mono H.b.size); clear hb3))
  go_ret
  exact ⟨rfl, HB⟩
set_option maxHeartbeats 4000000 in
theorem hashW2 (s0 s1 : List UInt8) (h0 : s0.length ≤ 2000) (h1 : s1.length ≤ 2000) (gs : Nat) (wS : World) (hv : Sh.Vars wS) (hs : wS.heap[gs]? = some (.cells ([.string (S s0), .string (S s1)] : List Value).toArray 9 (0, 0))) : Calls Tryz.prog 29 #[.slice (some ⟨gs, 0, none⟩) 2 2] wS (RetV (.string (S (H5 (s0 ++ s1)))) wS) := by
  unfold H5
  try rw [List.append_assoc]
  replace hv := Kept.mk hv
  replace hs := Kept.mk hs
  replace h0 := Kept.mk h0
  replace h1 := Kept.mk h1
  go_enter Tryz.func29, Tryz.ntmps29
  go_wp2_with (first
    | (go_at_call 53; refine (Sh.new_any true rfl _ hv.out).mono ?_; rintro e w1 ⟨g, hg, rfl, hh, hb⟩; have H := HW.start hb hv.out hh hg; clear hh hb hg))
  refine wp_loop_rounds 3 ?_
  rw [rounds_succ]
  go_wp2_with (first
    | (refine p_load rfl _ rfl _ _ _ _ hs.out rfl rfl H.b ?_; try simp only [Act.put, yI, yC, yZ])
    | (go_at_call 54; refine (Sh.write_any g true rfl _ _ _ H.h H.v H.one (H.wr h0.out (by decide))).mono ?_; rintro e w2 ⟨rfl, hh2, hc2⟩; replace H := H.first h0.out hh2 hc2; clear hh2 hc2))
  rw [rounds_succ]
  go_wp2_with (first
    | (refine p_load rfl _ rfl _ _ _ _ hs.out rfl rfl H.b ?_; try simp only [Act.put, yI, yC, yZ])
    | (go_at_call 54; refine (Sh.write_any g true rfl _ _ _ H.h H.v H.one (H.wr h1.out (by decide))).mono ?_; rintro e w2 ⟨rfl, hh2, hc2⟩; replace H := H.write h1.out hh2 hc2; clear hh2 hc2))
  rw [rounds_succ]
  go_wp2_with (first
    | (go_at_call 55; refine (Sh.sum_any g true rfl _ _ H.h H.v (H.sm (by decide))).mono ?_; rintro e w3 ⟨rfl, hb3⟩; have HB := H.b.trans (hb3.mono H.b.size); clear hb3))
  go_ret
  exact ⟨rfl, HB⟩
set_option maxHeartbeats 4000000 in
theorem hashW3 (s0 s1 s2 : List UInt8) (h0 : s0.length ≤ 2000) (h1 : s1.length ≤ 2000) (h2 : s2.length ≤ 2000) (gs : Nat) (wS : World) (hv : Sh.Vars wS) (hs : wS.heap[gs]? = some (.cells ([.string (S s0), .string (S s1), .string (S s2)] : List Value).toArray 9 (0, 0))) : Calls Tryz.prog 29 #[.slice (some ⟨gs, 0, none⟩) 3 3] wS (RetV (.string (S (H5 (s0 ++ s1 ++ s2)))) wS) := by
  unfold H5
  try rw [List.append_assoc]
  replace hv := Kept.mk hv
  replace hs := Kept.mk hs
  replace h0 := Kept.mk h0
  replace h1 := Kept.mk h1
  replace h2 := Kept.mk h2
  go_enter Tryz.func29, Tryz.ntmps29
  go_wp2_with (first
    | (go_at_call 53; refine (Sh.new_any true rfl _ hv.out).mono ?_; rintro e w1 ⟨g, hg, rfl, hh, hb⟩; have H := HW.start hb hv.out hh hg; clear hh hb hg))
  refine wp_loop_rounds 4 ?_
  rw [rounds_succ]
  go_wp2_with (first
    | (refine p_load rfl _ rfl _ _ _ _ hs.out rfl rfl H.b ?_; try simp only [Act.put, yI, yC, yZ])
    | (go_at_call 54; refine (Sh.write_any g true rfl _ _ _ H.h H.v H.one (H.wr h0.out (by decide))).mono ?_; rintro e w2 ⟨rfl, hh2, hc2⟩; replace H := H.first h0.out hh2 hc2; clear hh2 hc2))
  rw [rounds_succ]
  go_wp2_with (first
    | (refine p_load rfl _ rfl _ _ _ _ hs.out rfl rfl H.b ?_; try simp only [Act.put, yI, yC, yZ])
    | (go_at_call 54; refine (Sh.write_any g true rfl _ _ _ H.h H.v H.one (H.wr h1.out (by decide))).mono ?_; rintro e w2 ⟨rfl, hh2, hc2⟩; replace H := H.write h1.out hh2 hc2; clear hh2 hc2))
  rw [rounds_succ]
  go_wp2_with (first
    | (refine p_load rfl _ rfl _ _ _ _ hs.out rfl rfl H.b ?_; try simp only [Act.put, yI, yC, yZ])
    | (go_at_call 54; refine (Sh.write_any g true rfl _ _ _ H.h H.v H.one (H.wr h2.out (by decide))).mono ?_; rintro e w2 ⟨rfl, hh2, hc2⟩; replace H := H.write h2.out hh2 hc2; clear hh2 hc2))
  rw [rounds_succ]
  go_wp2_with (first
    | (go_at_call 55; refine (Sh.sum_any g true rfl _ _ H.h H.v (H.sm (by decide))).mono ?_; rintro e w3 ⟨rfl, hb3⟩; have HB := H.b.trans (hb3.mono H.b.size); clear hb3))
  go_ret
  exact ⟨rfl, HB⟩
set_option maxHeartbeats 4000000 in
theorem hs_core (v : Value) (h r : ByteArray) (cR : ∀ w, Calls Tryz.prog 40 #[.string h] w (RetV (.tuple #[.string r, .int .i64 0]) w)) (wS : World) (cH : Calls Tryz.prog 29 #[v] wS (RetV (.string h) wS)) : Calls Tryz.prog 18 #[v] wS (RetV (.string r) wS) := by
  have H := RMem.start wS
  replace cR := Kept.mk cR
  replace cH := Kept.mk cH
  go_enter Tryz.func18, Tryz.ntmps18
  go_wp2_with (first
    | (go_at_call 29; (with_reducible refine r_callR (by assumption) (cH.out) ?_); intro w H)
    | (go_at_call 40; (with_reducible refine r_callR (by assumption) (cR.out _) ?_); intro w H))
  go_ret
  exact ⟨rfl, H.below⟩
set_option maxHeartbeats 4000000 in
theorem tb_core (k bs u : ByteArray) (cB : ∀ w, Calls Tryz.prog 31 #[] w (RetV (.string bs) w)) (cM : ∀ w, Calls Tryz.prog 30 #[.string k, .string bs] w (RetV (.tuple #[.string u, .int .i64 0]) w)) (wS : World) : Calls Tryz.prog 14 #[.string k] wS (RetV (.string u) wS) := by
  have H := RMem.start wS
  replace cB := Kept.mk cB
  replace cM := Kept.mk cM
  go_enter Tryz.func14, Tryz.ntmps14
  go_wp2_with (first
    | (go_at_call 31; (with_reducible refine r_callR (by assumption) (cB.out _) ?_); intro w H)
    | (go_at_call 30; (with_reducible refine r_callR (by assumption) (cM.out _) ?_); intro w H))
  go_ret
  exact ⟨rfl, H.below⟩
set_option maxHeartbeats 4000000 in
theorem pp_core (r k a u n : ByteArray) (cM : ∀ w, Calls Tryz.prog 41 #[.string k, .string a] w (RetV (.tuple #[.string u, .int .i64 0]) w)) (cA : ∀ w, Calls Tryz.prog 42 #[.string r, .string u] w (RetV (.tuple #[.string n, .int .i64 0]) w)) (wS : World) : Calls Tryz.prog 19 #[.string r, .string k, .string a] wS (RetV (.string n) wS) := by
  have H := RMem.start wS
  replace cM := Kept.mk cM
  replace cA := Kept.mk cA
  go_enter Tryz.func19, Tryz.ntmps19
  go_wp2_with (first
    | (go_at_call 41; (with_reducible refine r_callR (by assumption) (cM.out _) ?_); intro w H)
    | (go_at_call 42; (with_reducible refine r_callR (by assumption) (cA.out _) ?_); intro w H))
  go_ret
  exact ⟨rfl, H.below⟩
set_option maxHeartbeats 4000000 in
theorem divided_any (s : List UInt8) (hs : s.length ≤ 2000) (wS : World) (hv : Sh.Vars wS) : Calls Tryz.prog 13 #[.string (S s)] wS (RetV (.tuple #[.string (S (secB (H5 s))), .string (S ((H5 s).drop 32))]) wS) := by
  have H := RMem.start wS
  replace hv := Kept.mk hv
  have cH := Kept.mk (hashW1 s hs)
  have hl := H5_len s
  generalize H5 s = h at cH hl ⊢
  have hsz : (S h).size = 64 := by rw [S_size, hl]
  have e1 := take_S h 32 (by omega)
  have e2 := drop_S h 32 64 hl
  obtain ⟨b0, hb0⟩ : ∃ b, h.getD 0 0 = b := ⟨_, rfl⟩
  obtain ⟨b1, hb1⟩ : ∃ b, h.getD 31 0 = b := ⟨_, rfl⟩
  obtain ⟨c0, hc0, hn0⟩ := lowq b0
  obtain ⟨c1, hc1, hn1⟩ := topq b1
  have t0 : (h.take 32).getD 0 0 = b0 := by rw [← hb0]; simp [List.getD, List.getElem?_take]
  have t1 : (h.take 32).getD 31 0 = b1 := by rw [← hb1]; simp [List.getD, List.getElem?_take]
  have hsec : secB h = ((h.take 32).set 0 c0).set 31 c1 := by unfold secB; rw [hb0, hb1, ← hc0, ← hc1]
  rw [hsec]
  have htl : (h.take 32).length = 32 := by rw [List.length_take, hl]; rfl
  generalize h.take 32 = tk at e1 t0 t1 htl ⊢
  generalize h.drop 32 = dr at e2 ⊢
  have z0 := low_and b0
  have z1 := top_and b1
  rw [← hn0] at z0
  rw [← hn1] at z1
  replace htl := Kept.mk htl
  replace t0 := Kept.mk t0
  replace t1 := Kept.mk t1
  clear hsec hb0 hb1 hc0 hc1 hn0 hn1 hl hs
  generalize S h = hb at cH e1 e2 hsz
  generalize S s = sb at cH ⊢
  go_enter Tryz.func13, Tryz.ntmps13
  go_wp2_with (first
    | (refine b_slice1 rfl _ rfl _ (by rw [Array.toList_map]; rfl) (by assumption) ?_; intro g w H; try simp only [Act.put, yI, yC, yZ])
    | (go_at_call 29; (with_reducible refine r_callR (by assumption) (cH.out _ _ (hv.out.from H.below) (H.holds _ _ _ mem_hd)) ?_); intro w H; obtain ⟨w1, gb, cap, hcv, k0, f0, k1, f1, H1, hcv2⟩ := sec_pre H tk htl.out b0 c0 b1 c1 t0.out t1.out; replace hcv2 := Kept.mk hcv2))
  have H := H1
  clear H1 hcv k0 f0 k1 f1
  have hcv2 := hcv2.out
  generalize World.setCell _ _ _ = w2 at H hcv2 ⊢
  refine wp_region_from (by kernel_rfl) (by kernel_rfl) ?_
  repeat (go_big_quiet_step (fail))
  refine wpQuiet_nil ?_
  intro w5 hw5
  have H := H.from hw5
  clear hw5
  go_wp2
  go_ret2
  exact ⟨rfl, H.below⟩
set_option maxHeartbeats 4000000 in
theorem pub_core (s a p k : ByteArray) (hs : s.size = 32) (cD : ∀ w, Sh.Vars w → Calls Tryz.prog 13 #[.string s] w (RetV (.tuple #[.string a, .string p]) w)) (cT : ∀ w, Calls Tryz.prog 14 #[.string a] w (RetV (.string k) w)) (wS : World) (hv : Sh.Vars wS) : Calls Tryz.prog 6 #[.string s] wS (RetV (.tuple #[.string k, .int .i64 0]) wS) := by
  have H := RMem.start wS
  replace hv := Kept.mk hv
  replace cD := Kept.mk cD
  replace cT := Kept.mk cT
  go_enter Tryz.func6, Tryz.ntmps6
  go_wp2_with (first
    | (go_at_call 13; (with_reducible refine r_callR (by assumption) (cD.out _ (hv.out.from H.below)) ?_); intro w H)
    | (go_at_call 14; (with_reducible refine r_callR (by assumption) (cT.out _) ?_); intro w H))
  go_ret2
  exact ⟨rfl, H.below⟩
set_option maxHeartbeats 1000000 in
theorem pub_no (s : ByteArray) (hs : ((s.size : Int) != 32) = true) (wS : World) : Calls Tryz.prog 6 #[.string s] wS (RetV (.tuple #[.string ⟨#[]⟩, .int .i64 70]) wS) := by
  have H := RMem.start wS
  go_enter Tryz.func6, Tryz.ntmps6
  go_wp2
  go_ret2
  exact ⟨rfl, H.below⟩
set_option maxHeartbeats 1000000 in
theorem sig_no (s m : ByteArray) (hs : ((s.size : Int) != 32) = true) (wS : World) : Calls Tryz.prog 8 #[.string s, .string m] wS (RetV (.tuple #[.string ⟨#[]⟩, .int .i64 70]) wS) := by
  have H := RMem.start wS
  go_enter Tryz.func8, Tryz.ntmps8
  go_wp2
  go_ret2
  exact ⟨rfl, H.below⟩
set_option maxHeartbeats 4000000 in
theorem sig_core (s m a p r q k t n : ByteArray) (hs : s.size = 32) (hq : q.size = 32) (hn : n.size = 32) (cD : ∀ w, Sh.Vars w → Calls Tryz.prog 13 #[.string s] w (RetV (.tuple #[.string a, .string p]) w)) (c1 : ∀ gs w (n2 : Nat), n2 = 2 → Sh.Vars w → w.heap[gs]? = some (.cells ([.string p, .string m] : List Value).toArray 9 (0, 0)) → Calls Tryz.prog 18 #[.slice (some ⟨gs, 0, none⟩) n2 n2] w (RetV (.string r) w)) (cq : ∀ w, Calls Tryz.prog 14 #[.string r] w (RetV (.string q) w)) (ck : ∀ w, Calls Tryz.prog 14 #[.string a] w (RetV (.string k) w)) (c3 : ∀ gs w (n2 : Nat), n2 = 3 → Sh.Vars w → w.heap[gs]? = some (.cells ([.string q, .string k, .string m] : List Value).toArray 9 (0, 0)) → Calls Tryz.prog 18 #[.slice (some ⟨gs, 0, none⟩) n2 n2] w (RetV (.string t) w)) (cp : ∀ w, Calls Tryz.prog 19 #[.string r, .string t, .string a] w (RetV (.string n) w)) (wS : World) (hv : Sh.Vars wS) : Calls Tryz.prog 8 #[.string s, .string m] wS (RetV (.tuple #[.string (q ++ n), .int .i64 0]) wS) := by
  have H := RMem.start wS
  replace hv := Kept.mk hv
  replace cD := Kept.mk cD
  replace c1 := Kept.mk c1
  replace cq := Kept.mk cq
  replace ck := Kept.mk ck
  replace c3 := Kept.mk c3
  replace cp := Kept.mk cp
  go_enter Tryz.func8, Tryz.ntmps8
  go_wp2_with (first
    | (refine b_slice2 rfl _ rfl _ _ (by rw [Array.toList_map]; rfl) (by assumption) ?_; intro g w H; try simp only [Act.put, yI, yC, yZ])
    | (refine b_slice3 rfl _ rfl _ _ _ (by rw [Array.toList_map]; rfl) (by assumption) ?_; intro g w H; try simp only [Act.put, yI, yC, yZ])
    | (go_at_call 13; (with_reducible refine r_callR (by assumption) (cD.out _ (hv.out.from H.below)) ?_); intro w H)
    | (go_at_call 18; (with_reducible refine r_callR (by assumption) (c1.out _ _ _ ?_ ?_ ?_) ?_); exact Eq.refl (2 : Nat); exact (hv.out.from H.below); exact H.holds _ _ _ mem_hd; intro w H)
    | (go_at_call 14; (with_reducible refine r_callR (by assumption) (cq.out _) ?_); intro w H)
    | (go_at_call 14; (with_reducible refine r_callR (by assumption) (ck.out _) ?_); intro w H)
    | (go_at_call 18; (with_reducible refine r_callR (by assumption) (c3.out _ _ _ ?_ ?_ ?_) ?_); exact Eq.refl (3 : Nat); exact (hv.out.from H.below); exact H.holds _ _ _ mem_hd; intro w H)
    | (go_at_call 19; (with_reducible refine r_callR (by assumption) (cp.out _) ?_); intro w H))
  go_ret2
  exact ⟨rfl, H.below⟩
set_option maxHeartbeats 4000000 in
theorem ver_core (k m g r t nk h x : ByteArray) (o : Bool) (hg : g.size = 64) (e1 : g.extract 0 32 = r) (e2 : g.extract 32 64 = t) (ho : (r.toList == x.toList) = o) (cN : ∀ w, Calls Tryz.prog 23 #[.string k] w (RetV (.tuple #[.string nk, .int .i64 0]) w)) (cI : ∀ w, Calls Tryz.prog 24 #[.string t] w (RetV (.bool true) w)) (c3 : ∀ gs w (n2 : Nat), n2 = 3 → Sh.Vars w → w.heap[gs]? = some (.cells ([.string r, .string k, .string m] : List Value).toArray 9 (0, 0)) → Calls Tryz.prog 18 #[.slice (some ⟨gs, 0, none⟩) n2 n2] w (RetV (.string h) w)) (cB : ∀ w, Calls Tryz.prog 25 #[.string h, .string nk, .string t] w (RetV (.tuple #[.string x, .int .i64 0]) w)) (wS : World) (hv : Sh.Vars wS) : Calls Tryz.prog 11 #[.string k, .string m, .string g] wS (RetV (.bool o) wS) := by
  have H := RMem.start wS
  replace hv := Kept.mk hv
  replace cN := Kept.mk cN
  replace cI := Kept.mk cI
  replace c3 := Kept.mk c3
  replace cB := Kept.mk cB
  go_enter Tryz.func11, Tryz.ntmps11
  go_wp2_with (first
    | (go_at_call 23; (with_reducible refine r_callR (by assumption) (cN.out _) ?_); intro w H))
  refine wp_region_from (by kernel_rfl) (by kernel_rfl) ?_
  repeat (go_big_quiet_step (fail))
  refine wpQuiet_nil ?_
  intro w5 hw5
  have H := H.from hw5
  clear hw5
  go_wp2_with (first
    | (refine b_slice3 rfl _ rfl _ _ _ (by rw [Array.toList_map]; rfl) (by assumption) ?_; intro g w H; try simp only [Act.put, yI, yC, yZ])
    | (go_at_call 24; (with_reducible refine r_callR (by assumption) (cI.out _) ?_); intro w H)
    | (go_at_call 18; (with_reducible refine r_callR (by assumption) (c3.out _ _ _ ?_ ?_ ?_) ?_); exact Eq.refl (3 : Nat); exact (hv.out.from H.below); exact H.holds _ _ _ mem_hd; intro w H)
    | (go_at_call 25; (with_reducible refine r_callR (by assumption) (cB.out _) ?_); intro w H))
  go_ret
  exact ⟨rfl, H.below⟩
set_option maxHeartbeats 4000000 in
theorem ver_s_core (k m g r t nk : ByteArray) (hg : g.size = 64) (e1 : g.extract 0 32 = r) (e2 : g.extract 32 64 = t) (cN : ∀ w, Calls Tryz.prog 23 #[.string k] w (RetV (.tuple #[.string nk, .int .i64 0]) w)) (cI : ∀ w, Calls Tryz.prog 24 #[.string t] w (RetV (.bool false) w)) (wS : World) (hv : Sh.Vars wS) : Calls Tryz.prog 11 #[.string k, .string m, .string g] wS (RetV (.bool false) wS) := by
  have H := RMem.start wS
  replace hv := Kept.mk hv
  replace cN := Kept.mk cN
  replace cI := Kept.mk cI
  go_enter Tryz.func11, Tryz.ntmps11
  go_wp2_with (first
    | (go_at_call 23; (with_reducible refine r_callR (by assumption) (cN.out _) ?_); intro w H))
  refine wp_region_from (by kernel_rfl) (by kernel_rfl) ?_
  repeat (go_big_quiet_step (fail))
  refine wpQuiet_nil ?_
  intro w5 hw5
  have H := H.from hw5
  clear hw5
  go_wp2_with (first
    | (go_at_call 24; (with_reducible refine r_callR (by assumption) (cI.out _) ?_); intro w H))
  go_ret
  exact ⟨rfl, H.below⟩
set_option maxHeartbeats 4000000 in
theorem ver_len_core (k m g nk : ByteArray) (hg : ((g.size : Int) != 64) = true) (cN : ∀ w, Calls Tryz.prog 23 #[.string k] w (RetV (.tuple #[.string nk, .int .i64 0]) w)) (wS : World) (hv : Sh.Vars wS) : Calls Tryz.prog 11 #[.string k, .string m, .string g] wS (RetV (.bool false) wS) := by
  have H := RMem.start wS
  replace hv := Kept.mk hv
  replace cN := Kept.mk cN
  go_enter Tryz.func11, Tryz.ntmps11
  go_wp2_with (first
    | (go_at_call 23; (with_reducible refine r_callR (by assumption) (cN.out _) ?_); intro w H))
  go_ret
  exact ⟨rfl, H.below⟩
set_option maxHeartbeats 4000000 in
theorem ver_key_core (k m g : ByteArray) (cN : ∀ w, Calls Tryz.prog 23 #[.string k] w (RetV (.tuple #[.string ⟨#[]⟩, .int .i64 60]) w)) (wS : World) (hv : Sh.Vars wS) : Calls Tryz.prog 11 #[.string k, .string m, .string g] wS (RetV (.bool false) wS) := by
  have H := RMem.start wS
  replace hv := Kept.mk hv
  replace cN := Kept.mk cN
  go_enter Tryz.func11, Tryz.ntmps11
  go_wp2_with (first
    | (go_at_call 23; (with_reducible refine r_callR (by assumption) (cN.out _) ?_); intro w H))
  go_ret
  exact ⟨rfl, H.below⟩
end Go.Proofs.YtgnblaaldpniiaaGreatDoor.Sg
end
