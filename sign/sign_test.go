package sign_test

import (
	"crypto/ed25519"
	"crypto/sha512"
	"encoding/hex"
	"math/big"
	"strings"
	"testing"

	"farrier/api"
	"farrier/curve"
	"farrier/sign"
)

// power is 2^n.
func power(n uint) *big.Int { return new(big.Int).Lsh(big.NewInt(1), n) }

// plus is x + n.
func plus(x *big.Int, n int64) *big.Int { return new(big.Int).Add(x, big.NewInt(n)) }

// prime is p.
func prime() *big.Int { return plus(power(255), -19) }

// order is L.
func order() *big.Int {
	above, _ := new(big.Int).SetString("27742317777372353535851937790883648493", 10)
	return above.Add(above, power(252))
}

// orders is n L.
func orders(n int64) *big.Int { return new(big.Int).Mul(order(), big.NewInt(n)) }

// number is the number of bytes: each byte times 256^i.
func number(s string) *big.Int {
	sum := new(big.Int)
	for i := range len(s) {
		byteValue := big.NewInt(int64(s[i]))
		sum.Add(sum, byteValue.Lsh(byteValue, uint(8*i)))
	}
	return sum
}

// bytes are the 32 bytes of a number below 2^256.
func bytes(x *big.Int) string {
	out := x.FillBytes(make([]byte, 32))
	for i := range 16 {
		out[i], out[31-i] = out[31-i], out[i]
	}
	return string(out)
}

// small are the bytes of a small number.
func small(n int64) string { return bytes(big.NewInt(n)) }

// signed are 32 bytes with the most significant bit set.
func signed(s string) string { return s[:31] + string([]byte{s[31] | 128}) }

// turned are bytes with one bit turned.
func turned(s string, bit int) string {
	out := []byte(s)
	out[bit/8] ^= 1 << (bit % 8)
	return string(out)
}

// noise are n bytes that look like any, from a short rule.
func noise(seed uint32, n int) string {
	out := make([]byte, n)
	for i := range out {
		seed = seed*1664525 + 1013904223
		out[i] = byte(seed >> 24)
	}
	return string(out)
}

// bin are the bytes of hexadecimal digits.
func bin(t *testing.T, digits string) string {
	t.Helper()
	s, err := hex.DecodeString(digits)
	if err != nil {
		t.Fatal(err)
	}
	return string(s)
}

// Ed25519 as Go's own library has it.

func knownPublic(seed string) string {
	return string(ed25519.NewKeyFromSeed([]byte(seed)).Public().(ed25519.PublicKey))
}

func knownSign(seed, message string) string {
	return string(ed25519.Sign(ed25519.NewKeyFromSeed([]byte(seed)), []byte(message)))
}

func knownVerify(key, message, signature string) bool {
	return ed25519.Verify(ed25519.PublicKey(key), []byte(message), []byte(signature))
}

// check holds Verify's answer against what it must be. The library must say the
// same: it reads keys that are the encoding of a point as the chapter does.
func check(t *testing.T, what, key, message, signature string, want bool) {
	t.Helper()
	if got := sign.Verify(key, message, signature); got != want {
		t.Errorf("%s: Verify(%x, %x, %x): %v", what, key, message, signature, got)
	}
	if curve.Is(key) && knownVerify(key, message, signature) != want {
		t.Errorf("%s: the test is wrong about key %x, message %x, signature %x", what, key, message, signature)
	}
}

// seeds are those that the edges name, and others.
func seeds() []string {
	list := []string{strings.Repeat("\x00", 32), strings.Repeat("\xff", 32), small(1), signed(small(0)), strings.Repeat("\x80", 32)}
	for i := range uint32(5) {
		list = append(list, noise(i, 32))
	}
	return list
}

// messageLengths are all up to beyond two blocks of the hash, however many bytes
// stand ahead of the message there, those about the ends of later blocks, and
// longer ones.
func messageLengths() []int {
	var list []int
	for n := range 260 {
		list = append(list, n)
	}
	// The padded message ends with 17 bytes at least; 32 or 64 stand ahead of it.
	for _, blocks := range []int{3, 4, 8, 32} {
		for _, ahead := range []int{32, 64} {
			for more := -18; more <= 1; more++ {
				list = append(list, 128*blocks-ahead+more)
			}
		}
	}
	return append(list, 1000, 1023, 1024, 65535, 65536, 65537, 1<<20+3)
}

// otherLengths are strings that do not have 32 bytes.
func otherLengths() []string {
	var list []string
	for _, n := range []int{0, 1, 8, 16, 30, 31, 33, 34, 48, 63, 64, 65, 96, 128, 1000} {
		list = append(list, strings.Repeat("\x00", n), strings.Repeat("\xff", n), noise(uint32(n), n))
	}
	return append(list, noise(3, 32)[1:], noise(3, 32)+"\x00", "\x00"+noise(3, 32), noise(3, 32)+noise(3, 32))
}

// published is an example of RFC 8032, section 7.1.
type published struct{ seed, key, message, signature string }

func examples() []published {
	return []published{
		{
			"9d61b19deffd5a60ba844af492ec2cc44449c5697b326919703bac031cae7f60",
			"d75a980182b10ab7d54bfed3c964073a0ee172f3daa62325af021a68f707511a",
			"",
			"e5564300c360ac729086e2cc806e828a84877f1eb8e5d974d873e065224901555fb8821590a33bacc61e39701cf9b46bd25bf5f0595bbe24655141438e7a100b",
		},
		{
			"4ccd089b28ff96da9db6c346ec114e0f5b8a319f35aba624da8cf6ed4fb8a6fb",
			"3d4017c3e843895a92b70aa74d1b7ebc9c982ccf2ec4968cc0cd55f12af4660c",
			"72",
			"92a009a9f0d4cab8720e820b5f642540a2b27b5416503f8fb3762223ebdb69da085ac1e43e15996e458f3613d0f11d8c387b2eaeb4302aeeb00d291612bb0c00",
		},
		{
			"c5aa8df43f9f837bedb7442f31dcb7b166d38535076f094b85ce3a2e0b4458f7",
			"fc51cd8e6218a1a38da47ed00230f0580816ed13ba3303ac5deb911548908025",
			"af82",
			"6291d657deec24024827e69c3abe01a30ce548a284743a445e3680d7db5ac3ac18ff9b538d16f290ae67f760984dc6594a7c15e9716ed28dc027beceea1ec40a",
		},
		{
			"833fe62409237b9d62ec77587520911e9a759cec1d19755b7da901b96dca3d42",
			"ec172b93ad5e563bf4932c70e1245034c35467ef2efd4d64ebf819683467e2bf",
			"ddaf35a193617abacc417349ae20413112e6fa4e89a97ea20a9eeee64b55d39a2192992a274fc1a836ba3c23a3feebbd454d4423643ce80e2a9ac94fa54ca49f",
			"dc2a4459e7369633a52b1bf277839a00201009a3efbf3ecb69bea2186c26b58909351fc9ac90b3ecfdfbc7c66431e0303dca179c138ac17ad9bef1177331a704",
		},
	}
}

// Parts of signatures by the chapter's words, in numbers of any size.

// countOf is k: the hash of R, the key and the message, modulo L.
func countOf(point, key, message string) *big.Int {
	k, _ := counts(point, key, message)
	return k
}

// counts are k and the number of the hash as it is.
func counts(point, key, message string) (reduced, whole *big.Int) {
	hash := sha512.Sum512([]byte(point + key + message))
	whole = number(string(hash[:]))
	return new(big.Int).Mod(whole, order()), whole
}

// scalarOf is the scalar r + k a.
func scalarOf(r, k, a *big.Int) string {
	s := new(big.Int).Mul(k, a)
	s.Add(s, r)
	return bytes(s.Mod(s, order()))
}

// mul is a point k times.
func mul(t *testing.T, k *big.Int, p string) string {
	t.Helper()
	q, e := curve.Mul(bytes(k), p)
	if e != api.OK {
		t.Fatalf("%x is no point", p)
	}
	return q
}

// add is the sum of two points.
func add(t *testing.T, p, q string) string {
	t.Helper()
	sum, e := curve.Add(p, q)
	if e != api.OK {
		t.Fatalf("%x or %x is no point", p, q)
	}
	return sum
}

// smallOrder are the eight points of which eight copies make Zero: the multiples
// of one of order 8.
func smallOrder(t *testing.T) []string {
	t.Helper()
	for y := int64(2); y < 100; y++ {
		if !curve.Is(small(y)) {
			continue
		}
		p := mul(t, order(), small(y))
		list := []string{curve.Zero()}
		for range 7 {
			list = append(list, add(t, list[len(list)-1], p))
		}
		if list[4] != curve.Zero() {
			return list
		}
	}
	t.Fatal("no point of order 8")
	return nil
}

// comesRound tells whether j and k i copies of a point of order 8 make Zero.
func comesRound(i, j int, k *big.Int) bool {
	n := plus(new(big.Int).Mul(k, big.NewInt(int64(i))), int64(j))
	return n.Mod(n, big.NewInt(8)).Sign() == 0
}

// messageWith is one with which the equation holds, or does not, if i copies of a
// point of order 8 are in the key and j in R; false if there is none such.
func messageWith(point, key string, i, j int, holds bool) (string, bool) {
	for seed := range uint32(300) {
		message := noise(seed, int(seed%70))
		if comesRound(i, j, countOf(point, key, message)) == holds {
			return message, true
		}
	}
	return "", false
}

// holds tells whether s times the base is the sum of a point and k times another.
func holds(t *testing.T, s, point string, k *big.Int, key string) bool {
	t.Helper()
	return mul(t, number(s), curve.Base()) == add(t, point, mul(t, k, key))
}

// P7.1, P7.2, P7.3
func TestThePublishedExamples(t *testing.T) {
	for _, x := range examples() {
		seed, key, message, signature := bin(t, x.seed), bin(t, x.key), bin(t, x.message), bin(t, x.signature)
		if got, e := sign.Public(seed); got != key || e != api.OK {
			t.Errorf("Public(%s): %x, %v", x.seed, got, e)
		}
		if got, e := sign.Sign(seed, message); got != signature || e != api.OK {
			t.Errorf("Sign(%s, %s): %x, %v", x.seed, x.message, got, e)
		}
		check(t, "published", key, message, signature, true)
	}
}

// P7.1
func TestPublicIsTheKeyThatOthersMake(t *testing.T) {
	list := seeds()
	for i := range uint32(100) {
		list = append(list, noise(100+i, 32))
	}
	for bit := range 256 {
		list = append(list, turned(small(0), bit))
	}
	for _, seed := range list {
		key, e := sign.Public(seed)
		if key != knownPublic(seed) || e != api.OK {
			t.Errorf("Public(%x): %x, %v", seed, key, e)
		}
		if !curve.Is(key) {
			t.Errorf("Public(%x): %x is no point", seed, key)
		}
	}
}

// P7.1: the secret times the base, by the chapter's words.
func TestPublicIsTheSecretTimesTheBase(t *testing.T) {
	for _, seed := range seeds() {
		if got, e := sign.Public(seed); got != mul(t, secretOf(seed), curve.Base()) || e != api.OK {
			t.Errorf("Public(%x): %x, %v", seed, got, e)
		}
	}
}

// secretOf is the number of a seed's secret: bits 0 to 2 and 255 of the first half
// of its hash are cleared, and bit 254 is set.
func secretOf(seed string) *big.Int {
	hash := sha512.Sum512([]byte(seed))
	n := number(string(hash[:32]))
	for bit, value := range map[int]uint{0: 0, 1: 0, 2: 0, 254: 1, 255: 0} {
		n.SetBit(n, bit, value)
	}
	return n
}

// P7.1, P7.2
func TestWhatIsNoSeed(t *testing.T) {
	for _, seed := range otherLengths() {
		if got, e := sign.Public(seed); got != "" || e != api.ErrSignForm {
			t.Errorf("Public(%x): %x, %v", seed, got, e)
		}
		for _, message := range []string{"", "abc", noise(1, 200)} {
			if got, e := sign.Sign(seed, message); got != "" || e != api.ErrSignForm {
				t.Errorf("Sign(%x, %x): %x, %v", seed, message, got, e)
			}
		}
	}
	for n := range 130 {
		seed := noise(uint32(n), n)
		want := api.ErrSignForm
		if n == 32 {
			want = api.OK
		}
		_, e1 := sign.Public(seed)
		_, e2 := sign.Sign(seed, "abc")
		if e1 != want || e2 != want {
			t.Errorf("%d bytes: Public %v, Sign %v", n, e1, e2)
		}
	}
}

// P7.2, P7.4
func TestSignaturesOfMessagesOfManyLengths(t *testing.T) {
	list := seeds()
	for i, length := range messageLengths() {
		seed, message := list[i%len(list)], noise(uint32(length), length)
		signature, e := sign.Sign(seed, message)
		if signature != knownSign(seed, message) || e != api.OK {
			t.Errorf("Sign(%x, %d bytes): %x, %v", seed, length, signature, e)
		}
		key, e := sign.Public(seed)
		if e != api.OK {
			t.Errorf("Public(%x): %v", seed, e)
		}
		check(t, "its own", key, message, signature, true)
	}
}

// P7.2, P7.4: each seed with each of some messages, the seed and the key among them.
func TestSignaturesBySeedsAndMessages(t *testing.T) {
	messages := []string{"", "\x00", "\xff", "abc", strings.Repeat("\x00", 32), strings.Repeat("\x00", 64), strings.Repeat("\xff", 200)}
	for _, seed := range seeds() {
		key, _ := sign.Public(seed)
		for _, message := range append(messages, seed, key, key+"abc") {
			signature, e := sign.Sign(seed, message)
			if signature != knownSign(seed, message) || e != api.OK {
				t.Errorf("Sign(%x, %x): %x, %v", seed, message, signature, e)
			}
			check(t, "its own", key, message, signature, true)
		}
	}
}

// P7.2: R and s by the chapter's words.
func TestSignFollowsTheChapter(t *testing.T) {
	for i, seed := range seeds() {
		message := noise(uint32(i), 37*i)
		half := sha512.Sum512([]byte(seed))
		hash := sha512.Sum512([]byte(string(half[32:]) + message))
		r := new(big.Int).Mod(number(string(hash[:])), order())
		secret := secretOf(seed)
		point, key := mul(t, r, curve.Base()), mul(t, secret, curve.Base())
		want := point + scalarOf(r, countOf(point, key, message), secret)
		if got, e := sign.Sign(seed, message); got != want || e != api.OK {
			t.Errorf("Sign(%x, %x): %x, %v instead of %x", seed, message, got, e, want)
		}
	}
}

// P7.3: signatures by others are verified, and not those by another seed, of
// another message, or of other parts.
func TestVerifyTakesWhatOthersSign(t *testing.T) {
	list := seeds()
	for i, seed := range list {
		other := list[(i+1)%len(list)]
		message := noise(uint32(i), 20*i)
		key, signature := knownPublic(seed), knownSign(seed, message)
		point, s := signature[:32], signature[32:]
		theirs := knownSign(other, message)
		check(t, "right", key, message, signature, true)
		check(t, "another key", knownPublic(other), message, signature, false)
		check(t, "another seed", key, message, theirs, false)
		check(t, "another R", key, message, theirs[:32]+s, false)
		check(t, "another s", key, message, point+theirs[32:], false)
		check(t, "another message", key, message+"\x00", signature, false)
		check(t, "another message", key, "\x00"+message, signature, false)
		check(t, "a signature of another message", key, message, knownSign(seed, message+"\x00"), false)
		check(t, "the other way round", key, message, s+point, false)
		check(t, "the key as R", key, message, key+s, false)
		check(t, "R as the key", point, message, signature, false)
		if message != "" {
			check(t, "no message", key, "", signature, false)
			check(t, "a message less", key, message[1:], signature, false)
			check(t, "a message less", key, message[:len(message)-1], signature, false)
		}
	}
}

// P7.3: each bit of a signature, of a key and of a message counts.
func TestVerifySeesEachBit(t *testing.T) {
	seed, message := noise(40, 32), noise(41, 150)
	key, signature := knownPublic(seed), knownSign(seed, message)
	for bit := range 8 * len(signature) {
		check(t, "a bit of the signature", key, message, turned(signature, bit), false)
	}
	for bit := range 8 * len(key) {
		check(t, "a bit of the key", turned(key, bit), message, signature, false)
	}
	for bit := 0; bit < 8*len(message); bit += 7 {
		check(t, "a bit of the message", key, turned(message, bit), signature, false)
	}
	check(t, "no bit", key, message, signature, true)
}

// P7.3: the equation holds as it is, and not only eight times: keys and points of
// small order, alone or as a part of another, with all s that make it hold but for
// that part.
func TestPartsOfSmallOrder(t *testing.T) {
	eight := smallOrder(t)
	last := plus(order(), -1)
	right, wrong, reductions := 0, 0, 0
	for _, a := range []*big.Int{new(big.Int), number(noise(50, 31))} {
		for _, r := range []*big.Int{new(big.Int), last, number(noise(51, 31))} {
			for i := range 8 {
				for j := range 8 {
					key := add(t, mul(t, a, curve.Base()), eight[i])
					point := add(t, mul(t, r, curve.Base()), eight[j])
					for _, want := range []bool{true, false} {
						message, ok := messageWith(point, key, i, j, want)
						if !ok {
							continue
						}
						k, whole := counts(point, key, message)
						s := scalarOf(r, k, a)
						if holds(t, s, point, k, key) != want {
							t.Fatalf("the test is wrong about %x, %x, %x", key, point, message)
						}
						check(t, "small order", key, message, point+s, want)
						if want {
							right++
							more := plus(number(s), 1)
							check(t, "one more", key, message, point+bytes(more.Mod(more, order())), false)
						} else {
							wrong++
						}
						if comesRound(i, j, whole) != want {
							reductions++
						}
					}
				}
			}
		}
	}
	// Reduced or not, k is another one to a point of order 8.
	if right < 200 || wrong < 200 || reductions < 20 {
		t.Errorf("only %d right ones, %d wrong ones and %d to which the reduction tells", right, wrong, reductions)
	}
}

// P7.3: Zero as the key, with which the equation does not ask for k: s = 0, and s
// one below the order.
func TestZeroAsTheKey(t *testing.T) {
	base, zero := curve.Base(), curve.Zero()
	minus, _ := curve.Neg(base)
	last := bytes(plus(order(), -1))
	for _, message := range []string{"", "abc", noise(1, 100)} {
		check(t, "R Zero, s 0", zero, message, zero+small(0), true)
		check(t, "R Zero, s 1", zero, message, zero+small(1), false)
		check(t, "R Zero, s L - 1", zero, message, zero+last, false)
		check(t, "R the base, s 1", zero, message, base+small(1), true)
		check(t, "R the base, s 0", zero, message, base+small(0), false)
		check(t, "R minus the base, s L - 1", zero, message, minus+last, true)
		check(t, "R the base, s L - 1", zero, message, base+last, false)
		check(t, "R minus the base, s 1", zero, message, minus+small(1), false)
	}
}

// P7.3: an s that is a scalar, but not the one with which the equation holds.
func TestEdgesOfS(t *testing.T) {
	for i, seed := range seeds() {
		message := noise(uint32(i), 11*i)
		key, signature := knownPublic(seed), knownSign(seed, message)
		s := number(signature[32:])
		for _, n := range []*big.Int{new(big.Int), big.NewInt(1), plus(order(), -1), plus(order(), -2), power(252), plus(s, 1), plus(s, -1), new(big.Int).Sub(order(), s)} {
			check(t, "another s", key, message, signature[:32]+bytes(n), false)
		}
	}
}

// P7.3: numbers that are no scalars are refused, though the equation holds.
func TestVerifyRefusesAnSThatIsNoScalar(t *testing.T) {
	zero := curve.Zero()
	for n := int64(1); n <= 15; n++ {
		check(t, "L, and more of it", zero, "abc", zero+bytes(orders(n)), false)
		check(t, "L + 1, and more of it", zero, "abc", curve.Base()+bytes(plus(orders(n), 1)), false)
	}
	for i, seed := range seeds() {
		message := noise(uint32(i), 13*i)
		key, signature := knownPublic(seed), knownSign(seed, message)
		point, s := signature[:32], number(signature[32:])
		for n := int64(1); n <= 15; n++ {
			more := new(big.Int).Add(s, orders(n))
			if more.BitLen() > 256 {
				continue
			}
			check(t, "s and L, and more of it", key, message, point+bytes(more), false)
		}
		for bits := uint(1); bits < 16; bits++ {
			top := new(big.Int).Lsh(big.NewInt(int64(bits)), 252)
			if bits == 1 && s.Bit(252) == 1 {
				continue
			}
			check(t, "s with its most significant bits", key, message, point+bytes(top.Or(top, s)), false)
		}
		check(t, "L", key, message, point+bytes(order()), false)
		check(t, "2^256 - 1", key, message, point+strings.Repeat("\xff", 32), false)
	}
}

// another is what is no point's encoding, but has the y (or the y and p), and but
// for the most significant bit the x, of so many copies of one of order 8.
type another struct {
	text   string
	copies int
}

// otherEncodings are those of points of small order: with p + 1 instead of the y 1,
// with p instead of the y 0, and with the most significant bit though x is 0.
func otherEncodings(t *testing.T) []another {
	t.Helper()
	zeroY := 2
	if smallOrder(t)[2] != small(0) {
		zeroY = 6
	}
	return []another{
		{signed(small(1)), 0},
		{bytes(plus(prime(), 1)), 0},
		{signed(bytes(plus(prime(), 1))), 0},
		{signed(bytes(plus(prime(), -1))), 4},
		{bytes(prime()), zeroY},
		{signed(bytes(prime())), 8 - zeroY},
	}
}

// P7.3: keys that are no point's encoding are refused, though the equation holds
// with the point that they would be.
func TestVerifyRefusesKeysOfOtherEncodings(t *testing.T) {
	eight := smallOrder(t)
	r := number(noise(60, 31))
	for _, x := range otherEncodings(t) {
		if curve.Is(x.text) {
			t.Fatalf("%x is a point's", x.text)
		}
		for j := range 8 {
			point := add(t, mul(t, r, curve.Base()), eight[j])
			message, ok := messageWith(point, x.text, x.copies, j, true)
			if !ok {
				continue
			}
			s := bytes(r)
			if !holds(t, s, point, countOf(point, x.text, message), eight[x.copies]) {
				t.Fatalf("the test is wrong about %x", x.text)
			}
			check(t, "another encoding of the key", x.text, message, point+s, false)
		}
	}
}

// P7.3: the same of R.
func TestVerifyRefusesAnROfOtherEncodings(t *testing.T) {
	eight := smallOrder(t)
	a := number(noise(61, 31))
	for _, x := range otherEncodings(t) {
		for i := range 8 {
			key := add(t, mul(t, a, curve.Base()), eight[i])
			message, ok := messageWith(x.text, key, i, x.copies, true)
			if !ok {
				continue
			}
			k := countOf(x.text, key, message)
			s := scalarOf(new(big.Int), k, a)
			if !holds(t, s, eight[x.copies], k, key) {
				t.Fatalf("the test is wrong about %x", x.text)
			}
			check(t, "another encoding of R", key, message, x.text+s, false)
		}
	}
}

// notPoints are 32 bytes that are no point's: of a y that is p or more, of one
// without an x, and x 0 with the most significant bit set.
func notPoints() []string {
	list := []string{signed(small(1)), signed(bytes(plus(prime(), -1))), strings.Repeat("\xff", 32)}
	for n := range int64(19) {
		y := bytes(plus(prime(), n))
		list = append(list, y, signed(y))
	}
	for y := range int64(40) {
		for _, s := range []string{small(y), bytes(plus(prime(), -y-1)), noise(uint32(y), 31) + "\x00"} {
			if !curve.Is(s) {
				list = append(list, s, signed(s))
			}
		}
	}
	return list
}

// P7.3
func TestVerifyRefusesWhatIsNoPoint(t *testing.T) {
	seed, message := noise(62, 32), "abc"
	key, signature := knownPublic(seed), knownSign(seed, message)
	point, s := signature[:32], signature[32:]
	list := notPoints()
	if len(list) < 100 {
		t.Errorf("only %d that are no points", len(list))
	}
	for _, wrong := range list {
		for _, s := range []string{s, small(0), small(1), bytes(plus(order(), -1))} {
			check(t, "no point as the key", wrong, message, point+s, false)
			check(t, "no point as the key", wrong, message, curve.Zero()+s, false)
			check(t, "no point as R", key, message, wrong+s, false)
			check(t, "no point as R", curve.Zero(), message, wrong+s, false)
			check(t, "no point as either", wrong, message, wrong+s, false)
		}
	}
}

// P7.3: lengths other than 32 are no key's, though what is there is the beginning
// of a point's encoding, or all of it.
func TestVerifyRefusesKeysOfOtherLengths(t *testing.T) {
	seed, message := noise(63, 32), "abc"
	key, signature := knownPublic(seed), knownSign(seed, message)
	zeros := strings.Repeat("\x00", 100)
	list := []string{key[:31], key[1:], key + "\x00", "\x00" + key, key + key, key + signature}
	for n := range 100 {
		if n != 31 {
			list = append(list, "\x01"+zeros[:n])
		}
	}
	for _, wrong := range append(list, otherLengths()...) {
		for _, text := range []string{signature, curve.Zero() + small(0), curve.Base() + small(1), wrong} {
			check(t, "no key", wrong, message, text, false)
		}
	}
	// What would be hashed is the same, only cut in another way.
	check(t, "a message in the key", key+"a", "bc", signature, false)
	check(t, "a key in the message", key[:31], key[31:]+message, signature, false)
}

// P7.3: the same of 64 and a signature.
func TestVerifyRefusesSignaturesOfOtherLengths(t *testing.T) {
	seed, message := noise(64, 32), "abc"
	key, signature := knownPublic(seed), knownSign(seed, message)
	zeros := strings.Repeat("\x00", 200)
	list := []string{signature[1:], "\x00" + signature, signature + "\x00", signature + signature, signature + key}
	for n := range len(signature) {
		list = append(list, signature[:n])
	}
	for n := range 140 {
		if n != 63 {
			list = append(list, "\x01"+zeros[:n])
		}
	}
	for _, wrong := range append(list, otherLengths()...) {
		if len(wrong) == 64 {
			continue
		}
		check(t, "no signature", key, message, wrong, false)
		check(t, "no signature", curve.Zero(), message, wrong, false)
	}
	check(t, "64 bytes", curve.Zero(), message, "\x01"+zeros[:63], true)
}

// P7.4: of the s that might do, one at most is taken.
func TestOneSAtMostIsTaken(t *testing.T) {
	eight := smallOrder(t)
	a, r := number(noise(70, 31)), number(noise(71, 31))
	for i := range 8 {
		for j := range 8 {
			key, point := add(t, mul(t, a, curve.Base()), eight[i]), add(t, mul(t, r, curve.Base()), eight[j])
			for seed := range uint32(3) {
				message := noise(seed, int(seed))
				k := countOf(point, key, message)
				s := number(scalarOf(r, k, a))
				taken := 0
				for n := int64(0); n <= 15; n++ {
					more := new(big.Int).Add(s, orders(n))
					if more.BitLen() <= 256 && sign.Verify(key, message, point+bytes(more)) {
						taken++
					}
				}
				if want := comesRound(i, j, k); taken > 1 || (taken == 1) != want {
					t.Errorf("key %x, R %x, message %x: %d are taken", key, point, message, taken)
				}
			}
		}
	}
}

// The chapter's example.
func TestTheChaptersExample(t *testing.T) {
	seed := bin(t, "9d61b19deffd5a60ba844af492ec2cc44449c5697b326919703bac031cae7f60")
	if key, e := sign.Public(seed); key != bin(t, "d75a980182b10ab7d54bfed3c964073a0ee172f3daa62325af021a68f707511a") || e != api.OK {
		t.Errorf("Public: %x, %v", key, e)
	}
	if s, e := sign.Sign(seed, ""); len(s) != 64 || s[:12] != bin(t, "e5564300c360ac729086e2cc") || e != api.OK {
		t.Errorf("Sign: %x, %v", s, e)
	}
}

// What a call answers is the same, whatever was called before.
func TestCallsLeaveNothingBehind(t *testing.T) {
	seed, message := noise(80, 32), noise(81, 100)
	key, signature := knownPublic(seed), knownSign(seed, message)
	for range 3 {
		if got, e := sign.Public(seed); got != key || e != api.OK {
			t.Errorf("Public: %x, %v", got, e)
		}
		if got, e := sign.Sign(seed, message); got != signature || e != api.OK {
			t.Errorf("Sign: %x, %v", got, e)
		}
		check(t, "again", key, message, signature, true)
		check(t, "again", key, message+"x", signature, false)
		sign.Public("")
		sign.Sign(message, seed)
		sign.Sign(noise(82, 32), message)
		sign.Verify("x", message, "")
	}
}
