package sha2_test

import (
	"crypto/sha256"
	"crypto/sha512"
	"encoding/hex"
	"math"
	"math/big"
	"strings"
	"testing"

	"farrier/api"
	"farrier/sha2"
)

// known is the sum as Go's own library has it.
func known(kind int, s string) string {
	if kind == api.Sha256 {
		sum := sha256.Sum256([]byte(s))
		return string(sum[:])
	}
	sum := sha512.Sum512([]byte(s))
	return string(sum[:])
}

// noise are n bytes that look like any, from a short rule.
func noise(seed uint32, n int) string {
	out := make([]byte, n)
	for i := range out {
		seed = seed*1664525 + 1013904223
		out[i] = byte(seed >> 24)
	}
	return string(out)
}

// edgeLengths are those about the ends of blocks and of what a last block has
// room for, and longer ones.
func edgeLengths() []int {
	list := []int{511, 512, 513, 1000, 4095, 4096, 4097, 65535, 65536, 65537, 1<<17 + 3}
	for n := range 400 {
		list = append(list, n)
	}
	return list
}

// cutLengths are those at which a message is cut into pieces.
func cutLengths() []int {
	return []int{0, 1, 2, 54, 55, 56, 57, 63, 64, 65, 110, 111, 112, 113, 119, 120, 121, 127, 128, 129, 255, 256, 257, 400}
}

// begin is a hash of no bytes.
func begin(t *testing.T, kind int) *sha2.Hash {
	t.Helper()
	h, e := sha2.New(kind)
	if e != api.OK || h == nil {
		t.Fatalf("New(%d): %v, %v", kind, h, e)
	}
	return h
}

// check holds a hash's size and sum against those of a message.
func check(t *testing.T, what string, kind int, h *sha2.Hash, message string) {
	t.Helper()
	if n := h.Size(); n != len(message) {
		t.Errorf("%s, kind %d: Size %d instead of %d", what, kind, n, len(message))
	}
	if got, want := h.Sum(), known(kind, message); got != want {
		t.Errorf("%s, kind %d, %d bytes: %x instead of %x", what, kind, len(message), got, want)
	}
}

// example is a message whose sum is published.
type example struct {
	kind    int
	message string
	digits  string
}

// examples are those of FIPS 180-4: no bytes, one block, several blocks.
func examples() []example {
	const (
		letters448 = "abcdbcdecdefdefgefghfghighijhijkijkljklmklmnlmnomnopnopq"
		letters896 = "abcdefghbcdefghicdefghijdefghijkefghijklfghijklmghijklmnhijklmnoijklmnopjklmnopqklmnopqrlmnopqrsmnopqrstnopqrstu"
	)
	million := strings.Repeat("a", 1000000)
	return []example{
		{api.Sha256, "", "e3b0c44298fc1c149afbf4c8996fb92427ae41e4649b934ca495991b7852b855"},
		{api.Sha256, "abc", "ba7816bf8f01cfea414140de5dae2223b00361a396177a9cb410ff61f20015ad"},
		{api.Sha256, letters448, "248d6a61d20638b8e5c026930c3e6039a33ce45964ff2167f6ecedd419db06c1"},
		{api.Sha256, letters896, "cf5b16a778af8380036ce59e7b0492370b249b11e8f07a51afac45037afee9d1"},
		{api.Sha256, million, "cdc76e5c9914fb9281a1c7e284d73e67f1809a48a497200e046d39ccc7112cd0"},
		{api.Sha256, "\xbd", "68325720aabd7c82f30f554b313d0570c95accbb7dc4b5aae11204c08ffe732b"},
		{api.Sha256, strings.Repeat("\x00", 55), "02779466cdec163811d078815c633f21901413081449002f24aa3e80f0b88ef7"},
		{api.Sha256, strings.Repeat("\x00", 56), "d4817aa5497628e7c77e6b606107042bbba3130888c5f47a375e6179be789fbb"},
		{api.Sha256, strings.Repeat("\x00", 64), "f5a5fd42d16a20302798ef6ed309979b43003d2320d9f0e8ea9831a92759fb4b"},
		{api.Sha512, "", "cf83e1357eefb8bdf1542850d66d8007d620e4050b5715dc83f4a921d36ce9ce47d0d13c5d85f2b0ff8318d2877eec2f63b931bd47417a81a538327af927da3e"},
		{api.Sha512, "abc", "ddaf35a193617abacc417349ae20413112e6fa4e89a97ea20a9eeee64b55d39a2192992a274fc1a836ba3c23a3feebbd454d4423643ce80e2a9ac94fa54ca49f"},
		{api.Sha512, letters448, "204a8fc6dda82f0a0ced7beb8e08a41657c16ef468b228a8279be331a703c33596fd15c13b1b07f9aa1d3bea57789ca031ad85c7a71dd70354ec631238ca3445"},
		{api.Sha512, letters896, "8e959b75dae313da8cf4f72814fc143f8f7779c6eb9f7fa17299aeadb6889018501d289e4900f7e4331b99dec4b5433ac7d329eeb6dd26545e96e55b874be909"},
		{api.Sha512, million, "e718483d0ce769644e2e42c7bc15b4638e1f98b13b2044285632a803afa973ebde0ff244877ea60a4cb0432ce577c31beb009c5c2c49aa2e4eadb217ad8cc09b"},
	}
}

// P3.1
func TestOneSaysThePublishedSums(t *testing.T) {
	for _, x := range examples() {
		s, e := sha2.One(x.kind, x.message)
		if got := hex.EncodeToString([]byte(s)); got != x.digits || e != api.OK {
			t.Errorf("One(%d, %d bytes): %s, %v instead of %s", x.kind, len(x.message), got, e, x.digits)
		}
	}
}

// P3.2
func TestSumSaysThePublishedSums(t *testing.T) {
	for _, x := range examples() {
		h := begin(t, x.kind)
		h.Write(x.message)
		if got := hex.EncodeToString([]byte(h.Sum())); got != x.digits {
			t.Errorf("New(%d), %d bytes: %s instead of %s", x.kind, len(x.message), got, x.digits)
		}
	}
}

// P3.1: the chapter's own formulas, with constants worked out from the primes.
func TestOneFollowsTheChapter(t *testing.T) {
	for kind := range api.ShaKinds {
		for _, message := range []string{"", "abc", noise(5, 40), noise(6, 55), noise(7, 200)} {
			s, e := sha2.One(kind, message)
			if want := chapterSum(kind, message); s != want || e != api.OK {
				t.Errorf("One(%d, %q): %x, %v instead of %x", kind, message, s, e, want)
			}
		}
	}
}

// P3.1
func TestOneOfEachLength(t *testing.T) {
	for kind := range api.ShaKinds {
		for _, length := range edgeLengths() {
			for _, s := range []string{noise(uint32(length), length), strings.Repeat("\x00", length), strings.Repeat("\xff", length), strings.Repeat("\x80", length)} {
				got, e := sha2.One(kind, s)
				if want := known(kind, s); got != want || e != api.OK {
					t.Errorf("One(%d, %d bytes): %x, %v instead of %x", kind, length, got, e, want)
				}
			}
		}
	}
}

// P3.1
func TestOneOfEachByteAtEachPlace(t *testing.T) {
	for kind := range api.ShaKinds {
		for at := range 130 {
			for b := range 256 {
				s := strings.Repeat("\x00", at) + string([]byte{byte(b)}) + "\x01"
				if got, e := sha2.One(kind, s); got != known(kind, s) || e != api.OK {
					t.Errorf("One(%d, byte %d behind %d): %x, %v", kind, b, at, got, e)
				}
			}
		}
	}
}

// P3.1, P3.2
func TestWhatIsNoKind(t *testing.T) {
	for _, kind := range []int{-1, 2, api.ShaKinds, 3, -2, 32, 64, 256, 512, 1 << 32, 1<<32 + 1, math.MinInt, math.MinInt + 1, math.MaxInt} {
		for _, s := range []string{"", "abc", noise(1, 200)} {
			if got, e := sha2.One(kind, s); got != "" || e != api.ErrSha2Kind {
				t.Errorf("One(%d, %q): %x, %v", kind, s, got, e)
			}
		}
		if h, e := sha2.New(kind); h != nil || e != api.ErrSha2Kind {
			t.Errorf("New(%d): %v, %v", kind, h, e)
		}
	}
}

// P3.2
func TestNewIsOfNoBytes(t *testing.T) {
	for kind := range api.ShaKinds {
		check(t, "a new one", kind, begin(t, kind), "")
	}
}

// P3.2: what is asked at each place changes nothing.
func TestSumAndSizeBetweenWrites(t *testing.T) {
	for kind := range api.ShaKinds {
		for _, step := range []int{1, 7, 37, 55, 63, 64, 65, 111, 127, 128, 129, 300} {
			h := begin(t, kind)
			check(t, "ahead of writes", kind, h, "")
			message := ""
			for len(message) < 700 {
				piece := noise(uint32(len(message)), step)
				h.Write(piece)
				message += piece
				check(t, "between writes", kind, h, message)
				check(t, "asked again", kind, h, message)
			}
		}
	}
}

// P3.2
func TestSizeCountsBytes(t *testing.T) {
	for kind := range api.ShaKinds {
		h := begin(t, kind)
		total := 0
		for _, length := range cutLengths() {
			if h.Size() != total {
				t.Errorf("kind %d: Size %d instead of %d", kind, h.Size(), total)
			}
			h.Write(noise(9, length))
			total += length
		}
		h.Sum()
		if h.Size() != total {
			t.Errorf("kind %d: Size %d instead of %d behind Sum", kind, h.Size(), total)
		}
	}
}

// P3.2: neither a clone nor its original sees what the other one is given.
func TestClonesAreIndependent(t *testing.T) {
	for kind := range api.ShaKinds {
		for _, length := range cutLengths() {
			for _, more := range []int{0, 1, 8, 9, 63, 64, 65, 127, 128, 129, 200} {
				begun := noise(uint32(length), length)
				left, right := noise(uint32(more)+1000, more), noise(uint32(more)+2000, more+1)
				h := begin(t, kind)
				h.Write(begun)
				c := h.Clone()
				check(t, "a clone", kind, c, begun)
				h.Write(left)
				check(t, "a clone whose original goes on", kind, c, begun)
				c.Write(right)
				check(t, "an original whose clone goes on", kind, h, begun+left)
				check(t, "a clone that goes on", kind, c, begun+right)
				c.Write(left)
				h.Write(right)
				check(t, "an original further on", kind, h, begun+left+right)
				check(t, "a clone further on", kind, c, begun+right+left)
			}
		}
	}
}

// P3.2
func TestClonesByTurns(t *testing.T) {
	for kind := range api.ShaKinds {
		h := begin(t, kind)
		c := h.Clone()
		cc := c.Clone()
		all := noise(11, 300)
		for i := range len(all) {
			h.Write(all[i : i+1])
			c.Write(all[len(all)-1-i : len(all)-i])
			cc.Write("\xff")
		}
		mirrored := []byte(all)
		for i := range mirrored {
			mirrored[i] = all[len(all)-1-i]
		}
		check(t, "an original", kind, h, all)
		check(t, "its clone", kind, c, string(mirrored))
		check(t, "the clone's clone", kind, cc, strings.Repeat("\xff", len(all)))
	}
}

// P3.2: hashes that are new have nothing in common, of one kind or of two.
func TestHashesByTurns(t *testing.T) {
	small, great, other := begin(t, api.Sha256), begin(t, api.Sha512), begin(t, api.Sha256)
	a, b, c := "", "", ""
	for i := range 60 {
		x, y, z := noise(uint32(i), i), noise(uint32(i)+100, 2*i), noise(uint32(i)+200, 61)
		small.Write(x)
		great.Write(y)
		other.Write(z)
		a, b, c = a+x, b+y, c+z
		check(t, "by turns", api.Sha256, small, a)
		check(t, "by turns", api.Sha512, great, b)
		check(t, "by turns", api.Sha256, other, c)
	}
}

// P3.3
func TestTwoPiecesCutAtEachPlace(t *testing.T) {
	for kind := range api.ShaKinds {
		for _, length := range cutLengths() {
			message := noise(uint32(length)+77, length)
			whole, e := sha2.One(kind, message)
			if e != api.OK {
				t.Fatalf("One(%d): %v", kind, e)
			}
			for at := range length + 1 {
				h := begin(t, kind)
				h.Write(message[:at])
				h.Write(message[at:])
				if got := h.Sum(); got != whole || h.Size() != length {
					t.Errorf("kind %d, %d bytes cut at %d: %x instead of %x", kind, length, at, got, whole)
				}
			}
		}
	}
}

// P3.3
func TestPiecesOfOneLength(t *testing.T) {
	for kind := range api.ShaKinds {
		for _, length := range append(cutLengths(), 1000) {
			message := noise(uint32(length)+88, length)
			whole, e := sha2.One(kind, message)
			if e != api.OK {
				t.Fatalf("One(%d): %v", kind, e)
			}
			for _, step := range []int{1, 2, 3, 8, 16, 31, 55, 56, 63, 64, 65, 111, 112, 127, 128, 129, 192, 256} {
				h := begin(t, kind)
				for at := 0; at < length; at += step {
					h.Write("")
					h.Write(message[at:min(at+step, length)])
					h.Write("")
				}
				if got := h.Sum(); got != whole || h.Size() != length {
					t.Errorf("kind %d, %d bytes in pieces of %d: %x instead of %x", kind, length, step, got, whole)
				}
			}
		}
	}
}

// P3.3
func TestPiecesOfNoBytes(t *testing.T) {
	for kind := range api.ShaKinds {
		h := begin(t, kind)
		for range 200 {
			h.Write("")
		}
		check(t, "pieces of no bytes", kind, h, "")
		h.Write("abc")
		for range 200 {
			h.Write("")
		}
		check(t, "pieces of no bytes behind others", kind, h, "abc")
	}
}

// chapterSum is the sum as the chapter's section Words has it, with constants
// that are roots of primes and with words that are numbers modulo 2^w.
func chapterSum(kind int, message string) string {
	c := newChapter(kind)
	state := c.roots(8, 2)
	padded := c.padded(message)
	bytes := 16 * c.w / 8
	for at := 0; at < len(padded); at += bytes {
		state = c.behind(state, padded[at:at+bytes])
	}
	var out []byte
	for _, x := range state {
		out = append(out, x.FillBytes(make([]byte, c.w/8))...)
	}
	return string(out)
}

// chapter are the numbers that the chapter gives a kind.
type chapter struct {
	w, r             int
	a, b, c, d       [3]int
	modulus, allOnes *big.Int
}

func newChapter(kind int) chapter {
	c := chapter{w: 32, r: 64, a: [3]int{2, 13, 22}, b: [3]int{6, 11, 25}, c: [3]int{7, 18, 3}, d: [3]int{17, 19, 10}}
	if kind == api.Sha512 {
		c = chapter{w: 64, r: 80, a: [3]int{28, 34, 39}, b: [3]int{14, 18, 41}, c: [3]int{1, 8, 7}, d: [3]int{19, 61, 6}}
	}
	c.modulus = new(big.Int).Lsh(big.NewInt(1), uint(c.w))
	c.allOnes = new(big.Int).Sub(c.modulus, big.NewInt(1))
	return c
}

// roots are the first w bits of the fractional parts of the roots of the given
// degree of the first primes.
func (c chapter) roots(count, degree int) []*big.Int {
	var list []*big.Int
	for p := int64(2); len(list) < count; p++ {
		if big.NewInt(p).ProbablyPrime(0) {
			root := wholeRoot(new(big.Int).Lsh(big.NewInt(p), uint(degree*c.w)), degree)
			list = append(list, root.Mod(root, c.modulus))
		}
	}
	return list
}

// wholeRoot is the greatest number whose power is at most n.
func wholeRoot(n *big.Int, degree int) *big.Int {
	root := new(big.Int)
	for bit := n.BitLen()/degree + 1; bit >= 0; bit-- {
		root.SetBit(root, bit, 1)
		if new(big.Int).Exp(root, big.NewInt(int64(degree)), nil).Cmp(n) > 0 {
			root.SetBit(root, bit, 0)
		}
	}
	return root
}

func (c chapter) padded(message string) string {
	bits := big.NewInt(8 * int64(len(message)))
	padded := message + "\x80"
	for (len(padded)+c.w/4)%(2*c.w) != 0 {
		padded += "\x00"
	}
	return padded + string(bits.FillBytes(make([]byte, c.w/4)))
}

// plus is a sum modulo 2^w.
func (c chapter) plus(l ...*big.Int) *big.Int {
	sum := new(big.Int)
	for _, x := range l {
		sum.Add(sum, x)
	}
	return sum.Mod(sum, c.modulus)
}

func (c chapter) rot(x *big.Int, n int) *big.Int {
	low := new(big.Int).Mod(x, new(big.Int).Lsh(big.NewInt(1), uint(n)))
	return low.Lsh(low, uint(c.w-n)).Add(low, new(big.Int).Rsh(x, uint(n)))
}

func xor(l ...*big.Int) *big.Int {
	sum := new(big.Int)
	for _, x := range l {
		sum.Xor(sum, x)
	}
	return sum
}

func and(x, y *big.Int) *big.Int { return new(big.Int).And(x, y) }

func (c chapter) behind(h []*big.Int, block string) []*big.Int {
	var w []*big.Int
	for i := range 16 {
		w = append(w, new(big.Int).SetBytes([]byte(block[i*c.w/8:(i+1)*c.w/8])))
	}
	for t := 16; t < c.r; t++ {
		x, y := w[t-2], w[t-15]
		ofX := xor(c.rot(x, c.d[0]), c.rot(x, c.d[1]), new(big.Int).Rsh(x, uint(c.d[2])))
		ofY := xor(c.rot(y, c.c[0]), c.rot(y, c.c[1]), new(big.Int).Rsh(y, uint(c.c[2])))
		w = append(w, c.plus(ofX, w[t-7], ofY, w[t-16]))
	}
	v := append([]*big.Int(nil), h...)
	for t, k := range c.roots(c.r, 3) {
		ofE := xor(c.rot(v[4], c.b[0]), c.rot(v[4], c.b[1]), c.rot(v[4], c.b[2]))
		chosen := xor(and(v[4], v[5]), and(xor(v[4], c.allOnes), v[6]))
		t1 := c.plus(v[7], ofE, chosen, k, w[t])
		ofA := xor(c.rot(v[0], c.a[0]), c.rot(v[0], c.a[1]), c.rot(v[0], c.a[2]))
		t2 := c.plus(ofA, xor(and(v[0], v[1]), and(v[0], v[2]), and(v[1], v[2])))
		v = []*big.Int{c.plus(t1, t2), v[0], v[1], v[2], c.plus(v[3], t1), v[4], v[5], v[6]}
	}
	for i := range v {
		v[i] = c.plus(v[i], h[i])
	}
	return v
}
