package codes_test

import (
	"math"
	"math/bits"
	"strings"
	"testing"

	"farrier/api"
	"farrier/codes"
)

// power is 256^n, for n up to 7.
func power(n int) int {
	p := 1
	for range n {
		p *= 256
	}
	return p
}

// refPut is what P2.1 asks of Put, by division instead of shifts.
func refPut(n, bytes int) (string, api.Errno) {
	if bytes < 1 || bytes > 7 || n < 0 || n >= power(bytes) {
		return "", api.ErrCodesRange
	}
	s := ""
	for range bytes {
		s += string([]byte{byte(n % 256)})
		n /= 256
	}
	return s, api.OK
}

// refGet is what P2.1 asks of Get, by sums of products.
func refGet(s string) (int, api.Errno) {
	if s == "" || len(s) > 7 {
		return 0, api.ErrCodesRange
	}
	n := 0
	for i := range len(s) {
		n += int(s[i]) * power(i)
	}
	return n, api.OK
}

// refCrc is what P2.2 says, step by step, in numbers without a wrap-round.
func refCrc(sum uint32, s string) uint32 {
	const all = 1<<32 - 1
	register := all - uint64(sum)
	for _, b := range []byte(s) {
		register ^= uint64(b)
		for range 8 {
			odd := register%2 == 1
			register /= 2
			if odd {
				register ^= 0xedb88320
			}
		}
	}
	return uint32(all - register)
}

// noise are n bytes that look like any, from a short rule.
func noise(seed uint32, n int) string {
	out := make([]byte, n)
	for i := range out {
		seed = seed*1664525 + 1013904223
		out[i] = byte(seed >> 24)
	}
	return string(out)
}

func checkPut(t *testing.T, n, bytes int) {
	t.Helper()
	want, wantError := refPut(n, bytes)
	if s, e := codes.Put(n, bytes); s != want || e != wantError {
		t.Errorf("Put(%d, %d): %q, %v instead of %q, %v", n, bytes, s, e, want, wantError)
	}
}

func checkGet(t *testing.T, s string) {
	t.Helper()
	want, wantError := refGet(s)
	if n, e := codes.Get(s); n != want || e != wantError {
		t.Errorf("Get(%q): %d, %v instead of %d, %v", s, n, e, want, wantError)
	}
}

// edgeNumbers are those around 0, each 256^bytes, and the ends of int.
func edgeNumbers() []int {
	list := []int{math.MinInt, math.MinInt + 1, math.MinInt32, -256, -255, -2, math.MaxInt32, math.MaxInt - 1, math.MaxInt, 0x0102030405060708, 0x01020304050607}
	for bytes := range 8 {
		p := power(bytes)
		list = append(list, -p, p-1, p, p+1, p/2, p/2-1)
	}
	return list
}

// P2.1
func TestPutSaysItsExamples(t *testing.T) {
	for _, c := range []struct {
		n, bytes int
		want     string
		e        api.Errno
	}{
		{258, 2, "\x02\x01", api.OK},
		{256, 1, "", api.ErrCodesRange},
		{0, 1, "\x00", api.OK},
		{0, 7, "\x00\x00\x00\x00\x00\x00\x00", api.OK},
		{1, 3, "\x01\x00\x00", api.OK},
		{0x01020304050607, 7, "\x07\x06\x05\x04\x03\x02\x01", api.OK},
		{1<<56 - 1, 7, "\xff\xff\xff\xff\xff\xff\xff", api.OK},
		{1 << 56, 7, "", api.ErrCodesRange},
		{math.MaxInt, 8, "", api.ErrCodesRange},
		{0, 0, "", api.ErrCodesRange},
		{0, -1, "", api.ErrCodesRange},
		{-1, 7, "", api.ErrCodesRange},
	} {
		if s, e := codes.Put(c.n, c.bytes); s != c.want || e != c.e {
			t.Errorf("Put(%d, %d): %q, %v instead of %q, %v", c.n, c.bytes, s, e, c.want, c.e)
		}
	}
}

// P2.1
func TestPutAtEachEdge(t *testing.T) {
	sizes := []int{math.MinInt, math.MinInt + 1, -64, -8, -7, -1, 9, 15, 16, 32, 63, 64, 65, 1 << 32, 1<<61 + 1, math.MaxInt}
	for bytes := range 9 {
		sizes = append(sizes, bytes)
	}
	for _, n := range edgeNumbers() {
		for _, bytes := range sizes {
			checkPut(t, n, bytes)
		}
	}
	for n := -300; n < 70000; n++ {
		checkPut(t, n, 1)
		checkPut(t, n, 2)
		checkPut(t, n, 3)
	}
}

// P2.1
func TestPutOfEachBit(t *testing.T) {
	for bytes := range 9 {
		for bit := range 64 {
			checkPut(t, int(uint64(1)<<bit), bytes)
		}
	}
}

// P2.1
func TestGetOfEachLength(t *testing.T) {
	for length := range 20 {
		for _, filler := range []string{"\x00", "\x01", "\x7f", "\x80", "\xff"} {
			checkGet(t, strings.Repeat(filler, length))
		}
		for at := range length {
			checkGet(t, strings.Repeat("\x00", at)+"\xfe"+strings.Repeat("\x00", length-at-1))
		}
		for seed := range uint32(20) {
			checkGet(t, noise(seed, length))
		}
	}
	for a := range 256 {
		checkGet(t, string([]byte{byte(a)}))
		for b := range 256 {
			checkGet(t, string([]byte{byte(a), byte(b)}))
		}
	}
	if n, e := codes.Get("\x02\x01"); n != 258 || e != api.OK {
		t.Errorf("Get of 2, 1: %d, %v", n, e)
	}
}

// P2.4
func TestGetInvertsPut(t *testing.T) {
	for bytes := 1; bytes <= 7; bytes++ {
		for _, n := range edgeNumbers() {
			s, e := codes.Put(n, bytes)
			if fits := n >= 0 && n < power(bytes); fits != (e == api.OK) {
				t.Errorf("Put(%d, %d): %v", n, bytes, e)
			}
			if e != api.OK {
				continue
			}
			if back, e := codes.Get(s); len(s) != bytes || back != n || e != api.OK {
				t.Errorf("Get(Put(%d, %d)): %d, %v by way of %q", n, bytes, back, e, s)
			}
		}
		for seed := range uint32(100) {
			s := noise(seed, bytes)
			n, _ := codes.Get(s)
			if back, e := codes.Put(n, bytes); back != s || e != api.OK {
				t.Errorf("Put(Get(%q)): %q, %v", s, back, e)
			}
		}
	}
}

// P2.2
func TestCrcOfKnownSums(t *testing.T) {
	for s, want := range map[string]uint32{
		"":                 0,
		"123456789":        0xcbf43926,
		"\x00":             0xd202ef8d,
		"a":                0xe8b7be43,
		"abc":              0x352441c2,
		"\x00\x00\x00\x00": 0x2144df1c,
		"\xff\xff\xff\xff": 0xffffffff,
		"The quick brown fox jumps over the lazy dog": 0x414fa339,
	} {
		if sum := codes.Crc(0, s); sum != want {
			t.Errorf("Crc(0, %q): %08x instead of %08x", s, sum, want)
		}
	}
}

func edgeSums() []uint32 {
	list := []uint32{0, 1, 0x7fffffff, 0x80000000, 0xfffffffe, 0xffffffff, 0xedb88320, 0x12345678, 0xd202ef8d}
	for bit := range 32 {
		list = append(list, 1<<bit)
	}
	return list
}

// P2.2
func TestCrcIsTheRegister(t *testing.T) {
	for _, sum := range edgeSums() {
		for b := range 256 {
			s := string([]byte{byte(b)})
			if got, want := codes.Crc(sum, s), refCrc(sum, s); got != want {
				t.Errorf("Crc(%08x, %q): %08x instead of %08x", sum, s, got, want)
			}
		}
		for _, length := range []int{0, 1, 2, 3, 4, 5, 7, 8, 9, 15, 16, 17, 63, 64, 65, 511, 512, 513, 4097} {
			for _, s := range []string{noise(uint32(length), length), strings.Repeat("\x00", length), strings.Repeat("\xff", length)} {
				if got, want := codes.Crc(sum, s), refCrc(sum, s); got != want {
					t.Errorf("Crc(%08x, %d bytes): %08x instead of %08x", sum, length, got, want)
				}
			}
		}
	}
}

// P2.2
func TestCrcOfNothingIsTheSum(t *testing.T) {
	for _, sum := range edgeSums() {
		if got := codes.Crc(sum, ""); got != sum {
			t.Errorf("Crc(%08x, no bytes): %08x", sum, got)
		}
	}
}

// P2.4
func TestCrcGoesOnAtEachPlace(t *testing.T) {
	for _, sum := range edgeSums() {
		for _, s := range []string{"123456789", noise(7, 70), strings.Repeat("\xff", 33)} {
			whole := codes.Crc(sum, s)
			for at := range len(s) + 1 {
				if parts := codes.Crc(codes.Crc(sum, s[:at]), s[at:]); parts != whole {
					t.Errorf("Crc(%08x, %q) in parts at %d: %08x instead of %08x", sum, s, at, parts, whole)
				}
			}
		}
	}
	bytewise := uint32(0)
	s := noise(3, 300)
	for i := range len(s) {
		bytewise = codes.Crc(bytewise, s[i:i+1])
	}
	if whole := codes.Crc(0, s); bytewise != whole {
		t.Errorf("byte by byte: %08x instead of %08x", bytewise, whole)
	}
}

// P2.4
func TestCrcOfThreeStringsTogether(t *testing.T) {
	for _, length := range []int{0, 1, 2, 9, 64, 400} {
		for seed := range uint32(20) {
			a, b, c := noise(seed, length), noise(seed+1000, length), noise(seed+2000, length)
			mixed := make([]byte, length)
			for i := range mixed {
				mixed[i] = a[i] ^ b[i] ^ c[i]
			}
			for _, sum := range []uint32{0, 0xffffffff, 0x13579bdf} {
				want := codes.Crc(sum, a) ^ codes.Crc(sum, b) ^ codes.Crc(sum, c)
				if got := codes.Crc(sum, string(mixed)); got != want {
					t.Errorf("seed %d, %d bytes: %08x instead of %08x", seed, length, got, want)
				}
			}
		}
	}
}

// P2.4
func TestCrcTellsEachBit(t *testing.T) {
	for _, length := range []int{1, 2, 64, 400} {
		s := noise(uint32(length), length)
		plain := codes.Crc(0, s)
		for bit := range 8 * length {
			other := []byte(s)
			other[bit/8] ^= 1 << (bit % 8)
			if codes.Crc(0, string(other)) == plain {
				t.Errorf("%d bytes: bit %d does not change the sum", length, bit)
			}
		}
	}
}

// P2.2: the polynomial's bits stand in the sum of a single bit, the lowest bit
// of the sum for the highest power.
func TestCrcHoldsThePolynomial(t *testing.T) {
	// x^32 modulo the polynomial of the sums, highest power first.
	const polynomial = 0x04c11db7
	got := codes.Crc(0, "\x80") ^ codes.Crc(0, "\x00")
	if got != bits.Reverse32(polynomial) {
		t.Errorf("the highest bit of a last byte changes %08x", got)
	}
}

// P2.3
func TestHexOfEachByte(t *testing.T) {
	const digits = "0123456789abcdef"
	all, allDigits := "", ""
	for b := range 256 {
		s := string([]byte{byte(b)})
		want := digits[b/16:b/16+1] + digits[b%16:b%16+1]
		if got := codes.Hex(s); got != want {
			t.Errorf("Hex(%q): %q instead of %q", s, got, want)
		}
		if got, e := codes.Unhex(want); got != s || e != api.OK {
			t.Errorf("Unhex(%q): %q, %v instead of %q", want, got, e, s)
		}
		all += s
		allDigits += want
	}
	if got := codes.Hex(all); got != allDigits {
		t.Errorf("Hex of all bytes: %q", got)
	}
	if got, e := codes.Unhex(allDigits); got != all || e != api.OK {
		t.Errorf("Unhex of all bytes: %q, %v", got, e)
	}
	if got := codes.Hex("\x00\xab"); got != "00ab" {
		t.Errorf("Hex of 0, 171: %q", got)
	}
	if got := codes.Hex(""); got != "" {
		t.Errorf("Hex of no bytes: %q", got)
	}
	if got, e := codes.Unhex(""); got != "" || e != api.OK {
		t.Errorf("Unhex of no digits: %q, %v", got, e)
	}
}

// P2.3: of all pairs of bytes, those are read that Hex writes, and no others.
func TestUnhexOfEachPair(t *testing.T) {
	written := map[string]byte{}
	for b := range 256 {
		written[codes.Hex(string([]byte{byte(b)}))] = byte(b)
	}
	for a := range 256 {
		for b := range 256 {
			s := string([]byte{byte(a), byte(b)})
			want, wantError := "", api.ErrCodesText
			if value, there := written[s]; there {
				want, wantError = string([]byte{value}), api.OK
			}
			if got, e := codes.Unhex(s); got != want || e != wantError {
				t.Errorf("Unhex(%q): %q, %v instead of %q, %v", s, got, e, want, wantError)
			}
		}
	}
}

// P2.3
func TestUnhexOfWhatIsNone(t *testing.T) {
	for _, s := range []string{
		"0", "a", "000", "00a", "00abc", "00AB", "00Ab", "00aB", "AB00", "g0", "0g", " 0", "0 ", "0x00", "00 00", "00\n",
		"/0", ":0", "`0", "@0", "0/", "0:", "0`", "0@", "\x00\x00", "\xff\xff", "é", "٠٠", "-1", "+1", "0_",
	} {
		if got, e := codes.Unhex(s); got != "" || e != api.ErrCodesText {
			t.Errorf("Unhex(%q): %q, %v", s, got, e)
		}
	}
	good := codes.Hex(noise(1, 20))
	for at := range len(good) {
		for _, c := range []string{"A", "F", "g", "G", "/", ":", "`", " ", "\x00", "\xff"} {
			s := good[:at] + c + good[at+1:]
			if got, e := codes.Unhex(s); got != "" || e != api.ErrCodesText {
				t.Errorf("Unhex(%q): %q, %v", s, got, e)
			}
		}
		wantError := api.OK
		if at%2 == 1 {
			wantError = api.ErrCodesText
		}
		if _, e := codes.Unhex(good[:at]); e != wantError {
			t.Errorf("Unhex(%q): %v instead of %v", good[:at], e, wantError)
		}
	}
}

// P2.4
func TestUnhexInvertsHex(t *testing.T) {
	for length := range 70 {
		s := noise(uint32(length), length)
		written := codes.Hex(s)
		if back, e := codes.Unhex(written); len(written) != 2*length || back != s || e != api.OK {
			t.Errorf("Unhex(Hex(%q)): %q, %v by way of %q", s, back, e, written)
		}
	}
}
