package scalar_test

import (
	"math/big"
	"strings"
	"testing"

	"farrier/api"
	"farrier/scalar"
)

// power is 2^n.
func power(n uint) *big.Int { return new(big.Int).Lsh(big.NewInt(1), n) }

// plus is x + n.
func plus(x *big.Int, n int64) *big.Int { return new(big.Int).Add(x, big.NewInt(n)) }

// order is L, as the chapter says it.
func order() *big.Int {
	above, _ := new(big.Int).SetString("27742317777372353535851937790883648493", 10)
	return above.Add(above, power(252))
}

// times is n L.
func times(n int64) *big.Int { return new(big.Int).Mul(order(), big.NewInt(n)) }

// number is the number of bytes, as the chapter says it: each byte times 256^i.
func number(s string) *big.Int {
	sum := new(big.Int)
	for i := range len(s) {
		byteValue := big.NewInt(int64(s[i]))
		sum.Add(sum, byteValue.Lsh(byteValue, uint(8*i)))
	}
	return sum
}

// bytes are so many bytes with the number x.
func bytes(x *big.Int, count int) string {
	out := x.FillBytes(make([]byte, count))
	for i := range count / 2 {
		out[i], out[count-1-i] = out[count-1-i], out[i]
	}
	return string(out)
}

// scalarOf is that of a number of any size, or of one below 0.
func scalarOf(x *big.Int) string { return bytes(new(big.Int).Mod(x, order()), 32) }

// small is the scalar of a small number.
func small(n int64) string { return scalarOf(big.NewInt(n)) }

// noise are n bytes that look like any, from a short rule.
func noise(seed uint32, n int) string {
	out := make([]byte, n)
	for i := range out {
		seed = seed*1664525 + 1013904223
		out[i] = byte(seed >> 24)
	}
	return string(out)
}

// edgeNumbers are those about L and its multiples, and about powers of 2, from
// 0 to the last one of 64 bytes.
func edgeNumbers() []*big.Int {
	list := []*big.Int{
		plus(order(), 5), plus(order(), -5), plus(times(15), 5),
		plus(power(512), -1), plus(power(512), -2), power(511),
		new(big.Int).Rsh(order(), 1), plus(new(big.Int).Rsh(order(), 1), 1),
	}
	for _, n := range []int64{0, 1, 2, 3, 19, 255, 256} {
		list = append(list, big.NewInt(n))
	}
	for _, n := range []int64{1, 2, 3, 7, 8, 14, 15, 16, 17, 31, 32, 1 << 32, 1<<32 - 1} {
		list = append(list, plus(times(n), -2), plus(times(n), -1), times(n), plus(times(n), 1))
	}
	for _, n := range []uint{32, 125, 128, 251, 252, 253, 254, 255, 256, 257, 284, 288} {
		list = append(list, plus(power(n), -1), power(n), plus(power(n), 1))
	}
	return list
}

// strings64 are strings of 64 bytes: the edges, one bit each, all bits but one
// each, bytes of one value, and some that look like any.
func strings64() []string {
	var list []string
	for _, x := range edgeNumbers() {
		list = append(list, bytes(x, 64))
	}
	all := plus(power(512), -1)
	for i := range uint(512) {
		list = append(list, bytes(power(i), 64), bytes(new(big.Int).Sub(all, power(i)), 64))
	}
	for i := range 256 {
		list = append(list, strings.Repeat(string([]byte{byte(i)}), 64))
	}
	for i := range uint32(100) {
		list = append(list, noise(i, 64))
	}
	return list
}

// strings32 are strings of 32 bytes of the same kinds, scalars and others.
func strings32() []string {
	var list []string
	for _, x := range edgeNumbers() {
		if x.BitLen() <= 256 {
			list = append(list, bytes(x, 32))
		}
	}
	all := plus(power(256), -1)
	for i := range uint(256) {
		list = append(list, bytes(power(i), 32), bytes(new(big.Int).Sub(all, power(i)), 32))
	}
	for i := range uint32(100) {
		list = append(list, noise(i, 32))
	}
	return list
}

// few32 are some of strings32, for what is done with pairs and threes.
func few32() []string {
	list := []string{noise(1, 32), noise(2, 32), noise(3, 32), strings.Repeat("\xff\x00", 16)}
	for _, x := range edgeNumbers() {
		if x.BitLen() <= 256 {
			list = append(list, bytes(x, 32))
		}
	}
	return list
}

// checkReduce holds Reduce of bytes against the remainder of numbers of any size.
func checkReduce(t *testing.T, s string) {
	t.Helper()
	if got, e := scalar.Reduce(s); got != scalarOf(number(s)) || e != api.OK {
		t.Errorf("Reduce(%x): %x, %v", s, got, e)
	}
}

// must is what a call answered, which must have been without an error.
func must(t *testing.T, what string, got string, e api.Errno) string {
	t.Helper()
	if e != api.OK {
		t.Fatalf("%s: error %v", what, e)
	}
	if len(got) != 32 || number(got).Cmp(order()) >= 0 {
		t.Fatalf("%s: %x is no scalar", what, got)
	}
	return got
}

func reduce(t *testing.T, s string) string {
	t.Helper()
	got, e := scalar.Reduce(s)
	return must(t, "Reduce", got, e)
}

func add(t *testing.T, a, b string) string {
	t.Helper()
	got, e := scalar.Add(a, b)
	return must(t, "Add", got, e)
}

func mul(t *testing.T, a, b string) string {
	t.Helper()
	got, e := scalar.Mul(a, b)
	return must(t, "Mul", got, e)
}

// P5.1
func TestIsSaysWhetherTheNumberIsBelowL(t *testing.T) {
	for _, s := range strings32() {
		if got, want := scalar.Is(s), number(s).Cmp(order()) < 0; got != want {
			t.Errorf("Is(%x): %v", s, got)
		}
		if !scalar.Is(scalarOf(number(s))) {
			t.Errorf("Is(%x): false", scalarOf(number(s)))
		}
	}
	// Each word decides when those above it are L's.
	for i := range uint(256) {
		below, over := new(big.Int).Sub(order(), power(i)), new(big.Int).Add(order(), power(i))
		if i <= 252 && !scalar.Is(bytes(below, 32)) {
			t.Errorf("Is of L - 2^%d: false", i)
		}
		if scalar.Is(bytes(over, 32)) {
			t.Errorf("Is of L + 2^%d: true", i)
		}
	}
}

// P5.1
func TestIsTakesNoOtherLength(t *testing.T) {
	for n := range 200 {
		if got := scalar.Is(strings.Repeat("\x00", n)); got != (n == 32) {
			t.Errorf("Is of %d zeros: %v", n, got)
		}
		if n != 32 && scalar.Is(noise(uint32(n), n)) {
			t.Errorf("Is of %d bytes: true", n)
		}
	}
	for _, s := range []string{small(1)[:31], small(1) + "\x00", small(1) + small(0), "\x00" + small(1)} {
		if scalar.Is(s) {
			t.Errorf("Is(%x): true", s)
		}
	}
}

// P5.1
func TestReduceIsTheNumberModuloL(t *testing.T) {
	for _, s := range strings64() {
		checkReduce(t, s)
	}
	for _, s := range strings32() {
		checkReduce(t, s)
	}
}

// P5.1
func TestReduceOfEachLength(t *testing.T) {
	for n := range 65 {
		checkReduce(t, strings.Repeat("\x00", n))
		checkReduce(t, strings.Repeat("\xff", n))
		checkReduce(t, noise(uint32(n), n))
		for bit := range uint(8 * n) {
			checkReduce(t, bytes(power(bit), n))
		}
	}
	if got, e := scalar.Reduce(""); got != strings.Repeat("\x00", 32) || e != api.OK {
		t.Errorf("Reduce of nothing: %x, %v", got, e)
	}
}

// P5.1: wherever in the 64 bytes the multiples of L begin and end, and with
// what follows them; those about 2^252 and L - 1 make the greatest quotients.
func TestReduceAtEachPlace(t *testing.T) {
	heads := []*big.Int{power(252), plus(power(252), -1), plus(power(252), 1)}
	for n := int64(-2); n <= 2; n++ {
		heads = append(heads, plus(order(), n), plus(times(15), n))
	}
	for _, head := range heads {
		for place := range uint(257) {
			x := new(big.Int).Lsh(head, place)
			tail := plus(power(place), -1)
			checkReduce(t, bytes(x, 64))
			checkReduce(t, bytes(new(big.Int).Add(x, tail), 64))
			checkReduce(t, bytes(plus(x, -1), 64))
		}
	}
}

// P5.1: the numbers next to multiples of L, of all sizes.
func TestReduceNextToMultiples(t *testing.T) {
	most := new(big.Int).Div(plus(power(512), -1), order())
	factors := []*big.Int{most, plus(most, -1)}
	for i := range uint(260) {
		factors = append(factors, power(i), plus(power(i), -1))
	}
	for i := range uint32(60) {
		factors = append(factors, number(noise(i, int(i%32)+1)))
	}
	for _, factor := range factors {
		x := new(big.Int).Mul(factor, order())
		for _, near := range []*big.Int{plus(x, -1), x, plus(x, 1)} {
			if near.Sign() >= 0 && near.BitLen() <= 512 {
				checkReduce(t, bytes(near, 64))
			}
		}
	}
}

// P5.1
func TestReduceTakesNoMoreThan64Bytes(t *testing.T) {
	for _, n := range []int{65, 66, 67, 68, 72, 95, 96, 127, 128, 129, 256, 1000, 65536} {
		for _, s := range []string{strings.Repeat("\x00", n), strings.Repeat("\xff", n), noise(uint32(n), n)} {
			if got, e := scalar.Reduce(s); got != "" || e != api.ErrScalarForm {
				t.Errorf("Reduce of %d bytes: %x, %v", n, got, e)
			}
		}
	}
}

// checkPair holds the sum and the product of two strings of 32 bytes against
// those of numbers of any size.
func checkPair(t *testing.T, a, b string) {
	t.Helper()
	x, y := number(a), number(b)
	if got := add(t, a, b); got != scalarOf(new(big.Int).Add(x, y)) {
		t.Errorf("Add(%x, %x): %x", a, b, got)
	}
	if got := mul(t, a, b); got != scalarOf(new(big.Int).Mul(x, y)) {
		t.Errorf("Mul(%x, %x): %x", a, b, got)
	}
}

// P5.2: of scalars, and of 32 bytes that are none.
func TestSumsAndProducts(t *testing.T) {
	few := few32()
	for _, a := range few {
		for _, b := range few {
			checkPair(t, a, b)
		}
	}
	all := strings32()
	for i, a := range all {
		checkPair(t, a, a)
		checkPair(t, a, all[(i*7+3)%len(all)])
		checkPair(t, all[(i*5+1)%len(all)], a)
		checkPair(t, scalarOf(number(a)), noise(uint32(i), 32))
	}
}

// P5.2: of sums that pass L once, and of sums and products that pass it often.
func TestSumsAndProductsThatPassLOften(t *testing.T) {
	for _, start := range few32() {
		sum, product := start, start
		x, y := number(start), number(start)
		for range 100 {
			sum = add(t, sum, start)
			product = mul(t, product, start)
			x.Add(x, number(start))
			y.Mul(y, number(start))
		}
		if sum != scalarOf(x) || product != scalarOf(y) {
			t.Errorf("%x: %x, %x", start, sum, product)
		}
	}
	for i := range uint(253) {
		part := bytes(power(i), 32)
		rest := scalarOf(new(big.Int).Neg(power(i)))
		if got := add(t, part, rest); got != small(0) {
			t.Errorf("Add(2^%d, L - 2^%d): %x", i, i, got)
		}
	}
}

// The chapter's examples.
func TestTheChaptersExamples(t *testing.T) {
	last := bytes(plus(order(), -1), 32)
	if got := reduce(t, bytes(order(), 32)); got != small(0) {
		t.Errorf("Reduce of L: %x", got)
	}
	if got := reduce(t, bytes(plus(order(), 5), 32)); got != small(5) {
		t.Errorf("Reduce of L + 5: %x", got)
	}
	if got := add(t, last, small(2)); got != small(1) {
		t.Errorf("Add(L - 1, 2): %x", got)
	}
	if got := mul(t, last, last); got != small(1) {
		t.Errorf("Mul(L - 1, L - 1): %x", got)
	}
}

// P5.2
func TestOtherLengthsAreRefusedAtEachPlaceOfEachCall(t *testing.T) {
	calls := map[string]func(a, b string) (string, api.Errno){"Add": scalar.Add, "Mul": scalar.Mul}
	for name, call := range calls {
		for n := range 130 {
			if n == 32 {
				continue
			}
			for _, wrong := range []string{strings.Repeat("\x00", n), strings.Repeat("\xff", n), noise(uint32(n), n)} {
				for _, good := range []string{small(0), small(-1), strings.Repeat("\xff", 32)} {
					for _, pair := range [][2]string{{wrong, good}, {good, wrong}, {wrong, wrong}} {
						if got, e := call(pair[0], pair[1]); got != "" || e != api.ErrScalarForm {
							t.Errorf("%s(%x, %x): %x, %v", name, pair[0], pair[1], got, e)
						}
					}
				}
			}
		}
		// Two lengths that are right together only.
		if got, e := call(noise(1, 31), noise(2, 33)); got != "" || e != api.ErrScalarForm {
			t.Errorf("%s of 31 and 33 bytes: %x, %v", name, got, e)
		}
	}
}

// P5.3
func TestReduceOfAScalarIsTheScalar(t *testing.T) {
	for _, s := range strings64() {
		a := scalarOf(number(s))
		if got := reduce(t, a); got != a {
			t.Errorf("Reduce(%x): %x", a, got)
		}
	}
}

// P5.3
func TestTheLawsOfSumsAndProducts(t *testing.T) {
	few := few32()
	for i, a := range few {
		for j, b := range few {
			c := few[(i*3+j*5)%len(few)]
			if add(t, a, b) != add(t, b, a) || mul(t, a, b) != mul(t, b, a) {
				t.Errorf("%x, %x: not commutative", a, b)
			}
			if add(t, add(t, a, b), c) != add(t, a, add(t, b, c)) {
				t.Errorf("%x, %x, %x: sums not associative", a, b, c)
			}
			if mul(t, mul(t, a, b), c) != mul(t, a, mul(t, b, c)) {
				t.Errorf("%x, %x, %x: products not associative", a, b, c)
			}
			if mul(t, a, add(t, b, c)) != add(t, mul(t, a, b), mul(t, a, c)) {
				t.Errorf("%x, %x, %x: not distributive", a, b, c)
			}
		}
	}
}

// P5.3: what follows n bytes counts 256^n times.
func TestReduceOfTwoStringsBehindEachOther(t *testing.T) {
	for i, s := range strings64() {
		n := i % 64
		head, tail := s[:n], s[n:]
		factor := strings.Repeat("\x00", n) + "\x01"
		want := add(t, reduce(t, head), mul(t, reduce(t, tail), reduce(t, factor)))
		if got := reduce(t, s); got != want {
			t.Errorf("Reduce(%x + %x): %x instead of %x", head, tail, got, want)
		}
	}
}

// What a call answers is the same, whatever was called before.
func TestCallsLeaveNothingBehind(t *testing.T) {
	a, b := noise(7, 32), noise(8, 32)
	first := []string{add(t, a, b), mul(t, a, b), reduce(t, a+b)}
	scalar.Mul("", a)
	scalar.Add(a, "x")
	scalar.Reduce(noise(9, 65))
	again := []string{add(t, a, b), mul(t, a, b), reduce(t, a+b)}
	for i := range first {
		if first[i] != again[i] {
			t.Errorf("call %d: %x, then %x", i, first[i], again[i])
		}
	}
}
