package field_test

import (
	"math/big"
	"strings"
	"testing"

	"farrier/api"
	"farrier/field"
)

// power is 2^n.
func power(n uint) *big.Int { return new(big.Int).Lsh(big.NewInt(1), n) }

// prime is p.
func prime() *big.Int { return new(big.Int).Sub(power(255), big.NewInt(19)) }

// plus is x + n.
func plus(x *big.Int, n int64) *big.Int { return new(big.Int).Add(x, big.NewInt(n)) }

// number is the number of bytes, as the chapter says it: each byte times 256^i.
func number(s string) *big.Int {
	sum := new(big.Int)
	for i := range len(s) {
		byteValue := big.NewInt(int64(s[i]))
		sum.Add(sum, byteValue.Lsh(byteValue, uint(8*i)))
	}
	return sum
}

// bytes are the 32 bytes of a number below 2^256.
func bytes(x *big.Int) string {
	out := x.FillBytes(make([]byte, 32))
	for i := range 16 {
		out[i], out[31-i] = out[31-i], out[i]
	}
	return string(out)
}

// element is that of a number of any size, or of one below 0.
func element(x *big.Int) string { return bytes(new(big.Int).Mod(x, prime())) }

// small is the element of a small number.
func small(n int64) string { return element(big.NewInt(n)) }

// noise are n bytes that look like any, from a short rule.
func noise(seed uint32, n int) string {
	out := make([]byte, n)
	for i := range out {
		seed = seed*1664525 + 1013904223
		out[i] = byte(seed >> 24)
	}
	return string(out)
}

// edgeNumbers are those about p and its multiples, and about the ends of bytes.
func edgeNumbers() []*big.Int {
	p := prime()
	twice := new(big.Int).Lsh(p, 1)
	list := []*big.Int{
		plus(p, -2), plus(p, -1), p, plus(p, 1), plus(p, 18), plus(p, 19),
		plus(power(255), -1), power(255), plus(power(255), 1),
		plus(twice, -1), twice, plus(twice, 1), plus(twice, 37), plus(power(256), -1),
		new(big.Int).Rsh(p, 1), plus(new(big.Int).Rsh(p, 1), 1),
	}
	for _, n := range []int64{0, 1, 2, 3, 4, 17, 18, 19, 20, 21, 37, 38, 39, 255, 256} {
		list = append(list, big.NewInt(n))
	}
	return list
}

// strings32 are strings of 32 bytes: the edges, one bit each, all bits but one
// each, bytes of one value, and some that look like any.
func strings32() []string {
	var list []string
	for _, x := range edgeNumbers() {
		list = append(list, bytes(x))
	}
	all := plus(power(256), -1)
	for i := range uint(256) {
		list = append(list, bytes(power(i)), bytes(new(big.Int).Sub(all, power(i))))
	}
	for i := range 256 {
		list = append(list, strings.Repeat(string([]byte{byte(i)}), 32))
	}
	for i := range uint32(100) {
		list = append(list, noise(i, 32))
	}
	return list
}

// elements are those of strings32, and some with long rows of ones and zeros.
func elements() []string {
	var list []string
	for _, s := range strings32() {
		list = append(list, element(number(s)))
	}
	for i := uint(1); i < 255; i += 9 {
		list = append(list, element(plus(power(i), -1)), element(new(big.Int).Sub(prime(), power(i))))
	}
	return list
}

// fewElements are some of all kinds, for what is done with pairs and threes.
func fewElements() []string {
	var list []string
	for _, x := range edgeNumbers() {
		list = append(list, element(x))
	}
	for i := range uint32(12) {
		list = append(list, element(number(noise(1000+i, 32))))
	}
	return append(list, element(power(254)), element(plus(power(128), -1)), element(number(strings.Repeat("\xff\x00", 16))))
}

// notElements are strings of other lengths, and those whose number is p or more.
func notElements() []string {
	p := prime()
	list := []string{
		"", "\x00", "\x01", "x",
		strings.Repeat("\x00", 31), strings.Repeat("\x00", 33), strings.Repeat("\x00", 64),
		noise(1, 31), noise(2, 33), noise(3, 64), noise(4, 31) + "\x00\x00",
		small(1)[:31], small(1) + "\x00", small(1) + small(0),
	}
	for _, x := range edgeNumbers() {
		if x.Cmp(p) >= 0 {
			list = append(list, bytes(x))
		}
	}
	for i := uint(1); i < 256; i += 7 {
		list = append(list, bytes(new(big.Int).Or(power(255), power(i))))
	}
	return list
}

// must is what a call answered, which must have been without an error.
func must(t *testing.T, what string, got string, e api.Errno) string {
	t.Helper()
	if e != api.OK {
		t.Fatalf("%s: error %v", what, e)
	}
	if len(got) != 32 || number(got).Cmp(prime()) >= 0 {
		t.Fatalf("%s: %x is no element", what, got)
	}
	return got
}

func add(t *testing.T, a, b string) string {
	t.Helper()
	s, e := field.Add(a, b)
	return must(t, "Add", s, e)
}

func sub(t *testing.T, a, b string) string {
	t.Helper()
	s, e := field.Sub(a, b)
	return must(t, "Sub", s, e)
}

func mul(t *testing.T, a, b string) string {
	t.Helper()
	s, e := field.Mul(a, b)
	return must(t, "Mul", s, e)
}

func inv(t *testing.T, a string) string {
	t.Helper()
	s, e := field.Inv(a)
	return must(t, "Inv", s, e)
}

// P4.1
func TestIsSaysWhetherTheNumberIsBelowP(t *testing.T) {
	for _, s := range strings32() {
		if got, want := field.Is(s), number(s).Cmp(prime()) < 0; got != want {
			t.Errorf("Is(%x): %v", s, got)
		}
	}
	for _, s := range elements() {
		if !field.Is(s) {
			t.Errorf("Is(%x): false", s)
		}
	}
}

// P4.1
func TestIsTakesNoOtherLength(t *testing.T) {
	for n := range 100 {
		if got := field.Is(strings.Repeat("\x00", n)); got != (n == 32) {
			t.Errorf("Is of %d zeros: %v", n, got)
		}
		if n != 32 && field.Is(noise(uint32(n), n)) {
			t.Errorf("Is of %d bytes: true", n)
		}
	}
	for _, s := range notElements() {
		if field.Is(s) {
			t.Errorf("Is(%x): true", s)
		}
	}
}

// P4.1
func TestReduceIsTheNumberModuloP(t *testing.T) {
	for _, s := range strings32() {
		if got, e := field.Reduce(s); got != element(number(s)) || e != api.OK {
			t.Errorf("Reduce(%x): %x, %v", s, got, e)
		}
	}
	for _, s := range elements() {
		if got, e := field.Reduce(s); got != s || e != api.OK {
			t.Errorf("Reduce(%x): %x, %v", s, got, e)
		}
	}
}

// P4.1
func TestReduceTakesNoOtherLength(t *testing.T) {
	for n := range 100 {
		if n == 32 {
			continue
		}
		for _, s := range []string{strings.Repeat("\x00", n), strings.Repeat("\xff", n), noise(uint32(n), n)} {
			if got, e := field.Reduce(s); got != "" || e != api.ErrFieldForm {
				t.Errorf("Reduce(%x): %x, %v", s, got, e)
			}
		}
	}
}

// checkPair holds the sum, the difference and the product of two elements
// against those of numbers of any size.
func checkPair(t *testing.T, a, b string) {
	t.Helper()
	x, y := number(a), number(b)
	if got := add(t, a, b); got != element(new(big.Int).Add(x, y)) {
		t.Errorf("Add(%x, %x): %x", a, b, got)
	}
	if got := sub(t, a, b); got != element(new(big.Int).Sub(x, y)) {
		t.Errorf("Sub(%x, %x): %x", a, b, got)
	}
	if got := mul(t, a, b); got != element(new(big.Int).Mul(x, y)) {
		t.Errorf("Mul(%x, %x): %x", a, b, got)
	}
}

// P4.2
func TestSumsDifferencesAndProducts(t *testing.T) {
	few := fewElements()
	for _, a := range few {
		for _, b := range few {
			checkPair(t, a, b)
		}
	}
	all := elements()
	for i, a := range all {
		checkPair(t, a, a)
		checkPair(t, a, all[(i*7+3)%len(all)])
		checkPair(t, all[(i*5+1)%len(all)], a)
	}
}

// P4.2
func TestSumsAndProductsThatPassPOften(t *testing.T) {
	for _, start := range fewElements() {
		sum, power, left := start, start, small(0)
		x, y, z := number(start), number(start), new(big.Int)
		for range 100 {
			sum = add(t, sum, start)
			power = mul(t, power, start)
			left = sub(t, left, start)
			x.Add(x, number(start))
			y.Mul(y, number(start))
			z.Sub(z, number(start))
		}
		if sum != element(x) || power != element(y) || left != element(z) {
			t.Errorf("%x: %x, %x, %x", start, sum, power, left)
		}
	}
}

// P4.2
func TestTheChaptersSumsAndDifferences(t *testing.T) {
	last := element(big.NewInt(-1))
	if got := add(t, last, small(2)); got != small(1) {
		t.Errorf("Add(p - 1, 2): %x", got)
	}
	if got := sub(t, small(0), small(1)); got != last {
		t.Errorf("Sub(0, 1): %x", got)
	}
	if got := add(t, last, small(1)); got != small(0) {
		t.Errorf("Add(p - 1, 1): %x", got)
	}
	if got := mul(t, last, last); got != small(1) {
		t.Errorf("Mul(p - 1, p - 1): %x", got)
	}
}

// P4.2
func TestNoElementIsRefusedAtEachPlaceOfEachCall(t *testing.T) {
	calls := map[string]func(a, b string) (string, api.Errno){
		"Add": field.Add, "Sub": field.Sub, "Mul": field.Mul,
	}
	good := []string{small(0), small(1), element(big.NewInt(-1))}
	for name, call := range calls {
		for i, wrong := range notElements() {
			for _, pair := range [][2]string{{wrong, good[i%3]}, {good[i%3], wrong}, {wrong, wrong}} {
				if got, e := call(pair[0], pair[1]); got != "" || e != api.ErrFieldForm {
					t.Errorf("%s(%x, %x): %x, %v", name, pair[0], pair[1], got, e)
				}
			}
		}
	}
}

// P4.3
func TestInvIsTheElementThatMakesOne(t *testing.T) {
	p := prime()
	for _, a := range elements() {
		want := new(big.Int).ModInverse(number(a), p)
		if want == nil {
			want = new(big.Int)
		}
		if got := inv(t, a); got != bytes(want) {
			t.Errorf("Inv(%x): %x", a, got)
		}
	}
	for n, want := range map[int64]string{
		0:  small(0),
		1:  small(1),
		-1: small(-1),
		2:  element(new(big.Int).Rsh(plus(p, 1), 1)),
	} {
		if got := inv(t, small(n)); got != want {
			t.Errorf("Inv(%d): %x", n, got)
		}
	}
}

// P4.3
func TestInvAndRootRefuseWhatIsNoElement(t *testing.T) {
	for _, wrong := range notElements() {
		if got, e := field.Inv(wrong); got != "" || e != api.ErrFieldForm {
			t.Errorf("Inv(%x): %x, %v", wrong, got, e)
		}
		if got, ok, e := field.Root(wrong); got != "" || ok || e != api.ErrFieldForm {
			t.Errorf("Root(%x): %x, %v, %v", wrong, got, ok, e)
		}
	}
}

// evenRoot is the even root of a number below p, or nil.
func evenRoot(x *big.Int) *big.Int {
	p := prime()
	root := new(big.Int).ModSqrt(x, p)
	if root != nil && root.Bit(0) == 1 {
		root.Sub(p, root)
	}
	return root
}

// checkRoot holds Root of an element against the root of numbers of any size,
// and tells whether there is one.
func checkRoot(t *testing.T, a string) bool {
	t.Helper()
	got, ok, e := field.Root(a)
	want := evenRoot(number(a))
	switch {
	case e != api.OK:
		t.Errorf("Root(%x): error %v", a, e)
	case want == nil && (got != "" || ok):
		t.Errorf("Root(%x): %x, %v, but it is no square", a, got, ok)
	case want != nil && (got != bytes(want) || !ok):
		t.Errorf("Root(%x): %x, %v instead of %x", a, got, ok, bytes(want))
	}
	return want != nil
}

// P4.3
func TestRootIsTheEvenOne(t *testing.T) {
	squares, others := 0, 0
	for _, a := range elements() {
		if checkRoot(t, a) {
			squares++
		} else {
			others++
		}
	}
	for n := range int64(200) {
		checkRoot(t, small(n))
		checkRoot(t, small(-n))
	}
	if squares < 100 || others < 100 {
		t.Errorf("only %d squares and %d others", squares, others)
	}
}

// P4.3: the root of a square comes of a power, and for half of the squares of
// that power times a root of p - 1; either may come out odd.
func TestRootOfSquaresOfAllKinds(t *testing.T) {
	p := prime()
	exponent := new(big.Int).Rsh(plus(p, 3), 3)
	kinds := map[[2]bool]int{}
	for _, a := range elements() {
		x := number(a)
		square := new(big.Int).Mod(new(big.Int).Mul(x, x), p)
		if !checkRoot(t, bytes(square)) {
			t.Errorf("the square of %x is none", a)
		}
		root := new(big.Int).Exp(square, exponent, p)
		again := new(big.Int).Mod(new(big.Int).Mul(root, root), p)
		kinds[[2]bool{again.Cmp(square) == 0, root.Bit(0) == 0}]++
	}
	if len(kinds) != 4 {
		t.Errorf("not all kinds: %v", kinds)
	}
}

// P4.3
func TestTheChaptersRoots(t *testing.T) {
	for n, want := range map[int64]int64{0: 0, 1: -1, 4: 2, 9: -3, 16: 4} {
		got, ok, e := field.Root(small(n))
		if got != small(want) || !ok || e != api.OK {
			t.Errorf("Root(%d): %x, %v, %v", n, got, ok, e)
		}
	}
	if got, ok, e := field.Root(small(2)); got != "" || ok || e != api.OK {
		t.Errorf("Root(2): %x, %v, %v", got, ok, e)
	}
	got, ok, e := field.Root(small(-1))
	if !ok || e != api.OK || got[0]%2 == 1 || mul(t, got, got) != small(-1) {
		t.Errorf("Root(p - 1): %x, %v, %v", got, ok, e)
	}
}

// P4.4
func TestTheLawsOfSumsAndProducts(t *testing.T) {
	few := fewElements()
	for i, a := range few {
		for j, b := range few {
			c := few[(i*3+j*5)%len(few)]
			if add(t, a, b) != add(t, b, a) || mul(t, a, b) != mul(t, b, a) {
				t.Errorf("%x, %x: not commutative", a, b)
			}
			if add(t, add(t, a, b), c) != add(t, a, add(t, b, c)) {
				t.Errorf("%x, %x, %x: sums not associative", a, b, c)
			}
			if mul(t, mul(t, a, b), c) != mul(t, a, mul(t, b, c)) {
				t.Errorf("%x, %x, %x: products not associative", a, b, c)
			}
			if mul(t, a, add(t, b, c)) != add(t, mul(t, a, b), mul(t, a, c)) {
				t.Errorf("%x, %x, %x: not distributive", a, b, c)
			}
			if add(t, sub(t, a, b), b) != a {
				t.Errorf("%x, %x: the difference and b do not make a", a, b)
			}
		}
	}
}

// P4.4
func TestTheProductWithInvIsOne(t *testing.T) {
	for _, a := range elements() {
		want := small(1)
		if a == small(0) {
			want = small(0)
		}
		if got := mul(t, a, inv(t, a)); got != want {
			t.Errorf("%x times its Inv: %x", a, got)
		}
		if inv(t, inv(t, a)) != a {
			t.Errorf("Inv of Inv of %x is another one", a)
		}
	}
}

// P4.4
func TestRootOfASquareIsTheElementOrItsNegative(t *testing.T) {
	for _, a := range elements() {
		root, ok, e := field.Root(mul(t, a, a))
		if !ok || e != api.OK || root != a && root != sub(t, small(0), a) {
			t.Errorf("Root of the square of %x: %x, %v, %v", a, root, ok, e)
		}
	}
}

// What a call answers is the same, whatever was called before.
func TestCallsLeaveNothingBehind(t *testing.T) {
	a, b := element(number(noise(7, 32))), element(number(noise(8, 32)))
	first := []string{add(t, a, b), sub(t, a, b), mul(t, a, b), inv(t, a)}
	field.Mul("", a)
	field.Root(small(2))
	field.Inv(small(0))
	again := []string{add(t, a, b), sub(t, a, b), mul(t, a, b), inv(t, a)}
	for i := range first {
		if first[i] != again[i] {
			t.Errorf("call %d: %x, then %x", i, first[i], again[i])
		}
	}
}
