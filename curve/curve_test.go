package curve_test

import (
	"crypto/ed25519"
	"crypto/sha512"
	"math/big"
	"slices"
	"strings"
	"testing"

	"farrier/api"
	"farrier/curve"
)

// power is 2^n.
func power(n uint) *big.Int { return new(big.Int).Lsh(big.NewInt(1), n) }

// plus is x + n.
func plus(x *big.Int, n int64) *big.Int { return new(big.Int).Add(x, big.NewInt(n)) }

// prime is p.
func prime() *big.Int { return plus(power(255), -19) }

// order is L.
func order() *big.Int {
	above, _ := new(big.Int).SetString("27742317777372353535851937790883648493", 10)
	return above.Add(above, power(252))
}

// orders is n L.
func orders(n int64) *big.Int { return new(big.Int).Mul(order(), big.NewInt(n)) }

// number is the number of bytes: each byte times 256^i.
func number(s string) *big.Int {
	sum := new(big.Int)
	for i := range len(s) {
		byteValue := big.NewInt(int64(s[i]))
		sum.Add(sum, byteValue.Lsh(byteValue, uint(8*i)))
	}
	return sum
}

// bytes are the 32 bytes of a number below 2^256.
func bytes(x *big.Int) string {
	out := x.FillBytes(make([]byte, 32))
	for i := range 16 {
		out[i], out[31-i] = out[31-i], out[i]
	}
	return string(out)
}

// small are the bytes of a small number.
func small(n int64) string { return bytes(big.NewInt(n)) }

// signed are bytes with the most significant bit set.
func signed(s string) string { return s[:31] + string([]byte{s[31] | 128}) }

// noise are n bytes that look like any, from a short rule.
func noise(seed uint32, n int) string {
	out := make([]byte, n)
	for i := range out {
		seed = seed*1664525 + 1013904223
		out[i] = byte(seed >> 24)
	}
	return string(out)
}

// The chapter's words, in numbers of any size.

// product is a times b modulo p.
func product(a, b *big.Int) *big.Int {
	x := new(big.Int).Mul(a, b)
	return x.Mod(x, prime())
}

// fraction is a / b modulo p, for a b that is not 0 modulo p.
func fraction(a, b *big.Int) *big.Int { return product(a, new(big.Int).ModInverse(b, prime())) }

// factor is d.
func factor() *big.Int { return fraction(big.NewInt(-121665), big.NewInt(121666)) }

// pair is a point, as its x and its y.
type pair struct{ x, y *big.Int }

// zero is the point (0, 1).
func zero() pair { return pair{new(big.Int), big.NewInt(1)} }

// isPoint tells whether the equation holds.
func (p pair) isPoint() bool {
	xx, yy := product(p.x, p.x), product(p.y, p.y)
	left := new(big.Int).Sub(yy, xx)
	right := plus(product(factor(), product(xx, yy)), 1)
	return new(big.Int).Mod(left, prime()).Cmp(right.Mod(right, prime())) == 0
}

// sum is that of the chapter's fractions.
func sum(p, q pair) pair {
	all := product(factor(), product(product(p.x, q.x), product(p.y, q.y)))
	one := big.NewInt(1)
	x := new(big.Int).Add(product(p.x, q.y), product(q.x, p.y))
	y := new(big.Int).Add(product(p.y, q.y), product(p.x, q.x))
	return pair{fraction(x, new(big.Int).Add(one, all)), fraction(y, new(big.Int).Sub(one, all))}
}

// negative is the point (-x, y).
func negative(p pair) pair {
	x := new(big.Int).Neg(p.x)
	return pair{x.Mod(x, prime()), p.y}
}

// doubled are p, twice p, four times p, and so on, 259 of them.
func doubled(p pair) []pair {
	list := []pair{p}
	for range 258 {
		p = sum(p, p)
		list = append(list, p)
	}
	return list
}

// times is n times the first of what doubled made.
func times(n *big.Int, list []pair) pair {
	total := zero()
	for i := range n.BitLen() {
		if n.Bit(i) == 1 {
			total = sum(total, list[i])
		}
	}
	return total
}

// coded are the bytes of a point.
func coded(p pair) string {
	if p.x.Bit(0) == 1 {
		return signed(bytes(p.y))
	}
	return bytes(p.y)
}

// told is the point of bytes, and whether they are one's.
func told(s string) (pair, bool) {
	if len(s) != 32 {
		return pair{}, false
	}
	n := number(s)
	sign := n.Bit(255)
	y := n.SetBit(n, 255, 0)
	if y.Cmp(prime()) >= 0 {
		return pair{}, false
	}
	yy := product(y, y)
	x := new(big.Int).ModSqrt(fraction(plus(yy, -1), plus(product(factor(), yy), 1)), prime())
	if x == nil || x.Sign() == 0 && sign == 1 {
		return pair{}, false
	}
	if x.Bit(0) != sign {
		x.Sub(prime(), x)
	}
	return pair{x, y}, true
}

// mustTell is the point of bytes that are one's.
func mustTell(t *testing.T, s string) pair {
	t.Helper()
	p, ok := told(s)
	if !ok || !p.isPoint() || coded(p) != s {
		t.Fatalf("%x is no point's", s)
	}
	return p
}

// base is the point with y = 4 / 5 and an even x.
func base() pair {
	p, _ := told(bytes(fraction(big.NewInt(4), big.NewInt(5))))
	return p
}

// smallOrder are the eight points of which eight copies make Zero: the multiples
// of one of order 8.
func smallOrder(t *testing.T) []pair {
	t.Helper()
	for y := int64(2); y < 100; y++ {
		p, ok := told(small(y))
		if !ok {
			continue
		}
		p = times(order(), doubled(p))
		list := []pair{zero()}
		for range 7 {
			list = append(list, sum(list[len(list)-1], p))
		}
		if coded(list[4]) != coded(zero()) {
			return list
		}
	}
	t.Fatal("no point of order 8")
	return nil
}

// others are points that are not of small order, with all signs, multiples of
// the base and such as are none.
func others(t *testing.T) []pair {
	t.Helper()
	b := base()
	eight := smallOrder(t)[1]
	list := []pair{b, negative(b), sum(b, b), sum(b, eight), sum(negative(b), eight)}
	for seed := uint32(0); len(list) < 15; seed++ {
		if p, ok := told(noise(seed, 32)); ok {
			list = append(list, p)
		}
	}
	for y := int64(3); len(list) < 18; y++ {
		if p, ok := told(small(y)); ok {
			list = append(list, negative(p))
		}
	}
	return list
}

// points are those of small order, and others.
func points(t *testing.T) []pair {
	t.Helper()
	return append(smallOrder(t), others(t)...)
}

// numbers are such as may count points: scalars and others, up to 2^256 - 1.
func numbers() []*big.Int {
	list := []*big.Int{
		order(), plus(order(), -1), plus(order(), 1), plus(power(255), -1), power(255), plus(power(255), 1),
		plus(power(256), -1), plus(power(256), -2), prime(), power(252), orders(8), orders(15), plus(orders(8), 3),
	}
	for _, n := range []int64{0, 1, 2, 3, 4, 7, 8, 9, 15, 255, 256, 1 << 32} {
		list = append(list, big.NewInt(n))
	}
	for i := range uint32(6) {
		list = append(list, number(noise(50+i, 32)))
	}
	return list
}

// without are bytes below p that are no point's, as there is no x for their y.
func without() []string {
	var list []string
	for y := int64(0); y < 60; y++ {
		for _, s := range []string{small(y), bytes(plus(prime(), -y-1)), noise(uint32(y), 31) + "\x00"} {
			if _, ok := told(s); !ok {
				list = append(list, s, signed(s))
			}
		}
	}
	return list
}

// notPoints are strings that are no point's: of other lengths, of a y that is p
// or more, of one without an x, and x 0 with the most significant bit set.
func notPoints() []string {
	list := []string{
		"", strings.Repeat("\x00", 31), strings.Repeat("\x00", 33), strings.Repeat("\x00", 64),
		curve.Base()[:31], curve.Base() + "\x00", curve.Base() + curve.Base(), "\x00" + curve.Base(),
		curve.Zero()[:31], curve.Zero() + "\x00", curve.Zero() + curve.Zero(),
		noise(1, 31), noise(2, 33), noise(3, 64),
		signed(small(1)), signed(bytes(plus(prime(), -1))), strings.Repeat("\xff", 32),
	}
	for n := int64(0); n < 19; n++ {
		y := bytes(plus(prime(), n))
		list = append(list, y, signed(y))
	}
	return append(list, without()...)
}

// otherLengths are strings that do not have 32 bytes.
func otherLengths() []string {
	var list []string
	for _, n := range []int{0, 1, 31, 33, 63, 64, 65, 256} {
		list = append(list, strings.Repeat("\x00", n), strings.Repeat("\xff", n), noise(uint32(n), n))
	}
	return list
}

// must is what a call answered, which must have been without an error.
func must(t *testing.T, what string, got string, e api.Errno) string {
	t.Helper()
	if e != api.OK {
		t.Fatalf("%s: error %v", what, e)
	}
	if _, ok := told(got); !ok {
		t.Fatalf("%s: %x is no point's", what, got)
	}
	return got
}

func add(t *testing.T, p, q string) string {
	t.Helper()
	s, e := curve.Add(p, q)
	return must(t, "Add", s, e)
}

func neg(t *testing.T, p string) string {
	t.Helper()
	s, e := curve.Neg(p)
	return must(t, "Neg", s, e)
}

func mul(t *testing.T, k, p string) string {
	t.Helper()
	s, e := curve.Mul(k, p)
	return must(t, "Mul", s, e)
}

func both(t *testing.T, a, p, b string) string {
	t.Helper()
	s, e := curve.Both(a, p, b)
	return must(t, "Both", s, e)
}

// P6.1
func TestIsSaysWhetherBytesAreAPoints(t *testing.T) {
	var list []string
	for i := range int64(150) {
		list = append(list, small(i), bytes(plus(prime(), -i-1)), bytes(plus(power(255), -i-1)), noise(uint32(i), 32))
	}
	for i := range uint(255) {
		list = append(list, bytes(power(i)))
	}
	points, others := 0, 0
	for _, low := range list {
		for _, s := range []string{low, signed(low)} {
			_, want := told(s)
			if got := curve.Is(s); got != want {
				t.Errorf("Is(%x): %v", s, got)
			}
			if want {
				points++
			} else {
				others++
			}
		}
	}
	if points < 500 || others < 500 {
		t.Errorf("only %d points and %d others", points, others)
	}
}

// P6.1
func TestIsTakesThePointsThatAreMade(t *testing.T) {
	for _, p := range points(t) {
		if !p.isPoint() || !curve.Is(coded(p)) {
			t.Errorf("Is(%x): false", coded(p))
		}
	}
}

// P6.1
func TestIsTakesNothingElse(t *testing.T) {
	for _, s := range append(notPoints(), otherLengths()...) {
		if curve.Is(s) {
			t.Errorf("Is(%x): true", s)
		}
	}
	// The two y whose x is 0, and the one that is 0 and has two x.
	for s, want := range map[string]bool{
		small(1): true, signed(small(1)): false,
		bytes(plus(prime(), -1)): true, signed(bytes(plus(prime(), -1))): false,
		small(0): true, signed(small(0)): true,
	} {
		if got := curve.Is(s); got != want {
			t.Errorf("Is(%x): %v", s, got)
		}
	}
	for n := range 100 {
		if got := curve.Is("\x01" + strings.Repeat("\x00", n)); got != (n == 31) {
			t.Errorf("Is of 1 and %d zeros: %v", n, got)
		}
	}
}

// P6.1
func TestZeroAndBase(t *testing.T) {
	if got := curve.Zero(); got != coded(zero()) || got != "\x01"+strings.Repeat("\x00", 31) {
		t.Errorf("Zero: %x", got)
	}
	if got := curve.Base(); got != coded(base()) || got != "X"+strings.Repeat("f", 31) {
		t.Errorf("Base: %x", got)
	}
	if !curve.Is(curve.Zero()) || !curve.Is(curve.Base()) {
		t.Error("Zero or Base is no point")
	}
}

// P6.2: each kind of point with each, itself and its negative among them.
func TestSumsAreTheChaptersFractions(t *testing.T) {
	all := points(t)
	for _, p := range all {
		for _, q := range slices.Concat(all, []pair{negative(p)}) {
			if got := add(t, coded(p), coded(q)); got != coded(sum(p, q)) {
				t.Errorf("Add(%x, %x): %x", coded(p), coded(q), got)
			}
		}
	}
}

// P6.2: sums come out right however many there were ahead of them.
func TestSumsOfSums(t *testing.T) {
	for i, p := range points(t) {
		total, want := coded(p), p
		q := others(t)[i%18]
		for range 20 {
			total, want = add(t, total, coded(q)), sum(want, q)
			if total != coded(want) {
				t.Fatalf("from %x: %x", coded(p), total)
			}
		}
	}
}

// P6.2
func TestNegIsThePointWithTheOtherX(t *testing.T) {
	for _, p := range points(t) {
		s := coded(p)
		if got := neg(t, s); got != coded(negative(p)) {
			t.Errorf("Neg(%x): %x", s, got)
		}
		if p.x.Sign() != 0 && neg(t, s) == s {
			t.Errorf("Neg(%x) is the same", s)
		}
	}
	for s, want := range map[string]string{
		small(1):                 small(1),
		bytes(plus(prime(), -1)): bytes(plus(prime(), -1)),
		small(0):                 signed(small(0)),
		signed(small(0)):         small(0),
		curve.Base():             signed(curve.Base()),
	} {
		if got := neg(t, s); got != want {
			t.Errorf("Neg(%x): %x", s, got)
		}
	}
}

// P6.2
func TestAddAndNegRefuseWhatIsNoPoint(t *testing.T) {
	good := []string{curve.Zero(), curve.Base(), small(0)}
	for i, wrong := range append(notPoints(), otherLengths()...) {
		for _, two := range [][2]string{{wrong, good[i%3]}, {good[i%3], wrong}, {wrong, wrong}} {
			if got, e := curve.Add(two[0], two[1]); got != "" || e != api.ErrCurveForm {
				t.Errorf("Add(%x, %x): %x, %v", two[0], two[1], got, e)
			}
		}
		if got, e := curve.Neg(wrong); got != "" || e != api.ErrCurveForm {
			t.Errorf("Neg(%x): %x, %v", wrong, got, e)
		}
	}
}

// P6.3
func TestMultiplesAreSumsOfCopies(t *testing.T) {
	for _, p := range points(t) {
		copies := curve.Zero()
		for n := range int64(34) {
			if got := mul(t, small(n), coded(p)); got != copies {
				t.Errorf("Mul(%d, %x): %x", n, coded(p), got)
			}
			copies = add(t, copies, coded(p))
		}
	}
}

// P6.3
func TestMultiplesByNumbersOfAllSizes(t *testing.T) {
	for _, p := range points(t) {
		list := doubled(p)
		for _, n := range numbers() {
			if got := mul(t, bytes(n), coded(p)); got != coded(times(n, list)) {
				t.Errorf("Mul(%x, %x): %x", bytes(n), coded(p), got)
			}
		}
	}
}

// P6.3: each bit counts at its place, at each place of each call.
func TestMultiplesByEachBit(t *testing.T) {
	p := others(t)[5]
	ofP, ofBase := doubled(p), doubled(base())
	for i := range 256 {
		bit := bytes(power(uint(i)))
		if got := mul(t, bit, coded(p)); got != coded(ofP[i]) {
			t.Errorf("Mul by 2^%d: %x", i, got)
		}
		next := (i + 5) % 256
		want := coded(sum(ofP[i], ofBase[next]))
		if got := both(t, bit, coded(p), bytes(power(uint(next)))); got != want {
			t.Errorf("Both by 2^%d and 2^%d: %x", i, next, got)
		}
	}
}

// P6.3: points of small order come round, whatever the number.
func TestMultiplesOfPointsOfSmallOrder(t *testing.T) {
	eight := smallOrder(t)
	found := map[string]int{}
	for i, p := range eight {
		found[coded(p)] = i
		for _, n := range numbers() {
			rest := new(big.Int).Mod(new(big.Int).Mul(n, big.NewInt(int64(i))), big.NewInt(8)).Int64()
			if got := mul(t, bytes(n), coded(p)); got != coded(eight[rest]) {
				t.Errorf("Mul(%x, %x): %x", bytes(n), coded(p), got)
			}
			if got := both(t, bytes(n), coded(p), small(0)); got != coded(eight[rest]) {
				t.Errorf("Both(%x, %x, 0): %x", bytes(n), coded(p), got)
			}
		}
	}
	// Those of order 1, 2 and 4 are known by their y.
	if len(found) != 8 || found[small(1)] != 0 || found[bytes(plus(prime(), -1))] != 4 {
		t.Errorf("order 1 and 2: %v", found)
	}
	if one, other := found[small(0)], found[signed(small(0))]; one*other != 2*6 {
		t.Errorf("order 4: %v", found)
	}
}

// P6.3: numbers are not reduced: it shows with points that are no multiples of
// the base.
func TestNumbersAreNotReduced(t *testing.T) {
	eight := smallOrder(t)
	mixed := sum(base(), eight[1])
	if got := mul(t, bytes(order()), coded(mixed)); got == curve.Zero() || got != coded(times(order(), doubled(eight[1]))) {
		t.Errorf("L times %x: %x", coded(mixed), got)
	}
	if got := mul(t, bytes(orders(8)), coded(mixed)); got != curve.Zero() {
		t.Errorf("8 L times %x: %x", coded(mixed), got)
	}
	if got := both(t, bytes(order()), coded(mixed), bytes(order())); got != coded(times(order(), doubled(eight[1]))) {
		t.Errorf("L times %x and the base: %x", coded(mixed), got)
	}
}

// P6.3
func TestBothIsTheSumOfTheMultiples(t *testing.T) {
	ofBase := doubled(base())
	counts := numbers()
	for i, p := range points(t) {
		list := doubled(p)
		for j := i % 2; j < len(counts); j += 2 {
			a, b := counts[j], counts[(i*3+j*7)%len(counts)]
			want := coded(sum(times(a, list), times(b, ofBase)))
			if got := both(t, bytes(a), coded(p), bytes(b)); got != want {
				t.Errorf("Both(%x, %x, %x): %x", bytes(a), coded(p), bytes(b), got)
			}
		}
	}
}

// P6.3
func TestBothWithNoughtAtEitherPlace(t *testing.T) {
	counts := numbers()
	for i, p := range points(t) {
		s := coded(p)
		for j := i % 3; j < len(counts); j += 3 {
			k := bytes(counts[j])
			if got := both(t, k, s, small(0)); got != mul(t, k, s) {
				t.Errorf("Both(%x, %x, 0): %x", k, s, got)
			}
			if got := both(t, small(0), s, k); got != mul(t, k, curve.Base()) {
				t.Errorf("Both(0, %x, %x): %x", s, k, got)
			}
		}
		if got := both(t, small(0), s, small(0)); got != curve.Zero() {
			t.Errorf("Both(0, %x, 0): %x", s, got)
		}
	}
}

// P6.3: a times p and b times the base are one point, or one the other's Neg.
func TestBothOfMultiplesAlike(t *testing.T) {
	for _, c := range []int64{1, 2, 3, 5, 8, 1 << 40} {
		p := mul(t, small(c), curve.Base())
		for _, a := range numbers() {
			n := new(big.Int).Mul(a, big.NewInt(c))
			b := bytes(n.Mod(n, order()))
			one := mul(t, bytes(a), p)
			if got := both(t, bytes(a), p, b); got != add(t, one, one) {
				t.Errorf("Both(%x, %d times the base, %x): %x", bytes(a), c, b, got)
			}
			if got := both(t, bytes(a), neg(t, p), b); got != curve.Zero() {
				t.Errorf("Both(%x, - %d times the base, %x): %x", bytes(a), c, b, got)
			}
		}
	}
}

// P6.3
func TestMulAndBothRefuseWhatIsNoPoint(t *testing.T) {
	counts := []string{small(0), small(1), bytes(order()), strings.Repeat("\xff", 32)}
	for i, wrong := range append(notPoints(), otherLengths()...) {
		k := counts[i%4]
		if got, e := curve.Mul(k, wrong); got != "" || e != api.ErrCurveForm {
			t.Errorf("Mul(%x, %x): %x, %v", k, wrong, got, e)
		}
		if got, e := curve.Both(k, wrong, counts[(i+1)%4]); got != "" || e != api.ErrCurveForm {
			t.Errorf("Both(%x, %x, ..): %x, %v", k, wrong, got, e)
		}
	}
}

// P6.3
func TestMulAndBothRefuseNumbersOfOtherLengths(t *testing.T) {
	good := []string{small(0), small(1), strings.Repeat("\xff", 32)}
	for i, wrong := range otherLengths() {
		k := good[i%3]
		for _, p := range []string{curve.Base(), curve.Zero(), wrong, ""} {
			if got, e := curve.Mul(wrong, p); got != "" || e != api.ErrCurveForm {
				t.Errorf("Mul(%x, %x): %x, %v", wrong, p, got, e)
			}
			for _, two := range [][2]string{{wrong, k}, {k, wrong}, {wrong, wrong}} {
				if got, e := curve.Both(two[0], p, two[1]); got != "" || e != api.ErrCurveForm {
					t.Errorf("Both(%x, %x, %x): %x, %v", two[0], p, two[1], got, e)
				}
			}
		}
	}
	// Two lengths that are right together only.
	if got, e := curve.Both(noise(1, 31), curve.Base(), noise(2, 33)); got != "" || e != api.ErrCurveForm {
		t.Errorf("Both of 31 and 33 bytes: %x, %v", got, e)
	}
}

// P6.4
func TestTheLawsOfSums(t *testing.T) {
	all := points(t)
	for i, p := range all {
		a := coded(p)
		if add(t, a, curve.Zero()) != a || add(t, curve.Zero(), a) != a {
			t.Errorf("%x: Zero is not neutral", a)
		}
		if add(t, a, neg(t, a)) != curve.Zero() || add(t, neg(t, a), a) != curve.Zero() {
			t.Errorf("%x: the sum with its Neg is not Zero", a)
		}
		if neg(t, neg(t, a)) != a {
			t.Errorf("Neg of Neg of %x is another one", a)
		}
		for j, q := range all {
			b, c := coded(q), coded(all[(i*3+j*5)%len(all)])
			if add(t, a, b) != add(t, b, a) {
				t.Errorf("%x, %x: not commutative", a, b)
			}
			if add(t, add(t, a, b), c) != add(t, a, add(t, b, c)) {
				t.Errorf("%x, %x, %x: not associative", a, b, c)
			}
		}
	}
}

// P6.4
func TestMultiplesByASumAreTheSumsOfTheMultiples(t *testing.T) {
	counts := numbers()
	for i, p := range points(t) {
		s := coded(p)
		for j := i % 2; j < len(counts); j += 2 {
			a, b := counts[j], counts[(i*5+j*3)%len(counts)]
			n := new(big.Int).Add(a, b)
			if n.BitLen() > 256 {
				continue
			}
			if got := mul(t, bytes(n), s); got != add(t, mul(t, bytes(a), s), mul(t, bytes(b), s)) {
				t.Errorf("%x times %x: %x", bytes(n), s, got)
			}
		}
	}
}

// P6.4
func TestTheBaseComesRoundAtL(t *testing.T) {
	b := curve.Base()
	for n := int64(1); n <= 15; n++ {
		if got := mul(t, bytes(orders(n)), b); got != curve.Zero() {
			t.Errorf("%d L times the base: %x", n, got)
		}
		if got := mul(t, bytes(plus(orders(n), -1)), b); got != neg(t, b) {
			t.Errorf("%d L - 1 times the base: %x", n, got)
		}
		if got := mul(t, bytes(plus(orders(n), 1)), b); got != b {
			t.Errorf("%d L + 1 times the base: %x", n, got)
		}
	}
	for _, k := range []string{bytes(order()), small(0)} {
		if got := both(t, k, b, bytes(order())); got != curve.Zero() {
			t.Errorf("Both of %x and L: %x", k, got)
		}
	}
}

// The multiples of the base are the public keys that others make, too.
func TestMultiplesOfTheBaseArePublicKeys(t *testing.T) {
	for i := range uint32(30) {
		seed := noise(i, 32)
		hash := sha512.Sum512([]byte(seed))
		secret := hash[:32]
		secret[0] &= 248
		secret[31] = secret[31]&63 | 64
		want := string(ed25519.NewKeyFromSeed([]byte(seed)).Public().(ed25519.PublicKey))
		if got := mul(t, string(secret), curve.Base()); got != want {
			t.Errorf("seed %x: %x", seed, got)
		}
		if got := both(t, small(0), curve.Zero(), string(secret)); got != want {
			t.Errorf("seed %x: Both %x", seed, got)
		}
	}
}

// The chapter's examples.
func TestTheChaptersExamples(t *testing.T) {
	if got := curve.Base(); got != "\x58"+strings.Repeat("\x66", 31) {
		t.Errorf("Base: %x", got)
	}
	for _, p := range points(t) {
		if got := mul(t, small(0), coded(p)); got != small(1) {
			t.Errorf("Mul(0, %x): %x", coded(p), got)
		}
	}
	if got := add(t, curve.Base(), neg(t, curve.Base())); got != curve.Zero() {
		t.Errorf("the sum of Base and its Neg: %x", got)
	}
	if curve.Is(strings.Repeat("\xff", 32)) || curve.Is(signed(curve.Zero())) {
		t.Error("Is of 32 bytes 255, or of Zero with the most significant bit: true")
	}
}

// What a call answers is the same, whatever was called before.
func TestCallsLeaveNothingBehind(t *testing.T) {
	list := others(t)
	p, q := coded(list[5]), coded(list[6])
	k, n := noise(7, 32), noise(8, 32)
	call := func() []string {
		return []string{curve.Zero(), curve.Base(), add(t, p, q), neg(t, p), mul(t, k, p), both(t, k, p, n)}
	}
	first := call()
	curve.Add("", p)
	curve.Neg(signed(curve.Zero()))
	curve.Mul(small(3), coded(zero()))
	curve.Both("x", p, k)
	for i, again := range call() {
		if first[i] != again {
			t.Errorf("call %d: %x, then %x", i, first[i], again)
		}
	}
}
