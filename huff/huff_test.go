package huff_test

import (
	"math"
	"math/big"
	"slices"
	"strconv"
	"strings"
	"testing"

	"farrier/api"
	"farrier/huff"
)

// Codes by the chapter's words, as texts of the digits 0 and 1.

// ordered are the symbols that have a code, the shorter ones first.
func ordered(lengths []int) []int {
	var symbols []int
	for length := 1; length <= 15; length++ {
		for symbol, l := range lengths {
			if l == length {
				symbols = append(symbols, symbol)
			}
		}
	}
	return symbols
}

// plusOne is the text of the number behind, as long as the text.
func plusOne(text string) string {
	last := strings.LastIndex(text, "0")
	return text[:last] + "1" + strings.Repeat("0", len(text)-last-1)
}

// spelt are the symbols' codes; "" of those that have none.
func spelt(lengths []int) []string {
	texts := make([]string, len(lengths))
	before := ""
	for _, symbol := range ordered(lengths) {
		text := ""
		if before != "" {
			text = plusOne(before)
		}
		text += strings.Repeat("0", lengths[symbol]-len(before))
		texts[symbol], before = text, text
	}
	return texts
}

// value is the number of a text; 0 of none.
func value(text string) int {
	n, _ := strconv.ParseInt("0"+text, 2, 64)
	return int(n)
}

// fault is what P8.1 answers of lengths, with fractions instead of shares.
func fault(lengths []int) api.Errno {
	if len(lengths) > 288 {
		return api.ErrHuffForm
	}
	sum, coded := new(big.Rat), 0
	for _, length := range lengths {
		if length < 0 || length > 15 {
			return api.ErrHuffForm
		}
		if length > 0 {
			sum.Add(sum, big.NewRat(1, 1<<length))
			coded++
		}
	}
	switch half, one := big.NewRat(1, 2), big.NewRat(1, 1); {
	case sum.Cmp(one) > 0:
		return api.ErrHuffMany
	case sum.Cmp(one) == 0 || coded == 0 || coded == 1 && sum.Cmp(half) == 0:
		return api.OK
	}
	return api.ErrHuffFew
}

// bitAt is a bit of a string as a digit; "" behind its end.
func bitAt(s string, bit int) string {
	if bit >= 8*len(s) {
		return ""
	}
	power := 1
	for range bit % 8 {
		power *= 2
	}
	return strconv.Itoa(int(s[bit/8]) / power % 2)
}

// readBy is what P8.2 answers, bit by bit, for a bit that is not negative.
func readBy(codes []string, s string, bit int) (int, int, api.Errno) {
	read := ""
	for {
		begins := false
		for symbol, code := range codes {
			if code != "" && code == read {
				return symbol, bit, api.OK
			}
			begins = begins || code != "" && strings.HasPrefix(code, read)
		}
		if !begins {
			return 0, 0, api.ErrHuffCode
		}
		digit := bitAt(s, bit)
		if digit == "" {
			return 0, 0, api.ErrHuffEnd
		}
		read += digit
		bit++
	}
}

// packed are bits as bytes, with 0 for those of the last byte that are missing.
func packed(text string) string {
	out := make([]byte, (len(text)+7)/8)
	for i, digit := range text {
		if digit == '1' {
			out[i/8] |= 1 << (i % 8)
		}
	}
	return string(out)
}

// Lengths.

// chance are numbers that look like any, from a short rule.
type chance uint32

// below is the next one, below n.
func (c *chance) below(n int) int {
	*c = *c*1664525 + 1013904223
	return int(*c>>8) % n
}

// bits are n digits.
func (c *chance) bits(n int) string {
	var text strings.Builder
	for range n {
		text.WriteString(strconv.Itoa(c.below(2)))
	}
	return text.String()
}

// shuffled are the numbers of a list in another order.
func shuffled(c *chance, list []int) []int {
	list = slices.Clone(list)
	for i := range list {
		j := c.below(i + 1)
		list[i], list[j] = list[j], list[i]
	}
	return list
}

// grown are n lengths whose share is 2^15: again and again one of them becomes
// two that are longer by one.
func grown(c *chance, n int) []int {
	list := []int{0}
	for len(list) < n {
		if i := c.below(len(list)); list[i] < 15 {
			list[i]++
			list = append(list, list[i])
		}
	}
	return list
}

// spread are the lengths and zeros, n in all, in another order.
func spread(c *chance, list []int, n int) []int {
	return shuffled(c, append(slices.Clone(list), make([]int, n-len(list))...))
}

// rising are the lengths 1, 2, 3 and so on.
func rising(last int) []int {
	var list []int
	for length := 1; length <= last; length++ {
		list = append(list, length)
	}
	return list
}

// each is 1 to 15 and another 15: all lengths, with a share of 2^15.
func each() []int { return append(rising(15), 15) }

// repeated is a length n times.
func repeated(length, n int) []int { return slices.Repeat([]int{length}, n) }

// fixedLiterals are the literal lengths of DEFLATE's fixed codes.
func fixedLiterals() []int {
	return slices.Concat(repeated(8, 144), repeated(9, 112), repeated(7, 24), repeated(8, 8))
}

// fullLists have a share of 2^15.
func fullLists() [][]int {
	c := new(chance)
	upside := each()
	slices.Reverse(upside)
	list := [][]int{
		{3, 3, 3, 3, 3, 2, 4, 4}, {2, 1, 3, 3}, {1, 1}, {0, 1, 0, 0, 1, 0}, {1, 2, 2}, {2, 2, 1},
		each(), upside, shuffled(c, each()), spread(c, each(), 17), spread(c, each(), 288),
		fixedLiterals(), repeated(5, 32),
		append(rising(7), repeated(15, 256)...), spread(c, append(rising(7), repeated(15, 256)...), 288),
	}
	for n := 2; n <= 8; n++ {
		list = append(list, repeated(n, 1<<n))
	}
	for _, n := range []int{3, 4, 5, 10, 19, 30, 32, 100, 257, 286, 287, 288} {
		list = append(list, shuffled(c, grown(c, n)), spread(c, grown(c, n), 288))
	}
	return list
}

// looseLists are those whose codes leave bits out: none, or one of the length 1.
func looseLists() [][]int {
	single := make([]int, 288)
	single[287] = 1
	return [][]int{nil, {}, {0}, {0, 0}, make([]int, 288), {1}, {0, 1}, {1, 0, 0}, single}
}

func goodLists() [][]int { return append(fullLists(), looseLists()...) }

// everyList calls back with the lengths and whatever longer list begins with
// them, up to so many lengths, each further one from low to high.
func everyList(lengths []int, most, low, high int, with func([]int)) {
	with(lengths)
	for next := low; next <= high && len(lengths) < most; next++ {
		everyList(append(slices.Clone(lengths), next), most, low, high, with)
	}
}

// Checks.

// table is that of good lengths.
func table(t *testing.T, lengths []int) *huff.Table {
	t.Helper()
	made, e := huff.New(lengths)
	if e != api.OK || made == nil {
		t.Fatalf("New(%v): %v, %v", lengths, made, e)
	}
	return made
}

// checkCodes holds the answers of Codes and New against the chapter's words.
func checkCodes(t *testing.T, lengths []int) {
	t.Helper()
	want := fault(lengths)
	codes, e := huff.Codes(lengths)
	made, madeError := huff.New(lengths)
	if e != want || madeError != want || (made != nil) != (want == api.OK) {
		t.Fatalf("lengths %v: Codes %v, New %v, %v instead of %v", lengths, e, made, madeError, want)
	}
	if want != api.OK {
		if len(codes) > 0 {
			t.Fatalf("Codes(%v): %v beside %v", lengths, codes, e)
		}
		return
	}
	var numbers []int
	for _, text := range spelt(lengths) {
		numbers = append(numbers, value(text))
	}
	if !slices.Equal(codes, numbers) {
		t.Fatalf("Codes(%v): %v instead of %v", lengths, codes, numbers)
	}
}

// checkFault holds the answers of Codes and New against an error.
func checkFault(t *testing.T, lengths []int, want api.Errno) {
	t.Helper()
	if codes, e := huff.Codes(lengths); len(codes) > 0 || e != want {
		t.Errorf("Codes(%v): %v, %v instead of %v", lengths, codes, e, want)
	}
	if made, e := huff.New(lengths); made != nil || e != want {
		t.Errorf("New(%v): %v, %v instead of %v", lengths, made, e, want)
	}
}

// checkRead holds Read's answer against another.
func checkRead(t *testing.T, made *huff.Table, s string, bit, symbol, next int, want api.Errno) {
	t.Helper()
	if gotSymbol, gotNext, e := made.Read(s, bit); gotSymbol != symbol || gotNext != next || e != want {
		t.Fatalf("Read(%x, %d): %d, %d, %v instead of %d, %d, %v", s, bit, gotSymbol, gotNext, e, symbol, next, want)
	}
}

// Codes.

// P8.1
func TestCodesSayTheExamples(t *testing.T) {
	for _, c := range []struct{ lengths, want []int }{
		{[]int{3, 3, 3, 3, 3, 2, 4, 4}, []int{2, 3, 4, 5, 6, 0, 14, 15}},
		{[]int{0, 1}, []int{0, 0}},
		{[]int{1}, []int{0}},
		{[]int{1, 1}, []int{0, 1}},
		{[]int{2, 1, 3, 3}, []int{2, 0, 6, 7}},
		{[]int{2, 2, 2, 2}, []int{0, 1, 2, 3}},
		{[]int{0, 3, 0, 3, 1, 2, 0}, []int{0, 6, 0, 7, 0, 2, 0}},
		{each(), []int{0, 2, 6, 14, 30, 62, 126, 254, 510, 1022, 2046, 4094, 8190, 16382, 32766, 32767}},
		{[]int{}, []int{}},
		{[]int{0, 0, 0}, []int{0, 0, 0}},
	} {
		if codes, e := huff.Codes(c.lengths); !slices.Equal(codes, c.want) || e != api.OK {
			t.Errorf("Codes(%v): %v, %v instead of %v", c.lengths, codes, e, c.want)
		}
		checkCodes(t, c.lengths)
	}
	checkFault(t, []int{1, 1, 1}, api.ErrHuffMany)
	checkFault(t, []int{2}, api.ErrHuffFew)
}

// P8.1: the bits are those of RFC 1951, section 3.2.6.
func TestCodesSayTheFixedCodes(t *testing.T) {
	codes, e := huff.Codes(fixedLiterals())
	if len(codes) != 288 || e != api.OK {
		t.Fatalf("%d codes, %v", len(codes), e)
	}
	for _, row := range []struct {
		first, last int
		text        string
	}{{0, 143, "00110000"}, {144, 255, "110010000"}, {256, 279, "0000000"}, {280, 287, "11000000"}} {
		for symbol := row.first; symbol <= row.last; symbol++ {
			if want := value(row.text) + symbol - row.first; codes[symbol] != want {
				t.Errorf("symbol %d: %b instead of %b", symbol, codes[symbol], want)
			}
		}
	}
	codes, e = huff.Codes(repeated(5, 32))
	if e != api.OK || len(codes) != 32 {
		t.Fatalf("%d codes, %v", len(codes), e)
	}
	for symbol, code := range codes {
		if code != symbol {
			t.Errorf("distance %d: %b", symbol, code)
		}
	}
}

// P8.1
func TestCodesAreThoseOfTheChaptersWords(t *testing.T) {
	reached := map[int]bool{}
	for _, lengths := range goodLists() {
		if fault(lengths) != api.OK {
			t.Fatalf("the test is wrong about %v", lengths)
		}
		checkCodes(t, lengths)
		for _, length := range lengths {
			reached[length] = true
		}
	}
	if len(reached) != 16 {
		t.Errorf("the lists have lengths %v alone", reached)
	}
}

// P8.1: a code is, as a part of the whole, what all codes ahead of it take up.
func TestCodesAreTheSharesAhead(t *testing.T) {
	for _, lengths := range fullLists() {
		codes, e := huff.Codes(lengths)
		if e != api.OK || len(codes) != len(lengths) {
			t.Fatalf("Codes(%v): %v, %v", lengths, codes, e)
		}
		ahead := 0
		for _, symbol := range ordered(lengths) {
			share := 1 << (15 - lengths[symbol])
			if codes[symbol]*share != ahead {
				t.Errorf("lengths %v, symbol %d: %d times %d instead of %d", lengths, symbol, codes[symbol], share, ahead)
			}
			ahead += share
		}
	}
}

// P8.1
func TestNoCodesAtAll(t *testing.T) {
	checkCodes(t, nil)
	for n := range 289 {
		lengths := make([]int, n)
		if codes, e := huff.Codes(lengths); !slices.Equal(codes, lengths) || e != api.OK {
			t.Errorf("Codes of %d zeros: %v, %v", n, codes, e)
		}
		table(t, lengths)
	}
	checkFault(t, make([]int, 289), api.ErrHuffForm)
}

// P8.1
func TestASingleSymbol(t *testing.T) {
	for _, n := range []int{1, 2, 3, 19, 30, 32, 287, 288} {
		for symbol := range n {
			lengths := make([]int, n)
			for length := 1; length <= 15; length++ {
				lengths[symbol] = length
				if length > 1 {
					checkFault(t, lengths, api.ErrHuffFew)
				} else if codes, e := huff.Codes(lengths); !slices.Equal(codes, make([]int, n)) || e != api.OK {
					t.Errorf("Codes(%v): %v, %v", lengths, codes, e)
				}
			}
			lengths[symbol] = 16
			checkFault(t, lengths, api.ErrHuffForm)
		}
	}
}

// P8.1: 2^14 is the share of one code of the length 1, and of others too, which
// are refused.
func TestCodesThatShareAsMuchAsASingleOne(t *testing.T) {
	for length := 2; length <= 9; length++ {
		half := repeated(length, 1<<(length-1))
		checkFault(t, half, api.ErrHuffFew)
		checkFault(t, append(half, 0), api.ErrHuffFew)
		table(t, append(half, 1))
	}
	checkFault(t, each()[1:], api.ErrHuffFew)
	table(t, each())
}

// P8.1
func TestTwoSymbols(t *testing.T) {
	table(t, []int{1, 1})
	for i := 1; i <= 15; i++ {
		for j := 2; j <= 15; j++ {
			for _, lengths := range [][]int{{i, j}, {j, i}, {0, i, 0, 0, j, 0}} {
				checkFault(t, lengths, api.ErrHuffFew)
			}
		}
	}
}

// P8.1
func TestSharesAboutTheWhole(t *testing.T) {
	c := new(chance)
	for _, lengths := range fullLists() {
		checkCodes(t, lengths)
		if len(lengths) < 288 {
			checkFault(t, append(slices.Clone(lengths), 15), api.ErrHuffMany)
			checkFault(t, append([]int{1}, lengths...), api.ErrHuffMany)
		}
		for range 30 {
			i := c.below(len(lengths))
			if lengths[i] == 0 {
				continue
			}
			for _, other := range []int{0, 1, 2, 7, 14, 15, lengths[i] - 1, lengths[i] + 1} {
				changed := slices.Clone(lengths)
				changed[i] = other
				checkCodes(t, changed)
			}
		}
	}
	// One below, the whole itself, one above.
	for _, more := range [][]int{nil, make([]int, 271)} {
		checkFault(t, append(rising(15), more...), api.ErrHuffFew)
		checkCodes(t, append(each(), more...))
		checkFault(t, append(append(each(), 15), more...), api.ErrHuffMany)
	}
	few := append(rising(7), repeated(15, 255)...)
	checkFault(t, few, api.ErrHuffFew)
	checkFault(t, append(few, 15, 15), api.ErrHuffMany)
	for length := 1; length <= 15; length++ {
		for _, n := range []int{2, 3, 4, 5, 7, 8, 9, 15, 16, 17, 31, 32, 33, 63, 64, 65, 127, 128, 129, 255, 256, 257, 287, 288} {
			checkCodes(t, repeated(length, n))
		}
	}
}

// P8.1
func TestLengthsThatMayNotBe(t *testing.T) {
	wrong := []int{16, 17, 31, 32, 63, 64, 65, 255, 256, 257, -1, -2, -15, -16, -64, 1 << 31, 1 << 32, 1<<32 + 1, -1 << 31, -1 << 32, 1 - 1<<32, 1 << 62, math.MaxInt - 1, math.MaxInt, math.MinInt, math.MinInt + 1}
	// With the others, the share is the whole, or more, or less.
	others := [][]int{nil, make([]int, 287), {1, 1}, {1, 1, 1}, {2}, {1}, repeated(1, 287), repeated(15, 287), each()}
	for _, length := range wrong {
		for _, list := range others {
			for _, at := range []int{0, len(list) / 2, len(list)} {
				checkFault(t, slices.Insert(slices.Clone(list), at, length), api.ErrHuffForm)
			}
		}
	}
}

// P8.1
func TestMoreLengthsThanMayBe(t *testing.T) {
	for _, n := range []int{289, 290, 512, 1000, 1 << 15, 1 << 20} {
		for _, list := range [][]int{nil, {1}, {1, 1}, {1, 1, 1}, {2}, {-1}, {16}, each()} {
			checkFault(t, append(slices.Clone(list), make([]int, n-len(list))...), api.ErrHuffForm)
			checkFault(t, append(make([]int, n-len(list)), list...), api.ErrHuffForm)
		}
		checkFault(t, repeated(1, n), api.ErrHuffForm)
		checkFault(t, repeated(15, n), api.ErrHuffForm)
	}
	checkFault(t, append(slices.Clone(fixedLiterals()), 0), api.ErrHuffForm)
}

// P8.1
func TestCodesOfAllShortLists(t *testing.T) {
	check := func(lengths []int) { checkCodes(t, lengths) }
	everyList(nil, 3, -1, 16, check)
	everyList(nil, 6, 0, 4, check)
}

// P8.1: what was answered is its owner's, with what memory stands behind it.
func TestCodesAnswersAreNewMemory(t *testing.T) {
	for _, lengths := range goodLists() {
		first, _ := huff.Codes(lengths)
		kept := slices.Clone(first)
		whole := first[:cap(first)]
		for i := range whole {
			whole[i] = 99
		}
		if second, e := huff.Codes(lengths); !slices.Equal(second, kept) || e != api.OK {
			t.Errorf("Codes(%v): %v, and then %v, %v", lengths, kept, second, e)
		}
		checkCodes(t, lengths)
	}
}

// P8.1
func TestLengthsAreLeftAsTheyAre(t *testing.T) {
	for _, list := range append(goodLists(), []int{1, 1, 1}, []int{2}, []int{16}, make([]int, 289)) {
		whole := append(slices.Clone(list), 1, 15, 7)
		kept := slices.Clone(whole)
		codes, _ := huff.Codes(whole[:len(list)])
		huff.New(whole[:len(list)])
		for i := range codes {
			codes[i] = 99
		}
		if !slices.Equal(whole, kept) {
			t.Errorf("lengths %v became %v", kept, whole)
		}
	}
}

// Reading.

// P8.2
func TestReadSaysTheExamples(t *testing.T) {
	made := table(t, []int{2, 1, 3, 3})
	const s = "\xd9\x01" // 10 0 110 111 0, and six bits more
	for _, x := range []struct {
		bit, symbol, next int
		e                 api.Errno
	}{
		{0, 0, 2, api.OK}, {2, 1, 3, api.OK}, {3, 2, 6, api.OK}, {6, 3, 9, api.OK}, {9, 1, 10, api.OK},
		{1, 1, 2, api.OK}, {4, 0, 6, api.OK}, {5, 1, 6, api.OK}, {7, 2, 10, api.OK}, {8, 0, 10, api.OK},
		{15, 1, 16, api.OK}, {16, 0, 0, api.ErrHuffEnd},
	} {
		checkRead(t, made, s, x.bit, x.symbol, x.next, x.e)
	}
	checkRead(t, made, "\xff", 6, 0, 0, api.ErrHuffEnd)
	checkRead(t, made, "\x01", -1, 0, 0, api.ErrHuffForm)
}

// P8.2
func TestReadOfEachCodeFromAnyBitOn(t *testing.T) {
	c := new(chance)
	for _, lengths := range goodLists() {
		made := table(t, lengths)
		for symbol, code := range spelt(lengths) {
			if code == "" {
				continue
			}
			for at := range 19 {
				ahead := c.bits(at)
				for _, behind := range []string{"", strings.Repeat("0", 24), strings.Repeat("1", 24), c.bits(24)} {
					checkRead(t, made, packed(ahead+code+behind), at, symbol, at+len(code), api.OK)
				}
			}
		}
	}
}

// P8.2
func TestReadFarIntoAString(t *testing.T) {
	lengths := each()
	made := table(t, lengths)
	for _, bytes := range []int{31, 32, 255, 256, 8191, 8192, 1 << 20} {
		for symbol, code := range spelt(lengths) {
			for bit := range 9 {
				at := 8*bytes + bit
				s := strings.Repeat("\xff", bytes) + packed(strings.Repeat("1", bit)+code)
				checkRead(t, made, s, at, symbol, at+len(code), api.OK)
			}
		}
	}
}

// P8.2
func TestReadOfSymbolsBehindEachOther(t *testing.T) {
	c := new(chance)
	for _, lengths := range goodLists() {
		made, codes, coded := table(t, lengths), spelt(lengths), ordered(lengths)
		if len(coded) == 0 {
			continue
		}
		var text strings.Builder
		var symbols []int
		for range 1000 {
			symbol := coded[c.below(len(coded))]
			symbols = append(symbols, symbol)
			text.WriteString(codes[symbol])
		}
		s, bit := packed(text.String()), 0
		for _, symbol := range symbols {
			next := bit + lengths[symbol]
			checkRead(t, made, s, bit, symbol, next, api.OK)
			bit = next
		}
		if bit != text.Len() {
			t.Errorf("lengths %v: %d bits instead of %d", lengths, bit, text.Len())
		}
	}
}

// P8.2: the string has as many bits of a code as fit into its last byte.
func TestReadOfCodesUpToTheEnd(t *testing.T) {
	c := new(chance)
	for _, lengths := range goodLists() {
		made := table(t, lengths)
		for symbol, code := range spelt(lengths) {
			for there := range code {
				for at := range 24 {
					if (at+there)%8 == 0 {
						checkRead(t, made, packed(c.bits(at)+code[:there]), at, 0, 0, api.ErrHuffEnd)
					}
				}
			}
			for at := range 24 {
				if code != "" && (at+len(code))%8 == 0 {
					checkRead(t, made, packed(c.bits(at)+code), at, symbol, at+len(code), api.OK)
				}
			}
		}
	}
}

// P8.2
func TestReadAtTheEndAndBehindIt(t *testing.T) {
	for _, lengths := range goodLists() {
		made, want := table(t, lengths), api.ErrHuffEnd
		if len(ordered(lengths)) == 0 {
			want = api.ErrHuffCode
		}
		for _, s := range []string{"", "\x00", "\xff", "\x00\xff", strings.Repeat("\x00", 100), strings.Repeat("\xff", 1<<16)} {
			end := 8 * len(s)
			for _, bit := range []int{end, end + 1, end + 7, end + 8, end + 9, 2*end + 16, 1 << 31, 1 << 32, 1<<32 + 1, 1 << 35, 1 << 40, 1 << 61, 1 << 62, math.MaxInt - 7, math.MaxInt - 1, math.MaxInt} {
				checkRead(t, made, s, bit, 0, 0, want)
			}
		}
	}
}

// P8.2
func TestReadAtNegativeBits(t *testing.T) {
	for _, lengths := range goodLists() {
		made := table(t, lengths)
		for _, s := range []string{"", "\x00", "\xff", strings.Repeat("\x5a", 100)} {
			for _, bit := range []int{-1, -2, -7, -8, -9, -64, -1 << 31, -1 << 32, -1 << 40, math.MinInt, math.MinInt + 1, math.MinInt + 8} {
				checkRead(t, made, s, bit, 0, 0, api.ErrHuffForm)
			}
		}
	}
}

// P8.2
func TestReadWithASingleSymbol(t *testing.T) {
	c := new(chance)
	for _, n := range []int{1, 2, 30, 288} {
		for _, symbol := range []int{0, n / 2, n - 1} {
			lengths := make([]int, n)
			lengths[symbol] = 1
			made, s := table(t, lengths), packed(c.bits(200)+"10110")
			for bit := range 8 * len(s) {
				if bitAt(s, bit) == "0" {
					checkRead(t, made, s, bit, symbol, bit+1, api.OK)
				} else {
					checkRead(t, made, s, bit, 0, 0, api.ErrHuffCode)
				}
			}
			// A bit 1 is no code's beginning, whether or not a bit follows.
			checkRead(t, made, "\x80", 7, 0, 0, api.ErrHuffCode)
			checkRead(t, made, "\x80\x00", 7, 0, 0, api.ErrHuffCode)
			checkRead(t, made, "\x7f", 7, symbol, 8, api.OK)
			checkRead(t, made, "\x7f", 8, 0, 0, api.ErrHuffEnd)
		}
	}
}

// P8.2
func TestReadWithoutSymbols(t *testing.T) {
	for _, lengths := range [][]int{nil, {}, {0}, make([]int, 19), make([]int, 288)} {
		made := table(t, lengths)
		for _, s := range []string{"", "\x00", "\xff", "\x00\x00", strings.Repeat("\xa5", 50)} {
			for _, bit := range []int{0, 1, 7, 8, 9, 15, 16, 399, 400, 401, 1 << 40, math.MaxInt} {
				checkRead(t, made, s, bit, 0, 0, api.ErrHuffCode)
			}
			checkRead(t, made, s, -1, 0, 0, api.ErrHuffForm)
		}
	}
}

// P8.2
func TestReadOfAllBytesWithAllShortLists(t *testing.T) {
	everyList(nil, 5, 0, 4, func(lengths []int) {
		if fault(lengths) != api.OK {
			return
		}
		made, codes := table(t, lengths), spelt(lengths)
		for b := range 256 {
			s := string([]byte{byte(b)})
			for bit := range 10 {
				symbol, next, want := readBy(codes, s, bit)
				checkRead(t, made, s, bit, symbol, next, want)
			}
		}
	})
}

// P8.2
func TestReadOfAnyBytes(t *testing.T) {
	c := new(chance)
	for _, lengths := range goodLists() {
		made, codes := table(t, lengths), spelt(lengths)
		s := packed(c.bits(240))
		for bit := range 8*len(s) + 2 {
			symbol, next, want := readBy(codes, s, bit)
			checkRead(t, made, s, bit, symbol, next, want)
		}
	}
}

// P8.2
func TestLengthsChangedBehindNew(t *testing.T) {
	c := new(chance)
	for _, list := range goodLists() {
		lengths := append(slices.Clone(list), 1, 2)[:len(list)]
		made, codes := table(t, lengths), spelt(list)
		for i := range lengths {
			lengths[i] = 15 - lengths[i]
		}
		huff.New(lengths)
		numbers, _ := huff.Codes(list)
		for i := range numbers {
			numbers[i] = 99
		}
		table(t, []int{1, 1})
		s := packed(c.bits(64))
		for range 2 { // and reading leaves nothing behind
			for bit := range 66 {
				symbol, next, want := readBy(codes, s, bit)
				checkRead(t, made, s, bit, symbol, next, want)
			}
			made.Read("", 0)
			made.Read(s, -1)
		}
	}
}

// What follows.

// P8.3
func TestNoCodeBeginsAnother(t *testing.T) {
	for _, lengths := range goodLists() {
		codes, e := huff.Codes(lengths)
		if e != api.OK || len(codes) != len(lengths) {
			t.Fatalf("Codes(%v): %v, %v", lengths, codes, e)
		}
		coded := ordered(lengths)
		for i, short := range coded {
			if codes[short]>>lengths[short] != 0 {
				t.Errorf("lengths %v, symbol %d: %b", lengths, short, codes[short])
			}
			for _, long := range coded[i+1:] {
				if codes[long]>>(lengths[long]-lengths[short]) == codes[short] {
					t.Errorf("lengths %v: the code of %d begins that of %d", lengths, short, long)
				}
			}
		}
	}
}

// P8.3: of all 2^15 strings of 15 bits, each symbol has its share.
func TestFifteenBitsSuffice(t *testing.T) {
	for _, lengths := range goodLists() {
		made := table(t, lengths)
		found, none := make([]int, len(lengths)), 0
		for n := range 1 << 15 {
			s := string([]byte{byte(n << 1), byte(n >> 7)})
			symbol, next, e := made.Read(s, 1)
			if e == api.ErrHuffCode {
				none++
			} else if e != api.OK || next != 1+lengths[symbol] {
				t.Fatalf("lengths %v, Read(%x, 1): %d, %d, %v", lengths, s, symbol, next, e)
			} else {
				found[symbol]++
			}
		}
		all := none
		for symbol, length := range lengths {
			want := 0
			if length > 0 {
				want = 1 << (15 - length)
			}
			if found[symbol] != want {
				t.Errorf("lengths %v, symbol %d: %d times instead of %d", lengths, symbol, found[symbol], want)
			}
			all += want
		}
		if all != 1<<15 {
			t.Errorf("lengths %v: ErrHuffCode %d times", lengths, none)
		}
	}
}
