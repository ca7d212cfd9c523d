package tests

import (
	"fmt"
	"math"
	"math/rand"
	"slices"
	"strconv"
	"strings"
	"testing"

	"loop.example/g00625/impl"
)

// boundCode binds each number from 0 to 3, and 0 once more; its binds are 3 words apart.
func boundCode() []string {
	return sum("bind 0 1 bind 1 2 bind 2 3 bind 3 4 bind 0 5 ask 0")
}

// bindPlate is a PlBind of the bind that is the which-th one of boundCode.
func bindPlate(which int64, v impl.Value) impl.Plate {
	return impl.Plate{Kind: impl.PlBind, At: 3 * which, Value: v}
}

// plateOf is an ordinary plate of that Kind.
func plateOf(kind int64, at int64) impl.Plate {
	return kindsOfPlates()[kind-1].with(at, number(at+100))
}

// isPlaceOf asks of a plate's At what BoundIn asks of it.
func isPlaceOf(code []string, p impl.Plate) bool {
	if p.Kind != 6 {
		return p.At >= 0
	}
	return p.At >= 0 && p.At <= int64(len(code))-2
}

// boundBy reads BoundIn again from the document, apart from the program's own: from the top down, plate by plate.
func boundBy(code []string, l []impl.Plate, n int64) (impl.Value, bool) {
	if slices.ContainsFunc(l, func(p impl.Plate) bool { return !isPlaceOf(code, p) }) {
		return impl.Value{}, false
	}
	for at := len(l) - 1; at >= 0; at-- {
		if l[at].Kind == 6 && -1e9 < n && n < 1e9 && code[l[at].At+1] == strconv.FormatInt(n, 10) {
			return l[at].Value, true
		}
	}
	return impl.Value{}, false
}

// placeBy is the place of the topmost plate of one of the kinds, from the bottom up.
func placeBy(l []impl.Plate, kinds ...int64) int64 {
	place := int64(-1)
	for at, p := range l {
		if slices.Contains(kinds, p.Kind) {
			place = int64(at)
		}
	}
	return place
}

func countBy(l []impl.Plate, kind int64) int64 {
	kinds := []int64{}
	for _, p := range l {
		kinds = append(kinds, p.Kind)
	}
	slices.Sort(kinds)
	first, _ := slices.BinarySearch(kinds, kind)
	return int64(len(slices.DeleteFunc(kinds[first:], func(other int64) bool { return other != kind })))
}

// tellPlates cuts what is told of plates: a list may be very long.
func tellPlates(l []impl.Plate) string {
	text := fmt.Sprintf("%d plates %v", len(l), l[:min(len(l), 20)])
	return text[:min(len(text), 2000)]
}

func checkBound(t *testing.T, code []string, l []impl.Plate, n int64, want impl.Value) {
	t.Helper()
	if v, is := impl.BoundIn(code, l, n); !is || v != want {
		t.Fatalf("BoundIn(%.300q, %s, %d) is %v %v, want %v", code, tellPlates(l), n, v, is, want)
	}
}

func checkNotBound(t *testing.T, code []string, l []impl.Plate, n int64) {
	t.Helper()
	if v, is := impl.BoundIn(code, l, n); is || v != (impl.Value{}) {
		t.Fatalf("BoundIn(%.300q, %s, %d) is %v %v, want the zero Value and false", code, tellPlates(l), n, v, is)
	}
}

func checkBoundBy(t *testing.T, code []string, l []impl.Plate, n int64) {
	t.Helper()
	if want, is := boundBy(code, l, n); is {
		checkBound(t, code, l, n, want)
		return
	}
	checkNotBound(t, code, l, n)
}

func checkPlaces(t *testing.T, l []impl.Plate, mark int64, catcher int64) {
	t.Helper()
	if at := impl.MarkAt(l); at != mark {
		t.Fatalf("MarkAt(%s) is %d, want %d", tellPlates(l), at, mark)
	}
	if at := impl.CatcherAt(l); at != catcher {
		t.Fatalf("CatcherAt(%s) is %d, want %d", tellPlates(l), at, catcher)
	}
}

func checkCount(t *testing.T, l []impl.Plate, kind int64, want int64) {
	t.Helper()
	if count := impl.CountOf(l, kind); count != want {
		t.Fatalf("CountOf(%s, %d) is %d, want %d", tellPlates(l), kind, count, want)
	}
}

func kindsAsked() []int64 { return append(wrongKinds(), 1, 2, 3, 4, 5, 6, 7, 8) }

// checkLook holds all that looks down against the readings of the test.
func checkLook(t *testing.T, code []string, l []impl.Plate) {
	t.Helper()
	for n := int64(-1); n <= 4; n++ {
		checkBoundBy(t, code, l, n)
	}
	checkPlaces(t, l, placeBy(l, 8), placeBy(l, 7, 3))
	for _, kind := range kindsAsked() {
		checkCount(t, l, kind, countBy(l, kind))
	}
}

// Promise 7: what is bound on top hides what is bound below.
func TestWhatIsBoundOnTopHidesWhatIsBoundBelow(t *testing.T) {
	code := boundCode()
	below, above := bindPlate(0, number(10)), bindPlate(4, number(20))
	checkBound(t, code, []impl.Plate{below}, 0, number(10))
	checkBound(t, code, []impl.Plate{below, above}, 0, number(20))
	checkBound(t, code, []impl.Plate{above, below}, 0, number(10))
	// One bind may stand on several plates.
	checkBound(t, code, []impl.Plate{below, bindPlate(0, number(30))}, 0, number(30))
	checkBound(t, code, []impl.Plate{below, above, bindPlate(0, number(0))}, 0, number(0))
	checkBound(t, code, []impl.Plate{below, above, bindPlate(0, piece(4))}, 0, piece(4))
	for _, k := range kindsOfPlates() {
		if k.kind != impl.PlBind {
			other := k.with(3, number(99))
			checkBound(t, code, []impl.Plate{other, below, other, above, other, other}, 0, number(20))
		}
	}
	l := []impl.Plate{}
	for size := range int64(impl.MaxPlates) {
		l = append(l, bindPlate(4*(size%2), number(size)))
		checkBound(t, code, l, 0, number(size))
		for n := int64(1); n <= 3; n++ {
			checkNotBound(t, code, l, n)
		}
	}
}

// Promise 7: one number does not hide another one.
func TestDifferentNumbersAreBoundSideBySide(t *testing.T) {
	code := boundCode()
	l := []impl.Plate{}
	for n := range int64(4) {
		l = append(l, bindPlate(n, number(n+10)), plateOf(impl.PlMark, 0))
		for other := range int64(4) {
			if other <= n {
				checkBound(t, code, l, other, number(other+10))
				continue
			}
			checkNotBound(t, code, l, other)
		}
	}
	l = append(l, bindPlate(2, number(-5)))
	for n, want := range []int64{10, 11, -5, 13} {
		checkBound(t, code, l, int64(n), number(want))
	}
	slices.Reverse(l)
	for n, want := range []int64{10, 11, 12, 13} {
		checkBound(t, code, l, int64(n), number(want))
	}
}

// Whatever is bound is told as it is, a Value that is not right too.
func TestValuesThatAreBound(t *testing.T) {
	for _, v := range append(rightValues(), wrongValues()...) {
		for which := range int64(5) {
			checkBound(t, boundCode(), []impl.Plate{bindPlate(which, v)}, which%4, v)
		}
	}
	// Its Arg is not what is bound.
	strange := impl.Plate{Kind: impl.PlBind, Arg: number(7), Value: number(8)}
	checkBound(t, boundCode(), []impl.Plate{strange}, 0, number(8))
}

func TestWhereNothingIsBound(t *testing.T) {
	for _, code := range [][]string{nil, {}, sum("1"), boundCode(), everyWord()} {
		for _, n := range numbersOutOfRange() {
			checkNotBound(t, code, nil, n)
			checkNotBound(t, code, []impl.Plate{}, n)
		}
		for n := range int64(4) {
			checkNotBound(t, code, nil, n)
			for _, k := range kindsOfPlates() {
				if k.kind != impl.PlBind {
					checkNotBound(t, code, []impl.Plate{k.with(0, number(1)), k.with(3, number(2))}, n)
				}
			}
			for _, kind := range wrongKinds() {
				checkNotBound(t, code, []impl.Plate{{Kind: kind, Value: number(1)}}, n)
			}
		}
	}
}

func numbersOutOfRange() []int64 {
	return []int64{-1, -2, 4, 5, 10, 256, 1 << 32, 1 << 62, -256, -1 << 32, 999999999, 1000000000, math.MinInt64, math.MinInt64 + 1, math.MaxInt64 - 1, math.MaxInt64}
}

func TestNumbersThatAreNotAsked(t *testing.T) {
	code := boundCode()
	l := []impl.Plate{bindPlate(0, number(1)), bindPlate(1, number(2)), bindPlate(2, number(3)), bindPlate(3, number(4))}
	for _, n := range numbersOutOfRange() {
		checkNotBound(t, code, l, n)
	}
}

// One At below 0 is enough, of whatever Kind, and wherever it is.
func TestPlacesBelowNought(t *testing.T) {
	code := boundCode()
	l := []impl.Plate{bindPlate(0, number(1)), plateOf(impl.PlTry, 4), bindPlate(1, number(2))}
	for _, kind := range kindsAsked() {
		for _, at := range []int64{-1, -2, -60, -1 << 32, math.MinInt64, math.MinInt64 + 1} {
			for place := range len(l) + 1 {
				wrong := slices.Insert(slices.Clone(l), place, impl.Plate{Kind: kind, At: at})
				for n := int64(-2); n <= 4; n++ {
					checkNotBound(t, code, wrong, n)
				}
			}
			checkNotBound(t, code, []impl.Plate{{Kind: kind, At: at, Value: number(3)}}, 0)
			checkNotBound(t, nil, []impl.Plate{{Kind: kind, At: at}}, 0)
		}
	}
	checkBound(t, code, l, 0, number(1))
	checkBound(t, code, l, 1, number(2))
}

// A PlBind needs a word behind it, a plate of another Kind does not.
func TestPlacesBeyondTheCode(t *testing.T) {
	code := boundCode()
	size := int64(len(code))
	l := []impl.Plate{bindPlate(0, number(1)), plateOf(impl.PlTry, 4), bindPlate(1, number(2))}
	for _, at := range []int64{size - 1, size, size + 1, size + 60, 1 << 32, math.MaxInt64 - 1, math.MaxInt64} {
		for _, kind := range kindsAsked() {
			for place := range len(l) + 1 {
				more := slices.Insert(slices.Clone(l), place, impl.Plate{Kind: kind, At: at, Value: number(9)})
				if kind == impl.PlBind {
					for n := int64(-1); n <= 4; n++ {
						checkNotBound(t, code, more, n)
					}
					continue
				}
				checkBound(t, code, more, 0, number(1))
				checkBound(t, code, more, 1, number(2))
				checkNotBound(t, code, more, 2)
			}
		}
	}
	// The last word but one has one word behind it.
	checkBound(t, code, append(l, impl.Plate{Kind: impl.PlBind, At: size - 2, Value: number(7)}), 0, number(7))
	checkBound(t, sum("bind 2"), []impl.Plate{{Kind: impl.PlBind, Value: number(7)}}, 2, number(7))
}

func TestBoundInShortCodes(t *testing.T) {
	bound := []impl.Plate{{Kind: impl.PlBind, Value: number(1)}}
	for _, code := range [][]string{nil, {}, sum("bind"), sum("0"), {""}} {
		for n := int64(-1); n <= 4; n++ {
			checkNotBound(t, code, bound, n)
			checkNotBound(t, code, append(bound, plateOf(impl.PlMark, 0)), n)
		}
	}
	// What stands in the spare room behind the code is not of it.
	checkNotBound(t, boundCode()[:1], bound, 0)
	checkBound(t, boundCode()[:2], bound, 0, number(1))
	checkNotBound(t, boundCode(), []impl.Plate{plateOf(impl.PlMark, 0), bound[0]}[:1], 0)
}

func wordsOfNoNumber() []string {
	return []string{
		"", "x", "arg", "ask", "bind", "p0", "p1", "p", "-", "--1", "+0", "+1", "-0", "00", "01", "007", "-01", "0000000001", "00000000000", "00000000001",
		" 0", "0 ", "1 ", "0\n", "0\x00", "\x00", "1\x000", "0x0", "0x1", "1e0", "0.0", "1_0", "a0", "0a", "\u0966", "1234567890", "-1234567890", "1000000000", "9223372036854775807", "9223372036854775808", "99999999999999999999",
	}
}

// What is bound to a word that is no number hides nothing, and is asked by no number; the others are told as ever.
func TestWordsBehindBindThatAreNoNumber(t *testing.T) {
	asked := append(numbersOutOfRange(), -9, 0, 1, 2, 3, 7, 1234567890, -1234567890, 1000000001)
	for _, word := range wordsOfNoNumber() {
		code := []string{"bind", word, "5", "bind", "0", "5", "ask", "0"}
		strange, known := bindPlate(0, number(8)), bindPlate(1, number(9))
		for _, n := range asked {
			checkNotBound(t, code, []impl.Plate{strange}, n)
			if n != 0 {
				checkNotBound(t, code, []impl.Plate{strange, known, strange}, n)
			}
		}
		for _, l := range [][]impl.Plate{{strange, known}, {known, strange}, {strange, known, strange, strange}} {
			checkBound(t, code, l, 0, number(9))
		}
	}
}

// A number of up to nine digits is one number, not the digits it has.
func TestNumbersOfSeveralDigits(t *testing.T) {
	numbers := []int64{-999999999, -99999999, -1000001, -31, -10, -3, -1, 0, 1, 2, 3, 4, 9, 10, 12, 13, 21, 30, 31, 33, 100, 300, 256, 1000000, 1000001, 99999999, 100000000, 123456789, 999999999}
	for _, n := range numbers {
		code := []string{"bind", strconv.FormatInt(n, 10), "5", "bind", "3", "5", "ask", "3"}
		for _, other := range numbers {
			switch other {
			case n:
				checkBound(t, code, []impl.Plate{bindPlate(0, number(8))}, other, number(8))
			default:
				checkNotBound(t, code, []impl.Plate{bindPlate(0, number(8))}, other)
			}
			checkBoundBy(t, code, []impl.Plate{bindPlate(0, number(8)), bindPlate(1, number(9))}, other)
			checkBoundBy(t, code, []impl.Plate{bindPlate(1, number(9)), bindPlate(0, number(8))}, other)
		}
	}
}

// MarkAt and CatcherAt of lists whose Kinds are told, the topmost one last.
func TestPlacesOfMarksAndCatchers(t *testing.T) {
	for _, c := range []struct {
		kinds   []int64
		mark    int64
		catcher int64
	}{
		{nil, -1, -1},
		{[]int64{impl.PlFirst, impl.PlSecond, impl.PlGive, impl.PlToss, impl.PlBind}, -1, -1},
		{[]int64{impl.PlMark}, 0, -1},
		{[]int64{impl.PlTry}, -1, 0},
		{[]int64{impl.PlKeep}, -1, 0},
		{[]int64{impl.PlTry, impl.PlMark}, 1, 0},
		{[]int64{impl.PlMark, impl.PlTry}, 0, 1},
		{[]int64{impl.PlMark, impl.PlBind, impl.PlMark, impl.PlFirst}, 2, -1},
		{[]int64{impl.PlTry, impl.PlKeep, impl.PlGive}, -1, 1},
		{[]int64{impl.PlKeep, impl.PlTry, impl.PlToss}, -1, 1},
		{[]int64{impl.PlTry, impl.PlFirst, impl.PlTry, impl.PlFirst, impl.PlKeep, impl.PlFirst, impl.PlKeep, impl.PlSecond}, -1, 6},
		{[]int64{impl.PlKeep, impl.PlMark, impl.PlTry, impl.PlMark, impl.PlKeep, impl.PlMark, impl.PlBind}, 5, 4},
	} {
		l := []impl.Plate{}
		for at, kind := range c.kinds {
			l = append(l, plateOf(kind, int64(at)))
		}
		checkPlaces(t, l, c.mark, c.catcher)
	}
}

func TestCountOfKinds(t *testing.T) {
	l := []impl.Plate{}
	for kind := int64(1); kind <= 8; kind++ {
		for range kind {
			l = append(l, plateOf(kind, kind))
		}
	}
	for range 3 {
		for kind := int64(1); kind <= 8; kind++ {
			checkCount(t, l, kind, kind)
			checkCount(t, l[1:], kind, countBy(l[1:], kind))
			checkCount(t, nil, kind, 0)
			checkCount(t, []impl.Plate{}, kind, 0)
			checkCount(t, []impl.Plate{plateOf(kind, 1)}, kind, 1)
			checkCount(t, []impl.Plate{plateOf(kind, 1)}, kind%8+1, 0)
		}
		for _, kind := range wrongKinds() {
			checkCount(t, l, kind, 0)
			checkCount(t, nil, kind, 0)
		}
		slices.Reverse(l)
		l = append(l[7:], l[:7]...)
	}
}

// Kinds that are none hide nothing, catch nothing and mark nothing; they are counted as what they are.
func TestLookOfKindsThatAreNone(t *testing.T) {
	code := boundCode()
	for _, kind := range wrongKinds() {
		strange := impl.Plate{Kind: kind, At: 3, Value: number(50)}
		l := []impl.Plate{strange, bindPlate(1, number(1)), strange, plateOf(impl.PlTry, 0), plateOf(impl.PlMark, 0), strange}
		checkBound(t, code, l, 1, number(1))
		checkPlaces(t, l, 4, 3)
		checkCount(t, l, kind, 3)
		checkPlaces(t, []impl.Plate{strange, strange}, -1, -1)
		checkLook(t, code, l)
	}
	for _, p := range wrongPlates() {
		checkLook(t, code, []impl.Plate{p})
		checkLook(t, code, []impl.Plate{bindPlate(0, number(1)), plateOf(impl.PlKeep, 0), p, plateOf(impl.PlMark, 0), bindPlate(1, number(2))})
	}
	checkCount(t, wrongPlates(), impl.PlMark, countBy(wrongPlates(), impl.PlMark))
}

// Where the At of a PlBind stands at another word, what is behind that word counts.
func TestBindsAtOtherWords(t *testing.T) {
	for _, code := range append(ordinarySums(), everyWord(), boundCode(), sum("0 1 2 3"), sum("arg say 3 keep x")) {
		for at := range int64(len(code)) + 1 {
			l := []impl.Plate{{Kind: impl.PlBind, At: at, Value: number(at)}}
			checkLook(t, code, l)
			checkLook(t, code, append(l, impl.Plate{Kind: impl.PlBind, At: at / 2, Value: number(-at)}))
		}
	}
}

// lookPlates are what lists are made of: a plate of each Kind, and binds of several numbers.
func lookPlates() []impl.Plate {
	plates := []impl.Plate{}
	for _, k := range kindsOfPlates() {
		plates = append(plates, k.with(0, number(k.kind+20)))
	}
	return append(plates, bindPlate(1, number(31)), bindPlate(4, piece(2)))
}

func TestLookOfAllShortLists(t *testing.T) {
	code := boundCode()
	lists := [][]impl.Plate{{}}
	for size := 0; size <= 4; size++ {
		longer := [][]impl.Plate{}
		for _, l := range lists {
			checkLook(t, code, l)
			for _, p := range lookPlates() {
				longer = append(longer, append(slices.Clone(l), p))
			}
		}
		lists = longer
	}
}

func madeLookPlate(random *rand.Rand) impl.Plate {
	places := []int64{math.MinInt64, -1, 15, 16, 17, 60, math.MaxInt64}
	p := lookPlates()[random.Intn(10)]
	switch random.Intn(60) {
	case 0:
		p.At = places[random.Intn(len(places))]
	case 1:
		p.Kind = wrongKinds()[random.Intn(len(wrongKinds()))]
	case 2:
		p.Value = wrongValues()[random.Intn(len(wrongValues()))]
	case 3:
		p.At = random.Int63n(16)
	default:
		p.Value.N = random.Int63n(20)
	}
	return p
}

// Promises 7 and 21: of longer lists, right or not, all is told as the document tells.
func TestLookOfMadeLists(t *testing.T) {
	random := rand.New(rand.NewSource(7))
	code := boundCode()
	seen, missed := 0, 0
	for range 20000 {
		l := []impl.Plate{}
		for range random.Intn(impl.MaxPlates + 10) {
			l = append(l, madeLookPlate(random))
		}
		checkLook(t, code, l)
		if _, is := boundBy(code, l, 0); is {
			seen++
		} else {
			missed++
		}
	}
	if seen < 2000 || missed < 2000 {
		t.Errorf("0 was bound in %d of the lists, and not in %d", seen, missed)
	}
}

// More plates than a pile can have are looked through to the end.
func TestMorePlatesThanMaxPlates(t *testing.T) {
	code := boundCode()
	for _, count := range []int{impl.MaxPlates - 1, impl.MaxPlates, impl.MaxPlates + 1, 200, 100000} {
		for _, kind := range []int64{impl.PlFirst, impl.PlBind} {
			l := append([]impl.Plate{bindPlate(1, number(5)), plateOf(impl.PlMark, 0), plateOf(impl.PlKeep, 0)}, slices.Repeat([]impl.Plate{plateOf(kind, 0)}, count)...)
			checkBound(t, code, l, 1, number(5))
			checkPlaces(t, l, 1, 2)
			checkCount(t, l, impl.PlKeep, 1)
			checkCount(t, l, kind, countBy(l, kind))
			l = append(l, bindPlate(1, number(6)), plateOf(impl.PlTry, 0), plateOf(impl.PlMark, 0))
			checkBound(t, code, l, 1, number(6))
			checkPlaces(t, l, int64(len(l)-1), int64(len(l)-2))
			checkCount(t, l, impl.PlMark, 2)
			checkNotBound(t, code, append(l, impl.Plate{At: -1}), 1)
		}
	}
}

// Promise 21: every function answers at every argument and none panics.
func TestLookAnswersAtExtremes(t *testing.T) {
	const many = 1 << 20
	ends := []int64{math.MinInt64, math.MinInt64 + 1, -1, 0, 1, 2, 3, 6, 7, 8, 9, 59, 60, math.MaxInt64 - 1, math.MaxInt64}
	for _, code := range [][]string{nil, {""}, sum("bind"), sum("bind 1"), boundCode(), slices.Repeat(sum("1"), 100)} {
		for _, kind := range ends {
			for _, at := range ends {
				l := []impl.Plate{{Kind: kind, At: at, Arg: impl.Value{Kind: at, N: kind}, Value: impl.Value{Kind: kind, N: at}}}
				for _, n := range ends {
					checkBoundBy(t, code, l, n)
					checkBoundBy(t, code, append(l, l...), n)
				}
				checkLook(t, code, l)
			}
		}
	}
	for _, digit := range []string{"0", "1", "-", "+", "x", "\x00", "\xff", "-1"} {
		long := strings.Repeat(digit, many)
		l := slices.Repeat([]impl.Plate{bindPlate(0, number(3))}, 1000)
		for _, n := range append(numbersOutOfRange(), 0, 1) {
			checkNotBound(t, []string{"bind", long, "1"}, l[:1], n)
		}
		checkNotBound(t, []string{"bind", long, "1"}, l, 0)
	}
	code := slices.Repeat(sum("bind 3"), many)
	checkBound(t, code, []impl.Plate{{Kind: impl.PlBind, At: 2*many - 2, Value: number(1)}}, 3, number(1))
	checkNotBound(t, code, []impl.Plate{{Kind: impl.PlBind, At: 2*many - 1}}, 3)
	zero := make([]impl.Plate, many)
	checkNotBound(t, code, zero, 3)
	checkPlaces(t, zero, -1, -1)
	checkCount(t, zero, 0, many)
}

// Promise 21: arguments stay, the spare room behind them too.
func TestLookLeavesArguments(t *testing.T) {
	lists := [][]impl.Plate{nil, somePlates(), lookPlates(), wrongPlates()[:20], slices.Repeat(lookPlates(), 8), append(lookPlates(), impl.Plate{At: -1})}
	for _, words := range [][]string{nil, sum("bind"), boundCode(), everyWord(), append(sum("bind"), wordsOfNoNumber()...)} {
		for _, plates := range lists {
			code, l := joined(words, sum("spare 0 0")), slices.Concat(plates, lookPlates())
			codeBefore, before := slices.Clone(code), slices.Clone(l)
			for n := int64(-1); n <= 4; n++ {
				impl.BoundIn(code[:len(words)], l[:len(plates)], n)
			}
			impl.MarkAt(l[:len(plates)])
			impl.CatcherAt(l[:len(plates)])
			for _, kind := range kindsAsked() {
				impl.CountOf(l[:len(plates)], kind)
			}
			if !slices.Equal(code, codeBefore) || !slices.Equal(l, before) {
				t.Errorf("%q and %v became %q and %v", codeBefore, before, code, l)
			}
		}
	}
}

// Promise 21: no call leaves anything behind for the next one.
func TestLookKeepsNothing(t *testing.T) {
	code := boundCode()
	full := []impl.Plate{bindPlate(0, number(1)), bindPlate(1, number(2))}
	for range 3 {
		checkBound(t, code, full, 0, number(1))
		checkNotBound(t, code, full[1:], 0)
		checkBound(t, code, full[1:], 1, number(2))
		checkNotBound(t, code, append(slices.Clone(full), impl.Plate{At: -1}), 1)
		checkNotBound(t, code, nil, 1)
	}
}
