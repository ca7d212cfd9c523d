package tests

import (
	"math"
	"strconv"
	"strings"
	"testing"

	"loop.example/g00625/impl"
)

func number(n int64) impl.Value { return impl.Value{Kind: impl.VaNumber, N: n} }

func piece(n int64) impl.Value { return impl.Value{Kind: impl.VaPiece, N: n} }

func rightNumbers() []impl.Value {
	return []impl.Value{
		number(-impl.MaxNumber), number(-impl.MaxNumber + 1), number(-12345), number(-10), number(-1),
		number(0), number(1), number(9), number(10), number(99999), number(impl.MaxNumber - 1), number(impl.MaxNumber),
	}
}

func rightPieces() []impl.Value {
	return []impl.Value{piece(0), piece(1), piece(9), piece(10), piece(impl.MaxPieces - 1)}
}

func wrongValues() []impl.Value {
	return []impl.Value{
		number(impl.MaxNumber + 1), number(-impl.MaxNumber - 1), number(math.MaxInt64), number(math.MinInt64),
		piece(impl.MaxPieces), piece(-1), piece(math.MaxInt64), piece(math.MinInt64),
		{Kind: -1}, {Kind: 2}, {Kind: 2, N: 5}, {Kind: math.MaxInt64, N: 1}, {Kind: math.MinInt64, N: 1},
	}
}

// checkRefused holds a result that tells of nothing against the zero Value and false.
func checkRefused(t *testing.T, what string, v impl.Value, is bool) {
	t.Helper()
	if is || v != (impl.Value{}) {
		t.Errorf("%s: %v %v, want the zero Value and false", what, v, is)
	}
}

func TestLimitsOfValues(t *testing.T) {
	if impl.VaNumber != 0 || impl.VaPiece != 1 || impl.MaxNumber != 1000000 || impl.MaxPieces != 20 {
		t.Error("a constant is not as the document tells")
	}
}

func TestValueOk(t *testing.T) {
	for _, v := range append(rightNumbers(), rightPieces()...) {
		if !impl.ValueOk(v) {
			t.Errorf("%v is refused", v)
		}
	}
	for _, v := range wrongValues() {
		if impl.ValueOk(v) {
			t.Errorf("%v is accepted", v)
		}
	}
}

func TestNumberStaysWithinItsLimits(t *testing.T) {
	for _, c := range []struct{ n, want int64 }{
		{0, 0}, {7, 7}, {-7, -7},
		{impl.MaxNumber - 1, impl.MaxNumber - 1}, {impl.MaxNumber, impl.MaxNumber}, {impl.MaxNumber + 1, impl.MaxNumber},
		{-impl.MaxNumber + 1, -impl.MaxNumber + 1}, {-impl.MaxNumber, -impl.MaxNumber}, {-impl.MaxNumber - 1, -impl.MaxNumber},
		{math.MaxInt64, impl.MaxNumber}, {math.MinInt64, -impl.MaxNumber},
	} {
		if v := impl.Number(c.n); v != number(c.want) {
			t.Errorf("Number(%d) is %v, want %d", c.n, v, c.want)
		}
	}
}

// Promise 1: ReadValue of ShowValue is the value.
func TestReadOfShownIsTheValue(t *testing.T) {
	for n := int64(-impl.MaxNumber); n <= impl.MaxNumber; n++ {
		checkShownAndRead(t, number(n), strconv.FormatInt(n, 10))
	}
	for n := int64(0); n < impl.MaxPieces; n++ {
		checkShownAndRead(t, piece(n), "p"+strconv.FormatInt(n, 10))
	}
}

func checkShownAndRead(t *testing.T, v impl.Value, text string) {
	t.Helper()
	if s := impl.ShowValue(v); s != text {
		t.Fatalf("%v is shown as %q, want %q", v, s, text)
	}
	if w, is := impl.ReadValue(text); !is || w != v {
		t.Fatalf("%q is read as %v %v, want %v", text, w, is, v)
	}
}

// Promise 1: sums of values are values.
func TestSumsOfNumbersAreNumbers(t *testing.T) {
	for _, a := range rightNumbers() {
		for _, b := range rightNumbers() {
			want := min(max(a.N+b.N, -impl.MaxNumber), impl.MaxNumber)
			if v, is := impl.Added(a, b); !is || v != number(want) || !impl.ValueOk(v) {
				t.Errorf("%d and %d: %v %v, want %d", a.N, b.N, v, is, want)
			}
		}
	}
}

func TestAddedAtItsLimits(t *testing.T) {
	for _, c := range []struct{ a, b, want int64 }{
		{2, 3, 5}, {2, -3, -1}, {-2, -3, -5}, {0, 0, 0},
		{impl.MaxNumber - 1, 1, impl.MaxNumber}, {impl.MaxNumber, 1, impl.MaxNumber}, {impl.MaxNumber, impl.MaxNumber, impl.MaxNumber},
		{-impl.MaxNumber + 1, -1, -impl.MaxNumber}, {-impl.MaxNumber, -1, -impl.MaxNumber}, {-impl.MaxNumber, -impl.MaxNumber, -impl.MaxNumber},
		{impl.MaxNumber, -impl.MaxNumber, 0},
	} {
		if v, is := impl.Added(number(c.a), number(c.b)); !is || v != number(c.want) {
			t.Errorf("%d and %d: %v %v, want %d", c.a, c.b, v, is, c.want)
		}
	}
}

func TestBelowIsOneOrNothing(t *testing.T) {
	for _, a := range rightNumbers() {
		for _, b := range rightNumbers() {
			want := number(0)
			if a.N < b.N {
				want = number(1)
			}
			if v, is := impl.Below(a, b); !is || v != want {
				t.Errorf("%d below %d: %v %v, want %v", a.N, b.N, v, is, want)
			}
		}
	}
}

func TestAddedAndBelowRefuseWhatIsNoNumber(t *testing.T) {
	for _, wrong := range append(wrongValues(), rightPieces()...) {
		for _, other := range append(append(rightNumbers(), rightPieces()...), wrongValues()...) {
			for _, pair := range [][2]impl.Value{{wrong, other}, {other, wrong}} {
				v, is := impl.Added(pair[0], pair[1])
				checkRefused(t, "Added", v, is)
				v, is = impl.Below(pair[0], pair[1])
				checkRefused(t, "Below", v, is)
			}
		}
	}
}

func TestOnlyNumberNoughtIsNothing(t *testing.T) {
	if !impl.IsNothing(number(0)) {
		t.Error("0 is something")
	}
	for _, v := range append(append(rightNumbers(), rightPieces()...), wrongValues()...) {
		if v != number(0) && impl.IsNothing(v) {
			t.Errorf("%v is nothing", v)
		}
	}
}

func TestShowValueOfWhatIsNoValueIsEmpty(t *testing.T) {
	for _, v := range wrongValues() {
		if s := impl.ShowValue(v); s != "" {
			t.Errorf("%v is shown as %q", v, s)
		}
	}
}

func TestReadValueRefusesOtherForms(t *testing.T) {
	for _, s := range []string{
		"", " ", "-", "+", "p", "pp", "p-", "x", "-p1", "p p1",
		"+5", "+0", "-0", "--5", "00", "007", "-07", "0x1", "1e3", "1_000", "1.0", "5-", "1 2",
		" 5", "5 ", "5\n", "\t5", "5\x00", "\x005", "٥", "\xff",
		"1000001", "-1000001", "999999999", "1000000000", "9223372036854775807", "-9223372036854775808", "9223372036854775808", "18446744073709551617",
		"p20", "p21", "p-1", "p-0", "p+1", "p00", "p01", "p019", "P1", "p 1", " p1", "p1 ", "p1p", "1p", "pp1", "p9223372036854775808",
	} {
		v, is := impl.ReadValue(s)
		checkRefused(t, strconv.Quote(s), v, is)
	}
}

// Of all short texts, those and only those are read that some value is shown as.
func TestReadValueOfAllShortTexts(t *testing.T) {
	shown := map[string]impl.Value{}
	for n := int64(-999); n <= 9999; n++ {
		shown[strconv.FormatInt(n, 10)] = number(n)
	}
	for n := int64(0); n < impl.MaxPieces; n++ {
		shown["p"+strconv.FormatInt(n, 10)] = piece(n)
	}
	texts := []string{""}
	for at := 0; at < len(texts); at++ {
		want, wanted := shown[texts[at]]
		if v, is := impl.ReadValue(texts[at]); is != wanted || v != want {
			t.Fatalf("%q is read as %v %v, want %v %v", texts[at], v, is, want, wanted)
		}
		if len(texts[at]) == 4 {
			continue
		}
		for _, letter := range []string{"0", "1", "2", "3", "4", "5", "6", "7", "8", "9", "-", "+", "p", "_", " ", "x"} {
			texts = append(texts, texts[at]+letter)
		}
	}
}

// Promise 21: every function answers at every argument and none panics.
func TestValuesAnswerAtExtremes(t *testing.T) {
	ends := []int64{math.MinInt64, math.MinInt64 + 1, -1, 0, 1, 2, math.MaxInt64 - 1, math.MaxInt64}
	var values []impl.Value
	for _, kind := range ends {
		for _, n := range ends {
			values = append(values, impl.Value{Kind: kind, N: n})
		}
	}
	for _, a := range values {
		if is := impl.ValueOk(a); is != (impl.ShowValue(a) != "") {
			t.Errorf("%v: right is %v, but it is shown as %q", a, is, impl.ShowValue(a))
		}
		if impl.IsNothing(a) != (a == impl.Value{}) || !impl.ValueOk(impl.Number(a.N)) {
			t.Errorf("%v: IsNothing or Number", a)
		}
		for _, b := range values {
			sum, added := impl.Added(a, b)
			less, held := impl.Below(a, b)
			if !impl.ValueOk(sum) || !impl.ValueOk(less) || added != held {
				t.Errorf("%v and %v: %v %v, %v %v", a, b, sum, added, less, held)
			}
		}
	}
}

func TestReadValueOfLongTexts(t *testing.T) {
	const many = 1 << 20
	for _, part := range []string{"0", "1", "9", "-", "p", " ", "\x00", "\n", "\xff"} {
		for _, ahead := range []string{"", "-", "p", "p-", "0", "5"} {
			v, is := impl.ReadValue(ahead + strings.Repeat(part, many))
			checkRefused(t, "many of "+strconv.Quote(part)+" behind "+strconv.Quote(ahead), v, is)
		}
	}
}
