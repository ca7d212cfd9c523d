package tests

import (
	"math"
	"math/rand"
	"slices"
	"strconv"
	"strings"
	"testing"

	"loop.example/g00625/impl"
)

// kindOfPlate is written out again from the document, apart from the program's own: which Kind, its word, and what it has beside its At.
type kindOfPlate struct {
	kind     int64
	word     string
	hasArg   bool
	hasValue bool
}

func kindsOfPlates() []kindOfPlate {
	return []kindOfPlate{
		{kind: 1, word: "first", hasArg: true}, {kind: 2, word: "second", hasValue: true}, {kind: 3, word: "keep", hasArg: true},
		{kind: 4, word: "give", hasValue: true}, {kind: 5, word: "toss", hasValue: true}, {kind: 6, word: "bind", hasValue: true},
		{kind: 7, word: "try", hasArg: true}, {kind: 8, word: "mark"},
	}
}

func wrongKinds() []int64 {
	return []int64{0, -1, 9, 10, -8, 60, 256 + 1, 1<<32 + 1, math.MinInt64, math.MinInt64 + 1, math.MaxInt64}
}

func wrongPlaces() []int64 {
	return []int64{-1, -59, 60, 61, 256, 1 << 32, math.MinInt64, math.MaxInt64}
}

func rightValues() []impl.Value { return append(rightNumbers(), rightPieces()...) }

// with is a plate of that kind, with v where the kind has an Arg or a Value.
func (k kindOfPlate) with(at int64, v impl.Value) impl.Plate {
	p := impl.Plate{Kind: k.kind, At: at}
	if k.hasArg {
		p.Arg = v
	}
	if k.hasValue {
		p.Value = v
	}
	return p
}

// textOf is made of the fields alone, right ones or not.
func (k kindOfPlate) textOf(p impl.Plate) string {
	return k.word + "/" + strconv.FormatInt(p.At, 10) + "/" + fieldText(p.Arg) + "/" + fieldText(p.Value)
}

func fieldText(v impl.Value) string {
	digits := strconv.FormatInt(v.N, 10)
	switch v.Kind {
	case impl.VaNumber:
		return digits
	case impl.VaPiece:
		return "p" + digits
	}
	return "?" + digits
}

// rightPlates are plates of every kind, at every place, with many values.
func rightPlates() map[string]impl.Plate {
	plates := map[string]impl.Plate{}
	for _, k := range kindsOfPlates() {
		for at := range int64(impl.MaxWords) {
			for _, v := range rightValues() {
				p := k.with(at, v)
				plates[k.textOf(p)] = p
			}
		}
	}
	return plates
}

func somePlates() []impl.Plate {
	return []impl.Plate{
		{Kind: impl.PlFirst, At: 3, Arg: number(-7)}, {Kind: impl.PlSecond, At: 0, Value: number(12)}, {Kind: impl.PlKeep, At: 59, Arg: piece(19)},
		{Kind: impl.PlGive, At: 1, Value: piece(0)}, {Kind: impl.PlToss, At: 30, Value: number(impl.MaxNumber)},
		{Kind: impl.PlBind, At: 10, Value: number(-impl.MaxNumber)}, {Kind: impl.PlTry, At: 9}, {Kind: impl.PlMark, At: 58},
	}
}

// wrongPlates are right but for one thing each.
func wrongPlates() []impl.Plate {
	plates := []impl.Plate{{}}
	for _, kind := range wrongKinds() {
		plates = append(plates, impl.Plate{Kind: kind}, impl.Plate{Kind: kind, At: 5}, impl.Plate{Kind: kind, Arg: number(1)}, impl.Plate{Kind: kind, Value: number(1)})
	}
	for _, k := range kindsOfPlates() {
		for _, v := range rightValues() {
			for _, at := range wrongPlaces() {
				plates = append(plates, k.with(at, v))
			}
			if v == number(0) {
				continue
			}
			strange := k.with(5, number(2))
			if !k.hasArg {
				strange.Arg = v
				plates = append(plates, strange)
			}
			strange = k.with(5, number(2))
			if !k.hasValue {
				strange.Value = v
				plates = append(plates, strange)
			}
		}
		for _, v := range wrongValues() {
			inArg, inValue := k.with(5, number(2)), k.with(5, number(2))
			inArg.Arg, inValue.Value = v, v
			plates = append(plates, inArg, inValue)
		}
	}
	return plates
}

func checkPlate(t *testing.T, p impl.Plate, text string) {
	t.Helper()
	if !impl.PlateOk(p) {
		t.Fatalf("%v is refused", p)
	}
	if s := impl.ShowPlate(p); s != text {
		t.Fatalf("ShowPlate(%v) is %q, want %q", p, s, text)
	}
	if back, is := impl.ReadPlate(text); !is || back != p {
		t.Fatalf("ReadPlate(%q) is %v %v, want %v", text, back, is, p)
	}
}

func checkWrongPlate(t *testing.T, p impl.Plate) {
	t.Helper()
	if impl.PlateOk(p) {
		t.Errorf("%v is accepted", p)
	}
	if s := impl.ShowPlate(p); s != "" {
		t.Errorf("ShowPlate(%v) is %q, want the empty text", p, s)
	}
}

func checkNoPlate(t *testing.T, text string) {
	t.Helper()
	if p, is := impl.ReadPlate(text); is || p != (impl.Plate{}) {
		t.Fatalf("ReadPlate(%.80q) is %v %v, want the zero Plate and false", text, p, is)
	}
}

func TestLimitsOfPlates(t *testing.T) {
	kinds := []int64{impl.PlFirst, impl.PlSecond, impl.PlKeep, impl.PlGive, impl.PlToss, impl.PlBind, impl.PlTry, impl.PlMark}
	if !slices.Equal(kinds, []int64{1, 2, 3, 4, 5, 6, 7, 8}) || impl.MaxPlates != 60 {
		t.Error("a constant is not as the document tells")
	}
}

// Promise 5: ReadPlate of ShowPlate is the plate.
func TestOrdinaryPlates(t *testing.T) {
	texts := []string{"first/3/-7/0", "second/0/0/12", "keep/59/p19/0", "give/1/0/p0", "toss/30/0/1000000", "bind/10/0/-1000000", "try/9/0/0", "mark/58/0/0"}
	for i, p := range somePlates() {
		checkPlate(t, p, texts[i])
	}
}

// Promise 5: ReadPlate of ShowPlate is the plate.
func TestReadOfShownIsThePlate(t *testing.T) {
	for text, p := range rightPlates() {
		checkPlate(t, p, text)
	}
	for _, k := range kindsOfPlates() {
		for n := int64(-impl.MaxNumber); n <= impl.MaxNumber; n += 997 {
			p := k.with(impl.MaxWords-1, number(n))
			checkPlate(t, p, k.textOf(p))
		}
		for n := range int64(impl.MaxPieces) {
			p := k.with(0, piece(n))
			checkPlate(t, p, k.textOf(p))
		}
	}
}

func TestWrongPlatesAreNotShown(t *testing.T) {
	for _, p := range wrongPlates() {
		checkWrongPlate(t, p)
	}
}

func TestPlacesOfPlatesAtTheirLimits(t *testing.T) {
	for _, k := range kindsOfPlates() {
		for at := int64(-2); at <= impl.MaxWords+1; at++ {
			p := k.with(at, number(5))
			if 0 <= at && at < impl.MaxWords {
				checkPlate(t, p, k.textOf(p))
				continue
			}
			checkWrongPlate(t, p)
			checkNoPlate(t, k.textOf(p))
		}
	}
}

// A kind that has an Arg has no Value and the other way round; a mark has neither.
func TestWhatPlatesHave(t *testing.T) {
	for _, k := range kindsOfPlates() {
		for _, arg := range append(rightValues(), wrongValues()...) {
			for _, value := range append(rightValues(), wrongValues()...) {
				p := impl.Plate{Kind: k.kind, At: 7, Arg: arg, Value: value}
				argIs := arg == number(0) || k.hasArg && slices.Contains(rightValues(), arg)
				valueIs := value == number(0) || k.hasValue && slices.Contains(rightValues(), value)
				if argIs && valueIs {
					checkPlate(t, p, k.textOf(p))
					continue
				}
				checkWrongPlate(t, p)
				checkNoPlate(t, k.textOf(p))
			}
		}
	}
}

func TestPlatesOk(t *testing.T) {
	for _, l := range [][]impl.Plate{nil, {}, somePlates(), somePlates()[:1], slices.Repeat(somePlates()[2:3], 2)} {
		if !impl.PlatesOk(l) {
			t.Errorf("%v is refused", l)
		}
	}
	for size := range 3 * impl.MaxPlates {
		l := slices.Repeat([]impl.Plate{{Kind: impl.PlTry, At: 4, Arg: number(1)}}, size)
		if is := impl.PlatesOk(l); is != (size <= impl.MaxPlates) {
			t.Errorf("%d right plates: %v", size, is)
		}
	}
}

func TestPlatesOfWhichOneIsWrong(t *testing.T) {
	for _, size := range []int{1, 2, 7, impl.MaxPlates} {
		for _, wrong := range wrongPlates() {
			for at := range size {
				l := slices.Repeat(somePlates(), 8)[:size]
				l[at] = wrong
				if impl.PlatesOk(l) {
					t.Fatalf("%v is accepted as plate %d of %d", wrong, at, size)
				}
			}
		}
	}
}

// otherPlates part from p in one field each, right or not.
func otherPlates(p impl.Plate) []impl.Plate {
	others := []impl.Plate{p, p, p, p, p, p}
	others[0].Kind++
	others[1].At++
	others[2].Arg.Kind++
	others[3].Arg.N++
	others[4].Value.Kind++
	others[5].Value.N++
	return others
}

func checkSame(t *testing.T, a []impl.Plate, b []impl.Plate, want bool) {
	t.Helper()
	if impl.SamePlates(a, b) != want || impl.SamePlates(b, a) != want {
		t.Fatalf("SamePlates of %v and %v is not %v both ways round", a, b, want)
	}
}

func TestSamePlates(t *testing.T) {
	many := slices.Repeat(somePlates(), 8)
	for size := range many {
		l := many[:size]
		checkSame(t, l, slices.Clone(l), true)
		checkSame(t, l, many[:size+1], false)
		for at := range l {
			for _, other := range otherPlates(l[at]) {
				changed := slices.Clone(l)
				changed[at] = other
				checkSame(t, l, changed, false)
				checkSame(t, changed, slices.Clone(changed), true)
			}
		}
	}
	checkSame(t, nil, []impl.Plate{}, true)
	checkSame(t, nil, nil, true)
	checkSame(t, nil, somePlates(), false)
	checkSame(t, nil, make([]impl.Plate, 1), false)
	a, b := somePlates(), somePlates()
	a[0], a[1] = a[1], a[0]
	checkSame(t, a, b, false)
}

// Lists that are not PlatesOk are held against each other as right ones are.
func TestSamePlatesOfWrongPlates(t *testing.T) {
	for _, p := range wrongPlates() {
		checkSame(t, []impl.Plate{p}, []impl.Plate{p}, true)
		checkSame(t, []impl.Plate{p}, nil, false)
		checkSame(t, []impl.Plate{p}, []impl.Plate{p, p}, false)
		for _, other := range otherPlates(p) {
			checkSame(t, []impl.Plate{p}, []impl.Plate{other}, false)
		}
	}
	long := slices.Repeat(somePlates()[:1], impl.MaxPlates+1)
	checkSame(t, long, slices.Clone(long), true)
	checkSame(t, long, long[:impl.MaxPlates], false)
	changed := slices.Clone(long)
	changed[impl.MaxPlates].At++
	checkSame(t, long, changed, false)
}

func TestReadPlateRefusesOtherForms(t *testing.T) {
	for _, text := range []string{
		"", " ", "/", "//", "///", "////", "first", "first/", "first/1", "first/1/2", "first/1/2/", "first//2/0", "first/1//0", "/1/2/0", "first/1/2/0/", "/first/1/2/0", "first//1/2/0", "first/1/2/0/0", "first/1/2/0\n",
		" first/1/2/0", "first/1/2/0 ", "first /1/2/0", "first/ 1/2/0", "first/1/ 2/0", "first/1/2/ 0", "first 1 2 0", "first/1/2 0", "first\\1\\2\\0",
		"what/0/0/0", "First/1/2/0", "FIRST/1/2/0", "firs/1/2/0", "firsts/1/2/0", "1/1/2/0", "0/0/0/0", "p1/1/2/0", "done/0/0/0", "catch/0/0/0", "begin/0/0/0", "cut/0/0/0", "go/0/0/0", "ask/0/0/0", "say/0/0/0", "throw/0/0/0", "throw/0/0/1", "third/0/0/0", "first\x00/1/2/0", "\x00/0/0/0", "\xff/0/0/0",
		"first/+1/2/0", "first/-1/2/0", "first/-0/2/0", "first/+0/2/0", "first/01/2/0", "first/00/2/0", "first/059/2/0", "first/60/2/0", "first/61/2/0", "first/100/2/0", "first/1000000/2/0", "first/1000001/2/0", "first/999999999/2/0", "first/9223372036854775808/2/0", "first/18446744073709551616/2/0", "first/4294967296/2/0",
		"first/p0/2/0", "first/p1/2/0", "first/x/2/0", "first/1.0/2/0", "first/1e0/2/0", "first/0x1/2/0", "first/1_0/2/0", "first/١/2/0",
		"first/1/+2/0", "first/1/-0/0", "first/1/02/0", "first/1/p02/0", "first/1/p20/0", "first/1/p-1/0", "first/1/p/0", "first/1/P1/0", "first/1/1000001/0", "first/1/-1000001/0", "first/1/what/0", "first/1/2/+0", "first/1/2/-0", "first/1/2/00", "first/1/2/p0", "first/1/2/1", "first/1/2/-1", "first/1/2/x",
		"second/1/2/3", "second/1/2/0", "second/1/p0/0", "second/1/0/", "second/1//3", "second/1/00/3", "second/1/-0/3", "second/1/0/03", "second/1/0/+3", "second/1/0/p20", "second/1/0/1000001",
		"keep/60/0/0", "keep/1/0", "keep/1/0/1", "keep/1/0/p0", "give/1/1/0", "give/1/p0/1", "toss/1/1/1", "toss/1/p1/0", "bind/0/1/0", "bind/0/1/1", "try/1/1/1", "try/1/0/p1",
		"mark/0/0/1", "mark/0/1/0", "mark/0/p0/0", "mark/0/0/p0", "mark/0/0", "mark/0", "mark", "mark/0/0/0/0",
	} {
		checkNoPlate(t, text)
	}
}

// Of all texts of such parts, those and only those are read that some plate is shown as.
func TestReadPlateOfAllTextsOfParts(t *testing.T) {
	words := []string{"", "what", "First", "marks", "p1", "0", "1", "9"}
	for _, k := range kindsOfPlates() {
		words = append(words, k.word, k.word+" ", k.word[1:])
	}
	numbers := []string{"", "0", "1", "7", "59", "60", "-1", "-0", "+1", "00", "01", "p0", "p1", "p19", "p20", "1000000", "-1000000", "1000001", "x", " ", "1 "}
	shown := rightPlates()
	for _, k := range kindsOfPlates() {
		for at := range int64(impl.MaxWords) {
			for _, n := range []int64{7, 59, 60} {
				p := k.with(at, number(n))
				shown[k.textOf(p)] = p
			}
		}
	}
	for _, word := range words {
		for _, at := range numbers {
			for _, arg := range numbers {
				for _, value := range numbers {
					checkTextOfPlate(t, shown, word+"/"+at+"/"+arg+"/"+value)
				}
			}
		}
	}
}

func checkTextOfPlate(t *testing.T, shown map[string]impl.Plate, text string) {
	t.Helper()
	if p, wanted := shown[text]; wanted {
		checkPlate(t, p, text)
		return
	}
	checkNoPlate(t, text)
}

// What is read from a text that was changed at one place is shown as that text, or nothing is read.
func TestReadPlateOfChangedTexts(t *testing.T) {
	letters := []string{"", "0", "1", "9", "-", "+", "p", "/", " ", "\n", "\x00", "\xff", "t", "f", "_", "."}
	for _, k := range kindsOfPlates() {
		for _, v := range rightValues() {
			text := k.textOf(k.with(5, v))
			for _, letter := range letters {
				for at := range text {
					checkReadAsShown(t, text[:at]+letter+text[at:])
					checkReadAsShown(t, text[:at]+letter+text[at+1:])
				}
				checkReadAsShown(t, text+letter)
			}
		}
	}
}

func checkReadAsShown(t *testing.T, text string) {
	t.Helper()
	p, is := impl.ReadPlate(text)
	if !is {
		checkNoPlate(t, text)
		return
	}
	for _, k := range kindsOfPlates() {
		if k.kind == p.Kind && k.textOf(p) == text && impl.PlateOk(p) {
			return
		}
	}
	t.Fatalf("%q is read as %v", text, p)
}

// Promises 5 and 21: whatever a plate is made of, it is shown and read, or neither.
func TestMadePlates(t *testing.T) {
	random := rand.New(rand.NewSource(7))
	ends := []int64{math.MinInt64, -impl.MaxNumber - 1, -impl.MaxNumber, -1, 0, 1, 2, 5, 8, 9, 19, 20, 59, 60, impl.MaxNumber, impl.MaxNumber + 1, math.MaxInt64}
	end := func() int64 { return ends[random.Intn(len(ends))] }
	seen := 0
	for range 200000 {
		p := impl.Plate{Kind: random.Int63n(10), At: end(), Arg: impl.Value{Kind: random.Int63n(3), N: end()}, Value: impl.Value{Kind: random.Int63n(3), N: end()}}
		if random.Intn(2) == 0 {
			p.Arg = impl.Value{}
		} else {
			p.Value = impl.Value{}
		}
		if text := impl.ShowPlate(p); text != "" {
			checkPlate(t, p, text)
			seen++
			continue
		}
		checkWrongPlate(t, p)
	}
	if seen < 1000 {
		t.Errorf("only %d of the plates were right", seen)
	}
}

// Promise 21: every function answers at every argument and none panics.
func TestPlatesAnswerAtExtremes(t *testing.T) {
	const many = 1 << 20
	ends := []int64{math.MinInt64, -1, 0, 1, 8, 9, 59, 60, math.MaxInt64}
	for _, kind := range ends {
		for _, at := range ends {
			for _, n := range ends {
				p := impl.Plate{Kind: kind, At: at, Arg: impl.Value{Kind: n, N: kind}, Value: impl.Value{Kind: at, N: n}}
				if is := impl.PlateOk(p); is != (impl.ShowPlate(p) != "") || is != impl.PlatesOk([]impl.Plate{p}) {
					t.Errorf("%v: right is %v, but it is shown as %q", p, is, impl.ShowPlate(p))
				}
			}
		}
	}
	for _, part := range []string{"", "0", "1", "p", "-", "/", "//", "first/", "first/0/0/0", " ", "\x00", "\xff"} {
		long := strings.Repeat(part, many)
		for _, text := range []string{long + "x", "first/" + long + "x/0/0", "first/0/" + long + "x/0", "first/0/0/" + long + "x", long + "x/0/0/0", "first/0/0/0/" + long} {
			checkNoPlate(t, text)
		}
	}
	long := slices.Repeat(somePlates()[:1], many)
	if impl.PlatesOk(long) || impl.PlatesOk(make([]impl.Plate, many)) {
		t.Error("a very long list is accepted")
	}
	checkSame(t, long, long, true)
	checkSame(t, long, long[1:], false)
}

// Promise 21: arguments stay, the spare room behind them too.
func TestPlatesLeaveArguments(t *testing.T) {
	for _, l := range [][]impl.Plate{nil, somePlates(), wrongPlates()[:20], slices.Repeat(somePlates(), 8)} {
		room := slices.Concat(l, somePlates(), wrongPlates()[:5])
		before := slices.Clone(room)
		given := room[:len(l)]
		impl.PlatesOk(given)
		impl.SamePlates(given, slices.Clone(given))
		impl.SamePlates(slices.Clone(given), given)
		impl.SamePlates(given, room[len(l):])
		for _, p := range given {
			impl.PlateOk(p)
			impl.ShowPlate(p)
		}
		if !slices.Equal(room, before) {
			t.Errorf("%v became %v", before, room)
		}
	}
}
