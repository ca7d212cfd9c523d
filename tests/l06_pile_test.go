package tests

import (
	"fmt"
	"math"
	"math/rand"
	"slices"
	"strconv"
	"strings"
	"testing"

	"loop.example/g00625/impl"
)

// wordsOfKind is written out again from the document, apart from the program's own.
func wordsOfKind(kind int64) []string {
	switch kind {
	case 1:
		return sum("add below both say if bind throw go")
	case 2:
		return sum("add below both go")
	case 3, 4, 5:
		return sum("keep")
	case 6:
		return sum("bind")
	case 7:
		return sum("try")
	case 8:
		return sum("mark")
	}
	return nil
}

// everyWord is a sum that has each word there is.
func everyWord() []string {
	return sum("both mark cut go arg 1 bind 0 add say 1 2 if below 1 ask 0 keep 3 4 try throw 5 arg")
}

func placeOf(word string) int64 { return int64(slices.Index(everyWord(), word)) }

// platesOf are all the plates that can be laid for the sum, of every Kind, each with v where it has an Arg or a Value.
func platesOf(code []string, v impl.Value) []impl.Plate {
	plates := []impl.Plate{}
	for _, k := range kindsOfPlates() {
		for _, at := range startsOf(code, 0) {
			if slices.Contains(wordsOfKind(k.kind), code[at]) {
				plates = append(plates, k.with(at, v))
			}
		}
	}
	return plates
}

func manyPlates(count int) []impl.Plate {
	return slices.Repeat([]impl.Plate{{Kind: impl.PlTry, At: placeOf("try"), Arg: number(1)}}, count)
}

// emptyPieces are pieces of which nothing was above the mark.
func emptyPieces(count int) []impl.Piece { return make([]impl.Piece, count) }

// holdsValue, holdsPlates and holdsPile read chapter 6 again, apart from the program's own.
func holdsValue(p impl.Pile, v impl.Value) bool {
	if v.Kind == impl.VaPiece {
		return 0 <= v.N && v.N < int64(len(p.Pieces))
	}
	return v.Kind == impl.VaNumber && -impl.MaxNumber <= v.N && v.N <= impl.MaxNumber
}

func holdsPlates(p impl.Pile, plates []impl.Plate) bool {
	if len(plates) > impl.MaxPlates {
		return false
	}
	starts := startsOf(p.Code, 0)
	for _, plate := range plates {
		known := slices.IndexFunc(kindsOfPlates(), func(k kindOfPlate) bool { return k.kind == plate.Kind })
		if known < 0 || !slices.Contains(starts, plate.At) || !slices.Contains(wordsOfKind(plate.Kind), p.Code[plate.At]) {
			return false
		}
		k := kindsOfPlates()[known]
		if !k.hasArg && plate.Arg != (impl.Value{}) || !k.hasValue && plate.Value != (impl.Value{}) {
			return false
		}
		if !holdsValue(p, plate.Arg) || !holdsValue(p, plate.Value) {
			return false
		}
	}
	return true
}

func holdsSaid(said []string) bool {
	for _, word := range said {
		digits, isPiece := strings.CutPrefix(word, "p")
		n, err := strconv.Atoi(digits)
		if err != nil || strconv.Itoa(n) != digits || n > impl.MaxNumber || n < -impl.MaxNumber || isPiece && (n < 0 || n > 19) {
			return false
		}
	}
	return len(said) <= 40
}

func holdsMode(p impl.Pile) bool {
	nothing := impl.Value{}
	if p.Mode == 0 {
		return slices.Contains(startsOf(p.Code, 0), p.At) && holdsValue(p, p.Arg) && p.Value == nothing
	}
	if p.Mode < 0 || p.Mode > 6 || p.At != 0 || p.Arg != nothing || !holdsValue(p, p.Value) {
		return false
	}
	return (p.Mode < 3 || len(p.Plates) == 0) && (p.Mode < 5 || p.Value == nothing)
}

func holdsPile(p impl.Pile) bool {
	if len(p.Code) > impl.MaxWords || len(p.Code) == 0 || endOf(p.Code, 0) != int64(len(p.Code)) {
		return false
	}
	if len(p.Pieces) > 20 || !holdsMode(p) || !holdsPlates(p, p.Plates) || !holdsSaid(p.Said) {
		return false
	}
	for _, one := range p.Pieces {
		if !holdsPlates(p, one.Plates) {
			return false
		}
	}
	return true
}

// copyOf shares no memory with the pile, and has spare room behind each list.
func copyOf(p impl.Pile) impl.Pile {
	p.Code = append(make([]string, 0, len(p.Code)+3), p.Code...)
	p.Plates = append(make([]impl.Plate, 0, len(p.Plates)+3), p.Plates...)
	p.Said = append(make([]string, 0, len(p.Said)+3), p.Said...)
	pieces := make([]impl.Piece, 0, len(p.Pieces)+3)
	for _, one := range p.Pieces {
		pieces = append(pieces, impl.Piece{Plates: append(make([]impl.Plate, 0, len(one.Plates)+3), one.Plates...)})
	}
	p.Pieces = pieces
	return p
}

// with is a copy that is changed.
func with(p impl.Pile, change func(*impl.Pile)) impl.Pile {
	p = copyOf(p)
	change(&p)
	return p
}

// ofMode is an ordinary pile of everyWord in that Mode, without lists.
func ofMode(mode int64, v impl.Value) impl.Pile {
	p := impl.Pile{Code: everyWord(), Mode: mode}
	switch mode {
	case impl.MoBegin:
		p.At, p.Arg = placeOf("if"), v
	case impl.MoGive, impl.MoToss, impl.MoDone, impl.MoLost:
		p.Value = v
	}
	return p
}

func allModes() []int64 {
	return []int64{impl.MoBegin, impl.MoGive, impl.MoToss, impl.MoDone, impl.MoLost, impl.MoWrong, impl.MoLong}
}

// modesOfPlates are those in which something is left to do.
func modesOfPlates() []int64 { return []int64{impl.MoBegin, impl.MoGive, impl.MoToss} }

// fullPiles are a pile of each Mode that has Pieces and Said, and, where it may, Plates of all eight Kinds.
func fullPiles() []impl.Pile {
	piles := []impl.Pile{}
	for _, mode := range allModes() {
		p := ofMode(mode, piece(1))
		p.Pieces = []impl.Piece{{Plates: platesOf(p.Code, number(7))}, {}, {Plates: platesOf(p.Code, piece(2))}}
		p.Said = sum("7 -1000000 p0 p19 0")
		if slices.Contains(modesOfPlates(), mode) {
			p.Plates = platesOf(p.Code, piece(0))
		}
		piles = append(piles, p)
	}
	return piles
}

// rightPiles are piles of each Mode with and without Plates, Pieces and Said.
func rightPiles() []impl.Pile {
	piles := []impl.Pile{}
	for i, mode := range allModes() {
		for _, v := range rightNumbers() {
			piles = append(piles, ofMode(mode, v))
		}
		full := fullPiles()[i]
		piles = append(piles, full,
			with(full, func(p *impl.Pile) { p.Plates = nil }),
			with(full, func(p *impl.Pile) { p.Said = nil }),
			with(full, func(p *impl.Pile) { p.Plates, p.Said = []impl.Plate{}, []string{} }),
			with(ofMode(mode, number(-3)), func(p *impl.Pile) { p.Said = sum("1 2 2") }),
			with(ofMode(mode, number(-3)), func(p *impl.Pile) { p.Pieces = full.Pieces }),
		)
	}
	return piles
}

// tellPile cuts what is told of a pile: a list may be very long.
func tellPile(p impl.Pile) string {
	text := fmt.Sprintf("%+v", p)
	return text[:min(len(text), 3000)]
}

func checkPile(t *testing.T, p impl.Pile, what string) {
	t.Helper()
	if !impl.PileOk(p) || impl.IsOver(p) != (p.Mode >= impl.MoDone) {
		t.Fatalf("%s: PileOk %v, IsOver %v of %s", what, impl.PileOk(p), impl.IsOver(p), tellPile(p))
	}
}

func checkWrongPile(t *testing.T, p impl.Pile, what string) {
	t.Helper()
	if impl.PileOk(p) || impl.IsOver(p) {
		t.Fatalf("%s: PileOk %v, IsOver %v of %s", what, impl.PileOk(p), impl.IsOver(p), tellPile(p))
	}
}

func checkPileIs(t *testing.T, p impl.Pile, is bool, what string) {
	t.Helper()
	if is {
		checkPile(t, p, what)
		return
	}
	checkWrongPile(t, p, what)
}

func checkNewPile(t *testing.T, code []string, arg impl.Value) {
	t.Helper()
	p, is := impl.NewPile(code, arg)
	if !is || !slices.Equal(p.Code, code) || p.Mode != impl.MoBegin || p.At != 0 || p.Arg != arg || p.Value != (impl.Value{}) {
		t.Fatalf("NewPile(%q, %v) is %s %v", code, arg, tellPile(p), is)
	}
	if len(p.Plates) > 0 || len(p.Pieces) > 0 || len(p.Said) > 0 {
		t.Fatalf("NewPile(%q, %v) is %s, which is not empty", code, arg, tellPile(p))
	}
	checkPile(t, p, "a new pile")
}

func checkNoNewPile(t *testing.T, code []string, arg impl.Value) {
	t.Helper()
	p, is := impl.NewPile(code, arg)
	if is || p.Mode != 0 || p.At != 0 || p.Arg != (impl.Value{}) || p.Value != (impl.Value{}) || len(p.Code)+len(p.Plates)+len(p.Pieces)+len(p.Said) > 0 {
		t.Fatalf("NewPile(%d words %.200q, %v) is %s %v, want the zero Pile and false", len(code), code, arg, tellPile(p), is)
	}
}

func TestLimitsOfPiles(t *testing.T) {
	if !slices.Equal(allModes(), []int64{0, 1, 2, 3, 4, 5, 6}) || impl.MaxPieces != 20 || impl.MaxPlates != 60 || impl.MaxSaid != 40 {
		t.Error("a constant is not as the document tells")
	}
}

// Promise 6: a new pile is right, and not over.
func TestNewPiles(t *testing.T) {
	codes := append(ordinarySums(), everyWord())
	for _, size := range []int{impl.MaxWords - 1, impl.MaxWords} {
		codes = append(codes, longSums(size)...)
	}
	for _, code := range codes {
		for _, arg := range rightNumbers() {
			checkNewPile(t, code, arg)
		}
	}
	random := rand.New(rand.NewSource(6))
	for range 2000 {
		if code := madeSum(random, random.Intn(50)); len(code) <= impl.MaxWords {
			checkNewPile(t, code, number(random.Int63n(9)-4))
		}
	}
}

func wrongCodes() [][]string {
	codes := [][]string{nil, {}, {""}, sum("say"), sum("add 1"), sum("1 2"), sum("add 1 2 3"), sum("bind 4 1 1"), sum("ask -1"), sum("what"), sum("p0"), {"say 1"}, sum("01"), sum("1000001")}
	return append(codes, longSums(impl.MaxWords+1)...)
}

func TestNewPileOfWhatIsNoSum(t *testing.T) {
	for _, code := range wrongCodes() {
		for _, arg := range append(append(rightNumbers(), rightPieces()...), wrongValues()...) {
			checkNoNewPile(t, code, arg)
		}
	}
	for _, code := range ordinarySums() {
		for size := range len(code) {
			checkNoNewPile(t, code[:size], number(0))
		}
		checkNoNewPile(t, joined(code, sum("arg")), number(0))
	}
}

func TestNewPileOfWhatIsNoNumber(t *testing.T) {
	for _, code := range append(ordinarySums(), everyWord()) {
		for _, arg := range append(rightPieces(), wrongValues()...) {
			checkNoNewPile(t, code, arg)
		}
	}
}

func TestOrdinaryPiles(t *testing.T) {
	for _, p := range rightPiles() {
		checkPile(t, p, "an ordinary pile")
	}
}

func TestCodesOfPiles(t *testing.T) {
	for _, mode := range allModes() {
		for _, code := range append(ordinarySums(), longSums(impl.MaxWords)...) {
			checkPile(t, with(ofMode(mode, number(2)), func(p *impl.Pile) { p.Code, p.At = code, 0 }), "a right Code")
		}
		for _, code := range wrongCodes() {
			checkWrongPile(t, with(ofMode(mode, number(2)), func(p *impl.Pile) { p.Code, p.At = code, 0 }), "a Code that is no sum")
		}
	}
	for _, full := range fullPiles() {
		checkWrongPile(t, with(full, func(p *impl.Pile) { p.Code = append(p.Code, "1") }), "a word too many")
		checkWrongPile(t, with(full, func(p *impl.Pile) { p.Code = p.Code[:len(p.Code)-1] }), "a word too few")
		for at := range full.Code {
			checkWrongPile(t, with(full, func(p *impl.Pile) { p.Code[at] = "what" }), "a wrong word")
		}
	}
}

func TestModesOfPiles(t *testing.T) {
	for _, mode := range []int64{impl.MoBegin - 1, impl.MoLong + 1, -7, 60, 256, 1 << 32, math.MinInt64, math.MaxInt64} {
		checkWrongPile(t, impl.Pile{Code: everyWord(), Mode: mode}, "no such Mode")
		for _, full := range fullPiles() {
			checkWrongPile(t, with(full, func(p *impl.Pile) { p.Mode = mode }), "no such Mode")
		}
	}
}

// Whatever a pile of one Mode has that one of another Mode has not.
func TestPilesOfAnotherMode(t *testing.T) {
	for _, full := range fullPiles() {
		for _, mode := range allModes() {
			other := with(full, func(p *impl.Pile) { p.Mode = mode })
			checkPileIs(t, other, holdsPile(other), "another Mode")
		}
	}
	if holdsPile(impl.Pile{}) || !holdsPile(fullPiles()[0]) || !holdsPile(fullPiles()[6]) {
		t.Error("the test's own reading is not right")
	}
}

func TestPlacesThatPilesBegin(t *testing.T) {
	for _, code := range append(ordinarySums(), everyWord()) {
		starts := startsOf(code, 0)
		for at := int64(-2); at <= int64(len(code))+2; at++ {
			p := impl.Pile{Code: code, At: at, Arg: number(3)}
			checkPileIs(t, p, slices.Contains(starts, at), "At "+strconv.FormatInt(at, 10))
		}
		for _, at := range outOfRange(len(code)) {
			checkWrongPile(t, impl.Pile{Code: code, At: at}, "an At out of range")
		}
	}
	for _, at := range []int64{1, 4} {
		checkWrongPile(t, impl.Pile{Code: sum("bind 0 5 ask 0"), At: at}, "the number behind bind and ask")
	}
}

// Every Kind, at every place of a Code that has every word.
func TestPlacesOfPlatesInPiles(t *testing.T) {
	code := everyWord()
	starts := startsOf(code, 0)
	for _, k := range kindsOfPlates() {
		for at := int64(-2); at <= int64(len(code))+2; at++ {
			is := slices.Contains(starts, at) && slices.Contains(wordsOfKind(k.kind), code[at])
			checkPlateInPiles(t, k.with(at, number(4)), is)
		}
		for _, at := range append(wrongPlaces(), impl.MaxWords-1) {
			checkPlateInPiles(t, k.with(at, number(4)), false)
		}
	}
}

// checkPlateInPiles lays the plate on a pile of each Mode that has Plates, and into a Piece of a pile of any Mode, alone and among others.
func checkPlateInPiles(t *testing.T, plate impl.Plate, is bool) {
	t.Helper()
	for _, mode := range modesOfPlates() {
		p := ofMode(mode, number(1))
		p.Plates = []impl.Plate{plate}
		checkPileIs(t, p, is, "one plate")
	}
	for _, full := range fullPiles() {
		for _, at := range []int{0, len(full.Plates) / 2, len(full.Plates)} {
			if full.Mode <= impl.MoToss {
				checkPileIs(t, with(full, func(p *impl.Pile) { p.Plates = slices.Insert(p.Plates, at, plate) }), is, "a plate among others")
			}
			checkPileIs(t, with(full, func(p *impl.Pile) { p.Pieces[2].Plates = slices.Insert(p.Pieces[2].Plates, at, plate) }), is, "a plate of a Piece")
		}
		checkPileIs(t, with(full, func(p *impl.Pile) { p.Pieces[1].Plates = []impl.Plate{plate} }), is, "the one plate of a Piece")
	}
}

// The number behind bind and ask begins no sum, though it reads as one; a word of a plate that stands there is none.
func TestPlatesWhereNoSumBegins(t *testing.T) {
	for _, k := range kindsOfPlates() {
		for at := range everyWord() {
			if !slices.Contains(startsOf(everyWord(), 0), int64(at)) {
				checkPlateInPiles(t, k.with(int64(at), number(0)), false)
			}
		}
		for _, word := range wordsOfKind(k.kind) {
			checkPlateInPiles(t, k.with(placeOf(word), number(0)), true)
		}
	}
}

func TestWrongPlatesInPiles(t *testing.T) {
	for _, plate := range wrongPlates() {
		checkPlateInPiles(t, plate, false)
	}
	for _, k := range kindsOfPlates() {
		at := placeOf(wordsOfKind(k.kind)[0])
		for _, v := range append(wrongValues(), number(9)) {
			inArg, inValue := k.with(at, number(2)), k.with(at, number(2))
			inArg.Arg, inValue.Value = v, v
			checkPlateInPiles(t, inArg, k.hasArg && v == number(9))
			checkPlateInPiles(t, inValue, k.hasValue && v == number(9))
		}
	}
}

func TestPiecesThatAreTold(t *testing.T) {
	for count := range impl.MaxPieces + 1 {
		for n := int64(-1); n <= impl.MaxPieces; n++ {
			is := 0 <= n && n < int64(count)
			for _, mode := range []int64{impl.MoBegin, impl.MoGive, impl.MoToss, impl.MoDone, impl.MoLost} {
				p := ofMode(mode, piece(n))
				p.Pieces = emptyPieces(count)
				checkPileIs(t, p, is, "a piece in the Pile")
			}
			checkPiecesInPlates(t, count, n, is)
		}
	}
}

func checkPiecesInPlates(t *testing.T, count int, n int64, is bool) {
	t.Helper()
	for _, plate := range platesOf(everyWord(), piece(n)) {
		tells := plate.Arg.Kind+plate.Value.Kind > 0
		p := ofMode(impl.MoGive, number(1))
		p.Plates, p.Pieces = []impl.Plate{plate}, emptyPieces(count)
		checkPileIs(t, p, is || !tells, "a piece in a Plate")
		if count > 0 {
			p = ofMode(impl.MoDone, number(1))
			p.Pieces = emptyPieces(count)
			p.Pieces[count-1].Plates = []impl.Plate{plate}
			checkPileIs(t, p, is || !tells, "a piece in a Plate of a Piece")
		}
	}
}

func TestValuesOfPiles(t *testing.T) {
	for _, full := range fullPiles() {
		for _, v := range append(append(rightNumbers(), rightPieces()...), wrongValues()...) {
			inArg, inValue := with(full, func(p *impl.Pile) { p.Arg = v }), with(full, func(p *impl.Pile) { p.Value = v })
			right := holdsValue(full, v)
			begins, ends := full.Mode == impl.MoBegin, full.Mode >= impl.MoWrong
			checkPileIs(t, inArg, v == number(0) || begins && right, "an Arg")
			checkPileIs(t, inValue, v == number(0) || !begins && !ends && right, "a Value")
		}
	}
}

func TestWhatOtherModesDoNotHave(t *testing.T) {
	for _, full := range fullPiles() {
		if full.Mode == impl.MoBegin {
			checkWrongPile(t, with(full, func(p *impl.Pile) { p.Value = number(1) }), "a Value in MoBegin")
			checkWrongPile(t, with(full, func(p *impl.Pile) { p.Value = piece(0) }), "a Value in MoBegin")
			continue
		}
		for _, at := range append(startsOf(full.Code, 0), -1, 7) {
			checkPileIs(t, with(full, func(p *impl.Pile) { p.At = at }), at == 0, "an At in another Mode")
		}
		checkWrongPile(t, with(full, func(p *impl.Pile) { p.Arg = number(1) }), "an Arg in another Mode")
		checkWrongPile(t, with(full, func(p *impl.Pile) { p.Arg = piece(0) }), "an Arg in another Mode")
		if full.Mode >= impl.MoWrong {
			checkWrongPile(t, with(full, func(p *impl.Pile) { p.Value = number(-1) }), "a Value in MoWrong and MoLong")
			checkWrongPile(t, with(full, func(p *impl.Pile) { p.Value = piece(0) }), "a Value in MoWrong and MoLong")
		}
	}
}

func TestNoPlatesFromDoneOn(t *testing.T) {
	for _, full := range fullPiles() {
		for _, plates := range [][]impl.Plate{manyPlates(1), manyPlates(impl.MaxPlates), platesOf(full.Code, number(0))} {
			checkPileIs(t, with(full, func(p *impl.Pile) { p.Plates = plates }), full.Mode < impl.MoDone, "plates left")
		}
		checkPile(t, with(full, func(p *impl.Pile) { p.Plates = nil }), "no plates left")
	}
}

func TestMostPlatesPiecesAndSaid(t *testing.T) {
	for _, full := range fullPiles() {
		for _, more := range []int{-1, 0, 1, 2, 500} {
			is := more <= 0
			if full.Mode <= impl.MoToss {
				checkPileIs(t, with(full, func(p *impl.Pile) { p.Plates = manyPlates(impl.MaxPlates + more) }), is, "Plates")
			}
			checkPileIs(t, with(full, func(p *impl.Pile) { p.Pieces[1].Plates = manyPlates(impl.MaxPlates + more) }), is, "Plates of a Piece")
			checkPileIs(t, with(full, func(p *impl.Pile) { p.Pieces = emptyPieces(impl.MaxPieces + more) }), more == 0 || more == -1, "Pieces")
			checkPileIs(t, with(full, func(p *impl.Pile) { p.Said = slices.Repeat(sum("p3"), impl.MaxSaid+more) }), is, "Said")
		}
		checkPile(t, with(full, func(p *impl.Pile) {
			p.Pieces, p.Said = slices.Repeat([]impl.Piece{{Plates: manyPlates(impl.MaxPlates)}}, impl.MaxPieces), slices.Repeat(sum("1000000"), impl.MaxSaid)
			if p.Mode <= impl.MoToss {
				p.Plates = manyPlates(impl.MaxPlates)
			}
		}), "all as much as may be")
	}
}

// What one Piece has does not count for another, nor for the Plates.
func TestEachPieceIsRight(t *testing.T) {
	wrongPlate := impl.Plate{Kind: impl.PlTry}
	for _, full := range fullPiles() {
		for count := 1; count <= impl.MaxPieces; count++ {
			for at := range count {
				p := ofMode(full.Mode, number(1))
				p.Pieces = slices.Repeat([]impl.Piece{{Plates: manyPlates(2)}}, count)
				checkPile(t, p, "right Pieces")
				p.Pieces[at] = impl.Piece{Plates: append(manyPlates(2), wrongPlate)}
				checkWrongPile(t, p, "one wrong Piece")
			}
		}
	}
}

func TestWordsThatPilesSaid(t *testing.T) {
	full := fullPiles()
	for _, p := range full {
		for _, v := range append(rightNumbers(), rightPieces()...) {
			checkPile(t, with(p, func(p *impl.Pile) { p.Said = append(p.Said, impl.ShowValue(v)) }), "a word Said")
		}
		// What was said is no Value of the pile: a piece may be told there that there is not.
		checkPile(t, with(ofMode(p.Mode, number(0)), func(p *impl.Pile) { p.Said = sum("p0 p19") }), "a piece Said")
	}
	for _, word := range append(wrongWords(), "arg", "add", "p", "p20", "p-1", "p00", "P1", "-", "1000001", "-1000001", "1 2", " 1", "1\n") {
		if slices.Contains([]string{"p0", "p1", "p19"}, word) {
			continue
		}
		for _, p := range full {
			for at := range len(p.Said) + 1 {
				checkWrongPile(t, with(p, func(p *impl.Pile) { p.Said = slices.Insert(p.Said, at, word) }), "no ShowValue: "+strconv.Quote(word))
			}
		}
	}
}

func TestIsOver(t *testing.T) {
	for _, p := range rightPiles() {
		if impl.IsOver(p) != slices.Contains([]int64{3, 4, 5, 6}, p.Mode) {
			t.Errorf("IsOver is %v of %s", impl.IsOver(p), tellPile(p))
		}
	}
	over := impl.Pile{Code: sum("say 1"), Mode: impl.MoDone, Value: number(1), Said: sum("1")}
	if !impl.IsOver(over) {
		t.Error("what is done is not over")
	}
	for _, wrong := range []impl.Pile{
		{}, {Mode: impl.MoDone}, {Code: sum("say"), Mode: impl.MoDone}, {Code: sum("1"), Mode: impl.MoLong + 1},
		with(over, func(p *impl.Pile) { p.Value = piece(0) }), with(over, func(p *impl.Pile) { p.Arg = number(1) }), with(over, func(p *impl.Pile) { p.Said = sum("x") }),
		with(over, func(p *impl.Pile) { p.Plates = []impl.Plate{{Kind: impl.PlFirst}} }), with(over, func(p *impl.Pile) { p.Mode = impl.MoWrong }),
	} {
		checkWrongPile(t, wrong, "not PileOk")
	}
}

// otherPiles part from p in one field each, right or not; each of its lists has two different ones at least.
func otherPiles(p impl.Pile) []impl.Pile {
	changes := []func(*impl.Pile){
		func(p *impl.Pile) { p.Mode++ }, func(p *impl.Pile) { p.At++ }, func(p *impl.Pile) { p.At-- },
		func(p *impl.Pile) { p.Arg.Kind++ }, func(p *impl.Pile) { p.Arg.N++ }, func(p *impl.Pile) { p.Value.Kind++ }, func(p *impl.Pile) { p.Value.N++ },
		func(p *impl.Pile) { p.Code = nil }, func(p *impl.Pile) { p.Code = p.Code[1:] }, func(p *impl.Pile) { p.Code = append(p.Code, "") },
		func(p *impl.Pile) { p.Code[0], p.Code[1] = p.Code[1], p.Code[0] }, func(p *impl.Pile) { p.Code = []string{strings.Join(p.Code, " ")} },
		func(p *impl.Pile) { p.Said = nil }, func(p *impl.Pile) { p.Said = p.Said[1:] }, func(p *impl.Pile) { p.Said = append(p.Said, "") },
		func(p *impl.Pile) { p.Said[0], p.Said[1] = p.Said[1], p.Said[0] }, func(p *impl.Pile) { p.Said = []string{strings.Join(p.Said, " ")} },
		func(p *impl.Pile) { p.Plates = nil }, func(p *impl.Pile) { p.Plates = p.Plates[1:] }, func(p *impl.Pile) { p.Plates = append(p.Plates, impl.Plate{}) },
		func(p *impl.Pile) { p.Plates[0], p.Plates[1] = p.Plates[1], p.Plates[0] },
		func(p *impl.Pile) { p.Pieces = nil }, func(p *impl.Pile) { p.Pieces = p.Pieces[1:] }, func(p *impl.Pile) { p.Pieces = append(p.Pieces, impl.Piece{}) },
		func(p *impl.Pile) { p.Pieces[0], p.Pieces[1] = p.Pieces[1], p.Pieces[0] }, func(p *impl.Pile) { p.Pieces[0].Plates = nil },
		func(p *impl.Pile) { p.Pieces[1].Plates = append(p.Pieces[1].Plates, impl.Plate{}) },
		func(p *impl.Pile) {
			p.Pieces = []impl.Piece{{Plates: slices.Concat(p.Pieces[0].Plates, p.Pieces[1].Plates)}, {}, p.Pieces[2]}
		},
	}
	others := []impl.Pile{}
	for _, change := range changes {
		others = append(others, with(p, change))
	}
	for at := range p.Code {
		others = append(others, with(p, func(p *impl.Pile) { p.Code[at] += "0" }))
	}
	for at := range p.Said {
		others = append(others, with(p, func(p *impl.Pile) { p.Said[at] += "0" }))
	}
	for at := range p.Plates {
		for _, plate := range otherPlates(p.Plates[at]) {
			others = append(others, with(p, func(p *impl.Pile) { p.Plates[at] = plate }))
		}
	}
	for i, one := range p.Pieces {
		for at := range one.Plates {
			for _, plate := range otherPlates(one.Plates[at]) {
				others = append(others, with(p, func(p *impl.Pile) { p.Pieces[i].Plates[at] = plate }))
			}
		}
	}
	return others
}

func checkSamePile(t *testing.T, a impl.Pile, b impl.Pile, want bool) {
	t.Helper()
	if impl.SamePile(a, b) != want || impl.SamePile(b, a) != want {
		t.Fatalf("SamePile is not %v both ways round of\n%s\n%s", want, tellPile(a), tellPile(b))
	}
}

func TestSamePile(t *testing.T) {
	for _, p := range fullPiles() {
		p.Pieces[1].Plates = platesOf(p.Code, piece(1))[3:]
		p.Plates = platesOf(p.Code, piece(0))
		for _, other := range otherPiles(p) {
			checkSamePile(t, p, other, false)
			checkSamePile(t, other, copyOf(other), true)
		}
	}
	for i, p := range rightPiles() {
		checkSamePile(t, p, p, true)
		checkSamePile(t, p, copyOf(p), true)
		if i > 0 {
			checkSamePile(t, rightPiles()[0], p, false)
		}
	}
}

// Piles that are not PileOk are held against each other as right ones are.
func TestSamePileOfWrongPiles(t *testing.T) {
	wrong := []impl.Pile{{Mode: -1}, {At: -1}, {Arg: piece(99)}, {Value: impl.Value{Kind: 5}}, {Code: sum("what")}, {Said: sum("x y")}, {Plates: wrongPlates()}, {Pieces: emptyPieces(99)}, {Pieces: []impl.Piece{{Plates: wrongPlates()}}}, {}}
	for i, a := range wrong {
		for j, b := range wrong {
			checkSamePile(t, a, copyOf(b), i == j)
		}
	}
}

func TestEmptyListsOfPilesAreTheSameAsNone(t *testing.T) {
	empty := impl.Pile{Code: []string{}, Plates: []impl.Plate{}, Pieces: []impl.Piece{}, Said: []string{}}
	checkSamePile(t, empty, impl.Pile{}, true)
	checkSamePile(t, impl.Pile{Pieces: []impl.Piece{{Plates: []impl.Plate{}}}}, impl.Pile{Pieces: emptyPieces(1)}, true)
	checkSamePile(t, impl.Pile{Pieces: []impl.Piece{{Plates: []impl.Plate{}}}}, impl.Pile{}, false)
	for _, mode := range allModes() {
		a := ofMode(mode, number(5))
		b := with(a, func(p *impl.Pile) { p.Plates, p.Pieces, p.Said = []impl.Plate{}, []impl.Piece{}, []string{} })
		checkSamePile(t, a, b, true)
		checkPile(t, b, "empty lists")
	}
}

// changePile changes one thing of p, which may make it right or wrong.
func changePile(random *rand.Rand, p *impl.Pile) {
	values := append(rightValues(), wrongValues()...)
	values = append(values, piece(0), piece(1), piece(2), piece(3), number(0), number(0), number(0))
	value := values[random.Intn(len(values))]
	plates := &p.Plates
	if len(p.Pieces) > 0 && random.Intn(2) == 0 {
		plates = &p.Pieces[random.Intn(len(p.Pieces))].Plates
	}
	switch random.Intn(9) {
	case 0:
		p.Mode = random.Int63n(9) - 1
	case 1:
		p.At = random.Int63n(int64(len(everyWord())+2)) - 1
	case 2:
		p.Arg = value
	case 3:
		p.Value = value
	case 4:
		*plates = nil
	case 5:
		*plates = append(*plates, kindsOfPlates()[random.Intn(8)].with(random.Int63n(int64(len(everyWord()))), value))
	case 6:
		*plates = slices.Repeat(platesOf(everyWord(), number(1)), random.Intn(5))
	case 7:
		p.Pieces = append(p.Pieces, emptyPieces(random.Intn(20))...)
	case 8:
		p.Said = slices.Repeat(append(p.Said, fieldText(value)), 1+random.Intn(9))
	}
}

// Promise 21: whatever a pile is made of, it is right or not as the document tells.
func TestMadePiles(t *testing.T) {
	random := rand.New(rand.NewSource(6))
	piles := rightPiles()
	seen := map[int64]int{}
	for range 60000 {
		p := copyOf(piles[random.Intn(len(piles))])
		for range random.Intn(4) {
			changePile(random, &p)
		}
		is := holdsPile(p)
		checkPileIs(t, p, is, "a made pile")
		if is {
			seen[p.Mode]++
		} else {
			seen[-1]++
		}
	}
	for mode := int64(-1); mode <= impl.MoLong; mode++ {
		if seen[mode] < 500 {
			t.Errorf("only %d of the piles had Mode %d (-1: were wrong)", seen[mode], mode)
		}
	}
}

// Promise 21: every function answers at every argument and none panics.
func TestPilesAnswerAtExtremes(t *testing.T) {
	const many = 1 << 20
	ends := []int64{math.MinInt64, math.MinInt64 + 1, -1, 0, 1, 2, 6, 7, 59, 60, math.MaxInt64 - 1, math.MaxInt64}
	for _, mode := range ends {
		for _, at := range ends {
			for _, n := range ends {
				p := impl.Pile{Code: sum("try 1 2"), Mode: mode, At: at, Arg: impl.Value{Kind: at, N: n}, Value: impl.Value{Kind: n, N: at}, Plates: []impl.Plate{{Kind: impl.PlTry, At: n}}}
				checkPileIs(t, p, holdsPile(p), "an extreme pile")
				p.Plates = nil
				checkPileIs(t, p, holdsPile(p), "an extreme pile")
				p.Code = nil
				checkWrongPile(t, p, "no Code")
				checkSamePile(t, p, copyOf(p), true)
			}
		}
	}
	for _, p := range []impl.Pile{
		{Code: slices.Repeat(sum("say"), many)}, {Code: slices.Repeat(sum("1"), many)}, {Code: []string{strings.Repeat("1", many)}},
		{Code: sum("1"), Plates: make([]impl.Plate, many)}, {Code: sum("try 1 2"), Plates: slices.Repeat([]impl.Plate{{Kind: impl.PlTry}}, many)},
		{Code: sum("1"), Pieces: emptyPieces(many)}, {Code: sum("1"), Pieces: emptyPieces(many), Arg: piece(many - 1)}, {Code: sum("1"), Said: slices.Repeat(sum("1"), many)},
		{Code: sum("1"), Said: []string{strings.Repeat("1", many)}}, {Code: sum("try 1 2"), Pieces: []impl.Piece{{Plates: slices.Repeat([]impl.Plate{{Kind: impl.PlTry}}, many)}}},
	} {
		checkWrongPile(t, p, "a very long list")
		checkSamePile(t, p, p, true)
		checkSamePile(t, p, impl.Pile{Code: sum("2")}, false)
		checkNoNewPile(t, p.Code, piece(0))
		if len(p.Code) > impl.MaxWords {
			checkNoNewPile(t, p.Code, number(0))
		}
	}
}

// roomOf is the pile with all the spare room behind its lists in the lists.
func roomOf(p impl.Pile) impl.Pile {
	p.Code, p.Plates, p.Pieces, p.Said = p.Code[:cap(p.Code)], p.Plates[:cap(p.Plates)], p.Pieces[:cap(p.Pieces)], p.Said[:cap(p.Said)]
	p.Pieces = slices.Clone(p.Pieces)
	for i, one := range p.Pieces {
		p.Pieces[i].Plates = one.Plates[:cap(one.Plates)]
	}
	return p
}

// Promise 21: arguments stay, the spare room behind them too.
func TestPilesLeaveArguments(t *testing.T) {
	piles := append(rightPiles(), impl.Pile{}, impl.Pile{Code: sum("say"), Plates: wrongPlates()[:9], Said: sum("x"), Pieces: []impl.Piece{{Plates: wrongPlates()[:9]}}})
	for _, p := range piles {
		a, b := copyOf(p), copyOf(p)
		before := copyOf(roomOf(a))
		impl.PileOk(a)
		impl.IsOver(a)
		impl.SamePile(a, b)
		impl.SamePile(b, a)
		impl.NewPile(a.Code, a.Arg)
		impl.NewPile(a.Code, number(1))
		checkSamePile(t, roomOf(a), before, true)
		checkSamePile(t, a, p, true)
	}
}

// Promise 21: NewPile's answer shares no memory with the code, nor with another answer.
func TestNewPilesAreNewMemory(t *testing.T) {
	for _, code := range append(ordinarySums(), everyWord()) {
		mine := append(make([]string, 0, len(code)+5), code...)
		first, _ := impl.NewPile(mine, number(1))
		second, _ := impl.NewPile(mine, number(1))
		for _, l := range [][]string{first.Code[:cap(first.Code)], mine[:cap(mine)]} {
			for i := range l {
				l[i] = "spoilt"
			}
			if !slices.Equal(second.Code, code) {
				t.Fatalf("NewPile(%q): what is answered is %q once other memory was written into", code, second.Code)
			}
		}
		mine = append(mine[:0], code...)
		third, _ := impl.NewPile(mine, number(1))
		for i := range third.Code {
			third.Code[i] = "spoilt"
		}
		_ = append(third.Code, "spoilt", "spoilt")
		if room := mine[:cap(mine)]; !slices.Equal(mine, code) || room[len(code)] != "spoilt" {
			t.Fatalf("NewPile(%q): the code became %q once the answer was written into", code, room)
		}
		checkNewPile(t, code, number(1))
	}
}
