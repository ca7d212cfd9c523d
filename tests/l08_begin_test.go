package tests

import (
	"fmt"
	"math"
	"math/rand"
	"slices"
	"strconv"
	"strings"
	"testing"

	"loop.example/g00625/impl"
)

// begunBy reads chapter 8, and what chapter 11 tells of how a cut is begun, again from the document, apart from the program's own.
func begunBy(p impl.Pile) impl.Pile {
	if !holdsPile(p) {
		return impl.Pile{}
	}
	p = copyOf(p)
	if p.Mode != 0 {
		return p
	}
	parts := partsAt(p.Code, p.At)
	if len(parts) == 0 {
		return valueBy(p)
	}
	if p.Code[p.At] == "cut" {
		return cutBy(p, parts[0])
	}
	kinds := map[string]int64{"keep": 3, "try": 7, "mark": 8}
	plate := impl.Plate{Kind: max(1, kinds[p.Code[p.At]]), At: p.At, Arg: p.Arg}
	if plate.Kind == 8 {
		plate.Arg = impl.Value{}
	}
	if p.Plates = append(p.Plates, plate); len(p.Plates) > 60 {
		return stoppedBy(p, 6)
	}
	p.At = parts[0]
	return p
}

func valueBy(p impl.Pile) impl.Pile {
	v := p.Arg
	switch p.Code[p.At] {
	case "arg":
	case "ask":
		n, _ := strconv.ParseInt(p.Code[p.At+1], 10, 64)
		is := false
		if v, is = boundBy(p.Code, p.Plates, n); !is {
			return stoppedBy(p, 5)
		}
	default:
		n, _ := strconv.ParseInt(p.Code[p.At], 10, 64)
		v = number(n)
	}
	return impl.Pile{Code: p.Code, Mode: 1, Value: v, Plates: p.Plates, Pieces: p.Pieces, Said: p.Said}
}

func cutBy(p impl.Pile, first int64) impl.Pile {
	mark := placeBy(p.Plates, 8)
	if mark < 0 {
		return stoppedBy(p, 5)
	}
	if len(p.Pieces) == 20 {
		return stoppedBy(p, 6)
	}
	p.At, p.Arg = first, piece(int64(len(p.Pieces)))
	p.Pieces = append(p.Pieces, impl.Piece{Plates: slices.Clone(p.Plates[mark+1:])})
	p.Plates = slices.Clone(p.Plates[:mark+1])
	return p
}

func stoppedBy(p impl.Pile, mode int64) impl.Pile {
	return impl.Pile{Code: p.Code, Mode: mode, Pieces: p.Pieces, Said: p.Said}
}

// firstBy reads FirstOf again: of a code that is no sum nothing is told.
func firstBy(code []string, at int64) int64 {
	if len(code) == 0 || len(code) > 60 || endOf(code, 0) != int64(len(code)) || !slices.Contains(startsOf(code, 0), at) {
		return -1
	}
	parts := partsAt(code, at)
	if len(parts) == 0 {
		return -1
	}
	return parts[0]
}

func checkBegun(t *testing.T, p impl.Pile, want impl.Pile) {
	t.Helper()
	if begun := impl.Begun(p); !impl.SamePile(begun, want) {
		t.Fatalf("Begun of\n%s\nis\n%s\nwant\n%s", tellPile(p), tellPile(begun), tellPile(want))
	}
}

// checkBegunRight is promise 8, and holds the pile against the reading of the test.
func checkBegunRight(t *testing.T, p impl.Pile) {
	t.Helper()
	begun := impl.Begun(p)
	if !impl.PileOk(begun) || !holdsPile(begun) {
		t.Fatalf("Begun of\n%s\nis not right:\n%s", tellPile(p), tellPile(begun))
	}
	if len(begun.Plates) > len(p.Plates)+1 || len(begun.Pieces) > len(p.Pieces)+1 {
		t.Fatalf("Begun of %d Plates and %d Pieces has %d and %d", len(p.Plates), len(p.Pieces), len(begun.Plates), len(begun.Pieces))
	}
	checkBegun(t, p, begunBy(p))
}

func checkZeroBegun(t *testing.T, p impl.Pile, what string) {
	t.Helper()
	begun := impl.Begun(p)
	if begun.Mode != 0 || begun.At != 0 || begun.Arg != (impl.Value{}) || begun.Value != (impl.Value{}) || len(begun.Code)+len(begun.Plates)+len(begun.Pieces)+len(begun.Said) > 0 {
		t.Fatalf("%s: Begun of %s is %s, want the zero Pile", what, tellPile(p), tellPile(begun))
	}
}

func checkFirst(t *testing.T, code []string, at int64, want int64) {
	t.Helper()
	if first := impl.FirstOf(code, at); first != want {
		t.Fatalf("FirstOf(%d words %.300q, %d) is %d, want %d", len(code), code, at, first, want)
	}
}

// beginsAt is a pile that begins everyWord's sum of that word, with Plates, Pieces and Said, but no mark.
func beginsAt(word string, arg impl.Value) impl.Pile {
	return impl.Pile{
		Code: everyWord(), At: placeOf(word), Arg: arg,
		Plates: []impl.Plate{{Kind: impl.PlFirst, At: placeOf("both"), Arg: number(2)}, {Kind: impl.PlBind, At: placeOf("bind"), Value: piece(1)}},
		Pieces: []impl.Piece{{Plates: manyPlates(2)}, {Plates: platesOf(everyWord(), piece(0))}}, Said: sum("7 p1"),
	}
}

// begins is a pile of that code, at its beginning.
func begins(code string, plates ...impl.Plate) impl.Pile {
	return impl.Pile{Code: sum(code), Plates: plates}
}

// laidOn is what the pile is once a plate was laid and the sum at first is to be begun.
func laidOn(p impl.Pile, plate impl.Plate, first int64) impl.Pile {
	return with(p, func(p *impl.Pile) { p.Plates, p.At = append(p.Plates, plate), first })
}

// givesOf is what the pile is once v is to be given.
func givesOf(p impl.Pile, v impl.Value) impl.Pile {
	return with(p, func(p *impl.Pile) { p.Mode, p.At, p.Arg, p.Value = impl.MoGive, 0, impl.Value{}, v })
}

func ordinaryArgs() []impl.Value {
	return append(rightNumbers(), piece(0), piece(1))
}

func TestNumbersAreGiven(t *testing.T) {
	for _, word := range append(rightNumberWords(), "999999", "-999999", "1000000", "-1000000", "0") {
		n, _ := strconv.ParseInt(word, 10, 64)
		for _, arg := range rightNumbers() {
			p := impl.Pile{Code: []string{word}, Arg: arg}
			checkBegun(t, p, impl.Pile{Code: []string{word}, Mode: impl.MoGive, Value: number(n)})
			within := begins("add say "+word+" 5", impl.Plate{Kind: impl.PlFirst, Arg: arg})
			within.At, within.Arg, within.Said = 2, arg, sum("p4")
			checkBegun(t, within, givesOf(within, number(n)))
		}
	}
	full := beginsAt("1", piece(1))
	checkBegun(t, full, givesOf(full, number(1)))
}

func TestArgIsGiven(t *testing.T) {
	for _, arg := range ordinaryArgs() {
		p := beginsAt("arg", arg)
		checkBegun(t, p, givesOf(p, arg))
		last := with(p, func(p *impl.Pile) { p.At = int64(len(p.Code) - 1) })
		checkBegun(t, last, givesOf(p, arg))
		alone := impl.Pile{Code: sum("arg"), Arg: arg, Pieces: emptyPieces(2)}
		checkBegun(t, alone, givesOf(alone, arg))
	}
}

// Promise 8: where more is to come of a sum, that is on one Plate more, and the first sum is begun with the same Arg.
func TestSumsAreLaidOnPlates(t *testing.T) {
	for _, arg := range ordinaryArgs() {
		for _, word := range wordsOfKind(impl.PlFirst) {
			p := beginsAt(word, arg)
			first := p.At + 1
			if word == "bind" {
				first++
			}
			checkBegun(t, p, laidOn(p, impl.Plate{Kind: impl.PlFirst, At: p.At, Arg: arg}, first))
		}
		p := beginsAt("keep", arg)
		checkBegun(t, p, laidOn(p, impl.Plate{Kind: impl.PlKeep, At: p.At, Arg: arg}, p.At+1))
		p = beginsAt("try", arg)
		checkBegun(t, p, laidOn(p, impl.Plate{Kind: impl.PlTry, At: p.At, Arg: arg}, p.At+1))
		p = beginsAt("mark", arg)
		checkBegun(t, p, laidOn(p, impl.Plate{Kind: impl.PlMark, At: p.At}, p.At+1))
	}
}

func TestFirstSumsOfTheCode(t *testing.T) {
	for _, c := range []struct {
		code  string
		kind  int64
		first int64
	}{
		{"add 1 2", 1, 1}, {"below arg 2", 1, 1}, {"both say 1 2", 1, 1}, {"say arg", 1, 1}, {"if 1 2 3", 1, 1}, {"bind 3 add 1 2 arg", 1, 2},
		{"throw 1", 1, 1}, {"go 1 2", 1, 1}, {"keep 1 2", 3, 1}, {"try arg 2", 7, 1}, {"mark cut 1", 8, 1},
	} {
		for _, arg := range rightNumbers() {
			p := begins(c.code)
			p.Arg = arg
			plate := impl.Plate{Kind: c.kind, Arg: arg}
			if c.kind == impl.PlMark {
				plate.Arg = impl.Value{}
			}
			checkBegun(t, p, laidOn(p, plate, c.first))
		}
	}
}

func TestAskGivesWhatIsBound(t *testing.T) {
	code := "bind 0 1 bind 1 2 bind 2 3 bind 3 4 bind 0 5 ask "
	for n := range int64(4) {
		p := begins(code+strconv.FormatInt(n, 10), bindPlate(0, number(10)), bindPlate(1, piece(0)), bindPlate(2, number(0)), bindPlate(3, number(-5)))
		p.At, p.Arg, p.Pieces, p.Said = 15, number(9), emptyPieces(1), sum("4")
		checkBegun(t, p, givesOf(p, []impl.Value{number(10), piece(0), number(0), number(-5)}[n]))
		hidden := with(p, func(p *impl.Pile) { p.Plates = append(p.Plates, bindPlate(n, number(77)), plateOf(impl.PlMark, 0)) })
		hidden.Code = slices.Concat(sum("mark"), hidden.Code)
		for i := range hidden.Plates {
			hidden.Plates[i].At++
		}
		hidden.Plates[5].At, hidden.At = 0, 16
		checkBegun(t, hidden, givesOf(hidden, number(77)))
		missing := with(p, func(p *impl.Pile) { p.Plates = slices.Delete(p.Plates, int(n), int(n)+1) })
		checkBegun(t, missing, impl.Pile{Code: p.Code, Mode: impl.MoWrong, Pieces: emptyPieces(1), Said: sum("4")})
	}
	// The same bind, twice on the pile, and another bind of that number.
	p := begins(code+"0", bindPlate(4, number(1)), bindPlate(0, number(2)))
	p.At = 15
	checkBegun(t, p, givesOf(p, number(2)))
	p.Plates = append(p.Plates, bindPlate(4, number(3)))
	checkBegun(t, p, givesOf(p, number(3)))
	// An ask does not look into Pieces.
	p.Pieces, p.Plates = []impl.Piece{{Plates: p.Plates}}, nil
	checkBegun(t, p, impl.Pile{Code: p.Code, Mode: impl.MoWrong, Pieces: p.Pieces})
}

func TestAskWhereNothingIsBound(t *testing.T) {
	for _, word := range sum("0 1 2 3") {
		checkBegun(t, begins("ask "+word), impl.Pile{Code: sum("ask " + word), Mode: impl.MoWrong})
	}
	p := beginsAt("ask", number(4))
	p.Code = slices.Replace(p.Code, int(p.At)+1, int(p.At)+2, "2")
	checkBegun(t, p, impl.Pile{Code: p.Code, Mode: impl.MoWrong, Pieces: p.Pieces, Said: p.Said})
	p.Plates = nil
	checkBegun(t, p, impl.Pile{Code: p.Code, Mode: impl.MoWrong, Pieces: p.Pieces, Said: p.Said})
}

// Exactly MaxPlates are accepted, one more is MoLong; what lays no plate never is.
func TestMostPlatesThatAreLaid(t *testing.T) {
	words := append(wordsOfKind(impl.PlFirst), "keep", "try", "mark")
	for _, arg := range []impl.Value{number(5), piece(1)} {
		for _, word := range words {
			p := beginsAt(word, arg)
			p.Plates = manyPlates(impl.MaxPlates - 1)
			begun := impl.Begun(p)
			if len(begun.Plates) != impl.MaxPlates || begun.Mode != impl.MoBegin || begun.At <= p.At || begun.Arg != arg || !slices.Equal(begun.Plates[:impl.MaxPlates-1], p.Plates) {
				t.Fatalf("%s with MaxPlates less 1 is %s", word, tellPile(begun))
			}
			checkBegunRight(t, p)
			p.Plates = manyPlates(impl.MaxPlates)
			checkBegun(t, p, impl.Pile{Code: p.Code, Mode: impl.MoLong, Pieces: p.Pieces, Said: p.Said})
		}
		full := slices.Insert(manyPlates(impl.MaxPlates-1), 20, impl.Plate{Kind: impl.PlBind, At: placeOf("bind"), Value: number(8)})
		for word, v := range map[string]impl.Value{"1": number(1), "arg": arg, "ask": number(8)} {
			p := beginsAt(word, arg)
			p.Plates = full
			checkBegun(t, p, givesOf(p, v))
		}
		p := beginsAt("ask", arg)
		p.Plates = manyPlates(impl.MaxPlates)
		checkBegun(t, p, impl.Pile{Code: p.Code, Mode: impl.MoWrong, Pieces: p.Pieces, Said: p.Said})
	}
}

func markPlate() impl.Plate { return impl.Plate{Kind: impl.PlMark, At: placeOf("mark")} }

// checkCut begins a cut of Plates that stay below, and those that are cut out of above.
func checkCut(t *testing.T, p impl.Pile, below []impl.Plate, above []impl.Plate) {
	t.Helper()
	p.Plates = slices.Concat(below, above)
	checkBegun(t, p, with(p, func(x *impl.Pile) {
		x.At, x.Arg, x.Plates = p.At+1, piece(int64(len(p.Pieces))), below
		x.Pieces = append(x.Pieces, impl.Piece{Plates: above})
	}))
}

func TestCutsTakeWhatIsAboveTheMark(t *testing.T) {
	mark := markPlate()
	without := slices.DeleteFunc(platesOf(everyWord(), number(3)), func(p impl.Plate) bool { return p.Kind == impl.PlMark })
	for _, arg := range ordinaryArgs() {
		p := beginsAt("cut", arg)
		for _, above := range [][]impl.Plate{nil, p.Plates, manyPlates(1), without, manyPlates(20)} {
			checkCut(t, p, []impl.Plate{mark}, above)
			checkCut(t, p, append(manyPlates(2), mark), above)
			checkCut(t, p, []impl.Plate{mark, mark}, above)
			checkCut(t, p, slices.Concat([]impl.Plate{mark}, without, []impl.Plate{mark}), above)
			checkCut(t, p, slices.Concat(manyPlates(3), []impl.Plate{mark, mark}, manyPlates(1), []impl.Plate{mark}), above)
		}
		checkCut(t, p, append(manyPlates(impl.MaxPlates-1), mark), nil)
		checkCut(t, p, []impl.Plate{mark}, manyPlates(impl.MaxPlates-1))
		checkCut(t, p, append(manyPlates(30), mark), manyPlates(impl.MaxPlates-31))
	}
}

func TestCutsWithoutAMark(t *testing.T) {
	for _, count := range []int{2, impl.MaxPieces - 1, impl.MaxPieces} {
		for _, plates := range [][]impl.Plate{nil, manyPlates(1), manyPlates(impl.MaxPlates), beginsAt("cut", number(1)).Plates} {
			p := beginsAt("cut", piece(1))
			p.Plates, p.Pieces = plates, emptyPieces(count)
			// MoWrong is named ahead of MoLong: it is told where there are MaxPieces, too.
			checkBegun(t, p, impl.Pile{Code: p.Code, Mode: impl.MoWrong, Pieces: p.Pieces, Said: p.Said})
		}
	}
	checkBegun(t, begins("cut arg"), impl.Pile{Code: sum("cut arg"), Mode: impl.MoWrong})
	// A mark in a Piece is none of the pile's own.
	p := beginsAt("cut", number(1))
	p.Pieces[0].Plates = []impl.Plate{markPlate()}
	checkBegun(t, p, impl.Pile{Code: p.Code, Mode: impl.MoWrong, Pieces: p.Pieces, Said: p.Said})
}

func TestMostPiecesThatAreCut(t *testing.T) {
	for count := range impl.MaxPieces {
		p := beginsAt("cut", number(1))
		p.Pieces = slices.Repeat([]impl.Piece{{Plates: manyPlates(2)}}, count)
		checkCut(t, p, []impl.Plate{markPlate()}, manyPlates(3))
		checkCut(t, p, []impl.Plate{markPlate()}, nil)
	}
	p := beginsAt("cut", number(1))
	p.Pieces = slices.Repeat([]impl.Piece{{Plates: manyPlates(2)}}, impl.MaxPieces)
	for _, above := range [][]impl.Plate{nil, manyPlates(3)} {
		p.Plates = append([]impl.Plate{markPlate()}, above...)
		checkBegun(t, p, impl.Pile{Code: p.Code, Mode: impl.MoLong, Pieces: p.Pieces, Said: p.Said})
	}
	// MaxPieces hold back nothing but a cut.
	for _, word := range append(wordsOfKind(impl.PlFirst), "keep", "try", "mark", "arg", "1", "ask") {
		p := beginsAt(word, piece(19))
		p.Pieces = emptyPieces(impl.MaxPieces)
		checkBegunRight(t, p)
		if mode := impl.Begun(p).Mode; mode > impl.MoGive {
			t.Errorf("%s with MaxPieces: Mode %d", word, mode)
		}
	}
}

// A cut within what is done with a piece that was cut: each Piece has what was above, and the older ones stay.
func TestOneCutAfterTheOther(t *testing.T) {
	p := begins("mark say cut throw cut 1")
	p.Arg = number(5)
	for range 5 {
		p = impl.Begun(p)
	}
	want := begins("mark say cut throw cut 1", impl.Plate{Kind: impl.PlMark})
	want.At, want.Arg = 5, piece(1)
	want.Pieces = []impl.Piece{{Plates: []impl.Plate{{Kind: impl.PlFirst, At: 1, Arg: number(5)}}}, {Plates: []impl.Plate{{Kind: impl.PlFirst, At: 3, Arg: piece(0)}}}}
	if !impl.SamePile(p, want) {
		t.Fatalf("it is %s, want %s", tellPile(p), tellPile(want))
	}
	checkBegun(t, p, givesOf(p, number(1)))
}

func TestOtherModesStayAsTheyAre(t *testing.T) {
	for _, p := range append(rightPiles(), fullPiles()...) {
		if p.Mode != impl.MoBegin {
			checkBegun(t, p, p)
		}
	}
	for _, mode := range modesOfPlates()[1:] {
		for _, v := range ordinaryArgs() {
			p := ofMode(mode, v)
			p.Plates, p.Pieces = append(manyPlates(impl.MaxPlates-1), markPlate()), emptyPieces(impl.MaxPieces)
			checkBegun(t, p, p)
		}
	}
}

// wrongPiles are not PileOk in one way each of those that chapter 6 names, made of a right one.
func wrongPiles(p impl.Pile) map[string]impl.Pile {
	changes := map[string]func(*impl.Pile){
		"a Mode below MoBegin":        func(p *impl.Pile) { p.Mode = -1 },
		"a Mode above MoLong":         func(p *impl.Pile) { p.Mode = 7 },
		"no Code":                     func(p *impl.Pile) { p.Code = nil },
		"a word too many":             func(p *impl.Pile) { p.Code = append(p.Code, "1") },
		"a word too few":              func(p *impl.Pile) { p.Code = p.Code[:len(p.Code)-1] },
		"a word that is none":         func(p *impl.Pile) { p.Code[placeOf("3")] = "what" },
		"a Code too long":             func(p *impl.Pile) { p.Code = slices.Concat(slices.Repeat(sum("say"), 60), p.Code) },
		"an At below 0":               func(p *impl.Pile) { p.At = -1 },
		"an At past the end":          func(p *impl.Pile) { p.At = int64(len(p.Code)) },
		"the greatest At":             func(p *impl.Pile) { p.At = math.MaxInt64 },
		"the number behind bind":      func(p *impl.Pile) { p.At = placeOf("bind") + 1 },
		"the number behind ask":       func(p *impl.Pile) { p.At = placeOf("ask") + 1 },
		"an Arg past MaxNumber":       func(p *impl.Pile) { p.Arg = number(impl.MaxNumber + 1) },
		"an Arg of no Kind":           func(p *impl.Pile) { p.Arg = impl.Value{Kind: 2} },
		"an Arg that is no Piece":     func(p *impl.Pile) { p.Arg = piece(int64(len(p.Pieces))) },
		"a Value past MaxNumber":      func(p *impl.Pile) { p.Value = number(-impl.MaxNumber - 1) },
		"a Value of no Kind":          func(p *impl.Pile) { p.Value = impl.Value{Kind: -1} },
		"a Value that is no Piece":    func(p *impl.Pile) { p.Value = piece(int64(len(p.Pieces))) },
		"too many Plates":             func(p *impl.Pile) { p.Plates = manyPlates(impl.MaxPlates + 1) },
		"a Plate of no Kind":          func(p *impl.Pile) { p.Plates = []impl.Plate{{}} },
		"a Plate at another word":     func(p *impl.Pile) { p.Plates = []impl.Plate{{Kind: impl.PlTry, At: placeOf("keep")}} },
		"a Plate past the end":        func(p *impl.Pile) { p.Plates = []impl.Plate{{Kind: impl.PlTry, At: int64(len(p.Code))}} },
		"a Plate with too much":       func(p *impl.Pile) { p.Plates = []impl.Plate{{Kind: impl.PlMark, At: 1, Value: number(1)}} },
		"a Plate of no Piece":         func(p *impl.Pile) { p.Plates = []impl.Plate{{Kind: impl.PlTry, At: placeOf("try"), Arg: piece(19)}} },
		"too many Pieces":             func(p *impl.Pile) { p.Pieces = slices.Repeat(p.Pieces, 7) },
		"a Piece with too many":       func(p *impl.Pile) { p.Pieces[2].Plates = manyPlates(impl.MaxPlates + 1) },
		"a Piece of a Plate wrong":    func(p *impl.Pile) { p.Pieces[1].Plates = []impl.Plate{{Kind: impl.PlFirst, At: 1}} },
		"a Piece that tells no Piece": func(p *impl.Pile) { p.Pieces[1].Plates[0].Arg = piece(3) },
		"too many words Said":         func(p *impl.Pile) { p.Said = slices.Repeat(sum("1"), impl.MaxSaid+1) },
		"a word Said that is none":    func(p *impl.Pile) { p.Said[1] = "01" },
	}
	wrong := map[string]impl.Pile{}
	for what, change := range changes {
		wrong[what] = with(p, change)
	}
	return wrong
}

func TestWhatIsNotPileOkIsTheZeroPile(t *testing.T) {
	for _, word := range sum("both mark cut go arg 1 bind add say if below ask keep try throw") {
		p := beginsAt(word, piece(1))
		p.Plates = append(p.Plates, markPlate())
		p.Pieces = slices.Repeat([]impl.Piece{{Plates: platesOf(p.Code, number(7))}}, 3)
		checkBegunRight(t, p)
		for what, wrong := range wrongPiles(p) {
			checkZeroBegun(t, wrong, what)
		}
		checkZeroBegun(t, with(p, func(p *impl.Pile) { p.Value = number(1) }), "a Value in MoBegin")
	}
	for _, full := range fullPiles()[1:] {
		checkZeroBegun(t, with(full, func(p *impl.Pile) { p.At = 1 }), "an At in another Mode")
		checkZeroBegun(t, with(full, func(p *impl.Pile) { p.Arg = number(1) }), "an Arg in another Mode")
		if full.Mode >= impl.MoDone {
			checkZeroBegun(t, with(full, func(p *impl.Pile) { p.Plates = manyPlates(1) }), "Plates when all is over")
		}
		if full.Mode >= impl.MoWrong {
			checkZeroBegun(t, with(full, func(p *impl.Pile) { p.Value = number(1) }), "a Value in MoWrong and MoLong")
		}
	}
	checkZeroBegun(t, impl.Pile{}, "the zero Pile")
	for _, code := range wrongCodes() {
		checkZeroBegun(t, impl.Pile{Code: code}, "a Code that is no sum")
	}
}

// Promise 8: of all sums, at all places, with few Plates and many.
func TestBegunIsRight(t *testing.T) {
	codes := append(ordinarySums(), everyWord(), boundCode())
	for _, code := range append(codes, longSums(impl.MaxWords)...) {
		for _, at := range startsOf(code, 0) {
			for _, arg := range []impl.Value{number(-3), piece(0)} {
				p := impl.Pile{Code: code, At: at, Arg: arg, Pieces: []impl.Piece{{}, {Plates: platesOf(code, piece(1))}}, Said: sum("p9 0")}
				checkBegunRight(t, p)
				p.Plates = platesOf(code, piece(1))
				checkBegunRight(t, p)
				slices.Reverse(p.Plates)
				checkBegunRight(t, p)
				if len(p.Plates) > 0 {
					p.Plates = slices.Repeat(p.Plates[:1], impl.MaxPlates)
					checkBegunRight(t, p)
					checkBegunRight(t, with(p, func(p *impl.Pile) { p.Plates = p.Plates[1:] }))
				}
			}
		}
	}
}

// A new pile, begun as long as it begins: each step is as the document tells, and it ends once nothing is to be begun.
func TestBegunAgainAndAgain(t *testing.T) {
	random := rand.New(rand.NewSource(8))
	for range 3000 {
		code := madeSum(random, random.Intn(50))
		if len(code) > impl.MaxWords {
			continue
		}
		p, _ := impl.NewPile(code, number(random.Int63n(9)-4))
		for range len(code) {
			checkBegunRight(t, p)
			p = impl.Begun(p)
		}
		if p.Mode == impl.MoBegin || !impl.SamePile(impl.Begun(p), p) {
			t.Fatalf("%q is still begun: %s", code, tellPile(p))
		}
	}
}

// madeBeginning is a right pile in MoBegin.
func madeBeginning(random *rand.Rand) impl.Pile {
	p := impl.Pile{Code: madeSum(random, random.Intn(45)), Said: slices.Repeat(sum("p2"), random.Intn(impl.MaxSaid+1))}
	if len(p.Code) > impl.MaxWords {
		p.Code = everyWord()
	}
	counts := []int{0, 1, 2, 5, impl.MaxPieces - 1, impl.MaxPieces}
	p.Pieces = emptyPieces(counts[random.Intn(len(counts))])
	value := func() impl.Value {
		if len(p.Pieces) > 0 && random.Intn(3) == 0 {
			return piece(int64(random.Intn(len(p.Pieces))))
		}
		return number(random.Int63n(9) - 4)
	}
	all := append(platesOf(p.Code, value()), platesOf(p.Code, value())...)
	plates := func(sizes ...int) []impl.Plate {
		l := []impl.Plate{}
		for range sizes[random.Intn(len(sizes))] {
			if len(all) > 0 {
				l = append(l, all[random.Intn(len(all))])
			}
		}
		return l
	}
	p.Plates = plates(0, 1, 3, 10, impl.MaxPlates-1, impl.MaxPlates)
	for i := range p.Pieces {
		p.Pieces[i].Plates = plates(0, 1, 2, 5)
	}
	starts := startsOf(p.Code, 0)
	p.At, p.Arg = starts[random.Intn(len(starts))], value()
	return p
}

func TestMadeBeginnings(t *testing.T) {
	random := rand.New(rand.NewSource(88))
	seen := map[string]int{}
	for range 8000 {
		p := madeBeginning(random)
		checkBegunRight(t, p)
		word := p.Code[p.At]
		if _, known := needs[word]; !known {
			word = "a number"
		}
		seen[fmt.Sprint(word, " ", impl.Begun(p).Mode)]++
	}
	wanted := []string{"a number 1", "arg 1", "ask 1", "ask 5", "cut 0", "cut 5", "cut 6"}
	for _, word := range sum("add below both say if bind throw go keep try mark") {
		wanted = append(wanted, word+" 0", word+" 6")
	}
	for _, which := range wanted {
		if seen[which] < 10 {
			t.Errorf("only %d of the piles were %s", seen[which], which)
		}
	}
}

// Promise 21: whatever a pile is made of, Begun answers as the document tells.
func TestBegunOfMadePiles(t *testing.T) {
	random := rand.New(rand.NewSource(888))
	piles := rightPiles()
	for range 10000 {
		p := copyOf(piles[random.Intn(len(piles))])
		for range random.Intn(4) {
			changePile(random, &p)
		}
		checkBegun(t, p, begunBy(p))
	}
}

func TestFirstOfWords(t *testing.T) {
	code := everyWord()
	for _, word := range sum("both mark cut go add say if below keep try throw") {
		checkFirst(t, code, placeOf(word), placeOf(word)+1)
	}
	// Behind the N of a bind; at the N itself nothing begins.
	checkFirst(t, code, placeOf("bind"), placeOf("bind")+2)
	checkFirst(t, code, placeOf("bind")+1, -1)
	for _, word := range sum("0 1 2 3") {
		code := sum("bind " + word + " say 1 ask " + word)
		checkFirst(t, code, 0, 2)
		checkFirst(t, code, 1, -1)
		checkFirst(t, code, 2, 3)
		checkFirst(t, code, 4, -1)
		checkFirst(t, code, 5, -1)
		checkFirst(t, sum("say bind "+word+" 1 2"), 1, 3)
	}
	for _, word := range append(rightNumberWords(), "arg") {
		checkFirst(t, []string{word}, 0, -1)
		checkFirst(t, []string{"say", word}, 1, -1)
		checkFirst(t, []string{"say", word}, 0, 1)
	}
	checkFirst(t, sum("ask 0"), 0, -1)
	checkFirst(t, sum("ask 0"), 1, -1)
	checkFirst(t, sum("add ask 0 say 1"), 3, 4)
	checkFirst(t, sum("keep keep 1 2 3"), 1, 2)
	checkFirst(t, sum("both throw 1 mark 2"), 3, 4)
}

func TestFirstOfAllPlaces(t *testing.T) {
	codes := append(ordinarySums(), everyWord(), boundCode())
	for _, code := range append(codes, longSums(impl.MaxWords)...) {
		for at := int64(-2); at <= int64(len(code))+2; at++ {
			checkFirst(t, code, at, firstBy(code, at))
		}
		for _, at := range outOfRange(len(code)) {
			checkFirst(t, code, at, -1)
		}
	}
	// What stands in the spare room behind a code is not of it.
	checkFirst(t, sum("say 1 say 1")[:2], 2, -1)
	random := rand.New(rand.NewSource(80))
	for range 500 {
		code := madeSum(random, random.Intn(70))
		for at := int64(-1); at <= int64(len(code)); at++ {
			checkFirst(t, code, at, firstBy(code, at))
		}
	}
}

// Of a code that is no sum nothing is told, wherever a sum might be read in it.
func TestFirstOfWhatIsNoSum(t *testing.T) {
	codes := append(wrongCodes(), sum("say 1 2"), sum("say"), sum("add 1"), sum("what say 1"), sum("add say 1"), sum("bind 5 1 1"), sum("bind say 1 2"), sum("1 say 1"), sum("say what"))
	for _, code := range append(codes, longSums(impl.MaxWords+1)...) {
		for at := int64(-2); at <= int64(len(code))+2; at++ {
			checkFirst(t, code, at, -1)
		}
	}
	for _, code := range [][]string{nil, {}, make([]string, 0, 9)} {
		for _, at := range append(outOfRange(0), 0, 1) {
			checkFirst(t, code, at, -1)
		}
	}
	for _, code := range ordinarySums() {
		for size := range len(code) {
			for at := range int64(size) {
				checkFirst(t, code[:size], at, -1)
			}
		}
		for at := range int64(len(code)) {
			checkFirst(t, joined(code, sum("arg")), at, -1)
		}
	}
}

// Promise 21: every function answers at every argument and none panics.
func TestBeginAnswersAtExtremes(t *testing.T) {
	const many = 1 << 20
	ends := []int64{math.MinInt64, math.MinInt64 + 1, -1, 0, 1, 2, 6, 7, 59, 60, math.MaxInt64 - 1, math.MaxInt64}
	for _, mode := range ends {
		for _, at := range ends {
			for _, n := range ends {
				p := impl.Pile{Code: sum("try 1 2"), Mode: mode, At: at, Arg: impl.Value{Kind: at, N: n}, Value: impl.Value{Kind: n, N: at}, Plates: []impl.Plate{{Kind: impl.PlTry, At: n}}}
				checkBegun(t, p, begunBy(p))
				p.Plates = nil
				checkBegun(t, p, begunBy(p))
				p.Code = nil
				checkZeroBegun(t, p, "no Code")
			}
		}
	}
	for _, p := range []impl.Pile{
		{Code: slices.Repeat(sum("say"), many)}, {Code: slices.Repeat(sum("1"), many)}, {Code: []string{strings.Repeat("1", many)}}, {Code: sum("ask " + strings.Repeat("0", many))},
		{Code: sum("1"), Plates: make([]impl.Plate, many)}, {Code: sum("try 1 2"), Plates: slices.Repeat([]impl.Plate{{Kind: impl.PlTry}}, many)},
		{Code: sum("1"), Pieces: emptyPieces(many)}, {Code: sum("cut 1"), Pieces: emptyPieces(many), Arg: piece(many - 1)}, {Code: sum("1"), Said: slices.Repeat(sum("1"), many)},
		{Code: sum("1"), Said: []string{strings.Repeat("1", many)}}, {Code: sum("try 1 2"), Pieces: []impl.Piece{{Plates: slices.Repeat([]impl.Plate{{Kind: impl.PlTry}}, many)}}},
	} {
		checkZeroBegun(t, p, "a very long list")
		if len(p.Code) > impl.MaxWords {
			for _, at := range append(outOfRange(len(p.Code)), 0, 1, 30) {
				checkFirst(t, p.Code, at, -1)
			}
		}
	}
}

// A roomList is one of a pile's lists, with all the room behind it.
type roomList struct {
	name  string
	tell  func() string
	spoil func()
}

func roomOfList[T any](name string, l []T, spoilt T, tell func(T) string) roomList {
	l = l[:cap(l)]
	return roomList{
		name: name,
		tell: func() string {
			texts := []string{}
			for _, one := range l {
				texts = append(texts, tell(one))
			}
			return strings.Join(texts, "|")
		},
		spoil: func() {
			for i := range l {
				l[i] = spoilt
			}
		},
	}
}

// roomLists are all the lists of a pile. A Piece tells how long its list is, not what stands there: that is a list of its own.
func roomLists(p impl.Pile) []roomList {
	itself := func(s string) string { return s }
	plate := func(p impl.Plate) string { return fmt.Sprint(p) }
	lists := []roomList{
		roomOfList("Code", p.Code, "spoilt", itself), roomOfList("Said", p.Said, "spoilt", itself), roomOfList("Plates", p.Plates, impl.Plate{Kind: 99}, plate),
		roomOfList("Pieces", p.Pieces, impl.Piece{Plates: manyPlates(99)}, func(one impl.Piece) string { return strconv.Itoa(len(one.Plates)) }),
	}
	for i, one := range p.Pieces {
		lists = append(lists, roomOfList("Piece "+strconv.Itoa(i), one.Plates, impl.Plate{Kind: 99}, plate))
	}
	return lists
}

func textsOf(lists []roomList) []string {
	texts := []string{}
	for _, one := range lists {
		texts = append(texts, one.tell())
	}
	return texts
}

// checkSharesNothing writes into each list of what makes answers, and asks whether any other list, or anything of what was given, became another one.
func checkSharesNothing(t *testing.T, given impl.Pile, makes func(impl.Pile) impl.Pile) {
	t.Helper()
	for which := range roomLists(makes(copyOf(given))) {
		argument := copyOf(given)
		before := textsOf(roomLists(argument))
		lists := roomLists(makes(argument))
		others := append(roomLists(argument), roomLists(makes(argument))...)
		for i, one := range lists {
			if i != which {
				others = append(others, one)
			}
		}
		was := textsOf(others)
		lists[which].spoil()
		for i, text := range textsOf(others) {
			if text != was[i] {
				t.Fatalf("%s\nits answer's %s shares memory with %s: %s became %s", tellPile(given), lists[which].name, others[i].name, was[i], text)
			}
		}
		if !slices.Equal(before, textsOf(roomLists(argument))) {
			t.Fatalf("%s\nis not left as it was", tellPile(given))
		}
	}
}

// pilesOfEachAnswer make Begun answer in each way there is, with all lists full of something.
func pilesOfEachAnswer() []impl.Pile {
	piles := append(fullPiles(), impl.Pile{}, impl.Pile{Code: sum("say"), Plates: manyPlates(3), Said: sum("x"), Pieces: emptyPieces(2)})
	for _, word := range sum("both mark cut go arg 1 bind add say if below ask keep try throw") {
		p := beginsAt(word, piece(1))
		marked := with(p, func(p *impl.Pile) { p.Plates = slices.Insert(p.Plates, 1, markPlate()) })
		top := with(p, func(p *impl.Pile) { p.Plates = append(p.Plates, markPlate()) })
		several := with(p, func(p *impl.Pile) {
			p.Plates = slices.Concat([]impl.Plate{markPlate()}, manyPlates(4), []impl.Plate{markPlate()}, manyPlates(9))
		})
		long := with(p, func(p *impl.Pile) { p.Plates = manyPlates(impl.MaxPlates) })
		pieces := with(marked, func(p *impl.Pile) { p.Pieces = slices.Repeat(p.Pieces, 10) })
		piles = append(piles, p, marked, top, several, long, pieces)
	}
	return piles
}

// Promise 21: answers are new memory; arguments stay, the spare room behind them too.
func TestBegunPilesAreNewMemory(t *testing.T) {
	for _, p := range pilesOfEachAnswer() {
		checkSharesNothing(t, p, impl.Begun)
	}
}

// Promise 21: what is written into the argument afterwards does not reach the answer.
func TestBegunPilesStay(t *testing.T) {
	for _, p := range pilesOfEachAnswer() {
		argument := copyOf(p)
		begun := impl.Begun(argument)
		for _, one := range roomLists(argument) {
			one.spoil()
		}
		if want := begunBy(p); !impl.SamePile(begun, want) {
			t.Fatalf("Begun is %s once the argument was written into, want %s", tellPile(begun), tellPile(want))
		}
	}
}

// The Pieces of an argument may share memory with its Plates and with each other: the answer's do not.
func TestListsThatShareAreParted(t *testing.T) {
	for _, word := range sum("cut add 1 ask mark") {
		shared := append(make([]impl.Plate, 0, 30), markPlate(), markPlate(), bindPlateOfEveryWord())
		p := beginsAt(word, number(1))
		p.Plates, p.Pieces = shared, []impl.Piece{{Plates: shared}, {Plates: shared[1:]}, {Plates: shared[:2]}}
		lists := roomLists(impl.Begun(p))
		for which := range lists {
			was := textsOf(lists)
			lists[which].spoil()
			for i, text := range textsOf(lists) {
				if i != which && text != was[i] {
					t.Fatalf("%s: %s and %s share memory", word, lists[which].name, lists[i].name)
				}
			}
		}
		if !slices.Equal(shared, []impl.Plate{markPlate(), markPlate(), bindPlateOfEveryWord()}) || shared[:4][3] != (impl.Plate{}) {
			t.Fatalf("%s: the argument became %v", word, shared[:4])
		}
	}
}

func bindPlateOfEveryWord() impl.Plate {
	return impl.Plate{Kind: impl.PlBind, At: placeOf("bind"), Value: number(6)}
}

// Promise 21: FirstOf writes into nothing.
func TestFirstOfLeavesTheCode(t *testing.T) {
	for _, code := range append(append(ordinarySums(), everyWord(), nil, sum("say 1 2")), wrongCodes()...) {
		room := joined(code, sum("spare room behind"))
		before := slices.Clone(room)
		for at := int64(-1); at <= int64(len(code)); at++ {
			impl.FirstOf(room[:len(code)], at)
		}
		if !slices.Equal(room, before) {
			t.Errorf("%q became %q", before, room)
		}
	}
}

// Promise 21: no call leaves anything behind for the next one.
func TestBegunKeepsNothing(t *testing.T) {
	for range 3 {
		for _, p := range pilesOfEachAnswer() {
			checkBegun(t, p, begunBy(p))
		}
	}
}
