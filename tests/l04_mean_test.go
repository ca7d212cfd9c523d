package tests

import (
	"maps"
	"math"
	"math/rand"
	"slices"
	"strconv"
	"strings"
	"testing"

	"loop.example/g00625/impl"
)

// A speaker does plain sums place by place; what is thrown goes up as a panic with the Value, what ends all as one with the Code.
type speaker struct {
	l    []string
	said []string
}

func (s *speaker) do(at int64, arg impl.Value, bound map[string]impl.Value) impl.Value {
	parts := partsAt(s.l, at)
	part := func(n int) impl.Value { return s.do(parts[n], arg, bound) }
	switch word := s.l[at]; word {
	case "arg":
		return arg
	case "ask":
		v, is := bound[s.l[at+1]]
		return right(v, is)
	case "add":
		a, b := part(0), part(1)
		return right(number(min(max(a.N+b.N, -impl.MaxNumber), impl.MaxNumber)), a.Kind+b.Kind == 0)
	case "below":
		a, b := part(0), part(1)
		return right(oneIf(a.N < b.N), a.Kind+b.Kind == 0)
	case "both":
		part(0)
		return part(1)
	case "say":
		return s.say(part(0))
	case "if":
		if v := part(0); right(v, v.Kind == impl.VaNumber).N != 0 {
			return part(1)
		}
		return part(2)
	case "keep":
		v, isThrown := s.caught(func() impl.Value { return part(0) })
		part(1)
		if isThrown {
			panic(v)
		}
		return v
	case "bind":
		within := maps.Clone(bound)
		within[s.l[at+1]] = part(0)
		return s.do(parts[1], arg, within)
	case "throw":
		panic(part(0))
	case "try":
		v, isThrown := s.caught(func() impl.Value { return part(0) })
		if isThrown {
			return s.do(parts[1], v, bound)
		}
		return v
	default:
		n, _ := strconv.ParseInt(word, 10, 64)
		return number(n)
	}
}

// right lets pass what is; else all ends with MnWrong.
func right(v impl.Value, is bool) impl.Value {
	if !is {
		panic(int64(impl.MnWrong))
	}
	return v
}

func oneIf(is bool) impl.Value {
	if is {
		return number(1)
	}
	return number(0)
}

func (s *speaker) say(v impl.Value) impl.Value {
	if len(s.said) == impl.MaxSaid {
		panic(int64(impl.MnLong))
	}
	text := strconv.FormatInt(v.N, 10)
	if v.Kind == impl.VaPiece {
		text = "p" + text
	}
	s.said = append(s.said, text)
	return v
}

func (s *speaker) caught(do func() impl.Value) (v impl.Value, isThrown bool) {
	defer func() {
		switch up := recover().(type) {
		case nil:
		case impl.Value:
			v, isThrown = up, true
		default:
			panic(up)
		}
	}()
	return do(), false
}

// meantBy is what the speaker makes of a plain sum.
func meantBy(l []string, arg impl.Value) (m impl.Meaning) {
	s := &speaker{l: l}
	defer func() {
		if code, is := recover().(int64); is {
			m = impl.Meaning{Code: code}
		}
	}()
	v, isThrown := s.caught(func() impl.Value { return s.do(0, arg, map[string]impl.Value{}) })
	return impl.Meaning{Value: v, Thrown: isThrown, Said: s.said}
}

func given(n int64, said ...string) impl.Meaning { return impl.Meaning{Value: number(n), Said: said} }

func thrown(n int64, said ...string) impl.Meaning {
	return impl.Meaning{Value: number(n), Thrown: true, Said: said}
}

func wrong() impl.Meaning { return impl.Meaning{Code: impl.MnWrong} }

func long() impl.Meaning { return impl.Meaning{Code: impl.MnLong} }

func isSame(a impl.Meaning, b impl.Meaning) bool {
	return a.Value == b.Value && a.Thrown == b.Thrown && a.Code == b.Code && slices.Equal(a.Said, b.Said)
}

func checkMeant(t *testing.T, l []string, arg impl.Value, want impl.Meaning) {
	t.Helper()
	if m := impl.Meant(l, arg); !isSame(m, want) {
		t.Fatalf("%.200q of %v means %v, want %v", l, arg, m, want)
	}
}

// checkTexts holds what sums mean, with 5 as arg, against what is told of them.
func checkTexts(t *testing.T, wanted map[string]impl.Meaning) {
	t.Helper()
	for text, want := range wanted {
		checkMeant(t, sum(text), number(5), want)
		if m := meantBy(sum(text), number(5)); !isSame(m, want) {
			t.Fatalf("%q: the speaker makes %v of it, want %v", text, m, want)
		}
	}
}

// says is a sum that says the number n so often as count tells, and is worth it.
func says(count int, n string) []string {
	return joined(slices.Repeat(sum("say"), count), []string{n})
}

// madePlain grows a plain sum; some have all numbers bound ahead of it, so that more of them come to their end.
func madePlain(random *rand.Rand, size int) []string {
	l := madeOf(random, size, "say", "say", "say", "throw", "add", "below", "both", "keep", "keep", "bind", "try", "try", "if")
	if random.Intn(3) > 0 {
		l = joined(sum("bind 0 10 bind 1 0 bind 2 -3 bind 3 arg"), l)
	}
	return l
}

// madePlains are plain sums of any make, none of more than size words.
func madePlains(size int) [][]string {
	random := rand.New(rand.NewSource(4))
	made := [][]string{}
	for len(made) < 6000 {
		if l := madePlain(random, random.Intn(size)); len(l) <= size {
			made = append(made, l)
		}
	}
	return made
}

// shortPlains are all plain sums of so many words at most (where that behind bind and ask is not counted) that a few words can make.
func shortPlains(size int) [][]string {
	bySize := [][][]string{{}}
	for n := 1; n <= size; n++ {
		made := [][]string{}
		if n == 1 {
			made = append(made, sum("0"), sum("7"), sum("arg"), sum("ask 0"))
		}
		for a := 1; a < n; a++ {
			for _, first := range bySize[a] {
				if a == n-1 {
					made = append(made, joined(sum("say"), first), joined(sum("throw"), first))
				}
				for _, second := range bySize[n-1-a] {
					for _, head := range []string{"add", "both", "keep", "try", "bind 0"} {
						made = append(made, joined(sum(head), first, second))
					}
				}
				for b := 1; b < n-1-a; b++ {
					for _, second := range bySize[b] {
						for _, third := range bySize[n-1-a-b] {
							made = append(made, joined(sum("if"), first, second, third))
						}
					}
				}
			}
		}
		bySize = append(bySize, made)
	}
	return slices.Concat(bySize...)
}

func TestLimitsOfMeanings(t *testing.T) {
	if impl.MnOk != 0 || impl.MnWrong != 1 || impl.MnLong != 2 || impl.MaxSaid != 40 {
		t.Error("a constant is not as the document tells")
	}
}

func TestOrdinaryMeanings(t *testing.T) {
	checkTexts(t, map[string]impl.Meaning{
		"7": given(7), "-1000000": given(-1000000), "arg": given(5),
		"add 2 3": given(5), "add arg arg": given(10), "add 1000000 1": given(1000000), "add -1000000 -1": given(-1000000),
		"below 1 2": given(1), "below 2 1": given(0), "below 2 2": given(0), "below -1 0": given(1),
		"both 1 2": given(2), "both say 1 say 2": given(2, "1", "2"), "both say 2 1": given(1, "2"),
		"say 7": given(7, "7"), "say say -7": given(-7, "-7", "-7"), "say add say 1 say 2": given(3, "1", "2", "3"),
		"if 1 2 3": given(2), "if 0 2 3": given(3), "if -1 2 3": given(2),
		"if say 0 say 2 say 3": given(3, "0", "3"), "if say 9 say 2 say 3": given(2, "9", "2"),
		"keep 1 2": given(1), "keep say 1 say 2": given(1, "1", "2"),
		"bind 0 7 ask 0": given(7), "bind 3 say 7 add ask 3 ask 3": given(14, "7"), "bind 0 1 arg": given(5),
		"throw 7": thrown(7), "throw say 7": thrown(7, "7"), "throw throw 7": thrown(7),
		"try throw 3 add arg 1": given(4), "try 3 say 4": given(3), "try throw 3 throw add arg 1": thrown(4),
	})
}

// What is thrown passes all that would have come.
func TestWhatIsThrownPassesTheRest(t *testing.T) {
	checkTexts(t, map[string]impl.Meaning{
		"add throw 1 say 2": thrown(1), "add say 2 throw 1": thrown(1, "2"), "add throw 1 throw 2": thrown(1),
		"below throw 1 say 2": thrown(1), "below say 2 throw 1": thrown(1, "2"),
		"both throw 1 say 2": thrown(1), "both say 2 throw 1": thrown(1, "2"),
		"say throw 1":             thrown(1),
		"if throw 1 say 2 say 3":  thrown(1),
		"if 1 throw 2 say 3":      thrown(2),
		"if 0 say 2 throw 3":      thrown(3),
		"bind 0 throw 1 say 2":    thrown(1),
		"bind 0 1 throw ask 0":    thrown(1),
		"throw both throw 1 2":    thrown(1),
		"both both throw 1 2 3":   thrown(1),
		"add throw 1 ask 0":       thrown(1),
		"try add throw 1 2 arg":   given(1),
		"try both throw 1 2 9":    given(9),
		"try try throw 1 2 say 3": given(2),
	})
}

// Promise 4: what is thrown and caught at once is what it was.
func TestThrownAndCaughtAtOnce(t *testing.T) {
	for _, l := range madePlains(impl.MaxWords - 3) {
		want := meantBy(l, number(5))
		// Where l throws itself, it is that which is caught.
		want.Thrown = false
		checkMeant(t, joined(sum("try throw"), l, sum("arg")), number(5), want)
	}
	checkMeant(t, sum("try throw arg arg"), piece(3), impl.Meaning{Value: piece(3)})
}

// Promise 4: what is kept has its end behind it, and is what it was.
func TestKeptHasItsEndBehindIt(t *testing.T) {
	for _, l := range madePlains(impl.MaxWords - 3) {
		want := meantBy(l, number(5))
		if want.Code != impl.MnOk {
			checkMeant(t, joined(sum("keep"), l, sum("say 99")), number(5), want)
			continue
		}
		checkMeant(t, joined(sum("keep"), l, sum("99")), number(5), want)
		if len(want.Said) == impl.MaxSaid {
			checkMeant(t, joined(sum("keep"), l, sum("say 99")), number(5), long())
			continue
		}
		want.Said = append(want.Said, "99")
		checkMeant(t, joined(sum("keep"), l, sum("say 99")), number(5), want)
	}
}

// Promise 4, for the throw that meets keeps on its way: each has its end, the innermost one first.
func TestEndsOnTheWayOfAThrow(t *testing.T) {
	checkTexts(t, map[string]impl.Meaning{
		"keep throw 3 say 4":                          thrown(3, "4"),
		"keep keep throw 3 say 4 say 6":               thrown(3, "4", "6"),
		"keep say 3 keep say 4 say 6":                 given(3, "3", "4", "6"),
		"try keep throw 3 say 4 say arg":              given(3, "4", "3"),
		"try keep keep throw 3 say 4 say 6 say arg":   given(3, "4", "6", "3"),
		"try keep 3 say 4 say arg":                    given(3, "4"),
		"keep try throw 3 say arg say 4":              given(3, "3", "4"),
		"keep throw 3 try throw 4 say arg":            thrown(3, "4"),
		"keep throw 3 say arg":                        thrown(3, "5"),
		"try throw 3 keep arg say arg":                given(3, "3"),
		"add keep throw 1 say 2 say 3":                thrown(1, "2"),
		"try add keep throw 1 say 2 say 3 keep 4 arg": given(4, "2"),
	})
}

func TestKeepWhoseSecondSumThrows(t *testing.T) {
	checkTexts(t, map[string]impl.Meaning{
		"keep 3 throw 4":                               thrown(4),
		"keep throw 3 throw 4":                         thrown(4),
		"keep say 3 throw say 4":                       thrown(4, "3", "4"),
		"keep throw say 3 throw say 4":                 thrown(4, "3", "4"),
		"try keep 3 throw 4 say arg":                   given(4, "4"),
		"try keep throw 3 throw 4 say arg":             given(4, "4"),
		"keep keep 3 throw 4 say 6":                    thrown(4, "6"),
		"keep keep throw 3 throw 4 throw 6":            thrown(6),
		"keep 3 keep throw 4 throw 6":                  thrown(6),
		"keep throw 3 keep 4 say 6":                    thrown(3, "6"),
		"both keep 3 throw 4 say 6":                    thrown(4),
		"try keep keep throw 3 throw 4 throw 6 arg":    given(6),
		"keep try keep 3 throw 4 throw add arg 1 8":    thrown(5),
		"keep try keep throw 3 throw 4 add arg 1 9":    given(5),
		"keep both say 1 throw 2 both say 3 throw arg": thrown(5, "1", "3"),
	})
}

// The second sum of a try is done where the first one had begun, with what was bound there.
func TestTrysSecondSumIsDoneWhereItsFirstBegan(t *testing.T) {
	checkTexts(t, map[string]impl.Meaning{
		"bind 0 1 try bind 0 2 throw 3 ask 0":                      given(1),
		"bind 0 1 try bind 0 2 throw ask 0 add arg ask 0":          given(3),
		"try bind 0 2 throw 3 ask 0":                               wrong(),
		"bind 0 1 try bind 1 2 throw 3 ask 1":                      wrong(),
		"bind 0 1 try bind 0 2 bind 0 3 keep throw 4 ask 0 ask 0":  given(1),
		"bind 0 1 try try bind 0 2 throw 3 throw ask 0 arg":        given(1),
		"bind 0 1 bind 0 2 try throw 3 ask 0":                      given(2),
		"try both say 1 throw 2 say arg":                           given(2, "1", "2"),
		"add try throw 3 arg arg":                                  given(8),
		"add arg try throw 3 arg":                                  given(8),
		"try try throw 1 throw add arg 1 add arg 10":               given(12),
		"try throw 1 try throw add arg 1 add arg arg":              given(4),
		"both try throw 3 arg arg":                                 given(5),
		"keep try throw 3 say arg say arg":                         given(3, "3", "5"),
		"try throw 3 both try throw 4 say arg say arg":             given(3, "4", "3"),
		"bind 0 1 try keep bind 0 2 throw 3 say ask 0 say ask 0":   given(1, "1", "1"),
		"bind 0 1 keep bind 0 2 bind 0 3 throw ask 0 say ask 0":    thrown(3, "1"),
		"bind 0 1 keep bind 0 2 ask 0 say ask 0":                   given(2, "1"),
		"bind 0 1 try keep 0 bind 0 2 throw ask 0 add arg ask 0":   given(3),
		"bind 0 1 try bind 0 2 try throw 3 throw ask 0 add arg 10": given(12),
	})
}

func TestBindHoldsWithinItsSecondSumAlone(t *testing.T) {
	checkTexts(t, map[string]impl.Meaning{
		"bind 0 1 both bind 0 2 ask 0 ask 0":             given(1),
		"add bind 0 1 ask 0 ask 0":                       wrong(),
		"both bind 0 1 2 ask 0":                          wrong(),
		"bind 0 ask 0 1":                                 wrong(),
		"bind 0 1 bind 0 add ask 0 1 add ask 0 10":       given(12),
		"bind 0 1 bind 1 2 add ask 0 ask 1":              given(3),
		"bind 0 1 bind 1 2 ask 2":                        wrong(),
		"bind 0 1 ask 1":                                 wrong(),
		"bind 0 0 ask 0":                                 given(0),
		"bind 3 1 both bind 3 2 bind 3 3 ask 3 ask 3":    given(1),
		"bind 0 1 add bind 0 2 ask 0 bind 0 3 ask 0":     given(5),
		"bind 0 1 bind 1 ask 0 bind 0 2 ask 1":           given(1),
		"bind 0 1 if bind 0 0 ask 0 9 ask 0":             given(1),
		"bind 0 bind 1 7 ask 1 ask 1":                    wrong(),
		"bind 0 bind 0 7 add ask 0 1 ask 0":              given(8),
		"bind 0 1 bind 1 2 bind 2 3 bind 3 4 ask 0":      given(1),
		"bind 0 1 bind 1 2 bind 2 3 bind 3 4 ask 1":      given(2),
		"bind 0 1 bind 1 2 bind 2 3 bind 3 4 ask 2":      given(3),
		"bind 0 1 bind 1 2 bind 2 3 bind 3 4 ask 3":      given(4),
		"bind 0 1 both try bind 0 2 throw 3 4 ask 0":     given(1),
		"both try bind 0 2 throw 3 4 ask 0":              wrong(),
		"both keep 1 bind 0 2 3 ask 0":                   wrong(),
		"keep bind 0 2 3 ask 0":                          wrong(),
		"keep bind 0 2 throw 3 ask 0":                    wrong(),
		"bind 0 try bind 0 2 throw 3 4 add ask 0 ask 0":  given(8),
		"bind 0 arg try throw 3 add arg ask 0":           given(8),
		"try bind 0 throw 3 say 4 say arg":               given(3, "3"),
		"bind 2 say 1 both say ask 2 bind 2 say 3 ask 2": given(3, "1", "1", "3"),
	})
}

func TestWhatIsNoNumberIsWrong(t *testing.T) {
	for _, p := range rightPieces() {
		for _, text := range []string{
			"add arg 1", "add 1 arg", "add arg arg", "below arg 1", "below 1 arg", "below arg arg", "if arg 1 2",
			"both say 1 add arg 1", "say add arg 1", "throw add arg 1", "try add arg 1 7", "keep add arg 1 say 7", "keep 1 add arg 1", "keep throw 1 add arg 1",
			"bind 0 arg add ask 0 1", "bind 0 arg if ask 0 1 2", "try throw arg add arg 1", "if say arg say 1 say 2", "if add arg 1 1 2", "try both say 1 if arg 1 2 3",
		} {
			checkMeant(t, sum(text), p, wrong())
		}
		shown := impl.ShowValue(p)
		for text, want := range map[string]impl.Meaning{
			"arg": {Value: p}, "say arg": {Value: p, Said: []string{shown}}, "throw arg": {Value: p, Thrown: true},
			"both arg 1": given(1), "both 1 arg": {Value: p}, "if 1 arg 2": {Value: p}, "if 0 2 arg": {Value: p}, "if 1 2 arg": given(2),
			"keep arg say 1": {Value: p, Said: []string{"1"}}, "keep 1 arg": given(1), "keep throw arg 1": {Value: p, Thrown: true}, "keep 1 throw arg": {Value: p, Thrown: true},
			"bind 0 arg ask 0": {Value: p}, "try throw arg say arg": {Value: p, Said: []string{shown}}, "try throw 1 arg": given(1), "try arg 1": {Value: p},
			"add try throw 1 arg 1": given(2), "add throw 1 arg": thrown(1),
		} {
			checkMeant(t, sum(text), p, want)
		}
	}
}

func TestAskOfWhatIsNotBoundIsWrong(t *testing.T) {
	numbers := []string{"0", "1", "2", "3"}
	for _, n := range numbers {
		checkMeant(t, []string{"ask", n}, number(5), wrong())
		for _, other := range numbers {
			want := wrong()
			if n == other {
				want = given(9)
			}
			checkMeant(t, []string{"bind", n, "9", "ask", other}, number(5), want)
		}
	}
	checkTexts(t, map[string]impl.Meaning{
		"say ask 3": wrong(), "throw ask 3": wrong(), "add 1 ask 3": wrong(), "below ask 3 1": wrong(), "both say 1 ask 3": wrong(),
		"keep say 1 ask 3": wrong(), "keep throw 1 ask 3": wrong(), "keep ask 3 say 1": wrong(), "try ask 3 say 1": wrong(), "try throw 1 ask 3": wrong(),
		"if ask 3 1 2": wrong(), "if 1 ask 3 2": wrong(), "if 0 1 ask 3": wrong(), "bind 3 ask 3 1": wrong(),
		// What is never done asks nothing.
		"if 1 say 7 ask 3": given(7, "7"), "if 0 ask 3 say 7": given(7, "7"), "try say 7 ask 3": given(7, "7"), "add throw 7 ask 3": thrown(7),
	})
}

// What ends all is caught by nobody, and nothing but its Code is told.
func TestOfWrongAndLongOnlyTheCodeIsTold(t *testing.T) {
	for _, bad := range [][]string{sum("ask 0"), says(impl.MaxSaid+1, "1")} {
		want := wrong()
		if bad[0] == "say" {
			want = long()
		}
		for _, text := range []string{"say", "throw", "try ; 1", "try ; arg", "try throw 1 ;", "keep ; 1", "keep ; say 1", "keep ; throw 1", "keep say 1 ;", "keep throw 1 ;", "both say 1 ;", "both ; say 1", "add ; 1", "add 1 ;", "below ; 1", "below 1 ;", "if ; 1 2", "if 1 ; 2", "if 0 1 ;", "bind 1 ; 2", "bind 1 2 ;", "try keep ; say 1 say 2", "keep try ; say 1 say 2"} {
			ahead, behind, _ := strings.Cut(text, ";")
			checkMeant(t, joined(sum(ahead), bad, sum(behind)), number(5), want)
		}
	}
}

func TestMaxSaidWordsAndOneMore(t *testing.T) {
	for _, n := range []string{"0", "7", "-1000000"} {
		value, _ := impl.ReadValue(n)
		for count := range impl.MaxWords {
			want := impl.Meaning{Value: value, Said: slices.Repeat([]string{n}, count)}
			if count > impl.MaxSaid {
				want = long()
			}
			checkMeant(t, says(count, n), number(5), want)
		}
	}
	full := slices.Repeat([]string{"1"}, impl.MaxSaid)
	for _, c := range []struct {
		ahead, behind string
		want          impl.Meaning
	}{
		{"throw", "", thrown(1, full...)}, {"throw say", "", long()},
		{"try throw", "arg", given(1, full...)}, {"try throw", "say arg", long()}, {"try", "say arg", given(1, full...)},
		{"keep", "2", given(1, full...)}, {"keep", "say 2", long()}, {"keep throw", "2", thrown(1, full...)}, {"keep throw", "say 2", long()},
		{"keep", "throw 2", thrown(2, full...)}, {"keep", "throw say 2", long()},
		{"both", "2", given(2, full...)}, {"both", "say 2", long()}, {"add 2", "", given(3, full...)}, {"say add 2", "", long()},
		{"both throw 2", "", thrown(2)}, {"both 2", "", given(1, full...)}, {"both say 2", "", long()},
		{"bind 0", "ask 0", given(1, full...)}, {"bind 0", "say ask 0", long()}, {"if", "2 say 3", given(2, full...)}, {"if", "say 2 3", long()},
		{"try", "1", given(1, full...)}, {"try say", "1", long()}, {"try both", "throw 2 say 3", long()}, {"try both", "throw 2 3", given(3, full...)},
	} {
		checkMeant(t, joined(sum(c.ahead), says(impl.MaxSaid, "1"), sum(c.behind)), number(5), c.want)
	}
}

func TestWhichOfWrongAndLongCameFirst(t *testing.T) {
	full := says(impl.MaxSaid, "1")
	tooLong := says(impl.MaxSaid+1, "1")
	for _, c := range []struct {
		l    []string
		want impl.Meaning
	}{
		{joined(sum("both"), full, sum("ask 0")), wrong()},
		{joined(sum("both"), tooLong, sum("ask 0")), long()},
		{joined(sum("both ask 0"), tooLong), wrong()},
		{joined(sum("say both"), full, sum("ask 0")), wrong()},
		{joined(sum("both"), full, sum("say ask 0")), wrong()},
		{joined(sum("both"), full, sum("both say 1 ask 0")), long()},
		{joined(sum("keep"), tooLong, sum("ask 0")), long()},
		{joined(sum("keep ask 0"), tooLong), wrong()},
		{joined(sum("try"), tooLong, sum("ask 0")), long()},
		{joined(sum("try throw"), tooLong, sum("ask 0")), long()},
		{joined(sum("try throw"), full, sum("both ask 0 say 1")), wrong()},
		{joined(sum("try throw"), full, sum("both say 1 ask 0")), long()},
		{joined(sum("if both"), full, sum("ask 0 1 2")), wrong()},
		{joined(sum("add"), tooLong, sum("ask 0")), long()},
		{joined(sum("bind 0 ask 0"), tooLong), wrong()},
	} {
		checkMeant(t, c.l, number(5), c.want)
	}
	checkMeant(t, joined(sum("add"), says(impl.MaxSaid+1, "arg"), sum("1")), piece(0), long())
	checkMeant(t, joined(sum("add"), says(impl.MaxSaid, "arg"), sum("1")), piece(0), wrong())
	checkMeant(t, joined(sum("say add"), says(impl.MaxSaid, "arg"), sum("1")), piece(0), wrong())
}

func TestMeaningsOfSumsAsDeepAsCanBe(t *testing.T) {
	last := func(part string, count int, end string) []string {
		return joined(slices.Repeat(sum(part), count), sum(end))
	}
	first := func(part string, count int, end string, behind string) []string {
		return joined(slices.Repeat(sum(part), count), sum(end), slices.Repeat(sum(behind), count))
	}
	for _, c := range []struct {
		l    []string
		want impl.Meaning
	}{
		{last("throw", 59, "arg"), thrown(5)},
		{joined(sum("try"), last("throw", 56, "1"), sum("say arg")), given(1, "1")},
		{last("add 1", 29, "arg"), given(34)}, {last("both 1", 29, "arg"), given(5)}, {last("try 1", 29, "throw 2"), given(1)},
		{first("add", 29, "arg", "1"), given(34)}, {first("both", 29, "7", "arg"), given(5)}, {first("keep", 29, "arg", "7"), given(5)},
		{first("keep", 29, "throw arg", "7"), thrown(5)}, {last("keep 7", 29, "arg"), given(7)}, {last("keep 7", 29, "throw arg"), thrown(5)},
		{last("keep throw 7", 19, "throw arg"), thrown(5)}, {last("keep throw 7", 19, "arg"), thrown(7)},
		{first("try", 29, "throw 7", "arg"), given(7)}, {first("try", 19, "throw 7", "throw arg"), thrown(7)}, {last("try throw 7", 19, "arg"), given(7)},
		{first("keep", 19, "throw 7", "say arg"), thrown(7, slices.Repeat([]string{"5"}, 19)...)},
		{first("if", 19, "1", "1 0"), given(1)}, {last("if 0 7", 19, "arg"), given(5)}, {first("if", 19, "0", "1 0"), given(0)},
		{last("bind 0 1", 19, "ask 0"), given(1)}, {first("bind 0", 14, "1", "ask 0"), given(1)},
		{last("bind 3 arg", 19, "say ask 3"), given(5, "5")}, {last("below 0", 29, "arg"), given(1)},
	} {
		if len(c.l) > impl.MaxWords {
			t.Fatalf("%q is too long", c.l)
		}
		checkMeant(t, c.l, number(5), c.want)
		if m := meantBy(c.l, number(5)); !isSame(m, c.want) {
			t.Fatalf("%q: the speaker makes %v of it, want %v", c.l, m, c.want)
		}
	}
	for _, l := range append(longSums(impl.MaxWords), longSums(impl.MaxWords-1)...) {
		checkAsSpoken(t, l, number(5))
	}
}

// checkAsSpoken holds a right sum against the speaker; one that is not plain is wrong.
func checkAsSpoken(t *testing.T, l []string, arg impl.Value) {
	t.Helper()
	want := wrong()
	if !slices.Contains(l, "mark") && !slices.Contains(l, "cut") && !slices.Contains(l, "go") {
		want = meantBy(l, arg)
	}
	checkMeant(t, l, arg, want)
}

func TestMeaningsOfAllShortSums(t *testing.T) {
	for _, l := range shortPlains(6) {
		for _, arg := range []impl.Value{number(5), number(0), piece(2)} {
			checkMeant(t, l, arg, meantBy(l, arg))
		}
	}
}

func TestMeaningsOfMadeSums(t *testing.T) {
	codes := map[int64]int{}
	for _, l := range madePlains(impl.MaxWords) {
		for _, arg := range []impl.Value{number(5), number(0), number(-impl.MaxNumber), piece(19)} {
			want := meantBy(l, arg)
			checkMeant(t, l, arg, want)
			codes[want.Code]++
		}
	}
	if codes[impl.MnOk] < 1000 || codes[impl.MnWrong] < 1000 {
		t.Errorf("too few came to their end, or too few did not: %v", codes)
	}
	random := rand.New(rand.NewSource(5))
	for range 3000 {
		if l := madeSum(random, 20); len(l) <= impl.MaxWords {
			checkAsSpoken(t, l, number(5))
		}
	}
}

func TestMeantOfWhatIsNotPlainIsWrong(t *testing.T) {
	for _, text := range []string{
		"mark 1", "cut 1", "go 1 2", "mark cut arg", "both say 1 mark 2", "if 1 2 mark 3", "try 1 cut 2", "both 1 go arg 2",
		"say", "add 1", "1 2", "what", "say 1 2", "ask", "ask 4", "bind 0 1", "bind 4 1 2", "p0", "01", "1000001",
	} {
		checkMeant(t, sum(text), number(5), wrong())
	}
	checkMeant(t, nil, number(5), wrong())
	checkMeant(t, []string{}, number(5), wrong())
	checkMeant(t, []string{"say 1"}, number(5), wrong())
	for _, l := range ordinarySums() {
		for size := range len(l) {
			checkMeant(t, l[:size], number(5), wrong())
		}
		checkMeant(t, joined(l, sum("1")), number(5), wrong())
	}
	for _, l := range longSums(impl.MaxWords + 1) {
		checkMeant(t, l, number(5), wrong())
	}
}

func TestMeantOfWhatIsNoValueIsWrong(t *testing.T) {
	for _, arg := range wrongValues() {
		for _, l := range append(ordinarySums(), sum("say"), nil, says(impl.MaxSaid+1, "1")) {
			checkMeant(t, l, arg, wrong())
		}
	}
	for _, arg := range append(rightNumbers(), rightPieces()...) {
		checkMeant(t, sum("arg"), arg, impl.Meaning{Value: arg})
	}
}

// manyMeanings are all different, and each field alone makes some of them so.
func manyMeanings() []impl.Meaning {
	meanings := []impl.Meaning{}
	for _, v := range append(append(rightNumbers(), piece(0), piece(1)), wrongValues()...) {
		for _, isThrown := range []bool{false, true} {
			for _, said := range [][]string{nil, {"1"}, {"2"}, {"1", "2"}, {"2", "1"}, {""}, {"1 2"}, {"1", "2", ""}} {
				for _, code := range []int64{impl.MnOk, impl.MnWrong, impl.MnLong, -1, math.MaxInt64} {
					meanings = append(meanings, impl.Meaning{Value: v, Thrown: isThrown, Said: said, Code: code})
				}
			}
		}
	}
	return meanings
}

func TestSameMeaning(t *testing.T) {
	meanings := manyMeanings()
	for i, a := range meanings {
		b := a
		b.Said = append(make([]string, 0, 9), a.Said...)
		if !impl.SameMeaning(a, b) || !impl.SameMeaning(b, a) {
			t.Fatalf("%v is not the same as %v", a, b)
		}
		for j := range meanings {
			if i != j && impl.SameMeaning(a, meanings[j]) {
				t.Fatalf("%v is the same as %v", a, meanings[j])
			}
		}
	}
	if !impl.SameMeaning(impl.Meaning{Said: []string{}}, impl.Meaning{}) || !impl.SameMeaning(impl.Meaning{}, impl.Meaning{Said: []string{}}) {
		t.Error("an empty list and nil are not the same")
	}
}

// Promise 21: every function answers at every argument and none panics.
func TestMeaningsAnswerAtExtremes(t *testing.T) {
	const many = 1 << 20
	for _, word := range []string{"add", "if", "say", "arg", "0", "bind", "ask", "cut", "keep", "try", "throw", "what", ""} {
		checkMeant(t, slices.Repeat([]string{word}, many), number(5), wrong())
		checkMeant(t, []string{strings.Repeat(word+"1", many)}, number(5), wrong())
		for _, n := range []int64{math.MinInt64, math.MaxInt64} {
			for _, kind := range []int64{math.MinInt64, -1, 0, 1, 2, math.MaxInt64} {
				checkMeant(t, []string{word}, impl.Value{Kind: kind, N: n}, wrong())
			}
		}
	}
	said := slices.Repeat([]string{"1"}, many)
	if a, b := (impl.Meaning{Said: said}), (impl.Meaning{Said: said[1:]}); impl.SameMeaning(a, b) || !impl.SameMeaning(a, a) {
		t.Error("meanings that said much are not held against each other")
	}
}

// Promise 21: arguments stay, the spare room behind them too.
func TestMeaningsLeaveArguments(t *testing.T) {
	for _, l := range append(ordinarySums(), says(impl.MaxSaid, "1"), sum("add 1"), nil) {
		room := joined(l, sum("spare room behind"))
		before := slices.Clone(room)
		impl.Meant(room[:len(l)], number(5))
		a, b := impl.Meaning{Said: room[:len(l)]}, impl.Meaning{Said: slices.Clone(l)}
		impl.SameMeaning(a, b)
		impl.SameMeaning(b, a)
		if !slices.Equal(room, before) {
			t.Errorf("%q became %q", before, room)
		}
	}
}

// Promise 21: answers are new memory.
func TestMeaningsAreNewMemory(t *testing.T) {
	for _, l := range append(ordinarySums(), says(impl.MaxSaid, "1"), sum("try keep throw say 3 say 4 say arg")) {
		want := impl.Meant(l, number(5))
		want.Said = slices.Clone(want.Said)
		first, second := impl.Meant(l, number(5)), impl.Meant(l, number(5))
		spoilt := first.Said[:cap(first.Said)]
		for i := range spoilt {
			spoilt[i] = "spoilt"
		}
		if !isSame(second, want) {
			t.Errorf("Meant(%q): two answers share memory", l)
		}
		checkMeant(t, l, number(5), want)
	}
}
