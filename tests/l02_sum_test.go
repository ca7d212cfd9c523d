package tests

import (
	"math"
	"slices"
	"strconv"
	"strings"
	"testing"

	"loop.example/g00625/impl"
)

// needs is written out again from the document, apart from the program's own.
var needs = map[string]int64{
	"arg": 0, "ask": 0,
	"say": 1, "throw": 1, "mark": 1, "cut": 1,
	"add": 2, "below": 2, "both": 2, "keep": 2, "bind": 2, "try": 2, "go": 2,
	"if": 3,
}

func rightNumberWords() []string {
	return []string{"0", "1", "3", "4", "-1", "-7", "10", "99999", "999999", "-999999", "1000000", "-1000000"}
}

func wrongWords() []string {
	return []string{
		"", " ", "-", "+", "--1", "+1", "-0", "00", "01", "007", "-07", "1.0", "1e3", "0x1", "1_000", "1 ", " 1", "1\n", "٣",
		"1000001", "-1000001", "999999999", "1000000000", "9223372036854775808", "18446744073709551616",
		"p0", "p1", "p19", "what", "Add", "ADD", "adds", "ad", "add ", " add", "add\n", "add\x00", "ifs", "bind 0", "ask 0", "ask0",
		"first", "second", "give", "toss", "catch", "piece", "\x00", "\xff",
	}
}

func sum(text string) []string { return strings.Fields(text) }

func joined(lists ...[]string) []string { return slices.Concat(lists...) }

// endOf reads a sum from the inside, word by word, with no limit; -1 where there is none.
func endOf(l []string, at int64) int64 {
	if at < 0 || at >= int64(len(l)) {
		return -1
	}
	word := l[at]
	at++
	if n, err := strconv.Atoi(word); err == nil && strconv.Itoa(n) == word && -impl.MaxNumber <= n && n <= impl.MaxNumber {
		return at
	}
	count, known := needs[word]
	if !known {
		return -1
	}
	if word == "bind" || word == "ask" {
		if at >= int64(len(l)) || !slices.Contains([]string{"0", "1", "2", "3"}, l[at]) {
			return -1
		}
		at++
	}
	for ; count > 0 && at >= 0; count-- {
		at = endOf(l, at)
	}
	return at
}

// startsOf are the places at which the sum at at, or one in it, begins.
func startsOf(l []string, at int64) []int64 {
	starts := []int64{at}
	for _, part := range partsAt(l, at) {
		starts = append(starts, startsOf(l, part)...)
	}
	return starts
}

func partsAt(l []string, at int64) []int64 {
	parts := []int64{}
	next := at + 1
	if l[at] == "bind" {
		next++
	}
	for range needs[l[at]] {
		parts = append(parts, next)
		next = endOf(l, next)
	}
	return parts
}

func checkEnd(t *testing.T, l []string, at int64, want int64) {
	t.Helper()
	if end := impl.SumEnd(l, at); end != want {
		t.Fatalf("SumEnd(%d words %.200q, %d) is %d, want %d", len(l), l, at, end, want)
	}
}

// checkRight holds a list that is one sum, and all it tells, against the reading from the inside.
func checkRight(t *testing.T, l []string) {
	t.Helper()
	plain := !slices.Contains(l, "mark") && !slices.Contains(l, "cut") && !slices.Contains(l, "go")
	if !impl.SumOk(l) || impl.IsPlain(l) != plain {
		t.Fatalf("%q: SumOk %v, IsPlain %v, want true and %v", l, impl.SumOk(l), impl.IsPlain(l), plain)
	}
	starts := startsOf(l, 0)
	for at := int64(-2); at < int64(len(l))+3; at++ {
		if is := impl.IsStart(l, at); is != slices.Contains(starts, at) {
			t.Fatalf("IsStart(%q, %d) is %v", l, at, is)
		}
	}
	if parts := impl.PartsOf(l); !slices.Equal(parts, partsAt(l, 0)) || int64(len(parts)) != impl.NeedsOf(l[0]) {
		t.Fatalf("PartsOf(%q) is %v, want %v", l, parts, partsAt(l, 0))
	}
}

func checkNoSum(t *testing.T, l []string) {
	t.Helper()
	if impl.SumOk(l) || impl.IsPlain(l) || len(impl.PartsOf(l)) > 0 {
		t.Fatalf("%d words %.200q: SumOk %v, IsPlain %v, PartsOf %v", len(l), l, impl.SumOk(l), impl.IsPlain(l), impl.PartsOf(l))
	}
	for at := int64(-1); at <= min(int64(len(l)), 100); at++ {
		if impl.IsStart(l, at) {
			t.Fatalf("%d words %.200q: IsStart %d", len(l), l, at)
		}
	}
}

// ordinarySums has one sum at least of each word, and some that are deep.
func ordinarySums() [][]string {
	sums := [][]string{
		sum("arg"), sum("ask 0"), sum("ask 1"), sum("ask 2"), sum("ask 3"),
		sum("add 1 2"), sum("below arg -3"), sum("both say 1 say 2"), sum("say arg"), sum("if 0 1 2"),
		sum("keep throw 1 say 2"), sum("bind 0 5 ask 0"), sum("bind 3 1 ask 3"), sum("throw 7"), sum("try throw 3 arg"),
		sum("mark 1"), sum("cut arg"), sum("mark cut arg"), sum("go arg 5"),
		sum("bind 0 5 if ask 0 say 1 arg"), sum("add add 1 2 add 3 4"), sum("if if 1 0 1 bind 1 2 ask 1 if 0 0 ask 2"),
		sum("mark both say 1 go cut arg bind 2 3 ask 2"), sum("keep keep 1 2 keep try 3 4 5"),
	}
	for _, word := range rightNumberWords() {
		sums = append(sums, []string{word})
	}
	return sums
}

func TestLimitOfSums(t *testing.T) {
	if impl.MaxWords != 60 {
		t.Error("a constant is not as the document tells")
	}
}

func TestNeedsOfWords(t *testing.T) {
	for word, want := range needs {
		if count := impl.NeedsOf(word); count != want || !impl.WordOk(word) {
			t.Errorf("%q needs %d, want %d; WordOk %v", word, count, want, impl.WordOk(word))
		}
	}
	for _, word := range rightNumberWords() {
		if impl.NeedsOf(word) != 0 || !impl.WordOk(word) {
			t.Errorf("%q needs %d, want 0; WordOk %v", word, impl.NeedsOf(word), impl.WordOk(word))
		}
	}
	for _, word := range wrongWords() {
		if impl.NeedsOf(word) != -1 || impl.WordOk(word) {
			t.Errorf("%q needs %d, want -1; WordOk %v", word, impl.NeedsOf(word), impl.WordOk(word))
		}
	}
}

func TestOrdinarySums(t *testing.T) {
	for _, l := range ordinarySums() {
		checkEnd(t, l, 0, int64(len(l)))
		checkRight(t, l)
	}
}

// Promise 2: a sum ends where it ends, whatever stands behind it.
func TestSumEndsWhateverStandsBehind(t *testing.T) {
	behind := [][]string{{}, {"0"}, {"arg"}, {"if"}, {"bind"}, {"ask"}, {"what"}, {""}, {"-0"}, sum("add 1 2"), sum("if 1 2"), slices.Repeat([]string{"arg"}, 200), slices.Repeat([]string{"add"}, 200), slices.Repeat([]string{"what"}, 200)}
	for _, l := range ordinarySums() {
		for _, back := range behind {
			for _, front := range behind {
				all := joined(front, l, back)
				checkEnd(t, all, int64(len(front)), int64(len(front)+len(l)))
			}
			if len(back) > 0 {
				checkNoSum(t, joined(l, back))
			}
		}
	}
}

// Promise 2, for each sum that stands in another one.
func TestSumsInSumsEndAlike(t *testing.T) {
	for _, l := range ordinarySums() {
		for _, at := range startsOf(l, 0) {
			end := impl.SumEnd(l, at)
			if end <= at || end > int64(len(l)) {
				t.Fatalf("SumEnd(%q, %d) is %d", l, at, end)
			}
			part := slices.Clone(l[at:end])
			checkEnd(t, part, 0, int64(len(part)))
			checkRight(t, part)
		}
	}
}

func TestListsThatEndTooEarly(t *testing.T) {
	for _, l := range ordinarySums() {
		for size := range len(l) {
			checkEnd(t, l[:size], 0, -1)
			checkNoSum(t, l[:size])
		}
	}
	checkEnd(t, nil, 0, -1)
	checkNoSum(t, nil)
	checkNoSum(t, []string{})
}

func TestWrongWordsEndNoSum(t *testing.T) {
	for _, word := range wrongWords() {
		checkEnd(t, []string{word}, 0, -1)
		for _, l := range ordinarySums() {
			for at := range l {
				bad := slices.Clone(l)
				bad[at] = word
				checkEnd(t, bad, 0, -1)
				checkNoSum(t, bad)
			}
		}
	}
}

func TestNumberBehindBindAndAsk(t *testing.T) {
	for _, word := range []string{"0", "1", "2", "3"} {
		checkRight(t, []string{"ask", word})
		checkRight(t, []string{"bind", word, "1", "2"})
	}
	wrong := append(wrongWords(), "4", "-1", "10", "30", "1000000", "arg", "ask", "bind", "add", "say")
	for _, word := range wrong {
		checkEnd(t, []string{"ask", word}, 0, -1)
		checkEnd(t, []string{"ask", word, "0", "1", "2"}, 0, -1)
		checkEnd(t, []string{"bind", word, "1", "2"}, 0, -1)
		checkEnd(t, []string{"bind", word, "0", "1", "2", "3"}, 0, -1)
		checkNoSum(t, []string{"ask", word})
		checkNoSum(t, []string{"bind", word, "1", "2"})
	}
}

// A sum reads from at on: even where the list has there a number that is no sum of its own.
func TestSumEndReadsFromItsPlaceOn(t *testing.T) {
	l := sum("bind 0 5 ask 3")
	for at, want := range []int64{5, 2, 3, 5, 5, -1} {
		checkEnd(t, l, int64(at), want)
	}
	for at, want := range []bool{true, false, true, true, false, false} {
		if impl.IsStart(l, int64(at)) != want {
			t.Errorf("IsStart %d is not %v", at, want)
		}
	}
}

// longSums are sums of just so many words, each in another way.
func longSums(size int) [][]string {
	sums := [][]string{joined(slices.Repeat([]string{"say"}, size-1), []string{"arg"}), joined(slices.Repeat([]string{"mark"}, size-2), sum("ask 3"))}
	if size%2 == 1 {
		return append(sums, joined(slices.Repeat(sum("add"), size/2), slices.Repeat(sum("1"), size/2+1)), joined(slices.Repeat(sum("both 1"), size/2), sum("2")))
	}
	return append(sums, joined(slices.Repeat(sum("add"), size/2-1), slices.Repeat(sum("1"), size/2-1), sum("ask 0")), joined(sum("say"), slices.Repeat(sum("both 1"), size/2-1), sum("2")))
}

func TestMaxWordsAndOneMore(t *testing.T) {
	for _, size := range []int{impl.MaxWords - 1, impl.MaxWords} {
		for _, l := range longSums(size) {
			if len(l) != size {
				t.Fatalf("%d words, want %d", len(l), size)
			}
			checkEnd(t, l, 0, int64(size))
			checkRight(t, l)
			checkEnd(t, joined(slices.Repeat(sum("say"), 100), l, slices.Repeat(sum("say"), 100)), 100, 100+int64(size))
		}
	}
	for _, size := range []int{impl.MaxWords + 1, impl.MaxWords + 2, 1000} {
		for _, l := range longSums(size) {
			checkEnd(t, l, 0, -1)
			checkNoSum(t, l)
			checkEnd(t, joined(slices.Repeat(sum("say"), 100), l, sum("1")), 100, -1)
		}
	}
}

// Of a sum that is too long, those in it that are not are sums.
func TestSumsInWhatIsTooLong(t *testing.T) {
	l := joined(slices.Repeat(sum("say"), 99), sum("1"))
	for at := range l {
		want := int64(-1)
		if len(l)-at <= impl.MaxWords {
			want = int64(len(l))
		}
		checkEnd(t, l, int64(at), want)
	}
	checkNoSum(t, l)
}

func outOfRange(size int) []int64 {
	return []int64{-1, -2, -impl.MaxWords, math.MinInt64, math.MinInt64 + 1, int64(size), int64(size) + 1, int64(size) + impl.MaxWords, math.MaxInt64 - impl.MaxWords, math.MaxInt64 - 1, math.MaxInt64}
}

func TestPlacesThatAreNone(t *testing.T) {
	for _, l := range append(ordinarySums(), nil, []string{}, slices.Repeat(sum("arg"), 200)) {
		for _, at := range outOfRange(len(l)) {
			checkEnd(t, l, at, -1)
			if impl.IsStart(l, at) {
				t.Errorf("IsStart(%q, %d)", l, at)
			}
		}
		// What stands in the spare room behind a list is not of it.
		short := joined(l, sum("1 2 3"))[:len(l)]
		checkEnd(t, short, int64(len(l)), -1)
	}
}

// Promises 2 and 21: of all short lists, those and only those are sums that read so from the inside.
func TestAllShortLists(t *testing.T) {
	words := []string{"0", "-5", "4", "arg", "say", "cut", "add", "go", "keep", "bind", "ask", "if", "what", "-0"}
	lists := [][]string{{}}
	for i := 0; i < len(lists); i++ {
		l := lists[i]
		for at := int64(-1); at <= int64(len(l)); at++ {
			checkEnd(t, l, at, endOf(l, at))
		}
		if impl.SumEnd(l, 0) == int64(len(l)) {
			checkRight(t, l)
		} else {
			checkNoSum(t, l)
		}
		if len(l) == 4 {
			continue
		}
		for _, word := range words {
			lists = append(lists, joined(l, []string{word}))
		}
	}
}

// Promise 21: every function answers at every argument and none panics.
func TestSumsAnswerAtExtremes(t *testing.T) {
	const many = 1 << 20
	for _, word := range []string{"add", "if", "say", "arg", "0", "bind", "ask", "cut", "go", "what", ""} {
		l := slices.Repeat([]string{word}, many)
		checkNoSum(t, l)
		for _, at := range append(outOfRange(many), 0, many-1, many-impl.MaxWords) {
			end := impl.SumEnd(l, at)
			if alone := word == "arg" || word == "0"; alone && 0 <= at && at < many && end != at+1 || !alone && end != -1 {
				t.Errorf("SumEnd of many %q at %d is %d", word, at, end)
			}
		}
		long := strings.Repeat(word+"1", many)
		if impl.NeedsOf(long) != -1 || impl.WordOk(long) {
			t.Errorf("a long word of many %q is accepted", word)
		}
		checkNoSum(t, []string{long})
	}
}

// Promise 21: arguments stay, the spare room behind them too.
func TestSumsLeaveArguments(t *testing.T) {
	for _, l := range append(ordinarySums(), sum("add 1"), sum("what 1 2"), nil) {
		room := joined(l, sum("spare room behind"))
		before := slices.Clone(room)
		given := room[:len(l)]
		for at := int64(-1); at <= int64(len(l)); at++ {
			impl.SumEnd(given, at)
			impl.IsStart(given, at)
		}
		impl.SumOk(given)
		impl.IsPlain(given)
		impl.PartsOf(given)
		if !slices.Equal(room, before) {
			t.Errorf("%q became %q", before, room)
		}
	}
}

// Promise 21: answers are new memory.
func TestPartsAreNewMemory(t *testing.T) {
	for _, l := range ordinarySums() {
		first, second := impl.PartsOf(l), impl.PartsOf(l)
		for _, answer := range [][]int64{first, second} {
			answer = answer[:cap(answer)]
			for i := range answer {
				answer[i] = -99
			}
		}
		if third := impl.PartsOf(l); !slices.Equal(third, partsAt(l, 0)) {
			t.Errorf("PartsOf(%q) is %v once an earlier answer was written into", l, third)
		}
		second = impl.PartsOf(l)
		for i := range first {
			first[i] = -7
		}
		if slices.Contains(second, -7) {
			t.Errorf("PartsOf(%q): two answers share memory", l)
		}
	}
}
