package tests

import (
	"math/rand"
	"slices"
	"strings"
	"testing"

	"loop.example/g00625/impl"
)

// wordsAsked are all words there are, and some that are none.
func wordsAsked() []string {
	words := append(rightNumberWords(), wrongWords()...)
	for word := range needs {
		words = append(words, word)
	}
	return append(words, "2", "5", "7")
}

// depthAt counts from the inside how deep the sum at at is.
func depthAt(l []string, at int64) int64 {
	deepest := int64(0)
	for _, part := range partsAt(l, at) {
		deepest = max(deepest, depthAt(l, part))
	}
	return deepest + 1
}

func countAt(l []string, starts []int64, word string) int64 {
	count := int64(0)
	for _, at := range starts {
		if l[at] == word {
			count++
		}
	}
	return count
}

// checkShown holds all that is told of a sum against the text and the reading from the inside.
func checkShown(t *testing.T, l []string, text string) {
	t.Helper()
	if s := impl.ShowSum(l); s != text {
		t.Fatalf("ShowSum(%q) is %q, want %q", l, s, text)
	}
	if back, is := impl.ReadSum(text); !is || !slices.Equal(back, l) {
		t.Fatalf("ReadSum(%q) is %q %v, want %q", text, back, is, l)
	}
	if depth := impl.DepthOf(l); depth != depthAt(l, 0) {
		t.Fatalf("DepthOf(%q) is %d, want %d", l, depth, depthAt(l, 0))
	}
	starts, all := startsOf(l, 0), int64(0)
	for _, word := range wordsAsked() {
		if count := impl.WordsIn(l, word); count != countAt(l, starts, word) {
			t.Fatalf("WordsIn(%q, %q) is %d, want %d", l, word, count, countAt(l, starts, word))
		}
	}
	for _, word := range slices.Compact(slices.Sorted(slices.Values(l))) {
		all += impl.WordsIn(l, word)
	}
	if all != int64(len(starts)) {
		t.Fatalf("%q: %d words are counted, want %d", l, all, len(starts))
	}
}

// checkNotShown is of a list that is not SumOk.
func checkNotShown(t *testing.T, l []string) {
	t.Helper()
	if s := impl.ShowSum(l); s != "" {
		t.Fatalf("ShowSum of %d words %.200q is %.200q", len(l), l, s)
	}
	if depth := impl.DepthOf(l); depth != 0 {
		t.Fatalf("DepthOf of %d words %.200q is %d", len(l), l, depth)
	}
	for _, word := range append([]string{"0", "1", "arg", "say", "add", ""}, l[:min(len(l), 8)]...) {
		if count := impl.WordsIn(l, word); count != 0 {
			t.Fatalf("WordsIn of %d words %.200q, %.200q is %d", len(l), l, word, count)
		}
	}
}

func checkNotRead(t *testing.T, text string) {
	t.Helper()
	if l, is := impl.ReadSum(text); is || len(l) > 0 {
		t.Fatalf("ReadSum of %d bytes %.200q is %q %v, want nothing and false", len(text), text, l, is)
	}
}

// madeSum grows a sum that may have any word, and is not much longer than size.
func madeSum(random *rand.Rand, size int) []string {
	return madeOf(random, size, "say", "throw", "mark", "cut", "add", "below", "both", "keep", "bind", "try", "go", "if")
}

func madeOf(random *rand.Rand, size int, heads ...string) []string {
	ends := []string{"arg", "ask", "0", "1", "2", "3", "-7", "1000000"}
	made, missing := []string{}, int64(1)
	for missing > 0 {
		word := ends[random.Intn(len(ends))]
		if len(made) < size && random.Intn(4) > 0 {
			word = heads[random.Intn(len(heads))]
		}
		made = append(made, word)
		missing += needs[word] - 1
		if word == "bind" || word == "ask" {
			made = append(made, []string{"0", "1", "2", "3"}[random.Intn(4)])
		}
	}
	return made
}

// Promise 3: ReadSum of ShowSum is the sum.
func TestReadOfShownIsTheSum(t *testing.T) {
	for _, l := range ordinarySums() {
		checkShown(t, l, strings.Join(l, " "))
	}
	for _, size := range []int{2, 3, 10, impl.MaxWords - 1, impl.MaxWords} {
		for _, l := range longSums(size) {
			checkShown(t, l, strings.Join(l, " "))
		}
	}
}

// Promise 3, for sums of any make; those that have become too long are none.
func TestReadOfShownOfMadeSums(t *testing.T) {
	random := rand.New(rand.NewSource(3))
	for range 4000 {
		l := madeSum(random, random.Intn(40))
		text := strings.Join(l, " ")
		if len(l) <= impl.MaxWords {
			checkShown(t, l, text)
			continue
		}
		checkNotShown(t, l)
		checkNotRead(t, text)
	}
}

func TestTextsOfSums(t *testing.T) {
	for text, want := range map[string][]string{
		"0":                           {"0"},
		"-1000000":                    {"-1000000"},
		"arg":                         {"arg"},
		"ask 3":                       {"ask", "3"},
		"add 1 -2":                    {"add", "1", "-2"},
		"bind 0 5 if ask 0 say 1 arg": {"bind", "0", "5", "if", "ask", "0", "say", "1", "arg"},
		"mark both cut arg go arg 2":  {"mark", "both", "cut", "arg", "go", "arg", "2"},
	} {
		checkShown(t, want, text)
	}
}

// A text that ShowSum makes of no sum is none, though there are a sum's words in it.
func TestReadSumRefusesOtherForms(t *testing.T) {
	for _, l := range append(ordinarySums(), longSums(impl.MaxWords)...) {
		text := strings.Join(l, " ")
		for _, other := range []string{
			" " + text, text + " ", "  " + text, text + "  ", " " + text + " ",
			text + "\n", "\n" + text, text + "\t", text + "\r\n", text + "\x00", "\x00" + text, text + ".", "(" + text + ")", "\xff" + text, "\u00a0" + text,
			text + " 1", text + " arg", text + " what", "1 " + text, text + " " + text, text + "\n" + text,
		} {
			checkNotRead(t, other)
		}
		for at := range len(text) {
			if text[at] != ' ' {
				continue
			}
			for _, between := range []string{"", "  ", "   ", "\t", "\n", " \n", "_", ",", ", ", "\x00", "\u00a0", "\v"} {
				checkNotReadUnlessSum(t, text[:at]+between+text[at+1:])
			}
			checkNotRead(t, text[:at])
			checkNotRead(t, text[:at+1])
		}
	}
	for _, text := range []string{"", " ", "  ", "\n", "\x00", strings.Repeat(" ", impl.MaxWords)} {
		checkNotRead(t, text)
	}
}

// checkNotReadUnlessSum lets pass what is another sum now, as add 12 3 would be once a blank is gone.
func checkNotReadUnlessSum(t *testing.T, text string) {
	t.Helper()
	if l := strings.Split(text, " "); endOf(l, 0) == int64(len(l)) {
		return
	}
	checkNotRead(t, text)
}

func TestReadSumRefusesWrongWords(t *testing.T) {
	for _, word := range wrongWords() {
		// Some that are no word are the text of a sum, as ask 0 is.
		checkNotReadUnlessSum(t, word)
		for _, l := range ordinarySums() {
			for at := range l {
				bad := slices.Clone(l)
				bad[at] = word
				checkNotShown(t, bad)
				checkNotReadUnlessSum(t, strings.Join(bad, " "))
			}
		}
	}
	for _, text := range []string{
		"say", "add 1", "if 1 2", "1 2", "arg arg", "ask", "bind", "bind 0", "bind 0 1", "bind 1", "what", "say what",
		"ask 4", "ask -1", "ask arg", "ask 00", "bind 4 1 1", "bind -1 1 1", "bind arg 1 1", "bind 10 1 1",
		"01", "-0", "+1", "1000001", "-1000001", "p0", "say p1", "Say 1", "add 1 2 3", "say  1",
	} {
		checkNotRead(t, text)
		checkNotShown(t, strings.Split(text, " "))
	}
}

// A blank in a word would be one between words, once it is shown.
func TestWordsWithBlanksAreNoSum(t *testing.T) {
	for _, l := range [][]string{{"say 1"}, {"say", "1 "}, {"ask 0"}, {"add", "1 2"}, {"", "1"}, {"1", ""}, {""}, {" "}, {"bind", "0 1", "2"}} {
		checkNotShown(t, l)
	}
}

func TestTextsOfListsThatEndTooEarly(t *testing.T) {
	for _, l := range ordinarySums() {
		for size := range len(l) {
			checkNotShown(t, l[:size])
			checkNotRead(t, strings.Join(l[:size], " "))
		}
	}
	checkNotShown(t, nil)
	checkNotShown(t, []string{})
}

func TestTextsOfMaxWordsAndOneMore(t *testing.T) {
	for _, l := range longSums(impl.MaxWords) {
		checkShown(t, l, strings.Join(l, " "))
		more := joined(sum("say"), l)
		if len(more) != impl.MaxWords+1 {
			t.Fatalf("%d words", len(more))
		}
		checkNotShown(t, more)
		checkNotRead(t, strings.Join(more, " "))
	}
	for _, l := range append(longSums(impl.MaxWords+1), longSums(1000)...) {
		checkNotShown(t, l)
		checkNotRead(t, strings.Join(l, " "))
	}
}

func TestWordsInLeavesOutTheNumberBehind(t *testing.T) {
	l := sum("bind 0 bind 1 0 ask 1 add ask 0 add 1 1")
	for word, want := range map[string]int64{"bind": 2, "ask": 2, "add": 2, "0": 1, "1": 2, "2": 0, "3": 0, "arg": 0, "what": 0, "": 0, "bind 0": 0, "ask 1": 0} {
		if count := impl.WordsIn(l, word); count != want {
			t.Errorf("%q stands %d times in %q, want %d", word, count, l, want)
		}
	}
	for _, n := range []string{"0", "1", "2", "3"} {
		if count := impl.WordsIn([]string{"ask", n}, n); count != 0 {
			t.Errorf("%q stands %d times in ask %s", n, count, n)
		}
		if count := impl.WordsIn([]string{"bind", n, n, n}, n); count != 2 {
			t.Errorf("%q stands %d times in bind %s %s %s", n, count, n, n, n)
		}
	}
}

func TestDepthOfSums(t *testing.T) {
	for text, want := range map[string]int64{
		"0": 1, "-7": 1, "arg": 1, "ask 2": 1,
		"say 1": 2, "throw arg": 2, "mark ask 0": 2, "cut 1": 2,
		"add 1 2": 2, "bind 3 1 ask 3": 2, "if 1 2 3": 2, "keep 1 2": 2, "go 1 2": 2,
		"add say 1 2": 3, "add 1 say 2": 3, "if say 1 2 3": 3, "if 1 say 2 3": 3, "if 1 2 say 3": 3,
		"both add say 1 2 3": 4, "both both 1 2 both 3 4": 3, "both 1 both 2 both 3 4": 4, "both both both 1 2 3 4": 4,
		"bind 0 5 if ask 0 say 1 arg": 4, "bind 0 say say 5 ask 0": 4,
	} {
		if depth := impl.DepthOf(sum(text)); depth != want {
			t.Errorf("%q is %d deep, want %d", text, depth, want)
		}
	}
}

func TestSumsAsDeepAsCanBe(t *testing.T) {
	for _, word := range []string{"say", "throw", "mark", "cut"} {
		for size := 1; size <= impl.MaxWords; size++ {
			l := joined(slices.Repeat([]string{word}, size-1), sum("arg"))
			checkShown(t, l, strings.Repeat(word+" ", size-1)+"arg")
			if depth := impl.DepthOf(l); depth != int64(size) {
				t.Fatalf("%q is %d deep, want %d", l, depth, size)
			}
			if count := impl.WordsIn(l, word); count != int64(size-1) {
				t.Fatalf("%q stands %d times in %q, want %d", word, count, l, size-1)
			}
		}
		checkNotShown(t, joined(slices.Repeat([]string{word}, impl.MaxWords), sum("arg")))
	}
	binds := joined(slices.Repeat(sum("bind 0 1"), 19), sum("ask 0"))
	if depth, asked := impl.DepthOf(binds), impl.WordsIn(binds, "1"); depth != 20 || asked != 19 {
		t.Errorf("%q is %d deep, and 1 stands %d times in it", binds, depth, asked)
	}
}

// Promises 3 and 21: of all short texts, those and only those are read that some sum is shown as.
func TestReadSumOfAllShortTexts(t *testing.T) {
	parts := []string{"0", "-", "5", " ", "arg", "say", "add", "ask", "x"}
	texts := []string{""}
	for range 5 {
		longer := []string{}
		for _, text := range texts {
			for _, part := range parts {
				longer = append(longer, text+part)
			}
		}
		texts = longer
		for _, text := range texts {
			l := strings.Split(text, " ")
			if endOf(l, 0) == int64(len(l)) {
				checkShown(t, l, text)
				continue
			}
			checkNotRead(t, text)
			checkNotShown(t, l)
		}
	}
}

// Promise 21: every function answers at every argument and none panics.
func TestTextsAnswerAtExtremes(t *testing.T) {
	const many = 1 << 20
	for _, word := range []string{"add", "if", "say", "arg", "0", "bind", "ask", "cut", "go", "what", ""} {
		l := slices.Repeat([]string{word}, many)
		checkNotShown(t, l)
		checkNotShown(t, []string{strings.Repeat(word+"1", many)})
		checkNotRead(t, strings.Repeat(word+" ", many))
		checkNotRead(t, strings.Repeat(word+"1", many))
		checkNotRead(t, strings.Repeat("say ", many)+"1"+strings.Repeat(" "+word, many))
	}
	for _, part := range []string{" ", "\n", "\x00", "\xff", "-", "0"} {
		checkNotRead(t, strings.Repeat(part, many))
		if count := impl.WordsIn(sum("add 0 0"), strings.Repeat(part, many)); count != 0 {
			t.Errorf("many of %q stand %d times in add 0 0", part, count)
		}
	}
}

// Promise 21: arguments stay, the spare room behind them too.
func TestTextsLeaveArguments(t *testing.T) {
	for _, l := range append(ordinarySums(), sum("add 1"), sum("what 1 2"), nil) {
		room := joined(l, sum("spare room behind"))
		before := slices.Clone(room)
		given := room[:len(l)]
		impl.ShowSum(given)
		impl.DepthOf(given)
		impl.WordsIn(given, "1")
		if !slices.Equal(room, before) {
			t.Errorf("%q became %q", before, room)
		}
	}
}

// Promise 21: answers are new memory.
func TestReadSumsAreNewMemory(t *testing.T) {
	for _, l := range ordinarySums() {
		text := strings.Join(l, " ")
		first, _ := impl.ReadSum(text)
		second, _ := impl.ReadSum(text)
		first = first[:cap(first)]
		for i := range first {
			first[i] = "spoilt"
		}
		if !slices.Equal(second, l) {
			t.Errorf("ReadSum(%q): two answers share memory", text)
		}
		if third, is := impl.ReadSum(text); !is || !slices.Equal(third, l) {
			t.Errorf("ReadSum(%q) is %q once an earlier answer was written into", text, third)
		}
	}
}
