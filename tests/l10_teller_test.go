package tests

import (
	"fmt"
	"math/rand"
	"slices"
	"strings"
	"testing"

	"loop.example/g00522/impl"
)

func saying(who int, no int, text string) impl.Note {
	return impl.Note{What: impl.Told{Who: who, No: no, Text: text}}
}

func backTo(who int, no int) impl.Note {
	return impl.Note{Back: true, What: impl.Told{Who: who, No: no}}
}

func notes(l ...impl.Note) []impl.Note { return l }

func put(k int, text string) impl.TellStep {
	return impl.TellStep{Kind: impl.TlPut, K: k, Text: text}
}

func tl(kind int, k int) impl.TellStep { return impl.TellStep{Kind: kind, K: k} }

// tellOf is a world in which tellers were written in turns, a digit each; the texts of a teller are words, _ being the empty one.
func tellOf(turns string, heard []int, line []impl.Note, texts ...string) impl.Tell {
	t := impl.Tell{Texts: make([][]string, len(texts)), Heard: heard, Line: line, Next: make([]int, len(texts))}
	for k, words := range texts {
		for _, s := range strings.Fields(words) {
			t.Texts[k] = append(t.Texts[k], strings.Trim(s, "_"))
		}
	}
	for _, digit := range turns {
		who := int(digit - '0')
		t.Log = append(t.Log, impl.Told{Who: who, No: t.Next[who], Text: t.Texts[who][t.Next[who]]})
		t.Next[who]++
	}
	return t
}

func cloneTell(t impl.Tell) impl.Tell {
	out := impl.Tell{Texts: slices.Clone(t.Texts), Heard: slices.Clone(t.Heard), Line: slices.Clone(t.Line), Log: slices.Clone(t.Log), Next: slices.Clone(t.Next)}
	for k, l := range out.Texts {
		out.Texts[k] = slices.Clone(l)
	}
	return out
}

func alteredTell(t impl.Tell, change func(*impl.Tell)) impl.Tell {
	out := cloneTell(t)
	change(&out)
	return out
}

func sameTell(a impl.Tell, b impl.Tell) bool {
	return slices.EqualFunc(a.Texts, b.Texts, slices.Equal[[]string]) && slices.Equal(a.Heard, b.Heard) && slices.Equal(a.Line, b.Line) && slices.Equal(a.Log, b.Log) && slices.Equal(a.Next, b.Next)
}

func isZeroTell(t impl.Tell) bool {
	return sameTell(t, impl.Tell{})
}

func plainGoodNote(t impl.Tell, x impl.Note) bool {
	if !among(x.What.Who, 0, len(t.Texts)-1) {
		return false
	}
	texts := t.Texts[x.What.Who]
	if x.Back {
		return x.What.Text == "" && among(x.What.No, 0, t.Next[x.What.Who])
	}
	return among(x.What.No, 0, len(texts)-1) && x.What.Text == texts[x.What.No]
}

// plainLogOf is what the Log has of one teller, and what it should have.
func plainLogOf(t impl.Tell, who int) (has []impl.Told, should []impl.Told) {
	for _, x := range t.Log {
		if x.Who == who {
			has = append(has, x)
		}
	}
	for no, s := range t.Texts[who][:t.Next[who]] {
		should = append(should, impl.Told{Who: who, No: no, Text: s})
	}
	return has, should
}

func plainGoodTell(t impl.Tell) bool {
	tellers := len(t.Texts)
	if !among(tellers, 1, 4) || len(t.Heard) != tellers || len(t.Next) != tellers || len(t.Line) > 30 {
		return false
	}
	for k, l := range t.Texts {
		if len(l) > 20 || slices.ContainsFunc(l, func(s string) bool { return len(s) > 20 }) || !among(t.Next[k], 0, len(l)) || !among(t.Heard[k], 0, t.Next[k]) {
			return false
		}
		if has, should := plainLogOf(t, k); !slices.Equal(has, should) {
			return false
		}
	}
	return !slices.ContainsFunc(t.Log, func(x impl.Told) bool { return !among(x.Who, 0, tellers-1) }) &&
		!slices.ContainsFunc(t.Line, func(x impl.Note) bool { return !plainGoodNote(t, x) })
}

// plainTellStep goes by the chapter's words, one behind the other, on a copy.
func plainTellStep(t impl.Tell, s impl.TellStep) (impl.Tell, bool) {
	q := cloneTell(t)
	if s.Kind != 1 && s.Text != "" || !plainTellDoes(&q, s) {
		return impl.Tell{}, false
	}
	return q, true
}

func plainTellDoes(q *impl.Tell, s impl.TellStep) bool {
	isTeller, isNote := among(s.K, 0, len(q.Texts)-1), among(s.K, 0, len(q.Line)-1)
	switch {
	case s.Kind == 1 && isTeller && len(q.Texts[s.K]) < 20 && len(s.Text) <= 20:
		q.Texts[s.K] = append(q.Texts[s.K], s.Text)
	case s.Kind == 2 && isTeller && q.Heard[s.K] < len(q.Texts[s.K]):
		q.Line = append(q.Line, saying(s.K, q.Heard[s.K], q.Texts[s.K][q.Heard[s.K]]))
		q.Line = q.Line[:min(len(q.Line), 30)]
	case s.Kind == 3 && isNote:
		x := q.Line[s.K]
		q.Line = append(slices.Clone(q.Line[:s.K]), q.Line[s.K+1:]...)
		plainTakes(q, x)
	case s.Kind == 4 && isNote:
		q.Line = append(slices.Clone(q.Line[:s.K]), q.Line[s.K+1:]...)
	case s.Kind == 5 && isNote && len(q.Line) < 30:
		q.Line = append(q.Line, q.Line[s.K])
	default:
		return false
	}
	return true
}

func plainTakes(q *impl.Tell, x impl.Note) {
	who := x.What.Who
	if x.Back {
		if q.Heard[who] < x.What.No {
			q.Heard[who] = x.What.No
		}
		return
	}
	if x.What.No == q.Next[who] {
		q.Log = append(q.Log, x.What)
		q.Next[who]++
	}
	q.Line = append(q.Line, backTo(who, q.Next[who]))
}

// plainSettle goes by the chapter's words, with plain steps.
func plainSettle(t impl.Tell) (impl.Tell, int) {
	q := cloneTell(t)
	often := 0
	for {
		k := slices.IndexFunc(rising(0, 1, len(q.Texts)), func(k int) bool { return q.Heard[k] < len(q.Texts[k]) })
		if k < 0 {
			return q, often
		}
		q.Line = nil
		for _, s := range []impl.TellStep{tl(2, k), tl(3, 0), tl(3, 0)} {
			q, _ = plainTellStep(q, s)
		}
		often++
	}
}

// checkTellStep holds a step of a good world against the plain one.
func checkTellStep(t *testing.T, w impl.Tell, s impl.TellStep) (impl.Tell, bool) {
	t.Helper()
	want, is := plainTellStep(w, s)
	got, ok := impl.StepTell(w, s)
	if ok != is || !sameTell(got, want) {
		t.Fatalf("%v of %v: %v %v, not %v %v", s, w, got, ok, want, is)
	}
	if ok && !impl.GoodTell(got) {
		t.Fatalf("%v of %v is not good: %v", s, w, got)
	}
	return got, ok
}

// checkTell asks a good world all there is to ask of it.
func checkTell(t *testing.T, w impl.Tell) {
	t.Helper()
	if !impl.GoodTell(w) {
		t.Fatalf("not good: %v", w)
	}
	for k := -2; k <= 6; k++ {
		l, ok := impl.WrittenOf(w, k)
		if !among(k, 0, len(w.Texts)-1) {
			if len(l) != 0 || ok {
				t.Fatalf("%v: %d: %q %v", w, k, l, ok)
			}
			continue
		}
		if !slices.Equal(l, w.Texts[k][:w.Next[k]]) || !ok {
			t.Fatalf("%v: %d: %q %v", w, k, l, ok)
		}
	}
	want, often := plainSettle(w)
	got, n, ok := impl.SettleTell(w)
	if !sameTell(got, want) || n != often || !ok {
		t.Fatalf("%v settles as %v %d %v, not %v %d", w, got, n, ok, want, often)
	}
}

func refuseTell(t *testing.T, w impl.Tell) {
	t.Helper()
	if impl.GoodTell(w) {
		t.Fatalf("taken: %v", w)
	}
	if q, n, ok := impl.SettleTell(w); !isZeroTell(q) || n != 0 || ok {
		t.Fatalf("%v: %v %d %v", w, q, n, ok)
	}
	for k := -1; k <= 5; k++ {
		if l, ok := impl.WrittenOf(w, k); len(l) != 0 || ok {
			t.Fatalf("%v: %d: %q %v", w, k, l, ok)
		}
		for kind := 0; kind <= 6; kind++ {
			if q, ok := impl.StepTell(w, tl(kind, k)); !isZeroTell(q) || ok {
				t.Fatalf("%d of %d of %v: %v %v", kind, k, w, q, ok)
			}
		}
		if q, ok := impl.StepTell(w, put(k, "a")); !isZeroTell(q) || ok {
			t.Fatalf("%v: %v %v", w, q, ok)
		}
	}
}

// anyTell is good, but seldom one that steps would come to: notes may tell what was not yet said.
func anyTell(r *rand.Rand) impl.Tell {
	tellers := 1 + r.Intn(4)
	w, _ := impl.NewTell(tellers)
	var turns []int
	for k := range tellers {
		for range []int{r.Intn(2), r.Intn(5), r.Intn(5), 18 + r.Intn(3)}[r.Intn(4)] {
			w.Texts[k] = append(w.Texts[k], []string{"", "a", "b", "a", longRecord(20)}[r.Intn(5)])
		}
		turns = append(turns, repeated(k, r.Intn(len(w.Texts[k])+1))...)
	}
	r.Shuffle(len(turns), func(i, j int) { turns[i], turns[j] = turns[j], turns[i] })
	for _, who := range turns {
		w.Log = append(w.Log, impl.Told{Who: who, No: w.Next[who], Text: w.Texts[who][w.Next[who]]})
		w.Next[who]++
	}
	for k := range tellers {
		w.Heard[k] = r.Intn(w.Next[k] + 1)
	}
	for range []int{r.Intn(3), r.Intn(8), 28 + r.Intn(3)}[r.Intn(3)] {
		w.Line = append(w.Line, anyNote(r, w))
	}
	return w
}

func anyNote(r *rand.Rand, w impl.Tell) impl.Note {
	who := r.Intn(len(w.Texts))
	if many := len(w.Texts[who]); many > 0 && r.Intn(5) < 3 {
		// Notes around Next would be few by chance.
		no := r.Intn(many)
		if r.Intn(2) == 0 {
			no = min(w.Next[who], many-1)
		}
		return saying(who, no, w.Texts[who][no])
	}
	return backTo(who, r.Intn(w.Next[who]+1))
}

func words(many int) string {
	return strings.Repeat("x ", many)
}

// goodTells are those at the chapter's edges, and any.
func goodTells() []impl.Tell {
	long := longRecord(20)
	out := []impl.Tell{
		tellOf("", []int{0}, nil, ""), tellOf("", []int{0, 0, 0, 0}, nil, "", "", "", ""), threeTellers(),
		tellOf("", []int{0}, nil, "_"), tellOf("0", []int{0}, nil, "_"), tellOf("0", []int{1}, nil, "_"), tellOf("0", []int{0}, nil, long), tellOf("", []int{0}, notes(saying(0, 0, long)), long),
		tellOf("", []int{0, 0}, nil, words(20), words(19)), tellOf(strings.Repeat("01", 20), []int{20, 19}, nil, words(20), words(20)),
		tellOf(strings.Repeat("0", 20), []int{0}, notes(saying(0, 19, "x"), backTo(0, 20), backTo(0, 0)), words(20)), tellOf(strings.Repeat("3210", 20), []int{0, 1, 2, 3}, nil, words(20), words(20), words(20), words(20)),
		// A note may tell what is far from being next, and a teller may lack what it was told.
		tellOf("", []int{0}, notes(saying(0, 19, "x"), saying(0, 0, "x"), backTo(0, 0)), words(20)), tellOf("000", []int{0}, notes(saying(0, 2, "c"), saying(0, 0, "a"), saying(0, 3, "d")), "a b c d"),
		tellOf("001", []int{2, 0}, slices.Repeat(notes(backTo(0, 2)), 30), "a b", "c"), tellOf("001", []int{0, 1}, slices.Repeat(notes(saying(1, 0, "c")), 30), "a b", "c"), tellOf("", []int{0}, slices.Repeat(notes(backTo(0, 0)), 30), ""),
		{Texts: [][]string{{}}, Heard: []int{0}, Line: []impl.Note{}, Log: []impl.Told{}, Next: []int{0}},
	}
	for _, turns := range []string{"", "0", "1", "00", "11", "01", "10", "001", "010", "100", "110", "101", "011", "0011", "0101", "0110", "1001", "1010", "1100"} {
		out = append(out, tellOf(turns, []int{0, 0}, nil, "a b", "a b"), tellOf(turns, []int{strings.Count(turns, "0"), strings.Count(turns, "1")}, notes(saying(0, 1, "b"), saying(1, 0, "a")), "a b", "a b"))
	}
	r := rand.New(rand.NewSource(101))
	for range 400 {
		out = append(out, anyTell(r))
	}
	return out
}

func badNotes() []impl.Note {
	out := []impl.Note{
		saying(-1, 0, "a"), saying(3, 0, "a"), saying(4, 0, ""), saying(0, -1, "a"), saying(0, -1, ""), saying(0, 2, "a"), saying(0, 2, "b"), saying(0, 2, ""), saying(0, 3, ""),
		// Another Text than the one with its number.
		saying(0, 0, "b"), saying(0, 1, "a"), saying(0, 0, ""), saying(0, 0, "aa"), saying(0, 0, "A"), saying(2, 0, "d"), saying(2, 1, ""), saying(1, 0, "b"), saying(0, 0, longRecord(21)),
		backTo(-1, 0), backTo(3, 0), backTo(4, 0), backTo(0, -1), backTo(0, 2), backTo(1, 2), backTo(2, 3), backTo(2, 4), backTo(0, 20), backTo(0, 21),
	}
	for _, text := range []string{"a", "b", " ", "\x00", longRecord(20), longRecord(21)} {
		for _, no := range []int{0, 1} {
			out = append(out, impl.Note{Back: true, What: impl.Told{Who: 0, No: no, Text: text}})
		}
	}
	for _, n := range noNumbers() {
		out = append(out, saying(n, 0, "a"), saying(0, n, "a"), saying(0, n, ""), backTo(n, 0), backTo(0, n))
	}
	return out
}

// threeTellers is good, and each of its lists has something: badNotes are none of its notes.
func threeTellers() impl.Tell {
	return tellOf("0212", []int{1, 0, 2}, notes(saying(0, 1, "b"), backTo(2, 1), saying(2, 0, "")), "a b", "a a", "_ d e")
}

func badTells() []impl.Tell {
	three := threeTellers()
	out := []impl.Tell{{}, {Texts: [][]string{}, Heard: []int{}, Next: []int{}}, {Heard: []int{0}, Next: []int{0}}, {Texts: [][]string{nil}}, {Texts: [][]string{nil}, Heard: []int{0}}, {Texts: [][]string{nil}, Next: []int{0}}, {Line: notes(backTo(0, 0))}, {Log: []impl.Told{{}}}}
	for _, many := range []int{5, 6, 5000} {
		out = append(out, impl.Tell{Texts: make([][]string, many), Heard: make([]int, many), Next: make([]int, many)})
	}
	for _, l := range [][]int{nil, {}, {1}, {1, 0}, {1, 0, 2, 0}, {1, 0, 2, 0, 0}, {1, 1, 2, 0}, repeated(0, 5000), {2, 0, 2}, {1, 2, 2}, {1, 0, 3}, {-1, 0, 2}, {1, -1, 2}, {1, 0, -1}} {
		out = append(out, alteredTell(three, func(t *impl.Tell) { t.Heard = l }))
	}
	for _, l := range [][]int{nil, {}, {1}, {1, 1}, {1, 1, 2, 0}, {1, 1, 2, 0, 0}, repeated(1, 5000), {0, 1, 2}, {2, 1, 2}, {1, 0, 2}, {1, 2, 2}, {1, 1, 1}, {1, 1, 3}, {1, 1, 4}, {3, 1, 2}, {-1, 1, 2}} {
		out = append(out, alteredTell(three, func(t *impl.Tell) { t.Next = l }), alteredTell(three, func(t *impl.Tell) { t.Next, t.Heard = l, l }))
	}
	for _, n := range noNumbers() {
		for k := range 3 {
			out = append(out, alteredTell(three, func(t *impl.Tell) { t.Heard[k] = n }), alteredTell(three, func(t *impl.Tell) { t.Next[k] = n }), alteredTell(three, func(t *impl.Tell) { t.Next[k], t.Heard[k] = n, n }))
		}
	}
	for k := range 3 {
		for _, text := range []string{longRecord(21), longRecord(22), longRecord(5000)} {
			out = append(out, alteredTell(three, func(t *impl.Tell) { t.Texts[k] = append(t.Texts[k], text) }))
		}
		for _, many := range []int{21, 22, 5000} {
			out = append(out, alteredTell(three, func(t *impl.Tell) { t.Texts[k] = append(t.Texts[k], repeatedText("", many-len(t.Texts[k]))...) }))
		}
	}
	for _, many := range []int{31, 32, 5000} {
		out = append(out, alteredTell(three, func(t *impl.Tell) { t.Line = slices.Repeat(notes(saying(0, 1, "b")), many) }), alteredTell(three, func(t *impl.Tell) { t.Line = slices.Repeat(notes(backTo(0, 0)), many) }))
	}
	for _, x := range badNotes() {
		out = append(out, alteredTell(three, func(t *impl.Tell) { t.Line = append(t.Line, x) }), alteredTell(three, func(t *impl.Tell) { t.Line[0] = x }), alteredTell(three, func(t *impl.Tell) { t.Line = notes(x) }))
	}
	for _, l := range badWritten() {
		out = append(out, alteredTell(three, func(t *impl.Tell) { t.Log = l }))
	}
	return out
}

// badWritten are Logs that threeTellers can't have.
func badWritten() [][]impl.Told {
	good := threeTellers().Log
	with := func(at int, x impl.Told) []impl.Told { return slices.Insert(slices.Clone(good), at, x) }
	out := [][]impl.Told{nil, {}}
	for at, x := range good {
		// One is not there, is there twice, or is another one.
		out = append(out, slices.Delete(slices.Clone(good), at, at+1), with(at, x), with(len(good), x))
		for _, y := range []impl.Told{{Who: x.Who, No: x.No + 1, Text: x.Text}, {Who: x.Who, No: x.No - 1, Text: x.Text}, {Who: x.Who, No: x.No, Text: x.Text + "x"}, {Who: (x.Who + 1) % 3, No: x.No, Text: x.Text}, {Who: -1, No: x.No, Text: x.Text}, {Who: 3, No: x.No, Text: x.Text}, {}} {
			out = append(out, slices.Replace(slices.Clone(good), at, at+1, y))
		}
	}
	// One more than Next, and one that no teller has.
	for at := range len(good) + 1 {
		for _, x := range []impl.Told{{Who: 0, No: 1, Text: "b"}, {Who: 1, No: 1, Text: "a"}, {Who: 2, No: 2, Text: "e"}, {Who: 3}, {Who: -1}, {Who: 0, No: 2}, {Who: 0, No: -1}, {Who: 1, No: 1000000, Text: "a"}} {
			out = append(out, with(at, x))
		}
	}
	swapped := slices.Clone(good)
	swapped[1], swapped[3] = swapped[3], swapped[1]
	return append(out, swapped, slices.Repeat(good, 2), slices.Repeat(good, 2000), slices.Concat(good[1:2], good[1:2], good[2:3], good[:1]))
}

func TestTellersHaveTheirLimits(t *testing.T) {
	if impl.MaxTellers != 4 || impl.MaxNotes != 30 || impl.MaxTellSteps != 150 {
		t.Error(impl.MaxTellers, impl.MaxNotes, impl.MaxTellSteps)
	}
	if impl.TlPut != 1 || impl.TlSend != 2 || impl.TlTake != 3 || impl.TlLose != 4 || impl.TlTwice != 5 {
		t.Error(impl.TlPut, impl.TlSend, impl.TlTake, impl.TlLose, impl.TlTwice)
	}
}

func TestNewTellTellsAsSaid(t *testing.T) {
	for tellers := -3; tellers <= 8; tellers++ {
		w, ok := impl.NewTell(tellers)
		if !among(tellers, 1, 4) {
			if !isZeroTell(w) || ok {
				t.Errorf("%d: %v %v", tellers, w, ok)
			}
			continue
		}
		if !sameTell(w, tellOf("", repeated(0, tellers), nil, repeatedText("", tellers)...)) || !ok {
			t.Errorf("%d: %v %v", tellers, w, ok)
		}
		checkTell(t, w)
	}
	for _, tellers := range noNumbers() {
		if w, ok := impl.NewTell(tellers); !isZeroTell(w) || ok {
			t.Errorf("%d: %v %v", tellers, w, ok)
		}
	}
}

func TestGoodTellTellsAsSaid(t *testing.T) {
	for _, w := range goodTells() {
		if !impl.GoodTell(w) || !plainGoodTell(w) {
			t.Errorf("refused: %v", w)
		}
	}
	for i, w := range badTells() {
		if impl.GoodTell(w) || plainGoodTell(w) {
			t.Errorf("taken: %d: %v", i, w)
		}
	}
}

func TestTellersAreInTheirLimits(t *testing.T) {
	for tellers := range 8 {
		for heard := range 8 {
			for next := range 8 {
				w := impl.Tell{Texts: make([][]string, tellers), Heard: make([]int, heard), Next: make([]int, next)}
				if impl.GoodTell(w) != (among(tellers, 1, 4) && heard == tellers && next == tellers) {
					t.Error(tellers, "tellers,", heard, "in Heard,", next, "in Next")
				}
			}
		}
	}
	for many := range 30 {
		for k := range 4 {
			w := tellOf("", repeated(0, 4), nil, "a", "a", "a", "a")
			w.Texts[k] = repeatedText("b", many)
			if impl.GoodTell(w) != (many <= 20) {
				t.Error(many, "Texts")
			}
			w.Texts[k] = []string{"a", longRecord(many)}
			if impl.GoodTell(w) != (many <= 20) {
				t.Error(many, "bytes")
			}
		}
	}
	for many := range 40 {
		for _, x := range notes(saying(1, 1, "c"), saying(1, 0, "b"), backTo(0, 0), backTo(0, 1)) {
			if impl.GoodTell(tellOf("0", []int{0, 0}, slices.Repeat(notes(x), many), "a", "b c")) != (many <= 30) {
				t.Error(many, "notes", x)
			}
		}
	}
	for next := -3; next <= 25; next++ {
		for heard := -3; heard <= 25; heard++ {
			w := tellOf(strings.Repeat("1", max(0, min(next, 20))), []int{0, heard}, nil, "a", words(20))
			w.Next[1] = next
			if impl.GoodTell(w) != (among(next, 0, 20) && among(heard, 0, next)) {
				t.Error("Next", next, "Heard", heard)
			}
		}
	}
}

func TestNotesAreInTheirLimits(t *testing.T) {
	// Teller 0 has one Text, written; 1 has four, of which two are written; 2 has none.
	base := tellOf("101", []int{0, 1, 0}, nil, "x", "x x x x", "")
	many, next := []int{1, 4, 0}, []int{1, 2, 0}
	for who := -3; who <= 5; who++ {
		for no := -3; no <= 25; no++ {
			isTeller := among(who, 0, 2)
			base.Line = notes(saying(who, no, "x"))
			if impl.GoodTell(base) != (isTeller && among(no, 0, many[max(0, min(who, 2))]-1)) {
				t.Error("said", who, no)
			}
			base.Line = notes(backTo(who, no))
			if impl.GoodTell(base) != (isTeller && among(no, 0, next[max(0, min(who, 2))])) {
				t.Error("back", who, no)
			}
			for _, text := range []string{"", "y", "xx", longRecord(20)} {
				base.Line = notes(saying(who, no, text))
				if impl.GoodTell(base) {
					t.Errorf("said %d %d %q", who, no, text)
				}
			}
			for _, text := range []string{"x", " ", longRecord(20)} {
				base.Line = notes(impl.Note{Back: true, What: impl.Told{Who: who, No: no, Text: text}})
				if impl.GoodTell(base) {
					t.Errorf("back %d %d %q", who, no, text)
				}
			}
		}
	}
	for at := range 30 {
		for _, x := range badNotes() {
			w := threeTellers()
			w.Line = slices.Repeat(w.Line, 10)
			w.Line[at] = x
			refuseTell(t, w)
		}
	}
}

// Every Log of at most four of some, with every Next.
func TestLogsHaveTheFirstTextsInOrder(t *testing.T) {
	some := []impl.Told{{Who: 0, No: 0, Text: "a"}, {Who: 0, No: 1, Text: "a"}, {Who: 0, No: 1, Text: "b"}, {Who: 1, No: 0, Text: "a"}, {Who: 1, No: 1, Text: "a"}, {Who: 2, No: 0, Text: "a"}, {Who: -1, No: 0, Text: "a"}, {Who: 0, No: -1, Text: "a"}, {Who: 1, No: 2, Text: "a"}}
	logs, good := [][]impl.Told{nil}, 0
	for at := 0; at < len(logs); at++ {
		for first := range 3 {
			for second := range 3 {
				w := impl.Tell{Texts: [][]string{{"a", "b"}, {"a", "a"}}, Heard: []int{0, 0}, Log: logs[at], Next: []int{first, second}}
				if impl.GoodTell(w) != plainGoodTell(w) {
					t.Fatal(w)
				}
				if impl.GoodTell(w) {
					good++
				}
			}
		}
		for _, x := range some {
			if len(logs[at]) < 4 {
				logs = append(logs, append(slices.Clone(logs[at]), x))
			}
		}
	}
	// So many are the turns that two tellers with two Texts each can take.
	if good != 19 {
		t.Error(good)
	}
}

// Any one thing of a good world is changed: it is good still just if the plain walk says so.
func TestGoodTellTellsWhatIsChanged(t *testing.T) {
	r := rand.New(rand.NewSource(102))
	good, bad := 0, 0
	for range 20000 {
		w := anyTell(r)
		n, text := []int{-1, 0, 1, 2, 3, 4, 5, 19, 20, 21}[r.Intn(10)], []string{"", "a", "b", longRecord(21)}[r.Intn(4)]
		k := r.Intn(len(w.Texts))
		switch r.Intn(9) {
		case 0:
			w.Heard[k] = n
		case 1:
			w.Next[k] = n
		case 2:
			w.Texts[k] = append(w.Texts[k], text)
		case 3:
			w.Texts[k] = w.Texts[k][:r.Intn(len(w.Texts[k])+1)]
		case 4:
			w.Line = append(w.Line, saying(k, n, text))
		case 5:
			w.Line = append(w.Line, backTo(k, n))
		case 6:
			w.Line = append(w.Line, anyNote(r, w))
		case 7:
			w.Log = append(w.Log, impl.Told{Who: k, No: n, Text: text})
		case 8:
			if len(w.Log) > 0 {
				w.Log[r.Intn(len(w.Log))].Text = text
			}
		}
		is := impl.GoodTell(w)
		if is != plainGoodTell(w) {
			t.Fatalf("%v: %v", w, is)
		}
		if is {
			good++
		} else {
			bad++
		}
	}
	if good < 3000 || bad < 3000 {
		t.Error("too few of one kind:", good, bad)
	}
}

func TestWrittenOfTellsAsSaid(t *testing.T) {
	for _, c := range []struct {
		w    impl.Tell
		who  int
		want []string
	}{
		{tellOf("", []int{0}, nil, ""), 0, nil},
		{tellOf("", []int{0}, notes(saying(0, 0, "a")), "a b"), 0, nil},
		{tellOf("0", []int{0}, nil, "a b"), 0, []string{"a"}},
		{tellOf("00", []int{2}, nil, "a b"), 0, []string{"a", "b"}},
		{tellOf("00", []int{0}, nil, "_ _ _"), 0, []string{"", ""}},
		{threeTellers(), 0, []string{"a"}}, {threeTellers(), 1, []string{"a"}}, {threeTellers(), 2, []string{"", "d"}},
		{tellOf("1010", []int{0, 0}, nil, "a b", "c d"), 0, []string{"a", "b"}},
		{tellOf("1010", []int{0, 0}, nil, "a b", "c d"), 1, []string{"c", "d"}},
		{tellOf(strings.Repeat("3", 20), repeated(0, 4), nil, "", "", "", words(20)), 3, repeatedText("x", 20)},
	} {
		if l, ok := impl.WrittenOf(c.w, c.who); !slices.Equal(l, c.want) || !ok {
			t.Errorf("%d of %v: %q %v, not %q", c.who, c.w, l, ok, c.want)
		}
	}
	for _, w := range goodTells() {
		checkTell(t, w)
		for _, who := range append(noNumbers(), -1, len(w.Texts), len(w.Texts)+1) {
			if l, ok := impl.WrittenOf(w, who); len(l) != 0 || ok {
				t.Errorf("%d of %v: %q %v", who, w, l, ok)
			}
		}
	}
}

func TestJudgeToldTellsAsSaid(t *testing.T) {
	edges := append(noNumbers(), -2, -1, 0, 1, 2, 3, 19, 20, 21, 500, 998, 999, 1000, 1001, 1002)
	for _, next := range edges {
		for _, no := range edges {
			want := 0
			switch {
			case !among(next, 0, 1000) || !among(no, 0, 1000):
			case no == next:
				want = 1
			case no < next:
				want = 2
			default:
				want = 3
			}
			if n, ok := impl.JudgeTold(next, no); n != want || ok != (want > 0) {
				t.Errorf("JudgeTold(%d, %d): %d %v, not %d", next, no, n, ok, want)
			}
		}
	}
	for _, c := range [][3]int{{0, 0, 1}, {1000, 1000, 1}, {1, 0, 2}, {1000, 0, 2}, {1000, 999, 2}, {0, 1, 3}, {0, 1000, 3}, {999, 1000, 3}, {3, 5, 3}, {5, 3, 2}, {5, 5, 1}} {
		if n, ok := impl.JudgeTold(c[0], c[1]); n != c[2] || !ok {
			t.Errorf("JudgeTold(%d, %d): %d %v, not %d", c[0], c[1], n, ok, c[2])
		}
	}
	for next := range 60 {
		for no := range 60 {
			is, _ := impl.JudgeTold(next, no)
			turned, _ := impl.JudgeTold(no, next)
			if (is == 1) != (next == no) || (is == 2) != (turned == 3) || (is == 3) != (turned == 2) {
				t.Error(next, no, is, turned)
			}
		}
	}
}

type tellCase struct {
	name string
	w    impl.Tell
	s    impl.TellStep
	want impl.Tell
}

// checkTellCases takes a case without a world for a step that can't be done.
func checkTellCases(t *testing.T, l []tellCase) {
	t.Helper()
	for _, c := range l {
		if !impl.GoodTell(c.w) {
			t.Errorf("%s: not good: %v", c.name, c.w)
		}
		got, ok := checkTellStep(t, c.w, c.s)
		if ok == isZeroTell(c.want) || !sameTell(got, c.want) {
			t.Errorf("%s: %v of %v: %v %v, not %v", c.name, c.s, c.w, got, ok, c.want)
		}
	}
}

func TestPuttingTellsAsSaid(t *testing.T) {
	none := impl.Tell{}
	long := longRecord(20)
	two := func(texts ...string) impl.Tell {
		return tellOf("01", []int{1, 0}, notes(saying(1, 0, "q"), backTo(0, 1)), texts...)
	}
	checkTellCases(t, []tellCase{
		{"the first Text", tellOf("", []int{0}, nil, ""), put(0, "a"), tellOf("", []int{0}, nil, "a")},
		{"behind others", two("a b", "q"), put(0, "c"), two("a b c", "q")},
		{"of the last teller", two("a b", "q"), put(1, "r"), two("a b", "q r")},
		{"the same once more", two("a b", "q"), put(1, "q"), two("a b", "q q")},
		{"of 0 bytes", two("a b", "q"), put(0, ""), two("a b _", "q")},
		{"of 20 bytes", two("a b", "q"), put(0, long), two("a b "+long, "q")},
		{"of 21 bytes", two("a b", "q"), put(0, longRecord(21)), none},
		{"of many bytes", two("a b", "q"), put(0, longRecord(100000)), none},
		{"behind 18", two("a b", "q "+words(17)), put(1, "z"), two("a b", "q "+words(17)+"z")},
		{"behind 19", two("a b", "q "+words(18)), put(1, "z"), two("a b", "q "+words(18)+"z")},
		{"behind 20", two("a b", "q "+words(19)), put(1, "z"), none},
		{"nothing behind 20", two("a b", "q "+words(19)), put(1, ""), none},
		{"of another one than who has 20", two("a b", "q "+words(19)), put(0, "z"), two("a b z", "q "+words(19))},
		{"of none", two("a b", "q"), put(-1, "z"), none},
		{"of one more", two("a b", "q"), put(2, "z"), none},
		{"with a full Line", tellOf("", []int{0}, slices.Repeat(notes(backTo(0, 0)), 30), "a"), put(0, "b"), tellOf("", []int{0}, slices.Repeat(notes(backTo(0, 0)), 30), "a b")},
	})
}

func TestSendingTellsAsSaid(t *testing.T) {
	none := impl.Tell{}
	w := func(heard int, line ...impl.Note) impl.Tell {
		return tellOf("110", []int{0, heard}, line, "a", "q r s")
	}
	old := func(many int) []impl.Note { return slices.Repeat(notes(backTo(1, 2)), many) }
	checkTellCases(t, []tellCase{
		{"the first Text", w(0), tl(impl.TlSend, 1), w(0, saying(1, 0, "q"))},
		{"what is written and not heard of", w(1), tl(impl.TlSend, 1), w(1, saying(1, 1, "r"))},
		{"what is not written", w(2), tl(impl.TlSend, 1), w(2, saying(1, 2, "s"))},
		{"of the first teller", w(2), tl(impl.TlSend, 0), w(2, saying(0, 0, "a"))},
		{"the same once more", w(0, saying(1, 0, "q")), tl(impl.TlSend, 1), w(0, saying(1, 0, "q"), saying(1, 0, "q"))},
		{"an empty Text", tellOf("", []int{0}, nil, "_"), tl(impl.TlSend, 0), tellOf("", []int{0}, notes(saying(0, 0, "")), "_")},
		{"behind others", w(2, old(3)...), tl(impl.TlSend, 1), w(2, append(old(3), saying(1, 2, "s"))...)},
		{"with room for one", w(2, old(29)...), tl(impl.TlSend, 1), w(2, append(old(29), saying(1, 2, "s"))...)},
		// It is said, but not written: only TlTwice can't be done for want of room.
		{"with no room", w(2, old(30)...), tl(impl.TlSend, 1), w(2, old(30)...)},
		{"who has nothing to tell", tellOf("", []int{0}, nil, ""), tl(impl.TlSend, 0), none},
		{"who has heard of all", tellOf("000", []int{3}, nil, "q r s"), tl(impl.TlSend, 0), none},
		{"who has heard of all, with no room", tellOf("00", []int{2}, slices.Repeat(notes(backTo(0, 2)), 30), "q r"), tl(impl.TlSend, 0), none},
		{"who has heard of all but the last", tellOf("000", []int{2}, nil, "q r s"), tl(impl.TlSend, 0), tellOf("000", []int{2}, notes(saying(0, 2, "s")), "q r s")},
		{"the last of 20", tellOf(strings.Repeat("0", 20), []int{19}, nil, words(20)), tl(impl.TlSend, 0), tellOf(strings.Repeat("0", 20), []int{19}, notes(saying(0, 19, "x")), words(20))},
		{"of none", w(0), tl(impl.TlSend, -1), none},
		{"of one more", w(0), tl(impl.TlSend, 2), none},
	})
}

func TestTakingWhatIsSaidTellsAsSaid(t *testing.T) {
	w := func(turns string, line ...impl.Note) impl.Tell {
		return tellOf(turns, []int{0, 1}, line, "a", "q r s t")
	}
	some := notes(backTo(0, 0), backTo(1, 1))
	take := tl(impl.TlTake, 0)
	checkTellCases(t, []tellCase{
		{"what is next is written, and answered", w("1", saying(1, 1, "r")), take, w("11", backTo(1, 2))},
		{"what is less is there already, and answered", w("111", saying(1, 1, "r")), take, w("111", backTo(1, 3))},
		{"what is less by one", w("11", saying(1, 1, "r")), take, w("11", backTo(1, 2))},
		{"the first of all, long after", w("1111", saying(1, 0, "q")), take, w("1111", backTo(1, 4))},
		{"what is greater is left out, and answered", w("1", saying(1, 2, "s")), take, w("1", backTo(1, 1))},
		{"what is far greater", w("1", saying(1, 3, "t")), take, w("1", backTo(1, 1))},
		{"what is greater, with nothing written", tellOf("", []int{0}, notes(saying(0, 1, "b")), "a b"), take, tellOf("", []int{0}, notes(backTo(0, 0)), "a b")},
		{"of the first teller, behind what others say", w("111", saying(0, 0, "a")), take, w("1110", backTo(0, 1))},
		{"the answer is behind all", w("1", append(notes(saying(1, 1, "r")), some...)...), take, w("11", append(slices.Clone(some), backTo(1, 2))...)},
		{"one between", w("1", some[0], saying(1, 1, "r"), some[1]), tl(impl.TlTake, 1), w("11", some[0], some[1], backTo(1, 2))},
		{"the last one", w("1", some[0], some[1], saying(1, 1, "r")), tl(impl.TlTake, 2), w("11", some[0], some[1], backTo(1, 2))},
		{"one of two alike", w("1", saying(1, 1, "r"), saying(1, 1, "r")), take, w("11", saying(1, 1, "r"), backTo(1, 2))},
		{"the other one of them", w("11", saying(1, 1, "r"), backTo(1, 2)), take, w("11", backTo(1, 2), backTo(1, 2))},
		{"an empty Text", tellOf("", []int{0}, notes(saying(0, 0, "")), "_"), take, tellOf("0", []int{0}, notes(backTo(0, 1)), "_")},
		{"the last of 20", tellOf(strings.Repeat("0", 19), []int{3}, notes(saying(0, 19, "x")), words(20)), take, tellOf(strings.Repeat("0", 20), []int{3}, notes(backTo(0, 20)), words(20))},
	})
	// It leaves ahead of what answers it, so there is room even in a full Line.
	for many := 28; many <= 30; many++ {
		rest := slices.Repeat(notes(backTo(1, 1)), many-1)
		for at := range many {
			for _, c := range []struct {
				x     impl.Note
				turns string
			}{{saying(1, 1, "r"), "11"}, {saying(1, 0, "q"), "1"}, {saying(1, 2, "s"), "1"}} {
				full := slices.Insert(slices.Clone(rest), at, c.x)
				checkTellCases(t, []tellCase{{"among many", w("1", full...), tl(impl.TlTake, at), w(c.turns, append(slices.Clone(rest), backTo(1, len(c.turns)))...)}})
			}
		}
	}
}

func TestTakingABackTellsAsSaid(t *testing.T) {
	w := func(heard int, line ...impl.Note) impl.Tell {
		return tellOf("1011", []int{0, heard}, line, "a", "q r s t")
	}
	for heard := range 4 {
		for no := range 4 {
			checkTellCases(t, []tellCase{{"alone", w(heard, backTo(1, no)), tl(impl.TlTake, 0), w(max(heard, no))}})
			for many := 28; many <= 30; many++ {
				rest := slices.Repeat(notes(saying(1, 3, "t")), many-1)
				for _, at := range []int{0, 1, many - 2, many - 1} {
					checkTellCases(t, []tellCase{{"among many", w(heard, slices.Insert(slices.Clone(rest), at, backTo(1, no))...), tl(impl.TlTake, at), w(max(heard, no), rest...)}})
				}
			}
		}
	}
	both := func(heard int, line ...impl.Note) impl.Tell {
		return tellOf("1011", []int{heard, 2}, line, "a", "q r s t")
	}
	checkTellCases(t, []tellCase{
		{"of another teller", both(0, backTo(0, 1)), tl(impl.TlTake, 0), both(1)},
		{"of nothing", both(0, backTo(0, 0)), tl(impl.TlTake, 0), both(0)},
		{"late", both(1, backTo(0, 0)), tl(impl.TlTake, 0), both(1)},
		{"one between", both(0, saying(0, 0, "a"), backTo(0, 1), saying(1, 0, "q")), tl(impl.TlTake, 1), both(1, saying(0, 0, "a"), saying(1, 0, "q"))},
		{"of all 20", tellOf(strings.Repeat("0", 20), []int{0}, notes(backTo(0, 20)), words(20)), tl(impl.TlTake, 0), tellOf(strings.Repeat("0", 20), []int{20}, nil, words(20))},
		{"who has nothing to tell", tellOf("", []int{0}, notes(backTo(0, 0)), ""), tl(impl.TlTake, 0), tellOf("", []int{0}, nil, "")},
	})
}

func TestNotesAreLostAndPutBehind(t *testing.T) {
	none := impl.Tell{}
	a, b, c := saying(0, 0, "a"), backTo(1, 1), saying(1, 1, "r")
	w := func(l ...impl.Note) impl.Tell { return tellOf("1", []int{0, 0}, l, "a", "q r") }
	checkTellCases(t, []tellCase{
		{"lose the first", w(a, b, c), tl(impl.TlLose, 0), w(b, c)},
		{"lose one between", w(a, b, c), tl(impl.TlLose, 1), w(a, c)},
		{"lose the last", w(a, b, c), tl(impl.TlLose, 2), w(a, b)},
		{"lose one more", w(a, b, c), tl(impl.TlLose, 3), none},
		{"lose none", w(a, b, c), tl(impl.TlLose, -1), none},
		{"lose the only one", w(b), tl(impl.TlLose, 0), w()},
		{"lose one of two alike", w(a, b, a), tl(impl.TlLose, 0), w(b, a)},
		{"lose of an empty Line", w(), tl(impl.TlLose, 0), none},
		{"the first twice", w(a, b, c), tl(impl.TlTwice, 0), w(a, b, c, a)},
		{"one between twice", w(a, b, c), tl(impl.TlTwice, 1), w(a, b, c, b)},
		{"the last twice", w(a, b, c), tl(impl.TlTwice, 2), w(a, b, c, c)},
		{"one more twice", w(a, b, c), tl(impl.TlTwice, 3), none},
		{"none twice", w(a, b, c), tl(impl.TlTwice, -1), none},
		{"the only one twice", w(b), tl(impl.TlTwice, 0), w(b, b)},
		{"twice of an empty Line", w(), tl(impl.TlTwice, 0), none},
		{"take one more", w(a, b, c), tl(impl.TlTake, 3), none},
		{"take none", w(a, b, c), tl(impl.TlTake, -1), none},
		{"take of an empty Line", w(), tl(impl.TlTake, 0), none},
	})
	for many := 28; many <= 30; many++ {
		full := append(slices.Repeat(notes(b), many-2), c, a)
		for at, x := range full {
			var twice impl.Tell
			if many < 30 {
				twice = w(append(slices.Clone(full), x)...)
			}
			checkTellCases(t, []tellCase{
				{"twice among many", w(full...), tl(impl.TlTwice, at), twice},
				{"lost among many", w(full...), tl(impl.TlLose, at), w(slices.Delete(slices.Clone(full), at, at+1)...)},
			})
		}
		for _, kind := range []int{impl.TlTake, impl.TlLose, impl.TlTwice} {
			checkTellCases(t, []tellCase{{"one more than many", w(full...), tl(kind, many), none}})
		}
	}
}

func TestTellStepsThatCanNotBeDone(t *testing.T) {
	// Three tellers, the last of which has heard of all, and five notes.
	w := tellOf("022", []int{0, 0, 2}, notes(saying(0, 0, "a"), backTo(2, 1), saying(1, 0, "c"), backTo(0, 1), saying(0, 1, "b")), "a b", "c", "d e")
	for kind := -3; kind <= 9; kind++ {
		for _, k := range append(noNumbers(), -3, -2, -1, 0, 1, 2, 3, 4, 5, 6) {
			want := false
			switch kind {
			case 1:
				want = among(k, 0, 2)
			case 2:
				want = among(k, 0, 1)
			case 3, 4, 5:
				want = among(k, 0, 4)
			}
			if _, ok := checkTellStep(t, w, tl(kind, k)); ok != want {
				t.Errorf("%d of %d: %v", kind, k, ok)
			}
			for _, text := range []string{"a", " ", "\x00", longRecord(20), longRecord(21)} {
				s := impl.TellStep{Kind: kind, K: k, Text: text}
				if q, ok := checkTellStep(t, w, s); ok != (kind == 1 && among(k, 0, 2) && len(text) <= 20) || ok == isZeroTell(q) {
					t.Errorf("%v: %v %v", s, q, ok)
				}
			}
		}
	}
	for _, kind := range noNumbers() {
		for k := -1; k <= 5; k++ {
			if q, ok := impl.StepTell(w, tl(kind, k)); !isZeroTell(q) || ok {
				t.Errorf("%d of %d: %v %v", kind, k, q, ok)
			}
		}
	}
	for _, w := range badTells() {
		refuseTell(t, w)
	}
}

func TestTellStepsTellAsPlainOnes(t *testing.T) {
	r := rand.New(rand.NewSource(103))
	done := map[int]int{}
	for range 6000 {
		w := anyTell(r)
		for kind := 0; kind <= 6; kind++ {
			for _, k := range []int{-1, 0, 1, r.Intn(4), r.Intn(31), len(w.Texts) - 1, len(w.Texts), len(w.Line) - 1, len(w.Line)} {
				if _, ok := checkTellStep(t, w, tl(kind, k)); ok {
					done[kind]++
				}
			}
		}
		checkTellStep(t, w, put(r.Intn(4), anyRecord(r, r.Intn(24))))
	}
	for kind := impl.TlPut; kind <= impl.TlTwice; kind++ {
		if done[kind] < 5000 {
			t.Error("too few were done:", kind, done[kind])
		}
	}
	if done[0] > 0 || done[6] > 0 {
		t.Error(done)
	}
}

// checkTellPlay holds a play against its steps, one behind the other.
func checkTellPlay(t *testing.T, tellers int, l []impl.TellStep) impl.Tell {
	t.Helper()
	want, _ := impl.NewTell(tellers)
	var all []bool
	for _, s := range l {
		q, ok := checkTellStep(t, want, s)
		if ok {
			want = q
		}
		all = append(all, ok)
	}
	got, did, ok := impl.PlayTell(tellers, l)
	if !sameTell(got, want) || !slices.Equal(did, all) || !ok {
		t.Fatalf("%d %v: %v %v %v, not %v %v", tellers, l, got, did, ok, want, all)
	}
	return got
}

func TestPlayTellTellsAsSaid(t *testing.T) {
	send, take := func(k int) impl.TellStep { return tl(impl.TlSend, k) }, func(k int) impl.TellStep { return tl(impl.TlTake, k) }
	for _, c := range []struct {
		tellers int
		l       []impl.TellStep
		want    impl.Tell
		did     string
	}{
		{1, nil, tellOf("", []int{0}, nil, ""), ""},
		{4, []impl.TellStep{}, tellOf("", repeated(0, 4), nil, "", "", "", ""), ""},
		{1, []impl.TellStep{put(0, "a"), send(0), take(0), take(0)}, tellOf("0", []int{1}, nil, "a"), "yyyy"},
		// The note comes twice: it is written once, and answered twice.
		{1, []impl.TellStep{put(0, "a"), put(0, "b"), send(0), tl(impl.TlTwice, 0), take(0), take(0)}, tellOf("0", []int{0}, notes(backTo(0, 1), backTo(0, 1)), "a b"), "yyyyyy"},
		{1, []impl.TellStep{put(0, "a"), put(0, "b"), send(0), send(0), send(0), take(0), take(0), take(0), take(0), take(0), take(0)}, tellOf("0", []int{1}, nil, "a b"), "yyyyyyyyyyy"},
		// The answer is lost: it is said again, and answered again.
		{1, []impl.TellStep{put(0, "a"), send(0), take(0), tl(impl.TlLose, 0), send(0), take(0), take(0), send(0)}, tellOf("0", []int{1}, nil, "a"), "yyyyyyyn"},
		// The note is lost: it is said again.
		{1, []impl.TellStep{put(0, "a"), send(0), tl(impl.TlLose, 0), take(0), send(0), take(0)}, tellOf("0", []int{0}, notes(backTo(0, 1)), "a"), "yyynyy"},
		// An old note comes late, when more is written.
		{1, []impl.TellStep{put(0, "a"), put(0, "b"), send(0), tl(impl.TlTwice, 0), take(0), take(1), send(0), take(1), take(0), take(0), take(0)}, tellOf("00", []int{2}, nil, "a b"), "yyyyyyyyyyy"},
		// Tellers take turns, and what is alike is each one's own.
		{2, []impl.TellStep{put(0, "a"), put(1, "a"), send(1), send(0), take(0), take(0), put(1, "b"), take(0), send(1), take(1), take(0)}, tellOf("101", []int{1, 1}, notes(backTo(1, 2)), "a", "a b"), "yyyyyyyyyyy"},
		// What can't be done changes nothing, and what follows goes on from there.
		{2, []impl.TellStep{{}, tl(6, 0), send(0), take(0), tl(impl.TlLose, 0), tl(impl.TlTwice, 0), put(2, "a"), put(-1, "a"), put(0, longRecord(21)), put(1, "z"), {Kind: impl.TlSend, K: 1, Text: "z"}, send(1)}, tellOf("", []int{0, 0}, notes(saying(1, 0, "z")), "", "z"), "nnnnnnnnnyny"},
	} {
		if got := checkTellPlay(t, c.tellers, c.l); !sameTell(got, c.want) {
			t.Errorf("%d %v: %v, not %v", c.tellers, c.l, got, c.want)
		}
		_, did, _ := impl.PlayTell(c.tellers, c.l)
		told := ""
		for _, is := range did {
			told += map[bool]string{true: "y", false: "n"}[is]
		}
		if told != c.did {
			t.Errorf("%d %v: %s, not %s", c.tellers, c.l, told, c.did)
		}
	}
}

func TestTellPlaysHaveAtMostSoManySteps(t *testing.T) {
	for _, many := range []int{0, 1, 2, 19, 20, 21, 31, 149, 150, 151, 152, 5000} {
		l := slices.Repeat([]impl.TellStep{put(0, "a")}, many)
		w, did, ok := impl.PlayTell(1, l)
		if many > 150 {
			if !isZeroTell(w) || len(did) != 0 || ok {
				t.Error(many, w, did, ok)
			}
			continue
		}
		if !ok || len(did) != many || len(w.Texts[0]) != min(many, 20) || slices.Contains(did[:min(many, 20)], false) || slices.Contains(did[min(many, 20):], true) {
			t.Error(many, w, did, ok)
		}
		checkTellPlay(t, 1, l)
		checkTellPlay(t, 4, l)
		checkTellPlay(t, 2, slices.Repeat([]impl.TellStep{tl(9, 9)}, many))
		if many > 0 {
			l = append(l[:1:1], slices.Repeat([]impl.TellStep{tl(impl.TlSend, 0)}, many-1)...)
			w, did, ok = impl.PlayTell(3, l)
			if !ok || len(did) != many || slices.Contains(did, false) || len(w.Line) != min(many-1, 30) {
				t.Error(many, w, did, ok)
			}
			checkTellPlay(t, 3, l)
		}
	}
	for _, tellers := range append(noNumbers(), -2, -1, 0, 5, 6) {
		for _, many := range []int{0, 1, 150, 151} {
			w, did, ok := impl.PlayTell(tellers, slices.Repeat([]impl.TellStep{put(0, "a")}, many))
			if !isZeroTell(w) || len(did) != 0 || ok {
				t.Errorf("%d: %v %v %v", tellers, w, did, ok)
			}
		}
	}
}

func TestSettleTellTellsAsSaid(t *testing.T) {
	some := notes(saying(0, 0, "a"), backTo(0, 1), saying(0, 1, "b"))
	full := slices.Repeat(some, 10)
	for _, c := range []struct {
		w     impl.Tell
		want  impl.Tell
		often int
	}{
		// Where all is heard nothing is done: the Line stays.
		{tellOf("", []int{0}, nil, ""), tellOf("", []int{0}, nil, ""), 0},
		{tellOf("", []int{0}, slices.Repeat(notes(backTo(0, 0)), 30), ""), tellOf("", []int{0}, slices.Repeat(notes(backTo(0, 0)), 30), ""), 0},
		{tellOf("00", []int{2}, some, "a b"), tellOf("00", []int{2}, some, "a b"), 0},
		{tellOf("00", []int{2}, full, "a b"), tellOf("00", []int{2}, full, "a b"), 0},
		{tellOf("", []int{0}, nil, "a"), tellOf("0", []int{1}, nil, "a"), 1},
		{tellOf("", []int{0}, nil, "_"), tellOf("0", []int{1}, nil, "_"), 1},
		{tellOf("", []int{0}, nil, "a b"), tellOf("00", []int{2}, nil, "a b"), 2},
		{tellOf("0", []int{1}, some, "a b"), tellOf("00", []int{2}, nil, "a b"), 1},
		{tellOf("0", []int{1}, full, "a b"), tellOf("00", []int{2}, nil, "a b"), 1},
		{tellOf("0", []int{0}, full, "a b"), tellOf("00", []int{2}, nil, "a b"), 2},
		// What is written already is heard of at once.
		{tellOf("0", []int{0}, nil, "a b"), tellOf("00", []int{2}, nil, "a b"), 2},
		{tellOf("00", []int{0}, some, "a b"), tellOf("00", []int{2}, nil, "a b"), 1},
		{tellOf("0000", []int{1}, nil, "a b c d"), tellOf("0000", []int{4}, nil, "a b c d"), 1},
		{tellOf("000", []int{1}, nil, "a b c d e"), tellOf("00000", []int{5}, nil, "a b c d e"), 3},
		// The first such teller is the first, till it has heard of all.
		{tellOf("", []int{0, 0}, nil, "a b", "c d"), tellOf("0011", []int{2, 2}, nil, "a b", "c d"), 4},
		{tellOf("1", []int{0, 0}, notes(saying(1, 1, "d")), "a b", "c d"), tellOf("1001", []int{2, 2}, nil, "a b", "c d"), 4},
		{tellOf("0", []int{1, 0}, notes(backTo(0, 1)), "a", "c"), tellOf("01", []int{1, 1}, nil, "a", "c"), 1},
		{tellOf("1", []int{0, 1}, nil, "a", "c"), tellOf("10", []int{1, 1}, nil, "a", "c"), 1},
		{tellOf("3", []int{0, 0, 0, 0}, full[:0], "a", "", "b c", "d"), tellOf("3022", []int{1, 0, 2, 1}, nil, "a", "", "b c", "d"), 4},
		{tellOf("", repeated(0, 4), nil, words(20), words(20), words(20), words(20)), tellOf(strings.Repeat("0", 20)+strings.Repeat("1", 20)+strings.Repeat("2", 20)+strings.Repeat("3", 20), repeated(20, 4), nil, words(20), words(20), words(20), words(20)), 80},
		{tellOf(strings.Repeat("3210", 20), repeated(0, 4), nil, words(20), words(20), words(20), words(20)), tellOf(strings.Repeat("3210", 20), repeated(20, 4), nil, words(20), words(20), words(20), words(20)), 4},
		{tellOf(strings.Repeat("3210", 20), repeated(19, 4), slices.Repeat(notes(saying(3, 0, "x")), 30), words(20), words(20), words(20), words(20)), tellOf(strings.Repeat("3210", 20), repeated(20, 4), nil, words(20), words(20), words(20), words(20)), 4},
	} {
		checkTell(t, c.w)
		if q, n, ok := impl.SettleTell(c.w); !sameTell(q, c.want) || n != c.often || !ok {
			t.Errorf("%v: %v %d %v, not %v %d", c.w, q, n, ok, c.want, c.often)
		}
	}
	r := rand.New(rand.NewSource(104))
	for range 4000 {
		checkTell(t, anyTell(r))
	}
}

// checkOnce is promise 10: what is written of each teller is what it tells, in order, each once; tells are what was put, by TlPut alone.
func checkOnce(t *testing.T, w impl.Tell, tells [][]string, all bool) {
	t.Helper()
	many := 0
	for k, texts := range tells {
		l, ok := impl.WrittenOf(w, k)
		if !ok || len(l) > len(texts) || !slices.Equal(l, texts[:len(l)]) || all && len(l) != len(texts) {
			t.Fatalf("%d tells %q, and %q is written: %v", k, texts, l, w)
		}
		many += len(l)
	}
	if many != len(w.Log) {
		t.Fatalf("more is written than what is told: %v", w)
	}
}

// checkSettled is the rest of it: once all is settled, it is all.
func checkSettled(t *testing.T, w impl.Tell, tells [][]string) {
	t.Helper()
	q, often, ok := impl.SettleTell(w)
	if !ok || !impl.GoodTell(q) {
		t.Fatalf("%v: %v %v", w, q, ok)
	}
	checkOnce(t, q, tells, true)
	for k, texts := range tells {
		if q.Heard[k] != len(texts) || q.Next[k] != len(texts) || !slices.Equal(q.Texts[k], texts) {
			t.Fatalf("%d has not heard of all: %v", k, q)
		}
	}
	if often > 0 && len(q.Line) > 0 || !slices.Equal(q.Log[:len(w.Log)], w.Log) {
		t.Fatalf("%v: %v", w, q)
	}
	again, n, ok := impl.SettleTell(q)
	if !sameTell(again, q) || n != 0 || !ok {
		t.Fatalf("%v settles once more: %v %d %v", q, again, n, ok)
	}
}

// tellsOf are what steps put, as far as there is room: told by the steps, and not by the world.
func tellsOf(tellers int, l []impl.TellStep) [][]string {
	out := make([][]string, tellers)
	for _, s := range l {
		if s.Kind == 1 && among(s.K, 0, tellers-1) && len(out[s.K]) < 20 && len(s.Text) <= 20 {
			out[s.K] = append(out[s.K], s.Text)
		}
	}
	return out
}

// busyTell are steps on a line that loses, repeats and turns round its notes; each Text is another one.
func busyTell(r *rand.Rand, tellers int, many int) []impl.TellStep {
	w, _ := impl.NewTell(tellers)
	puts, sends, harm := 1+r.Intn(4), 3+r.Intn(4), 1+r.Intn(6)
	var l []impl.TellStep
	for i := range many {
		s := tl(impl.TlSend, r.Intn(tellers))
		switch n := r.Intn(20); {
		case n < puts:
			s = put(r.Intn(tellers), fmt.Sprint("t", i))
		case n < puts+sends:
		case n < puts+sends+harm:
			s = tl(impl.TlLose+r.Intn(2), r.Intn(len(w.Line)+1))
		default:
			s = tl(impl.TlTake, r.Intn(len(w.Line)+1))
		}
		if q, ok := impl.StepTell(w, s); ok {
			w = q
		}
		l = append(l, s)
	}
	return l
}

// Promise 10, at each step on the way.
func TestWhatIsToldIsWrittenOnce(t *testing.T) {
	r := rand.New(rand.NewSource(105))
	written, again, late, lost, full := 0, 0, 0, 0, 0
	for i := range 1500 {
		tellers := 1 + i%4
		l := busyTell(r, tellers, []int{30, 90, 150}[i%3])
		last := checkTellPlay(t, tellers, l)
		w, _ := impl.NewTell(tellers)
		for at, s := range l {
			q, ok := impl.StepTell(w, s)
			if !ok {
				continue
			}
			checkOnce(t, q, tellsOf(tellers, l[:at+1]), false)
			if s.Kind == impl.TlTake {
				switch x := w.Line[s.K]; {
				case x.Back && x.What.No < w.Heard[x.What.Who]:
					late++
				case !x.Back && x.What.No < w.Next[x.What.Who]:
					again++
				}
			}
			if s.Kind == impl.TlLose {
				lost++
			}
			if len(q.Line) == 30 {
				full++
			}
			w = q
		}
		checkOnce(t, last, tellsOf(tellers, l), false)
		checkSettled(t, last, tellsOf(tellers, l))
		written += len(last.Log)
	}
	if written < 3000 || again < 3000 || late < 500 || lost < 3000 || full < 300 {
		t.Error("too little came about:", written, again, late, lost, full)
	}
}

// Promise 10 in what PlayTell itself tells: of each shorter play of the same steps.
func TestWhatIsToldIsWrittenOnceInShorterPlays(t *testing.T) {
	r := rand.New(rand.NewSource(106))
	for i := range 60 {
		tellers := 1 + i%4
		l := busyTell(r, tellers, 150)
		var log []impl.Told
		for upto := range len(l) + 1 {
			w, did, ok := impl.PlayTell(tellers, l[:upto])
			if !ok || len(did) != upto {
				t.Fatal(tellers, l[:upto])
			}
			checkOnce(t, w, tellsOf(tellers, l[:upto]), false)
			checkSettled(t, w, tellsOf(tellers, l[:upto]))
			// What is written stays.
			if len(w.Log) < len(log) || !slices.Equal(w.Log[:len(log)], log) {
				t.Fatalf("%v was written: %v", log, w)
			}
			log = w.Log
		}
	}
}

// Promise 10, over all that few steps can come to.
func TestWhateverFewStepsWhatIsToldIsWrittenOnce(t *testing.T) {
	for tellers, depth := range map[int]int{1: 9, 2: 7, 4: 5} {
		first, _ := impl.NewTell(tellers)
		now, known := []impl.Tell{first}, map[string]bool{fmt.Sprint(first): true}
		written := 0
		for at := range depth {
			var next []impl.Tell
			for _, w := range now {
				for _, s := range fewTellSteps(w, at) {
					q, ok := checkTellStep(t, w, s)
					if !ok {
						continue
					}
					if key := fmt.Sprint(q); !known[key] {
						known[key] = true
						next = append(next, q)
						// What is put is put by the plain step, too: the Texts are what was told.
						checkOnce(t, q, q.Texts, false)
						checkSettled(t, q, q.Texts)
						written += len(q.Log)
					}
				}
			}
			now = next
		}
		if written == 0 {
			t.Error("nothing was written:", tellers)
		}
	}
}

func fewTellSteps(w impl.Tell, at int) []impl.TellStep {
	var out []impl.TellStep
	for k := range w.Texts {
		out = append(out, put(k, fmt.Sprint(at)), tl(impl.TlSend, k))
	}
	for k := range w.Line {
		out = append(out, tl(impl.TlTake, k), tl(impl.TlLose, k), tl(impl.TlTwice, k))
	}
	return out
}

// Promise 19: whatever it is given, each function answers.
func TestTellersAnswerAtAnyArguments(t *testing.T) {
	ints := append(noNumbers(), -2, -1, 0, 1, 2, 3, 4, 5, 19, 20, 21, 29, 30, 31)
	for _, x := range ints {
		for _, y := range ints {
			base := threeTellers()
			for _, w := range []impl.Tell{
				alteredTell(base, func(t *impl.Tell) { t.Heard[0], t.Next[0] = x, y }), alteredTell(base, func(t *impl.Tell) { t.Heard[2], t.Next[2] = x, y }), alteredTell(base, func(t *impl.Tell) { t.Heard = []int{x, y} }), alteredTell(base, func(t *impl.Tell) { t.Next = []int{x, y} }), alteredTell(base, func(t *impl.Tell) { t.Next, t.Heard = []int{x, y, 0}, []int{x, y, 0} }),
				alteredTell(base, func(t *impl.Tell) { t.Line = notes(saying(x, y, "a")) }), alteredTell(base, func(t *impl.Tell) { t.Line = notes(saying(x, y, "")) }), alteredTell(base, func(t *impl.Tell) { t.Line = notes(backTo(x, y)) }), alteredTell(base, func(t *impl.Tell) { t.Line[0].What.Who, t.Line[1].What.No = x, y }),
				alteredTell(base, func(t *impl.Tell) { t.Log = append(t.Log, impl.Told{Who: x, No: y, Text: "a"}) }), alteredTell(base, func(t *impl.Tell) { t.Log = []impl.Told{{Who: x, No: y}} }), alteredTell(base, func(t *impl.Tell) { t.Log[0].Who, t.Log[1].No = x, y }),
				{Heard: []int{x}, Next: []int{y}, Texts: make([][]string, 1)}, {Heard: []int{x}, Next: []int{y}}, {Line: notes(saying(x, y, "")), Log: []impl.Told{{Who: x, No: y}}}, {Texts: make([][]string, 2), Heard: []int{0, 0}, Next: []int{0, 0}, Line: notes(backTo(x, y))},
			} {
				if impl.GoodTell(w) != plainGoodTell(w) {
					t.Fatalf("GoodTell(%v)", w)
				}
				if !impl.GoodTell(w) {
					refuseTell(t, w)
					continue
				}
				checkTell(t, w)
				for kind := 0; kind <= 6; kind++ {
					checkTellStep(t, w, tl(kind, 0))
					checkTellStep(t, w, tl(kind, x))
					checkTellStep(t, w, impl.TellStep{Kind: kind, K: x, Text: longRecord(max(0, min(40, y)))})
				}
				checkTellStep(t, w, tl(x, y))
				if l, ok := impl.WrittenOf(w, x); ok != among(x, 0, len(w.Texts)-1) || len(l) > 0 && !ok {
					t.Fatalf("WrittenOf(%v, %d): %q %v", w, x, l, ok)
				}
			}
			_, did, ok := impl.PlayTell(x, []impl.TellStep{tl(x, y), tl(y, x), put(y, "a"), tl(impl.TlTake, x), {Kind: y, K: x, Text: longRecord(5000)}})
			if ok != among(x, 1, 4) || ok != (len(did) == 5) {
				t.Fatalf("PlayTell(%d, ..): %v %v", x, did, ok)
			}
			if n, ok := impl.JudgeTold(x, y); ok != (among(x, 0, 1000) && among(y, 0, 1000)) || ok != among(n, 1, 3) || !ok && n != 0 {
				t.Fatalf("JudgeTold(%d, %d): %d %v", x, y, n, ok)
			}
		}
	}
	base := threeTellers()
	for _, w := range []impl.Tell{
		alteredTell(base, func(t *impl.Tell) { t.Texts[0] = repeatedText("a", 100000) }), alteredTell(base, func(t *impl.Tell) { t.Texts = slices.Repeat(t.Texts, 10000) }), alteredTell(base, func(t *impl.Tell) { t.Texts[1][0] = longRecord(1000000) }), alteredTell(base, func(t *impl.Tell) { t.Line = slices.Repeat(t.Line, 100000) }), alteredTell(base, func(t *impl.Tell) { t.Log = slices.Repeat(t.Log, 100000) }),
		alteredTell(base, func(t *impl.Tell) {
			t.Texts, t.Heard, t.Next = slices.Repeat(t.Texts, 10000), slices.Repeat(t.Heard, 10000), slices.Repeat(t.Next, 10000)
		}),
	} {
		refuseTell(t, w)
	}
}

// roomyTell is threeTellers with much behind its lists in their memory, which is no part of it, though it could be.
func roomyTell() impl.Tell {
	t := threeTellers()
	for k, l := range t.Texts {
		t.Texts[k] = append(l, "b", "77", "78")[:len(l)]
	}
	t.Texts = append(t.Texts, []string{"a"}, []string{"77"})[:3]
	t.Heard = append(t.Heard, 0, 77)[:3]
	t.Line = append(t.Line, saying(0, 0, "a"), backTo(0, 0), saying(77, 77, "77"))[:3]
	t.Log = append(t.Log, impl.Told{Who: 0, No: 1, Text: "b"}, impl.Told{Who: 77, No: 77, Text: "77"})[:4]
	t.Next = append(t.Next, 0, 77)[:3]
	return t
}

// wholeTell has all of a list's memory, within lists too.
func wholeTell(t impl.Tell) impl.Tell {
	t.Texts = slices.Clone(t.Texts[:cap(t.Texts)])
	for k, l := range t.Texts {
		t.Texts[k] = l[:cap(l)]
	}
	t.Heard, t.Line, t.Log, t.Next = t.Heard[:cap(t.Heard)], t.Line[:cap(t.Line)], t.Log[:cap(t.Log)], t.Next[:cap(t.Next)]
	return t
}

// tellWays are those that can be done with threeTellers, and tell a world.
func tellWays() map[string]func(impl.Tell) (impl.Tell, bool) {
	out := map[string]func(impl.Tell) (impl.Tell, bool){
		"settle": func(t impl.Tell) (impl.Tell, bool) {
			q, _, ok := impl.SettleTell(t)
			return q, ok
		},
		"settle what is heard": func(t impl.Tell) (impl.Tell, bool) {
			// With its room: only what Heard has is changed, by one who owns it.
			t.Heard, t.Next = slices.Clone(t.Next), slices.Clone(t.Next)
			t.Texts = slices.Clone(t.Texts)
			for k := range t.Texts {
				t.Texts[k] = t.Texts[k][:t.Next[k]]
			}
			t.Line = t.Line[1:2]
			q, _, ok := impl.SettleTell(t)
			return q, ok
		},
	}
	for _, s := range []impl.TellStep{put(0, "c"), put(1, ""), put(2, "z"), tl(impl.TlSend, 0), tl(impl.TlSend, 1), tl(impl.TlSend, 2), tl(impl.TlTake, 0), tl(impl.TlTake, 1), tl(impl.TlTake, 2), tl(impl.TlLose, 0), tl(impl.TlLose, 1), tl(impl.TlLose, 2), tl(impl.TlTwice, 0), tl(impl.TlTwice, 2)} {
		out[fmt.Sprint(s)] = func(t impl.Tell) (impl.Tell, bool) { return impl.StepTell(t, s) }
	}
	return out
}

// Promise 19: nothing is written into an argument, nor into what lies behind it in its memory, nor is that read.
func TestTellersWriteIntoNoWorld(t *testing.T) {
	w, was := roomyTell(), cloneTell(wholeTell(roomyTell()))
	check := func(name string) {
		t.Helper()
		if !sameTell(wholeTell(w), was) {
			t.Fatalf("%s has written: %v", name, wholeTell(w))
		}
	}
	checkTell(t, w)
	check("asking")
	for name, way := range tellWays() {
		x, ok := way(w)
		if y, _ := way(threeTellers()); !sameTell(x, y) || !ok {
			t.Errorf("%s: %v %v", name, x, ok)
		}
		check(name)
	}
	for _, n := range manyNumbers() {
		for kind := range 7 {
			impl.StepTell(w, tl(kind, n))
			impl.StepTell(w, impl.TellStep{Kind: kind, K: 1, Text: longRecord(max(0, min(n, 40)))})
		}
		impl.WrittenOf(w, n)
	}
	check("any number")
	for _, q := range []impl.Tell{
		wholeTell(w), alteredTell(w, func(q *impl.Tell) { q.Texts = w.Texts[:4] }), alteredTell(w, func(q *impl.Tell) { q.Heard = w.Heard[:4] }), alteredTell(w, func(q *impl.Tell) { q.Next = w.Next[:4] }), alteredTell(w, func(q *impl.Tell) { q.Log = w.Log[:5] }), alteredTell(w, func(q *impl.Tell) { q.Log = w.Log[:3] }), alteredTell(w, func(q *impl.Tell) { q.Line = w.Line[:6] }),
		{Texts: w.Texts[:2], Heard: w.Heard[:2], Line: w.Line, Log: w.Log, Next: w.Next[:2]},
	} {
		refuseTell(t, q)
	}
	check("refusing")
}

func TestTellersWriteIntoNoSteps(t *testing.T) {
	all := []impl.TellStep{put(0, "a"), tl(impl.TlSend, 0), tl(impl.TlTake, 0), tl(9, 9), put(1, "z")}
	l := slices.Clone(all)[:3]
	for range 2 {
		q, did, ok := impl.PlayTell(2, l)
		if !sameTell(q, checkTellPlay(t, 2, l[:3:3])) || !slices.Equal(did, []bool{true, true, true}) || !ok {
			t.Error(q, did, ok)
		}
		impl.PlayTell(2, l[:5])
		impl.PlayTell(9, l)
	}
	if !slices.Equal(l[:5], all) {
		t.Error("written into:", l[:5])
	}
}

// tellHandsOut tells whether something stands behind a world's lists in their memory that is not zero.
func tellHandsOut(t impl.Tell) bool {
	isSome := func(n int) bool { return n != 0 }
	for _, l := range t.Texts {
		if slices.ContainsFunc(l[len(l):cap(l)], func(s string) bool { return s != "" }) {
			return true
		}
	}
	return slices.ContainsFunc(t.Texts[len(t.Texts):cap(t.Texts)], func(l []string) bool { return cap(l) > 0 }) ||
		slices.ContainsFunc(t.Heard[len(t.Heard):cap(t.Heard)], isSome) || slices.ContainsFunc(t.Next[len(t.Next):cap(t.Next)], isSome) ||
		slices.ContainsFunc(t.Line[len(t.Line):cap(t.Line)], func(x impl.Note) bool { return x != impl.Note{} }) || slices.ContainsFunc(t.Log[len(t.Log):cap(t.Log)], func(x impl.Told) bool { return x != impl.Told{} })
}

// checkTellFresh writes over all of a world's lists, one at a time: no other one may change.
func checkTellFresh(t *testing.T, name string, way func() impl.Tell) {
	t.Helper()
	want := cloneTell(way())
	if tellHandsOut(way()) {
		t.Errorf("%s hands out %v", name, wholeTell(way()))
	}
	for k := range want.Texts {
		w := way()
		spoil(w.Texts[k], "77")
		w.Texts[k] = want.Texts[k]
		if !sameTell(w, want) {
			t.Errorf("%s: Texts of %d share memory: %v", name, k, w)
		}
	}
	w := way()
	spoil(w.Heard, 77)
	if !slices.Equal(w.Next, want.Next) {
		t.Errorf("%s: Heard and Next share memory", name)
	}
	for _, l := range w.Texts {
		spoil(l, "77")
	}
	spoil(w.Texts, []string{"77"})
	spoil(w.Next, 77)
	spoil(w.Line, saying(77, 77, "77"))
	spoil(w.Log, impl.Told{Who: 77, No: 77, Text: "77"})
	if again := way(); !sameTell(again, want) {
		t.Errorf("%s: %v, not %v", name, again, want)
	}
}

func TestTellersAnswerWithNewMemory(t *testing.T) {
	for name, way := range tellWays() {
		w, was := roomyTell(), cloneTell(wholeTell(roomyTell()))
		checkTellFresh(t, name, func() impl.Tell {
			q, ok := way(w)
			if !ok {
				t.Fatal(name)
			}
			return q
		})
		if !sameTell(wholeTell(w), was) {
			t.Errorf("%s has shared its argument's memory: %v", name, w)
		}
	}
	checkTellFresh(t, "NewTell", func() impl.Tell {
		w, _ := impl.NewTell(3)
		return w
	})
	w := roomyTell()
	for who := range 3 {
		l, ok := impl.WrittenOf(w, who)
		if !ok || slices.ContainsFunc(l[len(l):cap(l)], func(s string) bool { return s != "" }) {
			t.Error(l[:cap(l)], ok)
		}
		spoil(l, "77")
	}
	if !sameTell(wholeTell(w), wholeTell(roomyTell())) {
		t.Error("WrittenOf has shared its argument's memory:", w)
	}
	r := rand.New(rand.NewSource(107))
	for range 30 {
		l := busyTell(r, 4, 120)
		checkTellFresh(t, "PlayTell", func() impl.Tell {
			w, did, ok := impl.PlayTell(4, l)
			if !ok || slices.Contains(did[len(did):cap(did)], true) {
				t.Error(did[:cap(did)], ok)
			}
			spoil(did, true)
			return w
		})
	}
}
