package tests

import (
	"math"
	"math/rand"
	"slices"
	"strconv"
	"strings"
	"testing"

	"loop.example/g00522/impl"
)

// entries reads words, each an Epoch with its Text behind: 1a 1b 2c.
func entries(words string) []impl.Entry {
	var out []impl.Entry
	for _, w := range strings.Fields(words) {
		text := strings.TrimLeft(w, "-0123456789")
		epoch, err := strconv.Atoi(strings.TrimSuffix(w, text))
		if err != nil {
			panic(err)
		}
		out = append(out, impl.Entry{Epoch: epoch, Text: text})
	}
	return out
}

// starts are told as pairs: an Epoch and its At.
func starts(l ...int) []impl.Start {
	var out []impl.Start
	for i := 0; i < len(l); i += 2 {
		out = append(out, impl.Start{Epoch: l[i], At: l[i+1]})
	}
	return out
}

// inEpochs has a Text for each place, the same one in whatever log it stands.
func inEpochs(l ...int) []impl.Entry {
	var out []impl.Entry
	for i, epoch := range l {
		out = append(out, impl.Entry{Epoch: epoch, Text: "t" + strconv.Itoa(i)})
	}
	return out
}

func anyEntries(r *rand.Rand, most int, far int, letters string) []impl.Entry {
	var out []impl.Entry
	epoch := 1
	for range r.Intn(most + 1) {
		epoch = min(epoch+r.Intn(far+1), 1000)
		out = append(out, impl.Entry{Epoch: epoch, Text: string(letters[r.Intn(len(letters))])})
	}
	return out
}

func goodEntryLists() [][]impl.Entry {
	out := [][]impl.Entry{
		nil, {}, {{Epoch: 1}}, {{Epoch: 1000}}, {{Epoch: 1, Text: longRecord(20)}}, {{Epoch: 1000, Text: longRecord(20)}}, {{Epoch: 500, Text: "\x00\xff\x80"}},
		inEpochs(1, 1000), inEpochs(1, 1), inEpochs(1000, 1000), inEpochs(1, 2, 3), inEpochs(1, 1, 2, 2, 2, 5, 7, 7), inEpochs(999, 1000),
		inEpochs(repeated(1, 40)...), inEpochs(repeated(1000, 40)...), inEpochs(rising(1, 1, 40)...), inEpochs(rising(961, 1, 40)...), inEpochs(rising(1, 25, 40)...), inEpochs(rising(5, 1, 39)...),
		slices.Repeat([]impl.Entry{{Epoch: 7, Text: longRecord(20)}}, 40), slices.Repeat([]impl.Entry{{Epoch: 7}}, 40),
		entries("1a 1b 2c"), entries("1a 1b 3d"), entries("1a"), entries("1b"), entries("2a"), entries("2a 2b 2c 4d"),
	}
	r := rand.New(rand.NewSource(71))
	for i := range 120 {
		out = append(out, anyEntries(r, []int{3, 8, 40}[i%3], []int{1, 2, 40}[i/3%3], "ab"))
	}
	return out
}

func badEntryLists() [][]impl.Entry {
	full := inEpochs(rising(1, 2, 40)...)
	out := [][]impl.Entry{
		inEpochs(rising(1, 1, 41)...), inEpochs(repeated(1, 41)...), inEpochs(rising(1, 1, 42)...), inEpochs(repeated(5, 5000)...), make([]impl.Entry, 41), make([]impl.Entry, 1), make([]impl.Entry, 40), make([]impl.Entry, 5000),
		{{Epoch: 0, Text: "a"}}, {{Epoch: -1, Text: "a"}}, {{Epoch: 1001, Text: "a"}}, inEpochs(0, 1), inEpochs(-1, 1), inEpochs(1, 1001), inEpochs(1000, 1001), inEpochs(1, 0), inEpochs(1001, 1), inEpochs(0, 0), inEpochs(1001, 1001),
		inEpochs(2, 1), inEpochs(1000, 1), inEpochs(1000, 999), inEpochs(1, 2, 1), inEpochs(2, 1, 2), inEpochs(1, 3, 2, 3), inEpochs(1, 1, 2, 2, 1), inEpochs(rising(41, -1, 40)...), inEpochs(append(rising(1, 1, 39), 38)...), inEpochs(append([]int{5}, rising(4, 1, 39)...)...),
		{{Epoch: 1, Text: longRecord(21)}}, {{Epoch: 1, Text: longRecord(5000)}}, {{Epoch: 1}, {Epoch: 1, Text: longRecord(21)}}, {{Epoch: 1, Text: longRecord(21)}, {Epoch: 1}}, {{Epoch: 1, Text: strings.Repeat("\x00", 21)}}, {{Epoch: 1, Text: strings.Repeat("\u00e4", 11)}},
	}
	for _, at := range []int{0, 1, 20, 38, 39} {
		for _, epoch := range append(noNumbers(), 0, -1, 1001, 1002) {
			l := slices.Clone(full)
			l[at].Epoch = epoch
			out = append(out, l, inEpochs(epoch))
		}
		l := slices.Clone(full)
		l[at].Text = longRecord(21)
		out = append(out, l)
	}
	return out
}

func plainGoodEntries(l []impl.Entry) bool {
	var epochs []int
	for _, x := range l {
		if x.Epoch <= 0 || x.Epoch >= 1001 || len(x.Text) >= 21 {
			return false
		}
		epochs = append(epochs, x.Epoch)
	}
	return slices.IsSorted(epochs) && len(l) < 41
}

// plainStarts asks for each Epoch that there can be where it is first.
func plainStarts(l []impl.Entry) []impl.Start {
	var out []impl.Start
	for epoch := range 1001 {
		if at := slices.IndexFunc(l, func(x impl.Entry) bool { return x.Epoch == epoch }); at >= 0 {
			out = append(out, impl.Start{Epoch: epoch, At: at})
		}
	}
	return out
}

// fewStarts tells as plainStarts does, from what Epochs there are.
func fewStarts(l []impl.Entry) []impl.Start {
	first := map[int]int{}
	for i, x := range slices.Backward(l) {
		first[x.Epoch] = i
	}
	var out []impl.Start
	for epoch, at := range first {
		out = append(out, impl.Start{Epoch: epoch, At: at})
	}
	slices.SortFunc(out, func(x, y impl.Start) int { return x.Epoch - y.Epoch })
	return out
}

func plainEnd(l []impl.Entry, epoch int) int {
	many := 0
	for _, x := range l {
		if x.Epoch <= epoch {
			many++
		}
	}
	return many
}

// plainPart holds ever longer fronts against each other.
func plainPart(a []impl.Entry, b []impl.Entry) int {
	part := 0
	for long := 0; long <= min(len(a), len(b)); long++ {
		if slices.Equal(a[:long], b[:long]) {
			part = long
		}
	}
	return part
}

func plainMatch(a []impl.Entry, b []impl.Entry) bool {
	for _, x := range fewStarts(a) {
		for _, y := range fewStarts(b) {
			if x.Epoch == y.Epoch && x.At != y.At {
				return false
			}
		}
	}
	for i := range min(len(a), len(b)) {
		if a[i].Epoch == b[i].Epoch && !slices.Equal(a[:i+1], b[:i+1]) {
			return false
		}
	}
	return true
}

func plainNewer(a []impl.Entry, b []impl.Entry) bool {
	lastA, lastB := 0, 0
	for _, x := range a {
		lastA = x.Epoch
	}
	for _, x := range b {
		lastB = x.Epoch
	}
	if lastA != lastB {
		return lastA > lastB
	}
	return len(a) > len(b)
}

// plainFind gathers all Epochs of both first, and looks at the greatest of them then.
func plainFind(a []impl.Entry, l []impl.Start, end int) (int, int) {
	own := fewStarts(a)
	shared := -1
	for i, x := range own {
		if slices.ContainsFunc(l, func(y impl.Start) bool { return y.Epoch == x.Epoch }) {
			shared = i
		}
	}
	if shared < 0 {
		return 0, len(own)
	}
	epoch, next := own[shared].Epoch, end
	for _, y := range slices.Backward(l) {
		if y.Epoch > epoch {
			next = y.At
		}
	}
	return min(plainEnd(a, epoch), next), len(own) - shared
}

func plainGoodStarts(l []impl.Start, end int) bool {
	for i, x := range l {
		if x.Epoch < 1 || x.Epoch > 1000 || x.At < 0 || x.At >= end {
			return false
		}
		if i > 0 && (x.Epoch <= l[i-1].Epoch || x.At <= l[i-1].At) {
			return false
		}
	}
	return len(l) <= 40 && end >= 0 && end <= 40
}

// checkLogs asks all functions of two logs, and holds them against the plain ones.
func checkLogs(t *testing.T, a []impl.Entry, b []impl.Entry) {
	t.Helper()
	if p, ok := impl.PartAt(a, b); p != plainPart(a, b) || !ok {
		t.Fatalf("PartAt(%v, %v): %d %v, not %d", a, b, p, ok, plainPart(a, b))
	}
	if is, ok := impl.MatchLogs(a, b); is != plainMatch(a, b) || !ok {
		t.Fatalf("MatchLogs(%v, %v): %v %v", a, b, is, ok)
	}
	if is, ok := impl.IsNewer(a, b); is != plainNewer(a, b) || !ok {
		t.Fatalf("IsNewer(%v, %v): %v %v", a, b, is, ok)
	}
	place, looked := plainFind(a, fewStarts(b), len(b))
	if p, n, ok := impl.FindPart(a, fewStarts(b), len(b)); p != place || n != looked || !ok {
		t.Fatalf("FindPart(%v, .. of %v): %d %d %v, not %d %d", a, b, p, n, ok, place, looked)
	}
	want := append(slices.Clone(a[:place]), b[place:]...)
	if l, p, ok := impl.FollowLog(a, b); !slices.Equal(l, want) || p != place || !ok {
		t.Fatalf("FollowLog(%v, %v): %v %d %v", a, b, l, p, ok)
	}
}

func TestEpochsHaveTheirLimits(t *testing.T) {
	if impl.MaxEntries != 40 || impl.MaxEpoch != 1000 {
		t.Error(impl.MaxEntries, impl.MaxEpoch)
	}
}

func TestGoodEntriesTellsAsSaid(t *testing.T) {
	for _, l := range goodEntryLists() {
		if !impl.GoodEntries(l) || !plainGoodEntries(l) {
			t.Errorf("refused: %v", l)
		}
	}
	for _, l := range badEntryLists() {
		if impl.GoodEntries(l) || plainGoodEntries(l) {
			t.Errorf("taken: %v", l)
		}
	}
}

func TestEntriesAreAtMostForty(t *testing.T) {
	for many := range 90 {
		for _, l := range [][]impl.Entry{inEpochs(repeated(3, many)...), inEpochs(rising(1, 1, many)...), inEpochs(rising(1, 11, many)...)} {
			if impl.GoodEntries(l) != (many <= 40) {
				t.Error(many, "entries")
			}
			if s, ok := impl.StartsOf(l); ok != (many <= 40) || !ok && len(s) != 0 {
				t.Error(many, "entries:", s, ok)
			}
		}
	}
}

func TestEpochsAreInTheirLimits(t *testing.T) {
	for epoch := -3; epoch <= 1003; epoch++ {
		want := epoch >= 1 && epoch <= 1000
		if impl.GoodEntries(inEpochs(epoch)) != want || impl.GoodEntries(inEpochs(epoch, epoch)) != want {
			t.Error("Epoch", epoch)
		}
		if impl.GoodEntries(inEpochs(1, epoch)) != want || impl.GoodEntries(inEpochs(epoch, 1000)) != want {
			t.Error("Epoch", epoch, "beside another one")
		}
	}
}

func TestEpochsMayStayAndRiseButNotFall(t *testing.T) {
	for a := 1; a <= 5; a++ {
		for b := 1; b <= 5; b++ {
			for c := 1; c <= 5; c++ {
				if impl.GoodEntries(inEpochs(a, b, c)) != (a <= b && b <= c) {
					t.Error(a, b, c)
				}
			}
		}
	}
}

func TestTextsAreAtMostTwentyBytes(t *testing.T) {
	for long := range 64 {
		for _, s := range []string{longRecord(long), strings.Repeat("\x00", long), strings.Repeat("\xff", long), strings.Repeat("\xc3\xa4", long/2) + longRecord(long%2)} {
			for _, l := range [][]impl.Entry{{{Epoch: 1, Text: s}}, {{Epoch: 1}, {Epoch: 2, Text: s}}, {{Epoch: 1, Text: s}, {Epoch: 2}}} {
				if impl.GoodEntries(l) != (long <= 20) {
					t.Errorf("%q", s)
				}
			}
		}
	}
}

// Any one thing of good entries is changed: they are good still just if the plain walk says so.
func TestGoodEntriesTellsWhatIsChanged(t *testing.T) {
	r := rand.New(rand.NewSource(72))
	good, bad := 0, 0
	for range 15000 {
		l := append(anyEntries(r, 39, 60, "ab"), impl.Entry{Epoch: 1000})
		at := r.Intn(len(l))
		switch r.Intn(4) {
		case 0:
			l[at].Epoch += r.Intn(7) - 3
		case 1:
			l[at].Epoch = []int{0, 1, 2, 999, 1000, 1001, math.MinInt, math.MaxInt}[r.Intn(8)]
		case 2:
			l[at].Text = longRecord(15 + r.Intn(8))
		case 3:
			l = append(l, slices.Repeat(l[len(l)-1:], r.Intn(3))...)
		}
		is := impl.GoodEntries(l)
		if is != plainGoodEntries(l) {
			t.Fatalf("%v: %v", l, is)
		}
		if is {
			good++
		} else {
			bad++
		}
	}
	if good < 2000 || bad < 2000 {
		t.Error("too few of one kind:", good, bad)
	}
}

func TestStartsOfTellsAsSaid(t *testing.T) {
	for _, c := range []struct {
		l    []impl.Entry
		want []impl.Start
	}{
		{nil, nil}, {[]impl.Entry{}, nil}, {entries("1a"), starts(1, 0)}, {entries("1000a"), starts(1000, 0)}, {entries("7a 7b 7c"), starts(7, 0)},
		{entries("1a 1b 3d"), starts(1, 0, 3, 2)}, {entries("1a 2a 3a"), starts(1, 0, 2, 1, 3, 2)}, {entries("2a 5a 5a 5a 9a 9a 1000a"), starts(2, 0, 5, 1, 9, 4, 1000, 6)}, {inEpochs(1, 1000), starts(1, 0, 1000, 1)},
		{inEpochs(repeated(4, 40)...), starts(4, 0)}, {inEpochs(append(repeated(4, 39), 5)...), starts(4, 0, 5, 39)}, {inEpochs(append([]int{3}, repeated(4, 39)...)...), starts(3, 0, 4, 1)},
	} {
		if s, ok := impl.StartsOf(c.l); !slices.Equal(s, c.want) || !ok {
			t.Errorf("%v: %v %v", c.l, s, ok)
		}
	}
	all := inEpochs(rising(961, 1, 40)...)
	s, ok := impl.StartsOf(all)
	if len(s) != 40 || !ok || s[0] != (impl.Start{Epoch: 961}) || s[39] != (impl.Start{Epoch: 1000, At: 39}) {
		t.Error(s, ok)
	}
}

func TestStartsAreWhereEpochsBegin(t *testing.T) {
	for _, l := range goodEntryLists() {
		s, ok := impl.StartsOf(l)
		if !slices.Equal(s, plainStarts(l)) || !slices.Equal(s, fewStarts(l)) || !ok {
			t.Errorf("%v: %v %v", l, s, ok)
		}
		// What is told of a log is good to be asked with: a log has no part but its own end.
		if p, n, ok := impl.FindPart(l, s, len(l)); p != len(l) || n != min(1, len(l)) || !ok {
			t.Errorf("%v: %d %d %v", l, p, n, ok)
		}
	}
}

func TestEndOfEpochTellsAsSaid(t *testing.T) {
	few := inEpochs(3, 3, 5, 8, 8, 8)
	for epoch, want := range map[int]int{0: 0, 1: 0, 2: 0, 3: 2, 4: 2, 5: 3, 6: 3, 7: 3, 8: 6, 9: 6, 999: 6, 1000: 6} {
		if n, ok := impl.EndOfEpoch(few, epoch); n != want || !ok {
			t.Errorf("%d: %d %v", epoch, n, ok)
		}
	}
	for _, c := range []struct {
		l     []impl.Entry
		epoch int
		want  int
	}{
		{nil, 0, 0}, {nil, 1, 0}, {nil, 1000, 0}, {inEpochs(1), 0, 0}, {inEpochs(1), 1, 1}, {inEpochs(1000), 999, 0}, {inEpochs(1000), 1000, 1}, {inEpochs(1, 1000), 999, 1}, {inEpochs(1, 1000), 1000, 2},
		{inEpochs(repeated(9, 40)...), 8, 0}, {inEpochs(repeated(9, 40)...), 9, 40}, {inEpochs(rising(1, 1, 40)...), 39, 39}, {inEpochs(rising(1, 1, 40)...), 40, 40}, {inEpochs(rising(1, 1, 40)...), 0, 0},
	} {
		if n, ok := impl.EndOfEpoch(c.l, c.epoch); n != c.want || !ok {
			t.Errorf("%v, %d: %d %v", c.l, c.epoch, n, ok)
		}
	}
	for _, epoch := range append(noNumbers(), -1, -2, 1001, 1002) {
		for _, l := range [][]impl.Entry{nil, few, inEpochs(1000)} {
			if n, ok := impl.EndOfEpoch(l, epoch); n != 0 || ok {
				t.Errorf("%v, %d: %d %v", l, epoch, n, ok)
			}
		}
	}
}

func TestEndOfEpochCountsUpToIt(t *testing.T) {
	for _, l := range goodEntryLists() {
		for epoch := range 1001 {
			if n, ok := impl.EndOfEpoch(l, epoch); n != plainEnd(l, epoch) || !ok {
				t.Fatalf("%v, %d: %d %v", l, epoch, n, ok)
			}
		}
	}
}

// twoLogs are told for both orders: where they part, whether they match.
var twoLogs = []struct {
	a, b  string
	part  int
	match bool
}{
	// Alike, none and some, one the other's front.
	{"", "", 0, true}, {"1a", "1a", 1, true}, {"1a 1b 2c", "1a 1b 2c", 3, true}, {"", "1a", 0, true}, {"", "5a 6b", 0, true}, {"1a", "1a 1b", 1, true}, {"1a 1b", "1a 1b 2c 3d", 2, true}, {"1a 2b", "1a 2b 2c", 2, true}, {"1 1", "1", 1, true},
	// Parting at the first place: in Epoch alone, in Text alone, in both.
	{"1a", "2a", 0, true}, {"1a", "1b", 0, false}, {"1a", "2b", 0, true}, {"1a 1b", "2a 2b", 0, true}, {"1a 1b", "1b 1b", 0, false}, {"1", "1a", 0, false},
	// Parting later on: in Epoch alone, in Text alone, in both.
	{"1a 1b 2c", "1a 1b 3c", 2, true}, {"1a 1b 2c", "1a 1b 2d", 2, false}, {"1a 1b 2c", "1a 1b 3d", 2, true}, {"1a 1b 1c", "1a 1b 2c", 2, true}, {"1a 1b 1c", "1a 1x 2c", 1, false}, {"1a 1b 1c", "1a 2b 2c", 1, true}, {"1a 1b", "1a 1b 1c 1d", 2, true},
	// An Epoch that begins at another place.
	{"1a 2b", "2b", 0, false}, {"1a 2b 2c", "1a 1b 2c", 1, false}, {"1a 2b", "1a 1b 2c", 1, false}, {"1a 3b", "2a 2b 3c", 0, false}, {"1a 2b 4c", "1a 3b 3c 4d", 1, false}, {"1a 2b 4c", "1a 3b 4c", 1, false}, {"5a", "1a 5a", 0, false}, {"1a 1b 5c", "1a 5c", 1, false},
	// One Epoch stands at a place, but an entry ahead is unlike, in Text or in Epoch.
	{"1a 2b", "1x 2b", 0, false}, {"1a 3b", "2a 3b", 0, false}, {"1a 1b 1c 4d", "1a 1x 1c 4d", 1, false}, {"1a 2b 5c", "1a 3b 5c", 1, false}, {"1a 2b 5c", "1a 3x 5d", 1, false}, {"1a 1b 3c", "1a 2b 3c", 1, false},
	// No Epoch in common.
	{"1a 1b", "2a 2b", 0, true}, {"1a 3b 5c", "2a 4b 6c", 0, true}, {"1a", "1000a", 0, true}, {"2a 2b 2c", "1a 3b", 0, true}, {"1a 3b", "2a", 0, true},
	// One Epoch goes on longer in one of them, and all is alike up to there.
	{"1a 1b 2c", "1a 3c", 1, true}, {"1a 1b 2c 2d", "1a 1b 2c 4x 4y", 3, true}, {"1a 2b 2c", "1a 2b 3c 3d", 2, true}, {"2a 2b 2c 2d", "2a 7b", 1, true},
}

func TestPartAtTellsAsSaid(t *testing.T) {
	for _, c := range twoLogs {
		a, b := entries(c.a), entries(c.b)
		p, ok := impl.PartAt(a, b)
		if q, is := impl.PartAt(b, a); p != c.part || !ok || q != c.part || !is {
			t.Errorf("%s and %s: %d %v, %d %v", c.a, c.b, p, ok, q, is)
		}
	}
	full := inEpochs(rising(1, 1, 40)...)
	for at := range 40 {
		for _, x := range []impl.Entry{{Epoch: full[at].Epoch, Text: "x"}, {Epoch: full[at].Epoch, Text: ""}, {Epoch: 1000, Text: full[at].Text}} {
			// The changed entry is the last one, so that an Epoch of 1000 has no lesser one behind it.
			b := slices.Clone(full[:at+1])
			b[at] = x
			if p, ok := impl.PartAt(full, b); p != at || !ok {
				t.Errorf("%d, %v: %d %v", at, x, p, ok)
			}
			b[at] = full[at]
			if p, ok := impl.PartAt(b, full); p != at+1 || !ok {
				t.Errorf("%d: %d %v", at, p, ok)
			}
		}
	}
}

func TestMatchLogsTellsAsSaid(t *testing.T) {
	for _, c := range twoLogs {
		a, b := entries(c.a), entries(c.b)
		is, ok := impl.MatchLogs(a, b)
		if other, also := impl.MatchLogs(b, a); is != c.match || !ok || other != c.match || !also {
			t.Errorf("%s and %s: %v %v, %v %v", c.a, c.b, is, ok, other, also)
		}
	}
	for _, l := range goodEntryLists() {
		if is, ok := impl.MatchLogs(l, l); !is || !ok {
			t.Errorf("%v and itself: %v %v", l, is, ok)
		}
		if is, ok := impl.MatchLogs(l, l[:len(l)/2]); !is || !ok {
			t.Errorf("%v and its front: %v %v", l, is, ok)
		}
	}
}

func TestIsNewerTellsAsSaid(t *testing.T) {
	for _, c := range []struct {
		a, b string
		want bool
	}{
		// Greater: longer, shorter, equally long.
		{"1a 3b", "2a", true}, {"3a", "1a 2b", true}, {"3a", "2a", true}, {"1000a", "999a 999b 999c", true}, {"2a", "1a 1b 1c", true}, {"1a 2a", "1a 1a", true},
		// Less: longer, shorter, equally long.
		{"1a 2b", "3a", false}, {"2a", "1a 3b", false}, {"2a", "3a", false}, {"999a 999b", "1000a", false}, {"1a 1b 1c", "2a", false},
		// Alike: longer, shorter, equally long, whatever stands ahead and in Texts.
		{"2a 3b", "3a", true}, {"3a", "2a 3b", false}, {"3a", "3b", false}, {"3b", "3a", false}, {"1a 3a", "2a 3a", false}, {"2a 3a", "1a 3a", false}, {"1a 1b 3c", "2a 3c", true}, {"2z 3z", "1a 1b 3c", false}, {"1", "1zzz", false},
		// Without entries.
		{"", "", false}, {"1a", "", true}, {"", "1a", false}, {"1000a 1000b", "", true}, {"", "1000a", false},
	} {
		if is, ok := impl.IsNewer(entries(c.a), entries(c.b)); is != c.want || !ok {
			t.Errorf("%s and %s: %v %v", c.a, c.b, is, ok)
		}
	}
}

// Of any two logs just one is newer, or their last Epochs and lengths are alike.
func TestOneOfTwoLogsIsNewer(t *testing.T) {
	lists := goodEntryLists()
	for _, a := range lists {
		for _, b := range lists {
			x, ok := impl.IsNewer(a, b)
			y, is := impl.IsNewer(b, a)
			alike := !plainNewer(a, b) && !plainNewer(b, a)
			if !ok || !is || x && y || (!x && !y) != alike || x != plainNewer(a, b) {
				t.Fatalf("%v and %v: %v, %v", a, b, x, y)
			}
		}
	}
}

func TestFindPartTellsAsSaid(t *testing.T) {
	for _, c := range []struct {
		a      string
		starts []impl.Start
		end    int
		place  int
		looked int
	}{
		// The last Epoch is among the starts: it ends first in a, in the other one, in both at once.
		{"1a 1b 2c", starts(1, 0, 2, 2), 3, 3, 1}, {"1a 1b 2c", starts(1, 0, 2, 2), 9, 3, 1}, {"1a 1b 2c", starts(1, 0, 2, 2, 3, 7), 9, 3, 1}, {"1a 1b 2c 2d 2e", starts(1, 0, 2, 2, 3, 4), 9, 4, 1}, {"1a 1b 2c 2d 2e", starts(1, 0, 2, 2), 3, 3, 1}, {"1a 1b 2c 2d 2e", starts(1, 0, 2, 2, 3, 5), 6, 5, 1}, {"5a", starts(5, 0), 1, 1, 1}, {"5a", starts(5, 0), 40, 1, 1},
		// A lesser one is the greatest among them.
		{"1a 1b 2c", starts(1, 0, 3, 2), 3, 2, 2}, {"1a 2b 3c 4d", starts(1, 0, 2, 1, 9, 2), 5, 2, 3}, {"1a 2b 3c 4d", starts(1, 0, 3, 1, 9, 2), 5, 2, 2}, {"1a 2b 3c 4d", starts(3, 0, 9, 1), 5, 1, 2},
		// The first one alone is.
		{"1a 1b 2c 3d 4e", starts(1, 0), 1, 1, 4}, {"1a 1b 2c 3d 4e", starts(1, 0), 40, 2, 4}, {"1a 1b 2c 3d 4e", starts(1, 0, 5, 1), 2, 1, 4}, {"1a 1b 2c 3d 4e", starts(1, 0, 5, 3), 4, 2, 4}, {"2a 4b 6c", starts(1, 0, 2, 2, 3, 4, 5, 6, 7, 8), 10, 1, 3},
		// None is: below all, above all, between, no starts at all.
		{"1a 1b 2c 3d", starts(4, 0), 5, 0, 3}, {"5a 6b", starts(1, 0, 4, 3), 9, 0, 2}, {"2a 4b", starts(1, 0, 3, 1, 5, 2), 3, 0, 2}, {"1a 1b 1c", nil, 0, 0, 1}, {"1a 1b 1c", nil, 40, 0, 1}, {"1a 2b 3c", nil, 3, 0, 3},
		// No entries: no Epoch is looked at.
		{"", nil, 0, 0, 0}, {"", nil, 40, 0, 0}, {"", starts(1, 0), 1, 0, 0}, {"", starts(1, 0, 2, 3, 1000, 39), 40, 0, 0},
		// Starts that do not begin at 0, and an Epoch that begins elsewhere.
		{"1a 1b 2c", starts(2, 7), 8, 3, 1}, {"1a 1b 2c", starts(1, 5, 3, 6), 8, 2, 2}, {"1a 1b 2c", starts(2, 0), 1, 1, 1}, {"1a 1b 2c", starts(2, 0, 3, 1), 2, 1, 1}, {"2a 2b 2c", starts(1, 0, 2, 1), 2, 2, 1}, {"7a", starts(7, 39), 40, 1, 1},
		// The greatest Epoch.
		{"1000a 1000b", starts(1000, 0), 1, 1, 1}, {"1a 1000b", starts(1, 0, 999, 1), 2, 1, 2}, {"1a 999b", starts(1, 0, 1000, 1), 2, 1, 2},
	} {
		if p, n, ok := impl.FindPart(entries(c.a), c.starts, c.end); p != c.place || n != c.looked || !ok {
			t.Errorf("%s, %v, %d: %d %d %v", c.a, c.starts, c.end, p, n, ok)
		}
	}
}

func manyStarts(from int, at int, many int) []impl.Start {
	var out []impl.Start
	for i := range many {
		out = append(out, impl.Start{Epoch: from + i, At: at + i})
	}
	return out
}

func TestFindPartAsksForGoodStarts(t *testing.T) {
	a := entries("1a 1b 2c")
	for _, c := range []struct {
		starts []impl.Start
		end    int
		good   bool
	}{
		// Epochs rise.
		{starts(1, 0, 2, 1), 2, true}, {starts(1, 0, 1, 1), 2, false}, {starts(2, 0, 1, 1), 2, false}, {starts(1, 0, 3, 1, 2, 2), 3, false}, {starts(1, 0, 3, 1, 3, 2), 3, false}, {starts(9, 0, 1, 1), 40, false},
		// So do At.
		{starts(1, 0, 2, 0), 2, false}, {starts(1, 1, 2, 0), 2, false}, {starts(1, 0, 2, 2, 3, 1), 3, false}, {starts(1, 0, 2, 2, 3, 2), 3, false}, {starts(1, 5, 2, 4), 40, false}, {starts(1, 0, 2, 39), 40, true},
		// Epochs and At have their limits.
		{starts(0, 0), 1, false}, {starts(1, 0), 1, true}, {starts(1000, 0), 1, true}, {starts(1001, 0), 1, false}, {starts(-1, 0), 1, false}, {starts(0, 0, 1, 1), 2, false}, {starts(1000, 0, 1001, 1), 2, false}, {starts(999, 0, 1000, 1), 2, true}, {starts(1, -1), 1, false}, {starts(1, -1, 2, 0), 1, false}, {starts(1, 3), 4, true},
		{starts(math.MinInt, 0), 1, false}, {starts(math.MaxInt, 0), 1, false}, {starts(1, math.MinInt), 1, false}, {starts(1, math.MaxInt), 1, false}, {starts(1, math.MaxInt), math.MaxInt, false}, {starts(1, 0, 2, math.MaxInt), 40, false}, {starts(1, math.MaxInt, 2, 0), 40, false}, {starts(math.MaxInt, 0, 1, 1), 40, false}, {starts(1, 0, math.MaxInt, 1), 40, false}, {starts(1, math.MaxInt, 2, math.MinInt), 40, false},
		// How many there are.
		{manyStarts(1, 0, 39), 39, true}, {manyStarts(1, 0, 39), 40, true}, {manyStarts(1, 0, 40), 40, true}, {manyStarts(961, 0, 40), 40, true}, {manyStarts(962, 0, 40), 40, false}, {manyStarts(1, 1, 40), 40, false}, {manyStarts(1, 1, 39), 40, true}, {manyStarts(1, 0, 41), 40, false}, {manyStarts(1, 0, 41), 41, false}, {manyStarts(1, -1, 41), 40, false}, {manyStarts(1, 0, 5000), 40, false}, {manyStarts(1, 0, 5000), 5000, false}, {make([]impl.Start, 41), 40, false}, {make([]impl.Start, 1), 40, false},
		// The end: below 0, at 0, at the greatest, beyond; at the last At, above it.
		{nil, -1, false}, {nil, 0, true}, {nil, 1, true}, {nil, 40, true}, {nil, 41, false}, {nil, math.MinInt, false}, {nil, math.MaxInt, false}, {starts(1, 0), 0, false}, {starts(1, 0), -1, false}, {starts(1, 0), 40, true}, {starts(1, 0), 41, false}, {starts(1, 0, 2, 5), 4, false}, {starts(1, 0, 2, 5), 5, false}, {starts(1, 0, 2, 5), 6, true}, {starts(1, 39), 39, false}, {starts(1, 39), 40, true}, {starts(1, 40), 40, false}, {starts(1, 40), 41, false},
	} {
		if plainGoodStarts(c.starts, c.end) != c.good {
			t.Errorf("%v, %d", c.starts, c.end)
		}
		p, n, ok := impl.FindPart(a, c.starts, c.end)
		if ok != c.good || !ok && (p != 0 || n != 0) {
			t.Errorf("%v, %d: %d %d %v", c.starts, c.end, p, n, ok)
		}
		if _, _, ok := impl.FindPart(nil, c.starts, c.end); ok != c.good {
			t.Errorf("of none, %v, %d", c.starts, c.end)
		}
	}
}

// Any starts and ends, good ones and not: all is held against the plain walk.
func TestFindPartFindsTheGreatestEpochOfBoth(t *testing.T) {
	r := rand.New(rand.NewSource(73))
	good, bad, none, far := 0, 0, 0, 0
	for range 40000 {
		a := anyEntries(r, 12, 2, "ab")
		end := r.Intn(43) - 1
		var l []impl.Start
		epoch, at := r.Intn(3), r.Intn(2)
		for range r.Intn(8) {
			l = append(l, impl.Start{Epoch: epoch, At: at})
			epoch += 1 + r.Intn(3)
			at += 1 + r.Intn(3)
			if r.Intn(20) == 0 {
				epoch--
				at--
			}
		}
		p, n, ok := impl.FindPart(a, l, end)
		if ok != plainGoodStarts(l, end) {
			t.Fatalf("%v, %d: %v", l, end, ok)
		}
		if !ok {
			bad++
			if p != 0 || n != 0 {
				t.Fatalf("%v, %d: %d %d", l, end, p, n)
			}
			continue
		}
		good++
		place, looked := plainFind(a, l, end)
		if p != place || n != looked {
			t.Fatalf("%v, %v, %d: %d %d, not %d %d", a, l, end, p, n, place, looked)
		}
		if place == 0 {
			none++
		} else if looked > 2 {
			far++
		}
	}
	if good < 5000 || bad < 5000 || none < 500 || far < 500 {
		t.Error("too few of one kind:", good, bad, none, far)
	}
}

func TestFollowLogTellsAsSaid(t *testing.T) {
	for _, c := range []struct {
		a, b  string
		want  string
		place int
	}{
		// Behind, and with nothing at all.
		{"", "", "", 0}, {"", "1a 1b 2c", "1a 1b 2c", 0}, {"1a", "1a 1b 2c", "1a 1b 2c", 1}, {"1a 1b", "1a 1b 2c", "1a 1b 2c", 2}, {"1a 1b 2c", "1a 1b 2c 2d 3e", "1a 1b 2c 2d 3e", 3}, {"1a 1b 2c", "1a 1b 2c", "1a 1b 2c", 3},
		// With more: within the last Epoch, by Epochs of its own, and where the leader has nothing.
		{"1a 1b 1c", "1a", "1a", 1}, {"1a 1b 2c 2d", "1a 1b 2c", "1a 1b 2c", 3}, {"1a 2b 3c", "1a", "1a", 1}, {"1a 2b", "", "", 0}, {"1a 1b 2c 2d 4e", "1a 1b", "1a 1b", 2},
		// Parting within an Epoch: it goes on in one of them, and ends in the other.
		{"1a 1b 1c", "1a 2x 2y 2z", "1a 2x 2y 2z", 1}, {"1a 2b", "1a 1x 1y 3z", "1a 1x 1y 3z", 1}, {"1a 1b 2c", "1a 1b 3d", "1a 1b 3d", 2}, {"1a 2b 2c 2d 5e", "1a 2b 3x 4y", "1a 2b 3x 4y", 2}, {"1a 3b 3c", "1a 2x 4y", "1a 2x 4y", 1},
		// No Epoch in common.
		{"1a 1b", "2a", "2a", 0}, {"3a 4b", "1a 2b 5c", "1a 2b 5c", 0}, {"7a", "8a", "8a", 0},
		// Another history: what was written elsewhere in one Epoch can't be told by starts, and stays.
		{"1a", "1b", "1a", 1}, {"1a 1x 1c", "1a 1b 1c 1d", "1a 1x 1c 1d", 3}, {"1x 2b", "1a 2b 2c", "1x 2b 2c", 2}, {"5x", "1a 1b 5c", "5x 1b 5c", 1}, {"1x 1y 5z", "5a", "1x", 1}, {"1a 5b", "5a 5b 6c", "1a 5b 6c", 2}, {"2x 2y 2z", "1a 2b", "2x 2y", 2},
	} {
		a, b := entries(c.a), entries(c.b)
		if l, p, ok := impl.FollowLog(a, b); !slices.Equal(l, entries(c.want)) || p != c.place || !ok {
			t.Errorf("%s, %s: %v %d %v", c.a, c.b, l, p, ok)
		}
		checkLogs(t, a, b)
		checkLogs(t, b, a)
	}
	full := inEpochs(rising(1, 1, 40)...)
	for at := range 41 {
		if l, p, ok := impl.FollowLog(full[:at], full); !slices.Equal(l, full) || p != at || !ok {
			t.Errorf("%d of all: %v %d %v", at, l, p, ok)
		}
		if l, p, ok := impl.FollowLog(full, full[:at]); !slices.Equal(l, full[:at]) || p != at || !ok {
			t.Errorf("all of %d: %v %d %v", at, l, p, ok)
		}
	}
}

// walkFollow is what a follower comes to that sees both logs: its own as far as they are alike, and then the leader's.
func walkFollow(a []impl.Entry, b []impl.Entry) []impl.Entry {
	var out []impl.Entry
	at := 0
	for at < len(a) && at < len(b) && a[at].Epoch == b[at].Epoch && a[at].Text == b[at].Text {
		out = append(out, a[at])
		at++
	}
	return append(out, b[at:]...)
}

// checkFollow is promise 7: with one history, just the leader's log; nothing of it was taken that was not alike.
func checkFollow(t *testing.T, a []impl.Entry, b []impl.Entry) {
	t.Helper()
	l, place, ok := impl.FollowLog(a, b)
	if !ok || !slices.Equal(l, b) || !slices.Equal(l, walkFollow(a, b)) {
		t.Fatalf("FollowLog(%v, %v): %v %d %v", a, b, l, place, ok)
	}
	if place > plainPart(a, b) {
		t.Fatalf("FollowLog(%v, %v): %d is behind where they part", a, b, place)
	}
}

// smallLogs are all logs of at most so many entries with Epochs up to some number and Texts of two letters.
func smallLogs(long int, most int) [][]impl.Entry {
	out := [][]impl.Entry{nil}
	from := 0
	for range long {
		upto := len(out)
		for _, l := range out[from:upto] {
			least := 1
			if len(l) > 0 {
				least = l[len(l)-1].Epoch
			}
			for epoch := least; epoch <= most; epoch++ {
				for _, s := range []string{"a", "b"} {
					out = append(out, append(slices.Clone(l), impl.Entry{Epoch: epoch, Text: s}))
				}
			}
		}
		from = upto
	}
	return out
}

// Promise 7 over all small logs: each pair that MatchLogs tells true is followed, all others are told as said.
func TestAllSmallLogs(t *testing.T) {
	one, other := 0, 0
	for _, pack := range [][][]impl.Entry{smallLogs(3, 4), smallLogs(4, 2)} {
		for _, a := range pack {
			for _, b := range pack {
				checkLogs(t, a, b)
				if is, _ := impl.MatchLogs(a, b); is {
					one++
					checkFollow(t, a, b)
				} else {
					other++
				}
			}
		}
	}
	if one < 5000 || other < 5000 {
		t.Error("too few of one kind:", one, other)
	}
}

// With another history a follower does not always come to the leader's log: MatchLogs is not told too often.
func TestAnEpochThatBeginsElsewhereIsAnotherHistory(t *testing.T) {
	lost := 0
	logs := smallLogs(3, 3)
	for _, a := range logs {
		for _, b := range logs {
			l, _, ok := impl.FollowLog(a, b)
			is, _ := impl.MatchLogs(a, b)
			if !ok || is && !slices.Equal(l, b) {
				t.Fatalf("%v, %v: %v %v", a, b, l, ok)
			}
			if !slices.Equal(l, b) {
				lost++
			}
		}
	}
	if lost < 1000 {
		t.Error("too few:", lost)
	}
	for _, c := range [][2]string{{"2x", "1a 2b"}, {"1a 1b 3x", "1a 3c 3d"}, {"1a 3x", "1a 1b 3c"}} {
		a, b := entries(c[0]), entries(c[1])
		if is, ok := impl.MatchLogs(a, b); is || !ok {
			t.Errorf("%s, %s: %v %v", c[0], c[1], is, ok)
		}
		if l, _, ok := impl.FollowLog(a, b); slices.Equal(l, b) || !ok {
			t.Errorf("%s, %s: %v %v", c[0], c[1], l, ok)
		}
	}
}

// world has one leader an Epoch, which writes behind its own log; others copy its front, some of it or all.
func world(r *rand.Rand, nodes int, epochs int) [][]impl.Entry {
	logs := make([][]impl.Entry, nodes)
	epoch := 0
	for range epochs {
		epoch += 1 + r.Intn(3)
		leader := r.Intn(nodes)
		for range r.Intn(6) {
			if len(logs[leader]) < 40 && r.Intn(3) > 0 {
				logs[leader] = append(logs[leader], impl.Entry{Epoch: epoch, Text: string([]byte{byte('a' + r.Intn(2))})})
			}
			node := r.Intn(nodes)
			part := plainPart(logs[node], logs[leader])
			if long := len(logs[leader]); node != leader && part < long {
				logs[node] = slices.Clone(logs[leader][:part+1+r.Intn(long-part)])
			}
		}
	}
	return logs
}

// Promise 7 where logs came to be as they do: one leader an Epoch makes one history of all.
func TestFollowersOfOneHistoryComeToTheLeadersLog(t *testing.T) {
	r := rand.New(rand.NewSource(74))
	parted, behind, ahead := 0, 0, 0
	for i := range 3000 {
		logs := world(r, 2+i%4, 1+i%25)
		for _, a := range logs {
			for _, b := range logs {
				if is, ok := impl.MatchLogs(a, b); !is || !ok {
					t.Fatalf("MatchLogs(%v, %v): %v %v", a, b, is, ok)
				}
				checkLogs(t, a, b)
				checkFollow(t, a, b)
				switch part := plainPart(a, b); {
				case part < len(a) && part < len(b):
					parted++
				case part < len(b):
					behind++
				case part < len(a):
					ahead++
				}
			}
		}
	}
	if parted < 3000 || behind < 3000 || ahead < 3000 {
		t.Error("too few of one kind:", parted, behind, ahead)
	}
}

// One entry of a world's log is another one: what is told hangs on the plain walk alone.
func TestChangedLogsAreToldAsSaid(t *testing.T) {
	r := rand.New(rand.NewSource(75))
	one, other := 0, 0
	for i := range 4000 {
		logs := world(r, 3, 2+i%20)
		a, b := logs[0], slices.Clone(logs[1])
		if len(b) == 0 {
			continue
		}
		at := r.Intn(len(b))
		switch r.Intn(3) {
		case 0:
			b[at].Text = "z"
		case 1:
			b[at].Epoch++
		case 2:
			b = slices.Delete(b, at, at+1)
		}
		if !impl.GoodEntries(b) {
			continue
		}
		checkLogs(t, a, b)
		checkLogs(t, b, a)
		if is, _ := impl.MatchLogs(a, b); is {
			one++
			checkFollow(t, a, b)
			checkFollow(t, b, a)
		} else {
			other++
		}
	}
	if one < 300 || other < 300 {
		t.Error("too few of one kind:", one, other)
	}
}

func TestLogsOfAnyKindAreToldAsSaid(t *testing.T) {
	lists := goodEntryLists()
	for _, a := range lists {
		for _, b := range lists {
			checkLogs(t, a, b)
			if plainMatch(a, b) {
				checkFollow(t, a, b)
			}
		}
	}
}

// refuseTwo asks for the zero answer of each function of two logs.
func refuseTwo(t *testing.T, a []impl.Entry, b []impl.Entry) {
	t.Helper()
	if p, ok := impl.PartAt(a, b); p != 0 || ok {
		t.Errorf("PartAt(%v, %v): %d %v", a, b, p, ok)
	}
	if is, ok := impl.MatchLogs(a, b); is || ok {
		t.Errorf("MatchLogs(%v, %v): %v %v", a, b, is, ok)
	}
	if is, ok := impl.IsNewer(a, b); is || ok {
		t.Errorf("IsNewer(%v, %v): %v %v", a, b, is, ok)
	}
	if l, p, ok := impl.FollowLog(a, b); len(l) != 0 || p != 0 || ok {
		t.Errorf("FollowLog(%v, %v): %v %d %v", a, b, l, p, ok)
	}
}

// refuseEntries asks for the zero answer of each function at entries that are not good.
func refuseEntries(t *testing.T, l []impl.Entry) {
	t.Helper()
	if impl.GoodEntries(l) {
		t.Errorf("taken: %v", l)
	}
	if s, ok := impl.StartsOf(l); len(s) != 0 || ok {
		t.Errorf("StartsOf(%v): %v %v", l, s, ok)
	}
	for _, epoch := range []int{-1, 0, 1, 2, 500, 1000, 1001} {
		if n, ok := impl.EndOfEpoch(l, epoch); n != 0 || ok {
			t.Errorf("EndOfEpoch(%v, %d): %d %v", l, epoch, n, ok)
		}
	}
	for _, s := range [][]impl.Start{nil, starts(1, 0), starts(1, 0, 2, 1, 1000, 2), starts(0, 0)} {
		for _, end := range []int{-1, 0, 3, 40, 41} {
			if p, n, ok := impl.FindPart(l, s, end); p != 0 || n != 0 || ok {
				t.Errorf("FindPart(%v, %v, %d): %d %d %v", l, s, end, p, n, ok)
			}
		}
	}
	for _, good := range [][]impl.Entry{nil, entries("1a"), entries("1a 2b 1000c"), inEpochs(repeated(1, 40)...)} {
		refuseTwo(t, l, good)
		refuseTwo(t, good, l)
	}
	refuseTwo(t, l, l)
}

func TestEntriesRefuse(t *testing.T) {
	for _, l := range badEntryLists() {
		refuseEntries(t, l)
	}
}

// Promise 19: whatever a function of this chapter is given, it answers, and all beside false is zero.
func TestEpochsAnswerAtAnyArguments(t *testing.T) {
	ints := append(noNumbers(), 0, 1, 2, 3, -1, 39, 40, 41, 999, 1000, 1001)
	texts := []string{"", "a", "\x00\xff", longRecord(20), longRecord(21), longRecord(100000)}
	known := entries("1a 2b 40c 1000d")
	for _, x := range ints {
		for _, y := range ints {
			for _, s := range texts {
				l := []impl.Entry{{Epoch: x, Text: s}, {Epoch: y, Text: s}}
				if impl.GoodEntries(l) != plainGoodEntries(l) {
					t.Fatalf("GoodEntries(%v)", l)
				}
				if !impl.GoodEntries(l) {
					refuseTwo(t, l, known)
					refuseTwo(t, known, l)
				} else {
					checkLogs(t, l, known)
					checkLogs(t, known, l)
				}
				n, ok := impl.EndOfEpoch(l, y)
				if good := impl.GoodEntries(l) && y >= 0 && y <= 1000; ok != good || ok && n != 2 || !ok && n != 0 {
					t.Fatalf("EndOfEpoch(%v, %d): %d %v", l, y, n, ok)
				}
			}
			for _, z := range ints {
				for _, end := range ints {
					for _, l := range [][]impl.Start{starts(x, y), starts(1, 0, x, y), starts(x, y, z, end), starts(x, z, y, end), starts(x, y, 1000, z)} {
						p, n, ok := impl.FindPart(known, l, end)
						if ok != plainGoodStarts(l, end) || !ok && (p != 0 || n != 0) {
							t.Fatalf("FindPart(.., %v, %d): %d %d %v", l, end, p, n, ok)
						}
						if place, looked := plainFind(known, l, end); ok && (p != place || n != looked) {
							t.Fatalf("FindPart(.., %v, %d): %d %d %v", l, end, p, n, ok)
						}
					}
				}
			}
		}
	}
}

// roomyEntries has much behind it in its memory, which is no part of it, though it could be.
func roomyEntries(words string) []impl.Entry {
	l := entries(words)
	out := append(make([]impl.Entry, 0, len(l)+6), l...)
	return append(out, impl.Entry{Epoch: 8, Text: "no"}, impl.Entry{Epoch: 8, Text: "no"}, impl.Entry{}, impl.Entry{Epoch: 9, Text: "not"})[:len(l)]
}

func roomyStarts() []impl.Start {
	return append(starts(1, 0, 2, 2), starts(3, 3, 4, 4, 0, 0, 4, 5)...)[:2]
}

// askEpochs calls all functions of the chapter, with good arguments and others.
func askEpochs(a []impl.Entry, b []impl.Entry, s []impl.Start) {
	for _, pair := range [][2][]impl.Entry{{a, b}, {b, a}, {a, a}, {a, nil}, {nil, b}, {a[:1], b}, {a, b[:0]}, {a[:0], b}, {a[:cap(a)], b}, {a, b[:cap(b)]}, {a[1:], b}} {
		x, y := pair[0], pair[1]
		impl.GoodEntries(x)
		impl.StartsOf(y)
		impl.PartAt(x, y)
		impl.FollowLog(x, y)
		impl.IsNewer(x, y)
		impl.MatchLogs(x, y)
		for _, n := range append(manyNumbers(), 999, 1000, 1001) {
			impl.EndOfEpoch(x, n)
			impl.FindPart(y, s, n)
			impl.FindPart(x, s[:cap(s)], n)
			impl.FindPart(x, s[:0], n)
		}
	}
}

// Promise 19: nothing is written into an argument, nor into what lies behind it in its memory, nor is that read.
func TestEpochsWriteIntoNoArgument(t *testing.T) {
	const first, second = "1a 1b 2c 2d 4e", "1a 1b 2c 3f"
	a, b, s := roomyEntries(first), roomyEntries(second), roomyStarts()
	askEpochs(a, b, s)
	checkLogs(t, a, b)
	checkLogs(t, b, a)
	if p, n, ok := impl.FindPart(a, s, 4); p != 4 || n != 2 || !ok {
		t.Error(p, n, ok)
	}
	if n, ok := impl.EndOfEpoch(a, 1000); n != 5 || !ok {
		t.Error(n, ok)
	}
	if l, ok := impl.StartsOf(b); !slices.Equal(l, starts(1, 0, 2, 2, 3, 3)) || !ok {
		t.Error(l, ok)
	}
	if l, p, ok := impl.FollowLog(a, b); !slices.Equal(l, entries(second)) || p != 3 || !ok {
		t.Error(l, p, ok)
	}
	wasA, wasB, wasS := roomyEntries(first), roomyEntries(second), roomyStarts()
	if !slices.Equal(a[:cap(a)], wasA[:cap(wasA)]) || !slices.Equal(b[:cap(b)], wasB[:cap(wasB)]) || !slices.Equal(s[:cap(s)], wasS[:cap(wasS)]) {
		t.Error("written into:", a[:cap(a)], b[:cap(b)], s[:cap(s)])
	}
}

func TestEpochsAnswerWithNewMemory(t *testing.T) {
	for _, c := range [][2]string{{"1a 1b 2c 2d", "1a 1b 2c 3f"}, {"1a 1b", "1a 1b"}, {"", "1a 2b"}, {"1a 2b", ""}, {"1a 1b 2c", "1a"}, {"1a", "1a 1b 2c"}, {"1a 2b", "3c 4d"}, {"", ""}} {
		a, b := roomyEntries(c[0]), roomyEntries(c[1])
		l, _, ok := impl.FollowLog(a, b)
		if !ok || !slices.Equal(l, entries(c[1])) {
			t.Errorf("%s, %s: %v %v", c[0], c[1], l, ok)
		}
		s, ok := impl.StartsOf(a)
		if !ok || !slices.Equal(s, fewStarts(a)) {
			t.Errorf("%s: %v %v", c[0], s, ok)
		}
		// What lay behind an argument, or was cut off, is not handed out behind the answer.
		if slices.ContainsFunc(l[len(l):cap(l)], func(x impl.Entry) bool { return x != impl.Entry{} }) {
			t.Errorf("%s, %s: handed out %v", c[0], c[1], l[:cap(l)])
		}
		if slices.ContainsFunc(s[len(s):cap(s)], func(x impl.Start) bool { return x != impl.Start{} }) {
			t.Errorf("%s: handed out %v", c[0], s[:cap(s)])
		}
		spoil(l, impl.Entry{Epoch: 77, Text: "spoilt"})
		spoil(s, impl.Start{Epoch: 77, At: 77})
		wasA, wasB := roomyEntries(c[0]), roomyEntries(c[1])
		if !slices.Equal(a[:cap(a)], wasA[:cap(wasA)]) || !slices.Equal(b[:cap(b)], wasB[:cap(wasB)]) {
			t.Errorf("%s, %s: shared", c[0], c[1])
		}
		// An answer that was written over leaves no trace in the next one.
		if again, _, ok := impl.FollowLog(a, b); !slices.Equal(again, entries(c[1])) || !ok {
			t.Errorf("%s, %s: %v %v", c[0], c[1], again, ok)
		}
		if again, ok := impl.StartsOf(a); !slices.Equal(again, fewStarts(a)) || !ok {
			t.Errorf("%s: %v %v", c[0], again, ok)
		}
	}
}
