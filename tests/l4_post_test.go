package tests

import (
	"math"
	"math/rand"
	"slices"
	"strings"
	"testing"

	"loop.example/g00522/impl"
)

const maxQueryParts = 20

// rising are so many numbers, each step more than the one ahead.
func rising(from int, step int, many int) []int {
	var out []int
	for i := range many {
		out = append(out, from+i*step)
	}
	return out
}

func anyPosts(r *rand.Rand, below int) []int {
	most := 1 + r.Intn(impl.MaxPosts)
	var out []int
	for n := range below {
		if len(out) < most && r.Intn(3) == 0 {
			out = append(out, n)
		}
	}
	return out
}

func goodPostLists() [][]int {
	out := [][]int{
		nil, {}, {0}, {9999}, {0, 9999}, {0, 1}, {9998, 9999}, {5000}, {1, 3, 5}, {3, 4}, {7, 700, 7000},
		rising(0, 1, 60), rising(9940, 1, 60), rising(0, 169, 60), rising(28, 169, 60), rising(0, 1, 59), rising(1, 2, 60), rising(0, 2, 60),
		append(rising(0, 1, 59), 9999), append([]int{0}, rising(9941, 1, 59)...),
	}
	for many := range 40 {
		out = append(out, rising(10, 10, many))
	}
	r := rand.New(rand.NewSource(41))
	for range 60 {
		out = append(out, anyPosts(r, 10), anyPosts(r, 300))
	}
	return out
}

func badPostLists() [][]int {
	out := [][]int{
		{-1}, {10000}, {-1, 0}, {-1, 5}, {0, 10000}, {9999, 10000}, {5, -1}, {10000, 5}, {5, 10000, 9999},
		{0, 0}, {9999, 9999}, {1, 3, 3}, {3, 3, 5}, {1, 1, 1}, {1, 0}, {9999, 0}, {1, 3, 2}, {2, 1, 3}, {1, 5, 4, 6},
		rising(0, 1, 61), rising(9939, 1, 61), rising(0, 1, 62), rising(0, 1, 5000), repeated(0, 60), repeated(7, 61), rising(59, -1, 60),
		append(rising(0, 1, 59), 58), append(rising(0, 1, 59), 57), append(rising(0, 1, 59), 10000), append([]int{-1}, rising(0, 1, 59)...), append(rising(0, 1, 60), 5), append(rising(0, 1, 60), -1),
		append([]int{0}, rising(0, 1, 59)...), make([]int, 2), make([]int, 5000),
	}
	for _, n := range noNumbers() {
		out = append(out, []int{n}, []int{5, n}, []int{n, 5}, []int{n, n})
	}
	return append(out, []int{math.MinInt, math.MaxInt}, []int{math.MaxInt, math.MinInt})
}

func TestPostsHaveTheirLimits(t *testing.T) {
	if impl.MaxPosts != 60 {
		t.Error(impl.MaxPosts)
	}
	kinds := []int{impl.QuAll, impl.QuHas, impl.QuAnd, impl.QuOr, impl.QuNot}
	if !slices.Equal(kinds, []int{1, 2, 3, 4, 5}) {
		t.Error(kinds)
	}
}

func TestGoodPostsTellsAsSaid(t *testing.T) {
	for _, l := range goodPostLists() {
		if !impl.GoodPosts(l) {
			t.Errorf("refused: %v", l)
		}
	}
	for _, l := range badPostLists() {
		if impl.GoodPosts(l) {
			t.Errorf("taken: %v", l)
		}
	}
}

func TestPostsAreAtMostSixty(t *testing.T) {
	for many := range 130 {
		if impl.GoodPosts(rising(0, 1, many)) != (many <= 60) || impl.GoodPosts(rising(9999-many, 1, many)) != (many <= 60) {
			t.Error(many)
		}
	}
}

// setPosts tells by marks, not by leaps, what of two lists is met, joined and left.
func setPosts(a []int, b []int) (met []int, joined []int, left []int) {
	inA, inB := [10000]bool{}, [10000]bool{}
	for _, n := range a {
		inA[n] = true
	}
	for _, n := range b {
		inB[n] = true
	}
	for n := range inA {
		if inA[n] && inB[n] {
			met = append(met, n)
		}
		if inA[n] || inB[n] {
			joined = append(joined, n)
		}
		if inA[n] && !inB[n] {
			left = append(left, n)
		}
	}
	return met, joined, left
}

func checkPosts(t *testing.T, a []int, b []int) {
	t.Helper()
	met, joined, left := setPosts(a, b)
	if l, ok := impl.MeetPosts(a, b); !slices.Equal(l, met) || !ok {
		t.Fatalf("MeetPosts(%v, %v): %v %v", a, b, l, ok)
	}
	if l, ok := impl.LessPosts(a, b); !slices.Equal(l, left) || !ok {
		t.Fatalf("LessPosts(%v, %v): %v %v", a, b, l, ok)
	}
	good := len(joined) <= impl.MaxPosts
	if !good {
		joined = nil
	}
	if l, ok := impl.JoinPosts(a, b); !slices.Equal(l, joined) || ok != good {
		t.Fatalf("JoinPosts(%v, %v): %v %v", a, b, l, ok)
	}
}

func TestPostsTellAsSaid(t *testing.T) {
	for _, c := range []struct{ a, b, met, joined, left []int }{
		{nil, nil, nil, nil, nil}, {[]int{}, nil, nil, nil, nil},
		{[]int{0}, nil, nil, []int{0}, []int{0}}, {nil, []int{9999}, nil, []int{9999}, nil},
		{[]int{1, 3, 5}, []int{3, 4}, []int{3}, []int{1, 3, 4, 5}, []int{1, 5}}, {[]int{3, 4}, []int{1, 3, 5}, []int{3}, []int{1, 3, 4, 5}, []int{4}},
		{[]int{0, 9999}, []int{0, 9999}, []int{0, 9999}, []int{0, 9999}, nil}, {[]int{0}, []int{9999}, nil, []int{0, 9999}, []int{0}}, {[]int{9999}, []int{0}, nil, []int{0, 9999}, []int{9999}},
		{[]int{1, 2}, []int{3, 4}, nil, []int{1, 2, 3, 4}, []int{1, 2}}, {[]int{3, 4}, []int{1, 2}, nil, []int{1, 2, 3, 4}, []int{3, 4}},
		{[]int{1, 3}, []int{2, 4}, nil, []int{1, 2, 3, 4}, []int{1, 3}}, {[]int{1, 2, 3}, []int{2}, []int{2}, []int{1, 2, 3}, []int{1, 3}}, {[]int{2}, []int{1, 2, 3}, []int{2}, []int{1, 2, 3}, nil},
	} {
		met, ok := impl.MeetPosts(c.a, c.b)
		joined, ok2 := impl.JoinPosts(c.a, c.b)
		left, ok3 := impl.LessPosts(c.a, c.b)
		if !slices.Equal(met, c.met) || !slices.Equal(joined, c.joined) || !slices.Equal(left, c.left) || !ok || !ok2 || !ok3 {
			t.Errorf("%v and %v: %v %v, %v %v, %v %v", c.a, c.b, met, ok, joined, ok2, left, ok3)
		}
	}
}

func TestPostsAreMetJoinedAndTakenOff(t *testing.T) {
	lists := goodPostLists()
	for _, a := range lists {
		for _, b := range lists {
			checkPosts(t, a, b)
		}
	}
}

func TestAllSmallPosts(t *testing.T) {
	subset := func(bits int) []int {
		var out []int
		for n := range 6 {
			if bits>>n&1 == 1 {
				out = append(out, n)
			}
		}
		return out
	}
	for a := range 64 {
		for b := range 64 {
			checkPosts(t, subset(a), subset(b))
		}
	}
}

func TestJoinedPostsAreAtMostSixty(t *testing.T) {
	for both := range 31 {
		// Sixty or more in all, of which so many are in both lists.
		for more := -1; more <= 2; more++ {
			a := rising(0, 2, 30)
			b := append(slices.Clone(a[:both]), rising(61, 3, 30+more)...)
			l, ok := impl.JoinPosts(a, b)
			if good := more <= 0; ok != good || ok && len(l) != 60+more || !ok && len(l) != 0 {
				t.Errorf("%d of both, %d in all: %v %v", both, 60+more, l, ok)
			}
		}
	}
	full := rising(0, 1, 60)
	for _, c := range []struct {
		b    []int
		good bool
	}{{nil, true}, {full, true}, {[]int{59}, true}, {[]int{0}, true}, {[]int{60}, false}, {[]int{0, 9999}, false}, {rising(1, 1, 60), false}, {rising(60, 1, 60), false}} {
		for _, pair := range [][2][]int{{full, c.b}, {c.b, full}} {
			if l, ok := impl.JoinPosts(pair[0], pair[1]); ok != c.good || ok && !slices.Equal(l, full) || !ok && len(l) != 0 {
				t.Errorf("%v with all of sixty: %v %v", c.b, l, ok)
			}
		}
	}
}

func TestPostsRefuse(t *testing.T) {
	ways := map[string]func([]int, []int) ([]int, bool){"MeetPosts": impl.MeetPosts, "JoinPosts": impl.JoinPosts, "LessPosts": impl.LessPosts}
	for name, way := range ways {
		for _, bad := range badPostLists() {
			for _, good := range [][]int{nil, {5}, {0, 9999}, rising(0, 1, 60)} {
				if l, ok := way(bad, good); len(l) != 0 || ok {
					t.Errorf("%s(%v, %v): %v %v", name, bad, good, l, ok)
				}
				if l, ok := way(good, bad); len(l) != 0 || ok {
					t.Errorf("%s(%v, %v): %v %v", name, good, bad, l, ok)
				}
			}
			if l, ok := way(bad, bad); len(l) != 0 || ok {
				t.Errorf("%s(%v) twice: %v %v", name, bad, l, ok)
			}
		}
	}
}

func TestLeapFromTellsAsSaid(t *testing.T) {
	l := []int{1, 3, 5, 9}
	for _, c := range []struct{ from, n, want int }{
		{0, -1, 0}, {0, 0, 0}, {0, 1, 0}, {0, 2, 1}, {0, 3, 1}, {0, 4, 2}, {0, 5, 2}, {0, 6, 3}, {0, 9, 3}, {0, 10, 4}, {0, 10000, 4},
		{1, 0, 1}, {1, 1, 1}, {1, 4, 2}, {1, 9, 3}, {2, 1, 2}, {2, 6, 3}, {3, 3, 3}, {3, 9, 3}, {3, 10, 4},
		{4, 0, 4}, {4, 9, 4}, {4, 10, 4}, {4, math.MinInt, 4}, {4, math.MaxInt, 4}, {0, math.MinInt, 0}, {0, math.MaxInt, 4}, {2, math.MinInt, 2},
	} {
		if k, ok := impl.LeapFrom(l, c.from, c.n); k != c.want || !ok {
			t.Errorf("LeapFrom(%v, %d, %d): %d %v", l, c.from, c.n, k, ok)
		}
	}
	for _, n := range []int{0, -1, 9999, math.MinInt, math.MaxInt} {
		if k, ok := impl.LeapFrom(nil, 0, n); k != 0 || !ok {
			t.Errorf("LeapFrom(nil, 0, %d): %d %v", n, k, ok)
		}
	}
}

// Promise 4: a leap goes to the first that is great enough.
func TestLeapGoesToTheFirstThatIsGreatEnough(t *testing.T) {
	for _, l := range goodPostLists() {
		goals := []int{-1, 0, 9999, 10000, math.MinInt, math.MaxInt}
		for _, n := range l {
			goals = append(goals, n-1, n, n+1)
		}
		for from := range len(l) + 1 {
			for _, n := range goals {
				k, ok := impl.LeapFrom(l, from, n)
				if !ok || k < from || k > len(l) || k < len(l) && l[k] < n {
					t.Fatalf("LeapFrom(%v, %d, %d): %d %v", l, from, n, k, ok)
				}
				if k > from && l[k-1] >= n {
					t.Fatalf("LeapFrom(%v, %d, %d): %d leaps too far", l, from, n, k)
				}
			}
		}
	}
}

func TestLeapFromRefuses(t *testing.T) {
	for _, l := range goodPostLists() {
		for _, from := range []int{-1, -2, len(l) + 1, len(l) + 2, 1000, math.MinInt, math.MaxInt} {
			for _, n := range []int{-1, 0, 5, 9999, 10000, math.MinInt, math.MaxInt} {
				if k, ok := impl.LeapFrom(l, from, n); k != 0 || ok {
					t.Errorf("LeapFrom(%v, %d, %d): %d %v", l, from, n, k, ok)
				}
			}
		}
	}
	for _, l := range badPostLists() {
		for _, from := range []int{0, 1, len(l), -1, math.MaxInt} {
			if k, ok := impl.LeapFrom(l, from, 10000); k != 0 || ok {
				t.Errorf("LeapFrom(%v, %d, ..): %d %v", l, from, k, ok)
			}
		}
	}
}

var appA = impl.Label{Name: "app", Value: "a"}
var hostB = impl.Label{Name: "host", Value: "b"}

func sameSeries(l []impl.Label, many int) [][]impl.Label {
	return slices.Repeat([][]impl.Label{l}, many)
}

// anySeries have few names and values, so that many share a label and many do not.
func anySeries(r *rand.Rand) [][]impl.Label {
	var out [][]impl.Label
	for range r.Intn(impl.MaxPosts + 1) {
		var l []impl.Label
		for _, name := range []string{"a", "b", "c", "d"} {
			if r.Intn(2) == 0 {
				l = append(l, impl.Label{Name: name, Value: []string{"0", "1", "a", "b"}[r.Intn(4)]})
			}
		}
		out = append(out, l)
	}
	return out
}

func goodSeries() [][][]impl.Label {
	out := [][][]impl.Label{
		nil, {}, {nil}, {{}}, {{appA}}, {{appA}, {}, {appA}}, {{}, {appA}, {hostB}, {appA, hostB}},
		sameSeries(nil, 60), sameSeries([]impl.Label{appA}, 60), sameSeries([]impl.Label{appA, hostB}, 59),
		append(sameSeries([]impl.Label{hostB}, 59), []impl.Label{appA}), append(sameSeries([]impl.Label{appA}, 59), nil),
		goodLabels()[:60],
	}
	r := rand.New(rand.NewSource(42))
	for range 40 {
		out = append(out, anySeries(r))
	}
	return out
}

func badSeries() [][][]impl.Label {
	out := [][][]impl.Label{
		sameSeries(nil, 61), sameSeries([]impl.Label{appA}, 61), make([][]impl.Label, 62), make([][]impl.Label, 5000), goodLabels()[:61],
	}
	for _, bad := range badLabels() {
		out = append(out,
			[][]impl.Label{bad}, [][]impl.Label{{appA}, bad}, [][]impl.Label{bad, {appA}}, [][]impl.Label{{appA}, bad, {appA}},
			append(sameSeries([]impl.Label{appA}, 59), bad), append(sameSeries(nil, 60), bad))
	}
	return out
}

// badLone are labels that are not good by themselves.
func badLone() []impl.Label {
	return append(
		labels("", "", "", "a", "a", "", "abcdefghi", "a", "a", "abcdefghi", "a", "123456789", "1", "1", "a1", "1", "A", "1", "a", "A"),
		labels("a ", "1", "a", " 1", "a", "1,b", "a=1", "2", "{a", "1", "a", "1}", "é", "1", "a", "é", "\xff", "1", "a", "\x00", strings.Repeat("a", 5000), "a", "a", strings.Repeat("a", 5000))...)
}

func TestPostsOfTellsAsSaid(t *testing.T) {
	series := [][]impl.Label{labels("app", "a"), nil, labels("app", "b", "host", "a"), labels("aa", "1", "app", "a", "host", "b"), labels("host", "b"), labels("appa", "a"), labels("a", "app")}
	for _, c := range []struct {
		x    impl.Label
		want []int
	}{
		{appA, []int{0, 3}}, {hostB, []int{3, 4}},
		{impl.Label{Name: "app", Value: "b"}, []int{2}}, {impl.Label{Name: "host", Value: "a"}, []int{2}},
		{impl.Label{Name: "aa", Value: "1"}, []int{3}}, {impl.Label{Name: "appa", Value: "a"}, []int{5}}, {impl.Label{Name: "a", Value: "app"}, []int{6}},
		{impl.Label{Name: "app", Value: "aa"}, nil}, {impl.Label{Name: "ap", Value: "a"}, nil}, {impl.Label{Name: "b", Value: "host"}, nil}, {impl.Label{Name: "zzzzzzzz", Value: "99999999"}, nil},
	} {
		if l, ok := impl.PostsOf(series, c.x); !slices.Equal(l, c.want) || !ok {
			t.Errorf("%v: %v %v", c.x, l, ok)
		}
	}
	for _, many := range []int{0, 1, 59, 60} {
		for _, common := range [][]impl.Label{{appA}, {{Name: "a", Value: "1"}, appA, hostB}} {
			if l, ok := impl.PostsOf(sameSeries(common, many), appA); !slices.Equal(l, rising(0, 1, many)) || !ok {
				t.Errorf("%d that all have it: %v %v", many, l, ok)
			}
		}
		if l, ok := impl.PostsOf(sameSeries(nil, many), appA); len(l) != 0 || !ok {
			t.Errorf("%d that have none: %v %v", many, l, ok)
		}
	}
}

// hasLabel looks at each label of a series by hand.
func hasLabel(l []impl.Label, x impl.Label) bool {
	for _, y := range l {
		if y.Name == x.Name && y.Value == x.Value {
			return true
		}
	}
	return false
}

func TestPostsOfFindsAllThatHaveIt(t *testing.T) {
	for _, series := range goodSeries() {
		for _, x := range append(labels("a", "0", "a", "1", "b", "a", "d", "b", "d", "c", "e", "0"), appA, hostB) {
			l, ok := impl.PostsOf(series, x)
			if !ok || !impl.GoodPosts(l) {
				t.Fatalf("%v of %v: %v %v", x, series, l, ok)
			}
			for i, s := range series {
				if slices.Contains(l, i) != hasLabel(s, x) {
					t.Fatalf("%v of %v: %v", x, series, l)
				}
			}
			if len(l) > 0 && l[len(l)-1] >= len(series) {
				t.Fatalf("%v of %v: %v", x, series, l)
			}
		}
	}
}

func TestPostsOfRefuses(t *testing.T) {
	for _, series := range badSeries() {
		for _, x := range []impl.Label{appA, hostB, {}} {
			if l, ok := impl.PostsOf(series, x); len(l) != 0 || ok {
				t.Errorf("%v of %v: %v %v", x, series, l, ok)
			}
		}
	}
	for _, x := range badLone() {
		for _, series := range [][][]impl.Label{nil, {nil}, {{appA}}, {{x}}, {{x}, {appA}}, sameSeries([]impl.Label{x}, 60)} {
			if l, ok := impl.PostsOf(series, x); len(l) != 0 || ok {
				t.Errorf("%q: %v %v", x, l, ok)
			}
		}
	}
}

func askAll() impl.Query                { return impl.Query{Kind: impl.QuAll} }
func askHas(x impl.Label) impl.Query    { return impl.Query{Kind: impl.QuHas, Label: x} }
func askBoth(a int, b int) impl.Query   { return impl.Query{Kind: impl.QuAnd, A: a, B: b} }
func askEither(a int, b int) impl.Query { return impl.Query{Kind: impl.QuOr, A: a, B: b} }
func askNot(a int) impl.Query           { return impl.Query{Kind: impl.QuNot, A: a} }
func asks(l ...impl.Query) []impl.Query { return l }

// anyQuery has good parts alone, each kind as often.
func anyQuery(r *rand.Rand, parts int) []impl.Query {
	var out []impl.Query
	for i := range parts {
		x := askHas(impl.Label{Name: []string{"a", "b", "c", "d", "e"}[r.Intn(5)], Value: []string{"0", "1", "a", "b"}[r.Intn(4)]})
		switch kind := r.Intn(5); {
		case kind == 0:
			x = askAll()
		case kind == 1 && i > 0:
			x = askBoth(r.Intn(i), r.Intn(i))
		case kind == 2 && i > 0:
			x = askEither(r.Intn(i), r.Intn(i))
		case kind == 3 && i > 0:
			x = askNot(r.Intn(i))
		}
		out = append(out, x)
	}
	return out
}

func goodQueries() [][]impl.Query {
	out := [][]impl.Query{
		asks(askAll()), asks(askHas(appA)), asks(askHas(hostB)), asks(askAll(), askNot(0)), asks(askHas(appA), askNot(0)), asks(askHas(appA), askNot(0), askNot(1)),
		asks(askAll(), askBoth(0, 0)), asks(askAll(), askEither(0, 0)), asks(askHas(appA), askBoth(0, 0)), asks(askHas(appA), askEither(0, 0)),
		asks(askHas(appA), askHas(hostB), askBoth(0, 1)), asks(askHas(appA), askHas(hostB), askBoth(1, 0)), asks(askHas(appA), askHas(hostB), askEither(0, 1)), asks(askHas(appA), askHas(hostB), askEither(1, 0)),
		asks(askHas(appA), askHas(hostB), askNot(0)), asks(askHas(appA), askHas(hostB), askNot(1)), asks(askHas(appA), askAll()), asks(askAll(), askHas(appA)),
		asks(askHas(appA), askNot(0), askBoth(0, 1)), asks(askHas(appA), askNot(0), askEither(0, 1)), asks(askHas(appA), askHas(hostB), askEither(0, 1), askBoth(0, 1), askNot(3), askBoth(2, 4)),
		slices.Repeat(asks(askAll()), 20), slices.Repeat(asks(askHas(appA)), 20), append(slices.Repeat(asks(askAll()), 19), askNot(18)),
		append(slices.Repeat(asks(askHas(appA)), 19), askBoth(0, 18)), append(slices.Repeat(asks(askHas(appA)), 19), askEither(18, 0)),
	}
	for _, x := range []impl.Label{{Name: "a", Value: "0"}, {Name: "abcdefgh", Value: "a1b2c3d4"}, {Name: "zzzzzzzz", Value: "99999999"}} {
		out = append(out, asks(askHas(x)))
	}
	chain := asks(askHas(appA))
	for len(chain) < maxQueryParts {
		chain = append(chain, askNot(len(chain)-1))
		out = append(out, slices.Clone(chain))
	}
	r := rand.New(rand.NewSource(43))
	for i := range 300 {
		out = append(out, anyQuery(r, 1+i%maxQueryParts))
	}
	return out
}

// badQueryParts can't stand behind one part of any kind, nor be alone.
func badQueryParts() []impl.Query {
	name, value := impl.Label{Name: "a"}, impl.Label{Value: "a"}
	out := []impl.Query{
		{}, {Kind: 6}, {Kind: 7}, {Kind: -1}, {Kind: math.MinInt}, {Kind: math.MaxInt}, {Label: appA}, {Kind: 6, Label: appA}, {Kind: 6, A: 0, B: 0}, {Kind: 256 + impl.QuAll},
		{Kind: impl.QuAll, Label: appA}, {Kind: impl.QuAll, Label: name}, {Kind: impl.QuAll, Label: value}, {Kind: impl.QuAll, A: 1}, {Kind: impl.QuAll, B: 1}, {Kind: impl.QuAll, A: -1}, {Kind: impl.QuAll, B: -1}, {Kind: impl.QuAll, A: 1, B: 1, Label: appA},
		{Kind: impl.QuHas}, {Kind: impl.QuHas, Label: name}, {Kind: impl.QuHas, Label: value}, {Kind: impl.QuHas, Label: appA, A: 1}, {Kind: impl.QuHas, Label: appA, B: 1}, {Kind: impl.QuHas, Label: appA, A: -1}, {Kind: impl.QuHas, Label: appA, B: -1},
	}
	for _, x := range badLone() {
		out = append(out, askHas(x))
	}
	for _, kind := range []int{impl.QuAnd, impl.QuOr} {
		out = append(out, impl.Query{Kind: kind, Label: appA}, impl.Query{Kind: kind, Label: name}, impl.Query{Kind: kind, Label: value})
		for _, wrong := range []int{1, 2, 19, 20, -1, math.MinInt, math.MaxInt} {
			out = append(out, impl.Query{Kind: kind, A: wrong}, impl.Query{Kind: kind, B: wrong}, impl.Query{Kind: kind, A: wrong, B: wrong})
		}
	}
	out = append(out, impl.Query{Kind: impl.QuNot, Label: appA}, impl.Query{Kind: impl.QuNot, Label: name}, impl.Query{Kind: impl.QuNot, Label: value}, impl.Query{Kind: impl.QuNot, B: 1}, impl.Query{Kind: impl.QuNot, B: -1})
	for _, wrong := range []int{1, 2, 19, 20, -1, math.MinInt, math.MaxInt} {
		out = append(out, askNot(wrong))
	}
	return out
}

func badQueries() [][]impl.Query {
	out := [][]impl.Query{
		nil, {}, slices.Repeat(asks(askAll()), 21), slices.Repeat(asks(askHas(appA)), 21), slices.Repeat(asks(askAll()), 22), slices.Repeat(asks(askAll()), 5000), make([]impl.Query, 20), make([]impl.Query, 5000),
		append(slices.Repeat(asks(askAll()), 20), askNot(19)),
		asks(askNot(0)), asks(askBoth(0, 0)), asks(askEither(0, 0)), asks(askNot(-1)), asks(askNot(1), askAll()), asks(askBoth(1, 1), askAll()), asks(askEither(1, 1), askAll()), asks(askAll(), askBoth(0, 2), askAll()), asks(askAll(), askBoth(2, 0), askAll()), asks(askAll(), askNot(2), askAll()),
	}
	for _, x := range badQueryParts() {
		// Wherever it stands, and though the last part does not ask for it.
		out = append(out, asks(x), asks(askAll(), x), asks(askAll(), x, askAll()), asks(askHas(appA), x, askNot(0)))
	}
	for at := range maxQueryParts {
		for _, wrong := range []impl.Query{askNot(at), askNot(at + 1), askNot(-1), askBoth(at, 0), askBoth(0, at), askEither(at, 0), askEither(0, at), askBoth(0, at+1), askEither(at+1, 0), askBoth(-1, 0), askEither(0, -1)} {
			q := slices.Repeat(asks(askAll()), maxQueryParts)
			q[at] = wrong
			out = append(out, q, q[:at+1])
		}
	}
	return out
}

func TestGoodQueryTellsAsSaid(t *testing.T) {
	for _, q := range goodQueries() {
		if !impl.GoodQuery(q) {
			t.Errorf("refused: %v", q)
		}
	}
	for _, q := range badQueries() {
		if impl.GoodQuery(q) {
			t.Errorf("taken: %v", q)
		}
	}
}

func TestQueriesHaveOneToTwentyParts(t *testing.T) {
	for many := range 50 {
		for _, x := range asks(askAll(), askHas(appA)) {
			if impl.GoodQuery(slices.Repeat(asks(x), many)) != (many >= 1 && many <= 20) {
				t.Error(many, "parts of", x)
			}
		}
	}
}

// Each part may name just those ahead of it, at whatever place it stands.
func TestQueriesNamePartsAhead(t *testing.T) {
	for at := range maxQueryParts {
		q := slices.Repeat(asks(askAll()), at+1)
		for a := -2; a <= maxQueryParts+1; a++ {
			q[at] = askNot(a)
			if impl.GoodQuery(q) != (a >= 0 && a < at) {
				t.Errorf("%v at %d", q[at], at)
			}
			for b := -2; b <= maxQueryParts+1; b++ {
				for _, x := range asks(askBoth(a, b), askEither(a, b)) {
					q[at] = x
					if impl.GoodQuery(q) != (a >= 0 && a < at && b >= 0 && b < at) {
						t.Errorf("%v at %d", x, at)
					}
				}
			}
		}
	}
}

// isTold asks for one series alone whether a part tells it, down from that part.
func isTold(l []impl.Label, q []impl.Query, part int) bool {
	x := q[part]
	switch x.Kind {
	case impl.QuHas:
		return hasLabel(l, x.Label)
	case impl.QuAnd:
		return isTold(l, q, x.A) && isTold(l, q, x.B)
	case impl.QuOr:
		return isTold(l, q, x.A) || isTold(l, q, x.B)
	case impl.QuNot:
		return !isTold(l, q, x.A)
	}
	return true
}

func TestEvalQueryTellsAsSaid(t *testing.T) {
	series := [][]impl.Label{nil, {appA}, {hostB}, {appA, hostB}, labels("app", "b")}
	for _, c := range []struct {
		q    []impl.Query
		want []int
	}{
		{asks(askAll()), []int{0, 1, 2, 3, 4}}, {asks(askHas(appA)), []int{1, 3}}, {asks(askHas(hostB)), []int{2, 3}}, {asks(askHas(impl.Label{Name: "none", Value: "none"})), nil},
		{asks(askAll(), askNot(0)), nil}, {asks(askHas(appA), askNot(0)), []int{0, 2, 4}}, {asks(askHas(appA), askNot(0), askNot(1)), []int{1, 3}},
		{asks(askHas(appA), askHas(hostB), askBoth(0, 1)), []int{3}}, {asks(askHas(appA), askHas(hostB), askEither(0, 1)), []int{1, 2, 3}}, {asks(askHas(appA), askHas(hostB), askEither(1, 0)), []int{1, 2, 3}},
		{asks(askHas(appA), askBoth(0, 0)), []int{1, 3}}, {asks(askHas(appA), askEither(0, 0)), []int{1, 3}},
		{asks(askHas(appA), askHas(hostB), askNot(0)), []int{0, 2, 4}}, {asks(askHas(appA), askHas(hostB)), []int{2, 3}}, {asks(askHas(hostB), askNot(0), askHas(appA)), []int{1, 3}},
		{asks(askHas(appA), askHas(hostB), askNot(1), askBoth(0, 2)), []int{1}}, {asks(askHas(appA), askNot(0), askBoth(0, 1)), nil}, {asks(askHas(appA), askNot(0), askEither(0, 1)), []int{0, 1, 2, 3, 4}},
		{asks(askHas(appA), askHas(hostB), askEither(0, 1), askBoth(0, 1), askNot(3), askBoth(2, 4)), []int{1, 2}},
	} {
		if l, ok := impl.EvalQuery(series, c.q); !slices.Equal(l, c.want) || !ok {
			t.Errorf("%v: %v %v", c.q, l, ok)
		}
		if l, ok := impl.EvalQuery(nil, c.q); len(l) != 0 || !ok {
			t.Errorf("%v of no series: %v %v", c.q, l, ok)
		}
	}
	full := sameSeries([]impl.Label{appA}, 60)
	for _, q := range [][]impl.Query{asks(askAll()), asks(askHas(appA)), asks(askAll(), askHas(appA), askEither(0, 1)), asks(askHas(hostB), askNot(0)), asks(askAll(), askBoth(0, 0))} {
		if l, ok := impl.EvalQuery(full, q); !slices.Equal(l, rising(0, 1, 60)) || !ok {
			t.Errorf("%v of sixty: %v %v", q, l, ok)
		}
	}
}

func TestEvalQueryTellsWhatIsAsked(t *testing.T) {
	queries := goodQueries()
	for i, series := range goodSeries() {
		for k := i % 3; k < len(queries); k += 3 {
			q := queries[k]
			var want []int
			for n, l := range series {
				if isTold(l, q, len(q)-1) {
					want = append(want, n)
				}
			}
			if l, ok := impl.EvalQuery(series, q); !slices.Equal(l, want) || !ok {
				t.Fatalf("%v of %v: %v %v, not %v", q, series, l, ok, want)
			}
		}
	}
}

func TestQueryOfOneLabelTellsItsPosts(t *testing.T) {
	for _, series := range goodSeries() {
		for _, x := range append(labels("a", "0", "b", "1", "e", "0"), appA, hostB) {
			want, ok := impl.PostsOf(series, x)
			if l, is := impl.EvalQuery(series, asks(askHas(x))); !slices.Equal(l, want) || !ok || !is {
				t.Fatalf("%v of %v: %v %v", x, series, l, is)
			}
		}
	}
}

func TestEvalQueryRefuses(t *testing.T) {
	for _, series := range badSeries() {
		for _, q := range [][]impl.Query{asks(askAll()), asks(askHas(appA)), asks(askHas(appA), askNot(0)), nil} {
			if l, ok := impl.EvalQuery(series, q); len(l) != 0 || ok {
				t.Errorf("%v of %v: %v %v", q, series, l, ok)
			}
		}
	}
	for _, q := range badQueries() {
		for _, series := range [][][]impl.Label{nil, {nil}, {{appA}, {hostB}}, sameSeries([]impl.Label{appA}, 60), sameSeries(nil, 61)} {
			if l, ok := impl.EvalQuery(series, q); len(l) != 0 || ok {
				t.Errorf("%v: %v %v", q, l, ok)
			}
		}
	}
}

func TestNotQueryTellsAsSaid(t *testing.T) {
	for _, q := range goodQueries() {
		n, ok := impl.NotQuery(q)
		if len(q) == maxQueryParts {
			if len(n) != 0 || ok {
				t.Errorf("%v: %v %v", q, n, ok)
			}
			continue
		}
		if want := append(slices.Clone(q), askNot(len(q)-1)); !slices.Equal(n, want) || !ok || !impl.GoodQuery(n) {
			t.Errorf("%v: %v %v", q, n, ok)
		}
	}
}

func TestNotQueryStopsAtTwenty(t *testing.T) {
	for many := 1; many <= 30; many++ {
		q, ok := impl.NotQuery(slices.Repeat(asks(askHas(appA)), many))
		if good := many < 20; ok != good || ok && (len(q) != many+1 || q[many] != askNot(many-1)) || !ok && len(q) != 0 {
			t.Errorf("%d parts: %v %v", many, q, ok)
		}
	}
	q, turned := asks(askAll()), 0
	for {
		next, ok := impl.NotQuery(q)
		if !ok {
			break
		}
		q = next
		turned++
	}
	if turned != 19 || len(q) != 20 {
		t.Error(turned, q)
	}
}

func TestNotQueryRefuses(t *testing.T) {
	for _, q := range badQueries() {
		if n, ok := impl.NotQuery(q); len(n) != 0 || ok {
			t.Errorf("%v: %v %v", q, n, ok)
		}
	}
}

// Promise 4: what is asked and what is not asked are all together, none twice.
func TestAskedAndNotAskedAreAll(t *testing.T) {
	some, none, every := 0, 0, 0
	for _, q := range goodQueries() {
		n, turned := impl.NotQuery(q)
		if !turned {
			continue
		}
		for _, series := range goodSeries() {
			asked, ok := impl.EvalQuery(series, q)
			other, is := impl.EvalQuery(series, n)
			if !ok || !is || !impl.GoodPosts(asked) || !impl.GoodPosts(other) {
				t.Fatalf("%v of %v: %v %v, not asked %v %v", q, series, asked, ok, other, is)
			}
			together := append(slices.Clone(asked), other...)
			slices.Sort(together)
			if !slices.Equal(together, rising(0, 1, len(series))) {
				t.Fatalf("%v of %v: %v, not asked %v", q, series, asked, other)
			}
			switch {
			case len(asked) == 0:
				none++
			case len(other) == 0:
				every++
			default:
				some++
			}
			met, _ := impl.MeetPosts(asked, other)
			joined, _ := impl.JoinPosts(asked, other)
			left, _ := impl.LessPosts(joined, asked)
			if len(met) != 0 || !slices.Equal(joined, together) || !slices.Equal(left, other) {
				t.Fatalf("%v of %v: met %v, joined %v, left %v", q, series, met, joined, left)
			}
		}
	}
	if some < 1000 || none < 1000 || every < 1000 {
		t.Error("too few of one kind:", some, none, every)
	}
}

// Promise 19: whatever a function of this chapter is given, it answers, and all beside false is zero.
func TestPostsAnswerAtAnyArguments(t *testing.T) {
	ints := append(noNumbers(), 0, 1, 2, -1, 5, 6, 19, 20, 59, 60, 61, 9999, 10000)
	for _, a := range ints {
		for _, b := range ints {
			l := []int{a, b}
			good := a >= 0 && b <= 9999 && a < b
			if impl.GoodPosts(l) != good {
				t.Errorf("GoodPosts(%v)", l)
			}
			for _, way := range []func([]int, []int) ([]int, bool){impl.MeetPosts, impl.JoinPosts, impl.LessPosts} {
				if out, ok := way(l, []int{5}); ok != good || !ok && len(out) != 0 {
					t.Errorf("%v and 5: %v %v", l, out, ok)
				}
				if out, ok := way([]int{5}, l); ok != good || !ok && len(out) != 0 {
					t.Errorf("5 and %v: %v %v", l, out, ok)
				}
			}
			if k, ok := impl.LeapFrom(l, a, b); ok && (!good || k < a || k > 2) || !ok && k != 0 {
				t.Errorf("LeapFrom(%v, %d, %d): %d %v", l, a, b, k, ok)
			}
			if k, ok := impl.LeapFrom([]int{5, 6}, a, b); ok != (a >= 0 && a <= 2) || ok && (k < a || k > 2) || !ok && k != 0 {
				t.Errorf("LeapFrom(.., %d, %d): %d %v", a, b, k, ok)
			}
			for _, kind := range ints {
				for _, x := range []impl.Label{{}, appA, {Name: "a"}} {
					q := []impl.Query{{Kind: impl.QuHas, Label: appA}, {Kind: impl.QuAll}, {Kind: kind, Label: x, A: a, B: b}}
					good := impl.GoodQuery(q)
					if l, ok := impl.EvalQuery([][]impl.Label{nil, {appA}}, q); ok != good || !ok && len(l) != 0 || !impl.GoodPosts(l) {
						t.Errorf("EvalQuery(.., %v): %v %v", q, l, ok)
					}
					if n, ok := impl.NotQuery(q); ok != good || ok && len(n) != 4 || !ok && len(n) != 0 {
						t.Errorf("NotQuery(%v): %v %v", q, n, ok)
					}
				}
			}
		}
	}
	for _, s := range textsOf("a1A=\x80\xff", 3) {
		for _, x := range labels(s, "1", "a", s, s, s) {
			good := impl.GoodLabels([]impl.Label{x})
			l, ok := impl.PostsOf([][]impl.Label{nil, {x}}, x)
			if ok != good || ok && !slices.Equal(l, []int{1}) || !ok && len(l) != 0 {
				t.Fatalf("PostsOf(.., %q): %v %v", x, l, ok)
			}
			if impl.GoodQuery(asks(askHas(x))) != good {
				t.Fatalf("GoodQuery of %q", x)
			}
		}
	}
}

func cloneSeries(series [][]impl.Label) [][]impl.Label {
	var out [][]impl.Label
	for _, l := range series {
		out = append(out, slices.Clone(l))
	}
	return out
}

// Promise 19: nothing is written into an argument, nor into what lies behind it in its memory.
func TestPostsWriteIntoNoArgument(t *testing.T) {
	a, b := []int{1, 3, 5, 7, 4, -1, 0, 0}, []int{2, 3, 9, 12, 1, 10000, 0, 0}
	whole := []impl.Label{appA, hostB, {}, {Name: "x", Value: "y"}}
	series := [][]impl.Label{whole[:1], whole[:2], nil, whole, whole[:3]}
	q := asks(askHas(appA), askHas(hostB), askBoth(0, 1), impl.Query{Kind: 99}, askNot(-1), askAll())
	wasA, wasB, wasWhole, wasSeries, wasQ := slices.Clone(a), slices.Clone(b), slices.Clone(whole), cloneSeries(series), slices.Clone(q)
	if l, ok := impl.MeetPosts(a[:4], b[:4]); !slices.Equal(l, []int{3}) || !ok || !impl.GoodPosts(a[:4]) {
		t.Error(l, ok)
	}
	if l, ok := impl.JoinPosts(a[:4], b[:4]); !slices.Equal(l, []int{1, 2, 3, 5, 7, 9, 12}) || !ok {
		t.Error(l, ok)
	}
	if l, ok := impl.LessPosts(a[:4], b[:4]); !slices.Equal(l, []int{1, 5, 7}) || !ok {
		t.Error(l, ok)
	}
	if k, ok := impl.LeapFrom(a[:3], 0, 6); k != 3 || !ok {
		t.Error(k, ok)
	}
	if l, ok := impl.PostsOf(series[:3], hostB); !slices.Equal(l, []int{1}) || !ok {
		t.Error(l, ok)
	}
	if l, ok := impl.EvalQuery(series[:3], q[:3]); !slices.Equal(l, []int{1}) || !ok || !impl.GoodQuery(q[:3]) {
		t.Error(l, ok)
	}
	if n, ok := impl.NotQuery(q[:3]); !slices.Equal(n, append(slices.Clone(wasQ[:3]), askNot(2))) || !ok {
		t.Error(n, ok)
	}
	for _, empty := range [][]int{a[:0], b[:0]} {
		impl.JoinPosts(empty, b[:4])
		impl.JoinPosts(a[:4], empty)
		impl.LessPosts(a[:4], empty)
		impl.MeetPosts(empty, b[:4])
	}
	impl.GoodPosts(a)
	impl.MeetPosts(a, b)
	impl.JoinPosts(b, a)
	impl.LessPosts(a, b[:2])
	impl.LeapFrom(a, 0, 5)
	impl.PostsOf(series, appA)
	impl.PostsOf(series[:3], impl.Label{})
	impl.EvalQuery(series, q)
	impl.EvalQuery(series[:3], q)
	impl.EvalQuery(series[:3], q[:0])
	impl.GoodQuery(q)
	impl.NotQuery(q)
	impl.NotQuery(q[:0])
	if !slices.Equal(a, wasA) || !slices.Equal(b, wasB) || !slices.Equal(q, wasQ) || !slices.Equal(whole, wasWhole) {
		t.Error("written into:", a, b, q, whole)
	}
	for i := range series {
		if !slices.Equal(series[i], wasSeries[i]) {
			t.Error("written into:", series)
		}
	}
}

// spoil writes over a list, all of its memory.
func spoil[T any](l []T, x T) {
	l = l[:cap(l)]
	for i := range l {
		l[i] = x
	}
}

func TestPostsAnswerWithNewMemory(t *testing.T) {
	a, b := append(make([]int, 0, 20), 1, 3, 5), append(make([]int, 0, 20), 3, 4)
	for _, pair := range [][2][]int{{a, b}, {b, a}, {a, nil}, {nil, a}, {a, a}, {a, a[:0]}, {a[:0], a}, {nil, b}, {b, nil}} {
		for _, way := range []func([]int, []int) ([]int, bool){impl.MeetPosts, impl.JoinPosts, impl.LessPosts} {
			l, ok := way(pair[0], pair[1])
			if !ok {
				t.Error(pair, l)
			}
			spoil(l, 77)
		}
	}
	if !slices.Equal(a, []int{1, 3, 5}) || !slices.Equal(b, []int{3, 4}) || !slices.Equal(a[3:20], make([]int, 17)) || !slices.Equal(b[2:20], make([]int, 18)) {
		t.Error(a[:20], b[:20])
	}
	series := [][]impl.Label{{appA}, nil, {appA, hostB}}
	queries := [][]impl.Query{asks(askAll()), asks(askHas(appA)), asks(askAll(), askNot(0)), asks(askHas(appA), askAll(), askBoth(0, 1)), asks(askHas(appA), askAll(), askEither(0, 1)), append(make([]impl.Query, 0, 10), askHas(appA))}
	for _, q := range queries {
		was := slices.Clone(q)
		first, _ := impl.EvalQuery(series, q)
		kept := slices.Clone(first)
		spoil(first, 77)
		if again, ok := impl.EvalQuery(series, q); !slices.Equal(again, kept) || !ok {
			t.Error(q, again)
		}
		n, _ := impl.NotQuery(q)
		spoil(n, impl.Query{Kind: 77})
		if !slices.Equal(q, was) || cap(q) == 10 && q[:2][1] != (impl.Query{}) {
			t.Error("written into:", q)
		}
	}
	posts, _ := impl.PostsOf(series, appA)
	spoil(posts, 77)
	if again, ok := impl.PostsOf(series, appA); !slices.Equal(again, []int{0, 2}) || !ok {
		t.Error(again, ok)
	}
}
