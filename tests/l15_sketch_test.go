package tests

import (
	"fmt"
	"math"
	"math/big"
	"math/rand"
	"slices"
	"strconv"
	"strings"
	"testing"

	"loop.example/g00522/impl"
)

// rowAt is a row of a sketch, told as a place and its number, one behind the other; all else is 0.
func rowAt(l ...int) []int {
	out := make([]int, 11)
	for i := 0; i+1 < len(l); i += 2 {
		out[l[i]] = l[i+1]
	}
	return out
}

func sumOf(l []int) int {
	sum := 0
	for _, n := range l {
		sum += n
	}
	return sum
}

// sketchOf has the sum of its first row as its Total, whatever its other rows come to.
func sketchOf(rows ...[]int) impl.Sketch {
	out := impl.Sketch{Rows: rows}
	if len(rows) > 0 {
		out.Total = sumOf(rows[0])
	}
	return out
}

func emptySketch(rows int) impl.Sketch {
	var out impl.Sketch
	for range rows {
		out.Rows = append(out.Rows, make([]int, 11))
	}
	return out
}

// sketchAt has in each of so many rows a number at the name's place, and nothing else.
func sketchAt(rows int, name string, n int) impl.Sketch {
	out := emptySketch(rows)
	for row := range out.Rows {
		out.Rows[row][plainPlace(row, name)] = n
	}
	out.Total = n
	return out
}

// heavyOf has so many places, of which the first ones are told as names and Counts; its Total is what it has to be.
func heavyOf(places int, gone int, told string) impl.Heavy {
	out := impl.Heavy{Names: make([]string, places), Counts: make([]int, places), Gone: gone}
	words := strings.Fields(told)
	for i := 0; i+1 < len(words); i += 2 {
		n, err := strconv.Atoi(words[i+1])
		if err != nil {
			panic(err)
		}
		out.Names[i/2], out.Counts[i/2] = words[i], n
	}
	out.Total = sumOf(out.Counts) + gone*(places+1)
	return out
}

func cloneSketch(s impl.Sketch) impl.Sketch {
	out := impl.Sketch{Total: s.Total}
	for _, row := range s.Rows {
		out.Rows = append(out.Rows, slices.Clone(row))
	}
	return out
}

func cloneHeavy(h impl.Heavy) impl.Heavy {
	h.Names, h.Counts = slices.Clone(h.Names), slices.Clone(h.Counts)
	return h
}

func alteredSketch(s impl.Sketch, change func(*impl.Sketch)) impl.Sketch {
	out := cloneSketch(s)
	change(&out)
	return out
}

func alteredHeavy(h impl.Heavy, change func(*impl.Heavy)) impl.Heavy {
	out := cloneHeavy(h)
	change(&out)
	return out
}

func sameSketch(a impl.Sketch, b impl.Sketch) bool {
	return a.Total == b.Total && slices.EqualFunc(a.Rows, b.Rows, slices.Equal)
}

func sameHeavy(a impl.Heavy, b impl.Heavy) bool {
	return slices.Equal(a.Names, b.Names) && slices.Equal(a.Counts, b.Counts) && a.Gone == b.Gone && a.Total == b.Total
}

func isZeroSketch(s impl.Sketch) bool { return sameSketch(s, impl.Sketch{}) }
func isZeroHeavy(h impl.Heavy) bool   { return sameHeavy(h, impl.Heavy{}) }

// plainPlace goes up with whole numbers, however great, and takes what is left of them in the end alone.
func plainPlace(row int, name string) int {
	h, factor := big.NewInt(int64(row+3)), big.NewInt(int64(2*row+29))
	for _, c := range []byte(name) {
		h.Add(h.Mul(h, factor), big.NewInt(int64(c)))
	}
	return int(h.Mod(h, big.NewInt(10007)).Int64()) % 11
}

func plainGoodSketch(s impl.Sketch) bool {
	if !among(len(s.Rows), 1, 3) {
		return false
	}
	for _, row := range s.Rows {
		if len(row) != 11 || slices.Min(row) < 0 || slices.Max(row) > 100000 || sumOf(row) != s.Total {
			return false
		}
	}
	return true
}

// plainGoodSketchOnly tells a sketch where it is a good one.
func plainGoodSketchOnly(s impl.Sketch) (impl.Sketch, bool) {
	if !plainGoodSketch(s) {
		return impl.Sketch{}, false
	}
	return s, true
}

func plainAddSketch(s impl.Sketch, name string, many int) (impl.Sketch, bool) {
	if !plainGoodSketch(s) || !plainName.MatchString(name) || !among(many, 1, 1000) {
		return impl.Sketch{}, false
	}
	return plainJoinSketches(s, sketchAt(len(s.Rows), name, many))
}

func plainJoinSketches(a impl.Sketch, b impl.Sketch) (impl.Sketch, bool) {
	if !plainGoodSketch(a) || !plainGoodSketch(b) || len(a.Rows) != len(b.Rows) {
		return impl.Sketch{}, false
	}
	out := emptySketch(len(a.Rows))
	for row := range out.Rows {
		for i := range 11 {
			out.Rows[row][i] = a.Rows[row][i] + b.Rows[row][i]
		}
	}
	out.Total = a.Total + b.Total
	return plainGoodSketchOnly(out)
}

func plainGuess(s impl.Sketch, name string) (int, bool) {
	if !plainGoodSketch(s) || !plainName.MatchString(name) {
		return 0, false
	}
	var all []int
	for row, l := range s.Rows {
		all = append(all, l[plainPlace(row, name)])
	}
	return slices.Min(all), true
}

func plainGoodHeavy(h impl.Heavy) bool {
	places := len(h.Names)
	if !among(places, 1, 6) || len(h.Counts) != places || !among(h.Gone, 0, 100000) || !among(h.Total, 0, 1000000) {
		return false
	}
	for i, name := range h.Names {
		if name == "" {
			if h.Counts[i] != 0 {
				return false
			}
			continue
		}
		if !plainName.MatchString(name) || !among(h.Counts[i], 1, 100000) {
			return false
		}
		// One ahead may be neither empty nor as great.
		if slices.ContainsFunc(h.Names[:i], func(s string) bool { return s == "" || s >= name }) {
			return false
		}
	}
	return h.Total == sumOf(h.Counts)+h.Gone*(places+1)
}

// plainCounts knows a Heavy by its names alone: who has no place has no count.
func plainCounts(h impl.Heavy) map[string]int {
	out := map[string]int{}
	for i, name := range h.Names {
		if name != "" {
			out[name] = h.Counts[i]
		}
	}
	return out
}

// plainLaidOut gives the names their places.
func plainLaidOut(places int, counts map[string]int, gone int, total int) impl.Heavy {
	out := impl.Heavy{Gone: gone, Total: total}
	for name := range counts {
		out.Names = append(out.Names, name)
	}
	slices.Sort(out.Names)
	for _, name := range out.Names {
		out.Counts = append(out.Counts, counts[name])
	}
	for len(out.Names) < places {
		out.Names, out.Counts = append(out.Names, ""), append(out.Counts, 0)
	}
	return out
}

func plainAddHeavy(h impl.Heavy, name string) (impl.Heavy, bool) {
	if !plainGoodHeavy(h) || !plainName.MatchString(name) {
		return impl.Heavy{}, false
	}
	counts, gone := plainCounts(h), h.Gone
	if counts[name] > 0 || len(counts) < len(h.Names) {
		counts[name]++
	} else {
		gone++
		for other, n := range plainCounts(h) {
			if counts[other] = n - 1; n == 1 {
				delete(counts, other)
			}
		}
	}
	out := plainLaidOut(len(h.Names), counts, gone, h.Total+1)
	if !plainGoodHeavy(out) {
		return impl.Heavy{}, false
	}
	return out, true
}

func plainLeast(h impl.Heavy, name string) (int, int, bool) {
	if !plainGoodHeavy(h) || !plainName.MatchString(name) {
		return 0, 0, false
	}
	n := plainCounts(h)[name]
	return n, n + h.Gone, true
}

func plainFeed(places int, l []string) (impl.Heavy, bool) {
	if !among(places, 1, 6) || len(l) > 200 {
		return impl.Heavy{}, false
	}
	out, ok := heavyOf(places, 0, ""), true
	for _, name := range l {
		if out, ok = plainAddHeavy(out, name); !ok {
			return impl.Heavy{}, false
		}
	}
	return out, true
}

func checkAddSketch(t *testing.T, s impl.Sketch, name string, many int) (impl.Sketch, bool) {
	t.Helper()
	want, is := plainAddSketch(s, name, many)
	got, ok := impl.AddSketch(s, name, many)
	if !sameSketch(got, want) || ok != is {
		t.Fatalf("AddSketch(%v, %q, %d): %v %v, not %v %v", s, name, many, got, ok, want, is)
	}
	return got, ok
}

func checkGuess(t *testing.T, s impl.Sketch, name string) (int, bool) {
	t.Helper()
	want, is := plainGuess(s, name)
	got, ok := impl.GuessOf(s, name)
	if got != want || ok != is {
		t.Fatalf("GuessOf(%v, %q): %d %v, not %d %v", s, name, got, ok, want, is)
	}
	return got, ok
}

func checkJoinSketches(t *testing.T, a impl.Sketch, b impl.Sketch) (impl.Sketch, bool) {
	t.Helper()
	want, is := plainJoinSketches(a, b)
	got, ok := impl.JoinSketches(a, b)
	if !sameSketch(got, want) || ok != is {
		t.Fatalf("JoinSketches(%v, %v): %v %v, not %v %v", a, b, got, ok, want, is)
	}
	return got, ok
}

func checkAddHeavy(t *testing.T, h impl.Heavy, name string) (impl.Heavy, bool) {
	t.Helper()
	want, is := plainAddHeavy(h, name)
	got, ok := impl.AddHeavy(h, name)
	if !sameHeavy(got, want) || ok != is {
		t.Fatalf("AddHeavy(%+v, %q): %+v %v, not %+v %v", h, name, got, ok, want, is)
	}
	return got, ok
}

func checkLeast(t *testing.T, h impl.Heavy, name string) (int, int, bool) {
	t.Helper()
	least, most, is := plainLeast(h, name)
	a, b, ok := impl.LeastOf(h, name)
	if a != least || b != most || ok != is {
		t.Fatalf("LeastOf(%+v, %q): %d %d %v, not %d %d %v", h, name, a, b, ok, least, most, is)
	}
	return a, b, ok
}

func checkFeed(t *testing.T, places int, l []string) (impl.Heavy, bool) {
	t.Helper()
	want, is := plainFeed(places, l)
	got, ok := impl.FeedHeavy(places, l)
	if !sameHeavy(got, want) || ok != is {
		t.Fatalf("FeedHeavy(%d, %q): %+v %v, not %+v %v", places, l, got, ok, want, is)
	}
	return got, ok
}

// spread is a row that has so many in all, which is at most what a row can have.
func spread(r *rand.Rand, total int) []int {
	out := make([]int, 11)
	order, left := r.Perm(11), total
	for k, i := range order {
		behind := (10 - k) * 100000
		least, most := max(0, left-behind), min(100000, left)
		out[i] = []int{least, most, least + r.Intn(most-least+1)}[r.Intn(3)]
		left -= out[i]
	}
	return out
}

func anySketch(r *rand.Rand, rows int) impl.Sketch {
	total := []int{0, 1, r.Intn(100), 100000, r.Intn(1100001), 1099999, 1100000}[r.Intn(7)]
	var out impl.Sketch
	for range rows {
		out.Rows = append(out.Rows, spread(r, total))
	}
	out.Total = total
	return out
}

// anySketchName has few letters, more often than not, so that names come again, and meet.
func anySketchName(r *rand.Rand) string {
	return anyWord(r, []string{"a", "ab", "abc", "abcdefghijklmnopqrstuvwxyz"}[r.Intn(4)])
}

func anyHeavy(r *rand.Rand) impl.Heavy {
	places := 1 + r.Intn(6)
	counts := map[string]int{}
	for range r.Intn(places + 1) {
		counts[anySketchName(r)] = []int{1, 1, 1, 2, 1 + r.Intn(9), 99999, 100000, 1 + r.Intn(100000)}[r.Intn(8)]
	}
	gone := []int{0, 0, 1, r.Intn(100), 99999, 100000, r.Intn(100001)}[r.Intn(7)]
	out := plainLaidOut(places, counts, gone, 0)
	out.Total = sumOf(out.Counts) + gone*(places+1)
	if !plainGoodHeavy(out) {
		return anyHeavy(r)
	}
	return out
}

func goodSketches() []impl.Sketch {
	full, most := slices.Repeat([]int{100000}, 11), slices.Repeat([]int{100000}, 10)
	out := []impl.Sketch{
		emptySketch(1), emptySketch(2), emptySketch(3), sketchOf(rowAt(0, 1)), sketchOf(rowAt(10, 1)), sketchOf(rowAt(5, 100000)), sketchOf(rising(0, 1, 11)), sketchOf(rising(99990, 1, 11)),
		sketchOf(rowAt(0, 3), rowAt(10, 3)), sketchOf(rowAt(0, 3), rowAt(1, 1, 2, 1, 3, 1), rowAt(10, 2, 4, 1)), sketchOf(rowAt(8, 100000), rowAt(1, 100000), rowAt(9, 100000)), sketchOf(rowAt(0, 100000, 1, 1), rowAt(0, 1, 1, 100000)),
		sketchOf(full), sketchOf(full, full), sketchOf(full, full, full), sketchOf(append(slices.Clone(most), 0), append([]int{0}, most...)), sketchOf(append(slices.Clone(most), 99999)),
	}
	r := rand.New(rand.NewSource(151))
	for range 100 {
		out = append(out, anySketch(r, 1+r.Intn(3)))
	}
	return out
}

func badSketches() []impl.Sketch {
	three := sketchOf(rowAt(0, 3), rowAt(1, 1, 2, 2), rowAt(10, 3))
	out := []impl.Sketch{
		{}, {Rows: [][]int{}}, {Total: 5}, emptySketch(4), emptySketch(5), emptySketch(100), {Rows: make([][]int, 1)}, {Rows: make([][]int, 3)}, {Rows: [][]int{{}, {}, {}}}, {Rows: [][]int{rowAt(), nil}}, {Rows: [][]int{nil, rowAt()}}, {Rows: [][]int{rowAt(), rowAt(), rowAt(), nil}},
		sketchOf(rowAt(0, 3), rowAt(0, 3), rowAt(0, 3), rowAt(0, 3)), sketchOf(rowAt(0, -1)), sketchOf(rowAt(0, -1, 1, 1)), sketchOf(rowAt(0, 100001)), sketchOf(rowAt(0, 200000)), sketchOf(rowAt(0, math.MaxInt)), sketchOf(rowAt(0, math.MinInt)), sketchOf(rowAt(0, math.MaxInt, 1, math.MaxInt, 2, 2)), sketchOf(rowAt(0, math.MinInt, 1, math.MinInt)),
		sketchOf(rowAt(0, 1), rowAt()), sketchOf(rowAt(), rowAt(0, 1)), sketchOf(rowAt(0, 3), rowAt(0, 2)), sketchOf(rowAt(0, 3), rowAt(0, 3), rowAt(0, 4)), {Rows: [][]int{rowAt(0, 3), rowAt(0, 4)}, Total: 4},
	}
	for _, long := range []int{0, 1, 10, 12, 13, 22, 1000} {
		for row := range 3 {
			out = append(out, alteredSketch(emptySketch(3), func(q *impl.Sketch) { q.Rows[row] = make([]int, long) }))
			out = append(out, alteredSketch(three, func(q *impl.Sketch) { q.Rows[row] = append(slices.Clone(q.Rows[row]), 0, 0)[:max(long, 1)%14] }))
		}
		out = append(out, sketchOf(make([]int, long)), sketchOf(make([]int, long), make([]int, long)))
	}
	for row := range 3 {
		for i := range 11 {
			for _, n := range []int{-1, 100001, math.MaxInt, math.MinInt} {
				// The row's sum is Total all the same.
				out = append(out, alteredSketch(sketchOf(repeated(100, 11), repeated(100, 11), repeated(100, 11)), func(q *impl.Sketch) {
					q.Rows[row][i], q.Rows[row][(i+1)%11] = n, 200-n
				}))
			}
		}
	}
	for _, n := range append(noNumbers(), -1, -3, 0, 1, 2, 4, 6, 9) {
		out = append(out, alteredSketch(three, func(q *impl.Sketch) { q.Total = n }))
	}
	return out
}

func goodHeavies() []impl.Heavy {
	out := []impl.Heavy{
		heavyOf(1, 0, ""), heavyOf(2, 0, ""), heavyOf(6, 0, ""), heavyOf(1, 1, ""), heavyOf(6, 100000, ""), heavyOf(1, 100000, ""), heavyOf(1, 0, "a 1"), heavyOf(1, 0, "zzzzzzzz 100000"), heavyOf(1, 100000, "a 100000"), heavyOf(2, 1, "a 2"), heavyOf(2, 0, "a 2 b 1"), heavyOf(2, 3, "a 1 aa 1"),
		heavyOf(3, 0, "a 1 b 1"), heavyOf(3, 0, "a 1 b 1 c 1"), heavyOf(3, 5, "aa 3 ab 2 b 9"), heavyOf(6, 2, "a 1 b 2 c 3 d 4 e 5 f 6"), heavyOf(6, 2, "a 1 b 2 c 3 d 4 e 5"), heavyOf(6, 0, "a 100000 b 100000 c 100000 d 100000 e 100000 f 100000"),
		// As much as there may be in all: 1000000, and one less.
		heavyOf(6, 100000, "a 100000 b 100000 c 100000"), heavyOf(6, 100000, "a 100000 b 100000 c 99999"), heavyOf(6, 100000, "a 50000 b 50000 c 50000 d 50000 e 50000 f 50000"), heavyOf(6, 99999, "a 50001 b 50001 c 50001 d 50001 e 50001 f 50001"), heavyOf(5, 100000, "a 100000 b 100000 c 100000 d 100000"), heavyOf(5, 100000, "a 100000 b 100000 c 100000 d 99998 e 1"),
	}
	r := rand.New(rand.NewSource(152))
	for range 200 {
		out = append(out, anyHeavy(r))
	}
	return out
}

func badHeavies() []impl.Heavy {
	three := heavyOf(3, 2, "a 5 b 3 c 1")
	// withTotal mends the Total, so that nothing but what was changed is bad.
	withTotal := func(h impl.Heavy, change func(*impl.Heavy)) impl.Heavy {
		return alteredHeavy(h, func(q *impl.Heavy) {
			change(q)
			q.Total = sumOf(q.Counts) + q.Gone*(len(q.Names)+1)
		})
	}
	out := []impl.Heavy{
		{}, {Names: []string{}, Counts: []int{}}, {Gone: 1, Total: 1}, {Total: 1}, {Counts: []int{0}}, {Names: []string{""}}, {Names: []string{"a"}}, {Names: []string{"a"}, Total: 1}, {Names: make([]string, 6)}, {Counts: make([]int, 6)},
		heavyOf(7, 0, ""), heavyOf(7, 0, "a 1"), heavyOf(7, 0, "a 1 b 1 c 1 d 1 e 1 f 1 g 1"), heavyOf(8, 1, "a 1"), heavyOf(100, 0, ""),
		heavyOf(2, 0, "b 1 a 1"), heavyOf(2, 0, "a 1 a 1"), heavyOf(2, 0, "aa 1 a 1"), heavyOf(3, 0, "a 1 b 1 b 1"), heavyOf(3, 0, "a 1 c 1 b 1"), heavyOf(3, 0, "b 1 c 1 a 1"), heavyOf(3, 0, "a 1 b 1 a 1"), heavyOf(3, 0, "b 1 a 1"),
		heavyOf(1, 0, "a 0"), heavyOf(2, 0, "a 0"), heavyOf(2, 0, "a 1 b 0"), heavyOf(2, 0, "a 0 b 1"), heavyOf(1, 0, "a 100001"), heavyOf(3, 0, "a 1 b 100001 c 1"), heavyOf(1, 0, "a -1"), heavyOf(1, 1, "a -1"), heavyOf(2, 0, "a 1 b -1"), heavyOf(2, 0, "a 2 b -1"), heavyOf(1, -1, ""), heavyOf(1, -1, "a 2"), heavyOf(1, -1, "a 3"), heavyOf(1, 100001, ""), heavyOf(3, 100001, "a 1"), heavyOf(6, 100001, ""),
		heavyOf(6, 100000, "a 100000 b 100000 c 100000 d 1"), heavyOf(6, 100000, "a 100000 b 100000 c 100000 d 100000 e 100000 f 100000"), heavyOf(5, 100000, "a 100000 b 100000 c 100000 d 100000 e 1"), heavyOf(6, 99999, "a 50001 b 50001 c 50001 d 50001 e 50001 f 50003"),
	}
	for _, bad := range [][]string{{"", "a", "b"}, {"a", "", "b"}, {"", "", "a"}, {"", "a", ""}, {"a", "b", "", "c"}, {"", "b", "c", "d", "e", "f"}, {"a", "b", "c", "d", "", "f"}} {
		h := heavyOf(len(bad), 1, "")
		h.Names = bad
		for _, counts := range [][]int{{1, 1, 1, 1, 1, 1}, {0, 0, 0, 0, 0, 0}} {
			out = append(out, withTotal(h, func(q *impl.Heavy) { q.Counts = slices.Clone(counts[:len(bad)]) }))
		}
		out = append(out, withTotal(h, func(q *impl.Heavy) {
			for i, name := range bad {
				q.Counts[i] = min(len(name), 1)
			}
		}))
	}
	for _, n := range []int{1, 2, 100000, 100001, -1, math.MaxInt, math.MinInt} {
		out = append(out, withTotal(heavyOf(1, 0, ""), func(q *impl.Heavy) { q.Counts[0] = n }), withTotal(heavyOf(3, 1, "a 1"), func(q *impl.Heavy) { q.Counts[1] = n }), withTotal(heavyOf(3, 1, "a 1 b 1"), func(q *impl.Heavy) { q.Counts[2] = n }), withTotal(heavyOf(3, 1, "a 1"), func(q *impl.Heavy) { q.Counts[1], q.Counts[2] = n, -n }))
	}
	for _, name := range badNames() {
		if name != "" {
			out = append(out, withTotal(heavyOf(1, 0, "a 3"), func(q *impl.Heavy) { q.Names[0] = name }), withTotal(heavyOf(3, 1, "z 3"), func(q *impl.Heavy) { q.Names, q.Counts = []string{"a", name, ""}, []int{1, 1, 0} }), withTotal(three, func(q *impl.Heavy) { q.Names[2] = name }), withTotal(three, func(q *impl.Heavy) { q.Names[0] = name }))
		}
	}
	for _, h := range []impl.Heavy{three, heavyOf(1, 0, ""), heavyOf(3, 1, "a 2"), heavyOf(6, 0, "a 1 b 1 c 1 d 1 e 1 f 1")} {
		// As many Counts as Names there must be, even where what is too much or too few is 0.
		out = append(out, alteredHeavy(h, func(q *impl.Heavy) { q.Counts = append(q.Counts, 0) }), alteredHeavy(h, func(q *impl.Heavy) { q.Counts = nil }), alteredHeavy(h, func(q *impl.Heavy) { q.Counts = append(q.Counts, 0, 0, 0) }), withTotal(h, func(q *impl.Heavy) { q.Counts = append(q.Counts, 1) }), withTotal(h, func(q *impl.Heavy) { q.Counts = q.Counts[:len(q.Counts)-1] }), alteredHeavy(h, func(q *impl.Heavy) { q.Counts = q.Counts[:len(q.Counts)-1] }))
		for _, more := range append(noNumbers(), -100, -2, -1, 1, 2, 3, 100) {
			out = append(out, alteredHeavy(h, func(q *impl.Heavy) { q.Total += more }))
		}
		// Gone times places alone, Gone alone, or Counts alone.
		if h.Gone > 0 {
			out = append(out, alteredHeavy(h, func(q *impl.Heavy) { q.Total -= q.Gone }), alteredHeavy(h, func(q *impl.Heavy) { q.Total = sumOf(q.Counts) + q.Gone }), alteredHeavy(h, func(q *impl.Heavy) { q.Total = sumOf(q.Counts) }))
		}
	}
	for _, n := range append(noNumbers(), -100000, -2, -1, 100001, 100002, 1<<61, 1<<62, 1<<63-1) {
		out = append(out, withTotal(heavyOf(1, 0, ""), func(q *impl.Heavy) { q.Gone = n }), withTotal(heavyOf(3, 0, "a 4"), func(q *impl.Heavy) { q.Gone = n }), alteredHeavy(heavyOf(3, 0, "a 4"), func(q *impl.Heavy) { q.Gone = n }))
	}
	return out
}

func TestSketchesHaveTheirSizes(t *testing.T) {
	if impl.MinWidth != 11 || impl.MinRows != 3 || impl.MaxHeavy != 6 {
		t.Error(impl.MinWidth, impl.MinRows, impl.MaxHeavy)
	}
}

func TestPlaceInTellsAsSaid(t *testing.T) {
	for _, c := range []struct {
		name string
		want [3]int
	}{
		{"a", [3]int{8, 1, 9}}, {"b", [3]int{9, 2, 10}}, {"z", [3]int{0, 4, 1}}, {"ab", [3]int{0, 8, 10}}, {"ba", [3]int{6, 5, 9}}, {"cpu", [3]int{6, 1, 6}}, {"host", [3]int{5, 1, 3}},
		{"abcdefgh", [3]int{9, 3, 7}}, {"zzzzzzzz", [3]int{10, 0, 1}}, {"aaaaaaaa", [3]int{5, 5, 8}}, {"aaaaaaab", [3]int{6, 6, 9}},
	} {
		for row, want := range c.want {
			if got, ok := impl.PlaceIn(row, c.name); got != want || !ok {
				t.Errorf("PlaceIn(%d, %q): %d %v, not %d", row, c.name, got, ok, want)
			}
		}
	}
	names := append(goodNames(), textsOf("az", 8)[1:]...)
	names = append(names, textsOf("abcdefghijklmnopqrstuvwxyz", 2)[1:]...)
	r := rand.New(rand.NewSource(153))
	for range 2000 {
		names = append(names, anyWord(r, "abcdefghijklmnopqrstuvwxyz"))
	}
	for row := range 3 {
		var met [11]int
		for _, name := range names {
			got, ok := impl.PlaceIn(row, name)
			if got != plainPlace(row, name) || !ok {
				t.Fatalf("PlaceIn(%d, %q): %d %v, not %d", row, name, got, ok, plainPlace(row, name))
			}
			met[got]++
		}
		if slices.Min(met[:]) < 100 {
			t.Error("too few:", row, met)
		}
	}
}

func TestPlaceInRefuses(t *testing.T) {
	for _, name := range append(goodNames(), badNames()...) {
		for _, row := range append(noNumbers(), -3, -2, -1, 3, 4, 5, 11) {
			if got, ok := impl.PlaceIn(row, name); got != 0 || ok {
				t.Errorf("PlaceIn(%d, %q): %d %v", row, name, got, ok)
			}
		}
	}
	for _, name := range badNames() {
		for row := range 3 {
			if got, ok := impl.PlaceIn(row, name); got != 0 || ok {
				t.Errorf("PlaceIn(%d, %q): %d %v", row, name, got, ok)
			}
		}
	}
}

func TestNewSketchTellsAsSaid(t *testing.T) {
	for rows := 1; rows <= 3; rows++ {
		got, ok := impl.NewSketch(rows)
		if !sameSketch(got, emptySketch(rows)) || !ok || !impl.GoodSketch(got) {
			t.Errorf("NewSketch(%d): %v %v", rows, got, ok)
		}
	}
	for _, rows := range append(noNumbers(), -100, -2, -1, 0, 4, 5, 6, 11) {
		if got, ok := impl.NewSketch(rows); !isZeroSketch(got) || ok {
			t.Errorf("NewSketch(%d): %v %v", rows, got, ok)
		}
	}
}

func TestGoodSketchTellsAsSaid(t *testing.T) {
	for _, s := range goodSketches() {
		if !impl.GoodSketch(s) || !plainGoodSketch(s) {
			t.Errorf("refused: %v", s)
		}
	}
	for _, s := range badSketches() {
		if impl.GoodSketch(s) || plainGoodSketch(s) {
			t.Errorf("taken: %v", s)
		}
	}
	for rows := range 12 {
		if is := among(rows, 1, 3); impl.GoodSketch(emptySketch(rows)) != is {
			t.Errorf("%d rows: not %v", rows, is)
		}
		for long := range 25 {
			s := impl.Sketch{}
			for range rows {
				s.Rows = append(s.Rows, repeated(0, long))
			}
			if is := among(rows, 1, 3) && long == 11; impl.GoodSketch(s) != is {
				t.Errorf("%d rows of %d: not %v", rows, long, is)
			}
		}
	}
}

// At each place of each row a number has its limits, where the rows' sums are Total and where they are not.
func TestNumbersOfSketchesHaveTheirLimits(t *testing.T) {
	for _, n := range append(noNumbers(), -100000, -2, -1, 0, 1, 99999, 100000, 100001, 100002) {
		for rows := 1; rows <= 3; rows++ {
			for row := range rows {
				for i := range 11 {
					s := emptySketch(rows)
					for k := range s.Rows {
						s.Rows[k][(i+k+row)%11] = n
					}
					s.Total = n
					if is := among(n, 0, 100000); impl.GoodSketch(s) != is || plainGoodSketch(s) != is {
						t.Errorf("%v: not %v", s, is)
					}
					s.Rows[row][(i+5)%11]++
					if impl.GoodSketch(s) {
						t.Errorf("taken: %v", s)
					}
				}
			}
		}
	}
}

func TestAddSketchTellsAsSaid(t *testing.T) {
	for _, c := range []struct {
		s    impl.Sketch
		name string
		many int
		want impl.Sketch
	}{
		{emptySketch(1), "a", 1, sketchOf(rowAt(8, 1))}, {emptySketch(2), "a", 1, sketchOf(rowAt(8, 1), rowAt(1, 1))}, {emptySketch(3), "a", 1, sketchOf(rowAt(8, 1), rowAt(1, 1), rowAt(9, 1))}, {emptySketch(3), "cpu", 1000, sketchOf(rowAt(6, 1000), rowAt(1, 1000), rowAt(6, 1000))},
		{sketchOf(rowAt(8, 1), rowAt(1, 1), rowAt(9, 1)), "a", 2, sketchOf(rowAt(8, 3), rowAt(1, 3), rowAt(9, 3))},
		// They meet in one row alone, or in all.
		{sketchOf(rowAt(8, 1), rowAt(1, 1), rowAt(9, 1)), "cpu", 5, sketchOf(rowAt(8, 1, 6, 5), rowAt(1, 6), rowAt(9, 1, 6, 5))}, {sketchOf(rowAt(8, 1), rowAt(1, 1), rowAt(9, 1)), "l", 4, sketchOf(rowAt(8, 5), rowAt(1, 5), rowAt(9, 5))}, {sketchOf(rowAt(8, 1), rowAt(1, 1), rowAt(9, 1)), "z", 4, sketchOf(rowAt(8, 1, 0, 4), rowAt(1, 1, 4, 4), rowAt(9, 1, 1, 4))},
		{sketchOf(rowAt(0, 7), rowAt(5, 7)), "zzzzzzzz", 3, sketchOf(rowAt(0, 7, 10, 3), rowAt(5, 7, 0, 3))}, {sketchOf(rowAt(9, 99999, 1, 1)), "abcdefgh", 1, sketchOf(rowAt(9, 100000, 1, 1))},
	} {
		if got, ok := impl.AddSketch(c.s, c.name, c.many); !sameSketch(got, c.want) || !ok {
			t.Errorf("AddSketch(%v, %q, %d): %v %v, not %v", c.s, c.name, c.many, got, ok, c.want)
		}
	}
	r := rand.New(rand.NewSource(154))
	added, refused := 0, 0
	for _, s := range goodSketches() {
		for _, name := range append(goodNames()[:20], anySketchName(r), anySketchName(r)) {
			for _, many := range []int{1, 2, 999, 1000, 1 + r.Intn(1000)} {
				got, ok := checkAddSketch(t, s, name, many)
				if ok && impl.GoodSketch(got) {
					added++
				} else {
					refused++
				}
			}
		}
	}
	if added < 3000 || refused < 1000 {
		t.Error("too few:", added, refused)
	}
}

func TestAddSketchHasItsLimits(t *testing.T) {
	for _, many := range append(noNumbers(), -1000, -2, -1, 0, 1, 2, 999, 1000, 1001, 1002, 100000) {
		for rows := 1; rows <= 3; rows++ {
			if got, ok := checkAddSketch(t, emptySketch(rows), "cpu", many); ok != among(many, 1, 1000) || isZeroSketch(got) == ok {
				t.Errorf("%d in %d rows: %v %v", many, rows, got, ok)
			}
		}
	}
	for rows := 1; rows <= 3; rows++ {
		for _, name := range goodNames() {
			for _, many := range []int{1, 2, 500, 999, 1000} {
				for more := -2; more <= 2; more++ {
					got, ok := checkAddSketch(t, sketchAt(rows, name, 100000-many+more), name, many)
					if ok != (more <= 0) || ok && got.Total != 100000+more {
						t.Errorf("%q in %d rows, %d more than there may be: %v %v", name, rows, more, got, ok)
					}
				}
			}
		}
	}
	// Where the place at which two names meet is full, be it in one row alone, neither is added in any.
	full := sketchAt(3, "a", 100000)
	for name, is := range map[string]bool{"a": false, "l": false, "w": false, "cpu": false, "host": false, "ba": false, "z": true, "b": true} {
		if _, ok := checkAddSketch(t, full, name, 1); ok != is {
			t.Errorf("%q: not %v", name, is)
		}
	}
	first := impl.Sketch{Rows: full.Rows[:1], Total: full.Total}
	if _, ok := checkAddSketch(t, first, "cpu", 1); !ok {
		t.Error("refused:", first)
	}
}

func TestAddSketchRefuses(t *testing.T) {
	for _, s := range badSketches() {
		for _, name := range []string{"a", "cpu", "zzzzzzzz", "", "A"} {
			for _, many := range []int{-1, 0, 1, 1000, 1001} {
				if got, ok := impl.AddSketch(s, name, many); !isZeroSketch(got) || ok {
					t.Errorf("AddSketch(%v, %q, %d): %v %v", s, name, many, got, ok)
				}
			}
		}
	}
	for _, s := range goodSketches()[:10] {
		for _, name := range badNames() {
			for _, many := range []int{1, 7, 1000} {
				if got, ok := impl.AddSketch(s, name, many); !isZeroSketch(got) || ok {
					t.Errorf("AddSketch(%v, %q, %d): %v %v", s, name, many, got, ok)
				}
			}
		}
	}
}

func TestGuessOfTellsAsSaid(t *testing.T) {
	for _, c := range []struct {
		s    impl.Sketch
		name string
		want int
	}{
		{emptySketch(1), "a", 0}, {emptySketch(3), "zzzzzzzz", 0}, {sketchOf(rowAt(8, 3)), "a", 3}, {sketchOf(rowAt(8, 3)), "b", 0}, {sketchOf(rowAt(8, 3)), "l", 3}, {sketchOf(rowAt(8, 100000)), "w", 100000},
		{sketchOf(rowAt(8, 9), rowAt(1, 5, 2, 4), rowAt(9, 7, 8, 2)), "a", 5}, {sketchOf(rowAt(8, 5, 2, 4), rowAt(1, 9), rowAt(9, 7, 8, 2)), "a", 5}, {sketchOf(rowAt(8, 7, 7, 2), rowAt(1, 9), rowAt(9, 5, 10, 4)), "a", 5}, {sketchOf(rowAt(8, 7, 7, 2), rowAt(1, 9), rowAt(8, 9)), "a", 0}, {sketchOf(rowAt(8, 7), rowAt(1, 7), rowAt(9, 7)), "cpu", 0}, {sketchOf(rowAt(8, 7), rowAt(1, 7)), "host", 0},
		{sketchOf(slices.Repeat([]int{100000}, 11)), "cpu", 100000}, {sketchOf(rising(0, 1, 11)), "cpu", 6}, {sketchOf(rising(0, 1, 11), rising(10, -1, 11), rising(0, 1, 11)), "zzzzzzzz", 1},
	} {
		if got, ok := impl.GuessOf(c.s, c.name); got != c.want || !ok {
			t.Errorf("GuessOf(%v, %q): %d %v, not %d", c.s, c.name, got, ok, c.want)
		}
	}
	for _, s := range goodSketches() {
		for _, name := range goodNames() {
			if n, ok := checkGuess(t, s, name); !ok || !among(n, 0, s.Total) {
				t.Fatalf("GuessOf(%v, %q): %d %v", s, name, n, ok)
			}
		}
	}
}

func TestGuessOfRefuses(t *testing.T) {
	for _, s := range badSketches() {
		for _, name := range []string{"a", "cpu", "zzzzzzzz", "", "A"} {
			if got, ok := impl.GuessOf(s, name); got != 0 || ok {
				t.Errorf("GuessOf(%v, %q): %d %v", s, name, got, ok)
			}
		}
	}
	for _, s := range goodSketches() {
		for _, name := range badNames() {
			if got, ok := impl.GuessOf(s, name); got != 0 || ok {
				t.Errorf("GuessOf(%v, %q): %d %v", s, name, got, ok)
			}
		}
	}
}

func TestJoinSketchesTellsAsSaid(t *testing.T) {
	a, b := sketchOf(rowAt(8, 1), rowAt(1, 1), rowAt(9, 1)), sketchOf(rowAt(6, 5), rowAt(1, 5), rowAt(6, 5))
	for _, c := range []struct{ a, b, want impl.Sketch }{
		{emptySketch(1), emptySketch(1), emptySketch(1)}, {emptySketch(3), a, a}, {a, emptySketch(3), a}, {a, a, sketchOf(rowAt(8, 2), rowAt(1, 2), rowAt(9, 2))}, {a, b, sketchOf(rowAt(8, 1, 6, 5), rowAt(1, 6), rowAt(9, 1, 6, 5))}, {b, a, sketchOf(rowAt(8, 1, 6, 5), rowAt(1, 6), rowAt(9, 1, 6, 5))},
		{sketchOf(rising(0, 1, 11)), sketchOf(rising(10, -1, 11)), sketchOf(repeated(10, 11))}, {sketchOf(rowAt(0, 50000), rowAt(3, 50000)), sketchOf(rowAt(0, 50000), rowAt(3, 50000)), sketchOf(rowAt(0, 100000), rowAt(3, 100000))}, {sketchOf(repeated(50000, 11)), sketchOf(repeated(50000, 11)), sketchOf(repeated(100000, 11))}, {sketchOf(rowAt(0, 100000)), sketchOf(rowAt(1, 100000)), sketchOf(rowAt(0, 100000, 1, 100000))},
	} {
		if got, ok := impl.JoinSketches(c.a, c.b); !sameSketch(got, c.want) || !ok {
			t.Errorf("JoinSketches(%v, %v): %v %v, not %v", c.a, c.b, got, ok, c.want)
		}
	}
	joined, refused := 0, 0
	for _, a := range goodSketches() {
		for _, b := range goodSketches() {
			if got, ok := checkJoinSketches(t, a, b); ok && impl.GoodSketch(got) {
				joined++
			} else {
				refused++
			}
		}
	}
	if joined < 1000 || refused < 1000 {
		t.Error("too few:", joined, refused)
	}
}

func TestJoinSketchesHasItsLimits(t *testing.T) {
	for rows := 1; rows <= 3; rows++ {
		for _, left := range []int{0, 1, 500, 50000, 99999, 100000} {
			for more := -2; more <= 2; more++ {
				right := 100000 - left + more
				if !among(right, 0, 100000) {
					continue
				}
				// It is the last row alone in which they meet.
				a, b := emptySketch(rows), emptySketch(rows)
				for row := range rows {
					a.Rows[row][row], b.Rows[row][row+1] = left, right
				}
				b.Rows[rows-1][rows-1], b.Rows[rows-1][rows] = right, 0
				a.Total, b.Total = left, right
				if got, ok := checkJoinSketches(t, a, b); ok != (more <= 0) || ok && got.Total != 100000+more {
					t.Errorf("%v and %v: %v %v", a, b, got, ok)
				}
			}
		}
	}
	for a := 1; a <= 3; a++ {
		for b := 1; b <= 3; b++ {
			got, ok := checkJoinSketches(t, sketchAt(a, "cpu", 3), sketchAt(b, "cpu", 4))
			if ok != (a == b) || ok && got.Total != 7 || !ok && !isZeroSketch(got) {
				t.Errorf("%d and %d rows: %v %v", a, b, got, ok)
			}
		}
	}
}

func TestJoinSketchesRefuses(t *testing.T) {
	for _, bad := range badSketches() {
		for _, good := range []impl.Sketch{emptySketch(1), emptySketch(2), emptySketch(3), sketchAt(3, "cpu", 5)} {
			for _, pair := range [][2]impl.Sketch{{bad, good}, {good, bad}, {bad, bad}} {
				if got, ok := impl.JoinSketches(pair[0], pair[1]); !isZeroSketch(got) || ok {
					t.Errorf("JoinSketches(%v, %v): %v %v", pair[0], pair[1], got, ok)
				}
			}
		}
	}
}

// telling is how often a name is told at once.
type telling struct {
	name string
	many int
}

func anyTellings(r *rand.Rand, times int) []telling {
	var out []telling
	for range times {
		out = append(out, telling{anySketchName(r), []int{1, 1, 2, 1 + r.Intn(1000), 1000}[r.Intn(5)]})
	}
	return out
}

// sketchFrom asks the program itself, from NewSketch on.
func sketchFrom(t *testing.T, rows int, l []telling) impl.Sketch {
	t.Helper()
	s, ok := impl.NewSketch(rows)
	for _, x := range l {
		if !ok {
			break
		}
		s, ok = impl.AddSketch(s, x.name, x.many)
	}
	if !ok {
		t.Fatalf("%d rows: refused: %v", rows, l)
	}
	return s
}

// checkNeverTooLow holds promise 15 of a sketch against how often each name was told.
func checkNeverTooLow(t *testing.T, s impl.Sketch, l []telling) (tooHigh int) {
	t.Helper()
	often, total := map[string]int{}, 0
	for _, x := range l {
		often[x.name] += x.many
		total += x.many
	}
	if s.Total != total || !impl.GoodSketch(s) {
		t.Fatalf("%v of %v", s, l)
	}
	for _, name := range append(goodNames(), "ab", "abab", "aaa") {
		often[name] += 0
	}
	for name, n := range often {
		guess, ok := impl.GuessOf(s, name)
		if guess < n || guess > total || !ok {
			t.Fatalf("GuessOf(%v, %q): %d %v, but %d were told", s, name, guess, ok, n)
		}
		if guess > n {
			tooHigh++
		}
	}
	return tooHigh
}

// Promise 15: a guess is never too low, and with more rows it is less often too high.
func TestGuessesAreNeverTooLow(t *testing.T) {
	r := rand.New(rand.NewSource(155))
	var tooHigh [4]int
	for range 400 {
		l := anyTellings(r, r.Intn(90))
		for rows := 1; rows <= 3; rows++ {
			tooHigh[rows] += checkNeverTooLow(t, sketchFrom(t, rows, l), l)
		}
	}
	if tooHigh[3] < 1000 || tooHigh[2] <= tooHigh[3] || tooHigh[1] <= tooHigh[2] {
		t.Error("rows do not help:", tooHigh)
	}
}

// Promise 15, step by step: one name alone is guessed as it is, and no guess goes down.
func TestGuessesGoUpAsNamesAreTold(t *testing.T) {
	r := rand.New(rand.NewSource(156))
	for range 100 {
		rows := 1 + r.Intn(3)
		l := anyTellings(r, 30)
		s, _ := impl.NewSketch(rows)
		names := []string{"a", "b", "ab", "z", "abc", l[3].name}
		was := make([]int, len(names))
		for k, x := range l {
			next, ok := checkAddSketch(t, s, x.name, x.many)
			before, _ := impl.GuessOf(s, x.name)
			if after, _ := impl.GuessOf(next, x.name); !ok || after != before+x.many || k == 0 && after != x.many {
				t.Fatalf("%v and %v: %d, and %d", s, x, before, after)
			}
			for i, name := range names {
				guess, _ := checkGuess(t, next, name)
				if guess < was[i] || guess > was[i]+x.many {
					t.Fatalf("%q in %v: %d, and it was %d", name, next, guess, was[i])
				}
				was[i] = guess
			}
			s = next
		}
	}
}

// What two sketches tell joined is what one tells of all together, wherever they are parted and in any order.
func TestJoinedSketchesAreThoseOfAllTogether(t *testing.T) {
	r := rand.New(rand.NewSource(157))
	for range 150 {
		rows, l := 1+r.Intn(3), anyTellings(r, r.Intn(40))
		want := sketchFrom(t, rows, l)
		for at := range len(l) + 1 {
			a, b := sketchFrom(t, rows, l[:at]), sketchFrom(t, rows, l[at:])
			for _, pair := range [][2]impl.Sketch{{a, b}, {b, a}} {
				if got, ok := impl.JoinSketches(pair[0], pair[1]); !sameSketch(got, want) || !ok {
					t.Fatalf("%v at %d: %v %v, not %v", l, at, got, ok, want)
				}
			}
		}
		parts := make([][]telling, 3)
		for _, i := range r.Perm(len(l)) {
			k := r.Intn(3)
			parts[k] = append(parts[k], l[i])
		}
		got, ok := impl.NewSketch(rows)
		for _, part := range parts {
			got, _ = impl.JoinSketches(got, sketchFrom(t, rows, part))
		}
		if !sameSketch(got, want) || !ok {
			t.Fatalf("%v in parts: %v, not %v", l, got, want)
		}
		checkNeverTooLow(t, got, l)
		// With fewer rows it is the same sketch but for those that are not there.
		for fewer := 1; fewer < rows; fewer++ {
			if s := sketchFrom(t, fewer, l); !sameSketch(s, impl.Sketch{Rows: want.Rows[:fewer], Total: want.Total}) {
				t.Fatalf("%v in %d rows: %v, not %v", l, fewer, s, want)
			}
		}
	}
}

func TestNewHeavyTellsAsSaid(t *testing.T) {
	for places := 1; places <= 6; places++ {
		got, ok := impl.NewHeavy(places)
		if !sameHeavy(got, heavyOf(places, 0, "")) || !ok || !impl.GoodHeavy(got) {
			t.Errorf("NewHeavy(%d): %+v %v", places, got, ok)
		}
	}
	for _, places := range append(noNumbers(), -100, -2, -1, 0, 7, 8, 9, 100) {
		if got, ok := impl.NewHeavy(places); !isZeroHeavy(got) || ok {
			t.Errorf("NewHeavy(%d): %+v %v", places, got, ok)
		}
	}
}

func TestGoodHeavyTellsAsSaid(t *testing.T) {
	for _, h := range goodHeavies() {
		if !impl.GoodHeavy(h) || !plainGoodHeavy(h) {
			t.Errorf("refused: %+v", h)
		}
	}
	for _, h := range badHeavies() {
		if impl.GoodHeavy(h) || plainGoodHeavy(h) {
			t.Errorf("taken: %+v", h)
		}
	}
	for places := range 12 {
		if is := among(places, 1, 6); impl.GoodHeavy(heavyOf(places, 0, "")) != is {
			t.Errorf("%d places: not %v", places, is)
		}
		for counts := range 12 {
			h := impl.Heavy{Names: make([]string, places), Counts: make([]int, counts)}
			if is := among(places, 1, 6) && counts == places; impl.GoodHeavy(h) != is {
				t.Errorf("%d Names and %d Counts: not %v", places, counts, is)
			}
		}
	}
	for _, name := range goodNames() {
		if h := heavyOf(2, 1, name+" 3"); !impl.GoodHeavy(h) {
			t.Errorf("refused: %+v", h)
		}
	}
}

func TestHeaviesHaveTheirLimits(t *testing.T) {
	for _, n := range append(noNumbers(), -100001, -2, -1, 0, 1, 2, 99999, 100000, 100001, 100002, 142857, 142858, 500000, 999999, 1000000, 1000001) {
		for places := 1; places <= 6; places++ {
			for i := range places {
				// As many stand ahead as there are places ahead, and one at this.
				h := heavyOf(places, 1, strings.Join([]string{"a 1", "b 2", "c 3", "d 4", "e 5", "f 6"}[:i+1], " "))
				h.Counts[i] = n
				h.Total = sumOf(h.Counts) + places + 1
				if is := among(n, 1, 100000); impl.GoodHeavy(h) != is || plainGoodHeavy(h) != is {
					t.Errorf("%+v: not %v", h, is)
				}
				h.Names[i] = ""
				if is := n == 0; impl.GoodHeavy(h) != is || plainGoodHeavy(h) != is {
					t.Errorf("%+v: not %v", h, is)
				}
			}
			for _, told := range []string{"", "a 5"} {
				if h, is := heavyOf(places, n, told), among(n, 0, 100000); impl.GoodHeavy(h) != is || plainGoodHeavy(h) != is {
					t.Errorf("%+v: not %v", h, is)
				}
				h := heavyOf(places, 0, told)
				h.Total = n
				if is := n == sumOf(h.Counts); impl.GoodHeavy(h) != is || plainGoodHeavy(h) != is {
					t.Errorf("%+v: not %v", h, is)
				}
			}
		}
	}
	// A Total of 1000000 and of one more, of whatever it comes.
	for more := -3; more <= 3; more++ {
		for _, h := range []impl.Heavy{
			heavyOf(6, 100000, fmt.Sprint("a 100000 b 100000 c 99000 d ", 1000+more)), heavyOf(6, 100000, fmt.Sprint("a 50000 b 50000 c 50000 d 50000 e 50000 f ", 50000+more)), heavyOf(5, 100000, fmt.Sprint("a 100000 b 100000 c 100000 d 50000 e ", 50000+more)), heavyOf(6, 57143, fmt.Sprint("a 100000 b 100000 c 100000 d 100000 e 100000 f ", 99999+more)),
		} {
			if is := more <= 0; impl.GoodHeavy(h) != is || plainGoodHeavy(h) != is || h.Total != 1000000+more {
				t.Errorf("%+v: not %v", h, is)
			}
		}
	}
}

// All lists of few names at few places: which ones rise, and where the empty ones stand.
func TestNamesOfHeaviesRiseAheadOfTheEmptyOnes(t *testing.T) {
	good := 0
	for places := 1; places <= 4; places++ {
		for k := range int(math.Pow(5, float64(places))) {
			h := heavyOf(places, 0, "")
			for i := range places {
				h.Names[i] = []string{"", "a", "aa", "ab", "b"}[k%5]
				h.Counts[i] = min(len(h.Names[i]), 1)
				h.Total += h.Counts[i]
				k /= 5
			}
			is := plainGoodHeavy(h)
			if impl.GoodHeavy(h) != is {
				t.Fatalf("%+v: not %v", h, is)
			}
			if is {
				good++
			}
			for _, name := range []string{"a", "aa", "ab", "b", "ba", ""} {
				checkAddHeavy(t, h, name)
				checkLeast(t, h, name)
			}
		}
	}
	// Of four names at most as many as there are places stand there, in their one order: 1 of none, 4 of one, 6 of two, 4 of three, 1 of four.
	if good != 5+11+15+16 {
		t.Error(good)
	}
}

func TestAddHeavyTellsAsSaid(t *testing.T) {
	for _, c := range []struct {
		h    impl.Heavy
		name string
		want impl.Heavy
	}{
		{heavyOf(1, 0, ""), "a", heavyOf(1, 0, "a 1")}, {heavyOf(1, 0, "a 1"), "a", heavyOf(1, 0, "a 2")}, {heavyOf(1, 0, "a 2"), "b", heavyOf(1, 1, "a 1")}, {heavyOf(1, 1, "a 1"), "b", heavyOf(1, 2, "")}, {heavyOf(1, 2, ""), "b", heavyOf(1, 2, "b 1")}, {heavyOf(1, 2, ""), "a", heavyOf(1, 2, "a 1")},
		{heavyOf(2, 0, ""), "b", heavyOf(2, 0, "b 1")}, {heavyOf(2, 0, "b 1"), "a", heavyOf(2, 0, "a 1 b 1")}, {heavyOf(2, 0, "b 1"), "c", heavyOf(2, 0, "b 1 c 1")}, {heavyOf(2, 0, "b 4"), "a", heavyOf(2, 0, "a 1 b 4")}, {heavyOf(2, 0, "a 1 b 1"), "c", heavyOf(2, 1, "")}, {heavyOf(2, 0, "a 2 b 1"), "c", heavyOf(2, 1, "a 1")}, {heavyOf(2, 0, "a 1 b 2"), "c", heavyOf(2, 1, "b 1")}, {heavyOf(2, 3, "a 3 b 2"), "c", heavyOf(2, 4, "a 2 b 1")},
		{heavyOf(3, 1, "a 1 c 2"), "b", heavyOf(3, 1, "a 1 b 1 c 2")}, {heavyOf(3, 1, "b 5 c 6"), "a", heavyOf(3, 1, "a 1 b 5 c 6")}, {heavyOf(3, 1, "a 5 b 6"), "c", heavyOf(3, 1, "a 5 b 6 c 1")}, {heavyOf(3, 1, "a 5 b 6 c 7"), "b", heavyOf(3, 1, "a 5 b 7 c 7")}, {heavyOf(3, 1, "a 5 b 6"), "b", heavyOf(3, 1, "a 5 b 7")}, {heavyOf(3, 0, "a 1 b 5 c 1"), "d", heavyOf(3, 1, "b 4")}, {heavyOf(3, 0, "a 5 b 1 c 2"), "aa", heavyOf(3, 1, "a 4 c 1")}, {heavyOf(3, 0, "a 1 b 1 c 1"), "zzzzzzzz", heavyOf(3, 1, "")},
		{heavyOf(6, 0, "a 1 b 2 c 1 d 3 e 1 f 2"), "g", heavyOf(6, 1, "b 1 d 2 f 1")}, {heavyOf(6, 9, "b 2 c 2 d 2 e 2 f 2 g 1"), "a", heavyOf(6, 10, "b 1 c 1 d 1 e 1 f 1")}, {heavyOf(6, 0, "b 2 c 3 d 4 e 5 f 6"), "a", heavyOf(6, 0, "a 1 b 2 c 3 d 4 e 5 f 6")}, {heavyOf(6, 0, "b 2 c 3"), "cc", heavyOf(6, 0, "b 2 c 3 cc 1")},
		// One name is part of another, or begins as it does.
		{heavyOf(3, 0, "a 1 aaa 1"), "aa", heavyOf(3, 0, "a 1 aa 1 aaa 1")}, {heavyOf(2, 0, "a 1 aaa 1"), "aa", heavyOf(2, 1, "")}, {heavyOf(2, 0, "aa 1"), "a", heavyOf(2, 0, "a 1 aa 1")}, {heavyOf(2, 0, "zzzzzzzz 1"), "zzzzzzz", heavyOf(2, 0, "zzzzzzz 1 zzzzzzzz 1")},
	} {
		if got, ok := impl.AddHeavy(c.h, c.name); !sameHeavy(got, c.want) || !ok || got.Total != c.h.Total+1 {
			t.Errorf("AddHeavy(%+v, %q): %+v %v, not %+v", c.h, c.name, got, ok, c.want)
		}
	}
	r := rand.New(rand.NewSource(158))
	for _, h := range goodHeavies() {
		for _, name := range append(goodNames()[:20], h.Names...) {
			checkAddHeavy(t, h, name)
		}
		for range 10 {
			checkAddHeavy(t, h, anySketchName(r))
		}
	}
}

// addWay tells in which of the three ways a name comes to a good Heavy.
func addWay(h impl.Heavy, name string) int {
	switch counts := plainCounts(h); {
	case counts[name] > 0:
		return 0
	case len(counts) < len(h.Names):
		return 1
	}
	return 2
}

func TestHeaviesComeToAllThereIs(t *testing.T) {
	r := rand.New(rand.NewSource(159))
	var ways, refused [3]int
	for range 2000 {
		h := anyHeavy(r)
		for range 12 {
			name := anySketchName(r)
			if r.Intn(2) == 0 {
				name = h.Names[r.Intn(len(h.Names))]
			}
			if !plainName.MatchString(name) {
				continue
			}
			way := addWay(h, name)
			next, ok := checkAddHeavy(t, h, name)
			if !ok {
				refused[way]++
				continue
			}
			if !impl.GoodHeavy(next) || next.Total != h.Total+1 || next.Gone != h.Gone+way/2 {
				t.Fatalf("AddHeavy(%+v, %q): %+v", h, name, next)
			}
			ways[way]++
			h = next
		}
	}
	if slices.Min(ways[:]) < 1000 || refused[0] < 100 || refused[2] < 100 {
		t.Error("too few:", ways, refused)
	}
}

func TestAddHeavyHasItsLimits(t *testing.T) {
	for _, c := range []struct {
		h    impl.Heavy
		name string
		is   bool
	}{
		// A Count comes to 100000, and would to one more.
		{heavyOf(1, 0, "a 99998"), "a", true}, {heavyOf(1, 0, "a 99999"), "a", true}, {heavyOf(1, 0, "a 100000"), "a", false}, {heavyOf(1, 0, "a 100000"), "b", true}, {heavyOf(2, 0, "a 100000"), "b", true}, {heavyOf(2, 0, "a 100000"), "a", false}, {heavyOf(3, 7, "a 1 b 99999 c 5"), "b", true}, {heavyOf(3, 7, "a 1 b 100000 c 5"), "b", false}, {heavyOf(3, 7, "a 1 b 100000 c 5"), "a", true},
		// Gone does.
		{heavyOf(1, 99998, "a 1"), "b", true}, {heavyOf(1, 99999, "a 1"), "b", true}, {heavyOf(1, 100000, "a 1"), "b", false}, {heavyOf(1, 100000, "a 1"), "a", true}, {heavyOf(1, 100000, ""), "a", true}, {heavyOf(2, 100000, "a 1"), "b", true}, {heavyOf(2, 100000, "a 1 b 1"), "c", false}, {heavyOf(2, 99999, "a 1 b 1"), "c", true}, {heavyOf(6, 100000, "a 1 b 1 c 1 d 1 e 1 f 1"), "g", false}, {heavyOf(6, 100000, "a 1 b 1 c 1 d 1 e 1"), "g", true},
		// The Total comes to 1000000, and would to one more: in each of the three ways.
		{heavyOf(6, 100000, "a 100000 b 100000 c 99999"), "c", true}, {heavyOf(6, 100000, "a 100000 b 100000 c 99999"), "d", true}, {heavyOf(6, 100000, "a 100000 b 100000 c 99999 d 1"), "c", false}, {heavyOf(6, 100000, "a 100000 b 100000 c 99999 d 1"), "d", false}, {heavyOf(6, 100000, "a 100000 b 100000 c 99999 d 1"), "e", false}, {heavyOf(6, 100000, "a 100000 b 100000 c 100000"), "d", false}, {heavyOf(6, 99999, "a 50001 b 50001 c 50001 d 50001 e 50001 f 50001"), "g", true}, {heavyOf(6, 99999, "a 50001 b 50001 c 50001 d 50001 e 50001 f 50001"), "a", true},
		{heavyOf(6, 99999, "a 50001 b 50001 c 50001 d 50001 e 50001 f 50002"), "g", false}, {heavyOf(6, 99999, "a 50001 b 50001 c 50001 d 50001 e 50001 f 50002"), "a", false}, {heavyOf(5, 100000, "a 100000 b 100000 c 100000 d 99999"), "e", true}, {heavyOf(5, 100000, "a 100000 b 100000 c 100000 d 100000"), "e", false},
	} {
		got, ok := checkAddHeavy(t, c.h, c.name)
		if ok != c.is || ok && !impl.GoodHeavy(got) || !ok && !isZeroHeavy(got) {
			t.Errorf("AddHeavy(%+v, %q): %+v %v, not %v", c.h, c.name, got, ok, c.is)
		}
	}
}

func TestAddHeavyRefuses(t *testing.T) {
	for _, h := range badHeavies() {
		for _, name := range []string{"a", "b", "cpu", "zzzzzzzz", "", "A"} {
			if got, ok := impl.AddHeavy(h, name); !isZeroHeavy(got) || ok {
				t.Errorf("AddHeavy(%+v, %q): %+v %v", h, name, got, ok)
			}
		}
	}
	for _, h := range goodHeavies()[:20] {
		for _, name := range badNames() {
			if got, ok := impl.AddHeavy(h, name); !isZeroHeavy(got) || ok {
				t.Errorf("AddHeavy(%+v, %q): %+v %v", h, name, got, ok)
			}
		}
	}
}

func TestLeastOfTellsAsSaid(t *testing.T) {
	for _, c := range []struct {
		h           impl.Heavy
		name        string
		least, most int
	}{
		{heavyOf(1, 0, ""), "a", 0, 0}, {heavyOf(6, 0, ""), "zzzzzzzz", 0, 0}, {heavyOf(1, 0, "a 1"), "a", 1, 1}, {heavyOf(1, 0, "a 1"), "b", 0, 0}, {heavyOf(1, 3, "a 2"), "a", 2, 5}, {heavyOf(1, 3, "a 2"), "b", 0, 3}, {heavyOf(1, 3, ""), "a", 0, 3}, {heavyOf(3, 2, "a 1 c 7"), "c", 7, 9}, {heavyOf(3, 2, "a 1 c 7"), "b", 0, 2}, {heavyOf(3, 2, "a 1 c 7"), "a", 1, 3}, {heavyOf(3, 2, "a 1 c 7"), "d", 0, 2},
		{heavyOf(3, 2, "aa 1 ab 7 b 3"), "a", 0, 2}, {heavyOf(3, 2, "aa 1 ab 7 b 3"), "aaa", 0, 2}, {heavyOf(3, 2, "aa 1 ab 7 b 3"), "ab", 7, 9}, {heavyOf(3, 2, "aa 1 ab 7 b 3"), "b", 3, 5}, {heavyOf(1, 100000, "a 100000"), "a", 100000, 200000}, {heavyOf(6, 2, "a 1 b 2 c 3 d 4 e 5 f 6"), "f", 6, 8}, {heavyOf(6, 2, "a 1 b 2 c 3 d 4 e 5 f 6"), "g", 0, 2},
	} {
		if least, most, ok := impl.LeastOf(c.h, c.name); least != c.least || most != c.most || !ok {
			t.Errorf("LeastOf(%+v, %q): %d %d %v, not %d %d", c.h, c.name, least, most, ok, c.least, c.most)
		}
	}
	for _, h := range goodHeavies() {
		for _, name := range append(goodNames(), h.Names...) {
			checkLeast(t, h, name)
		}
	}
}

// Nobody has a place that is empty: the empty text is no name, wherever it stands.
func TestLeastOfRefuses(t *testing.T) {
	for _, h := range goodHeavies() {
		for _, name := range badNames() {
			if least, most, ok := impl.LeastOf(h, name); least != 0 || most != 0 || ok {
				t.Errorf("LeastOf(%+v, %q): %d %d %v", h, name, least, most, ok)
			}
		}
	}
	for _, h := range badHeavies() {
		for _, name := range []string{"a", "b", "c", "zzzzzzzz", "", "A"} {
			if least, most, ok := impl.LeastOf(h, name); least != 0 || most != 0 || ok {
				t.Errorf("LeastOf(%+v, %q): %d %d %v", h, name, least, most, ok)
			}
		}
	}
}

// lettersOf are the letters of a text, as names.
func lettersOf(s string) []string {
	return strings.Split(s, "")
}

func TestFeedHeavyTellsAsSaid(t *testing.T) {
	for _, c := range []struct {
		places int
		told   string
		want   impl.Heavy
	}{
		{1, "", heavyOf(1, 0, "")}, {6, "", heavyOf(6, 0, "")}, {1, "a", heavyOf(1, 0, "a 1")}, {1, "ab", heavyOf(1, 1, "")}, {1, "aba", heavyOf(1, 1, "a 1")}, {1, "abc", heavyOf(1, 1, "c 1")}, {2, "abaca", heavyOf(2, 1, "a 2")}, {2, "abc", heavyOf(2, 1, "")}, {2, "cab", heavyOf(2, 1, "")}, {2, "cabb", heavyOf(2, 1, "b 1")}, {3, "cba", heavyOf(3, 0, "a 1 b 1 c 1")}, {3, "cbaccd", heavyOf(3, 1, "c 2")},
		{6, "fedcba", heavyOf(6, 0, "a 1 b 1 c 1 d 1 e 1 f 1")}, {6, "fedcbag", heavyOf(6, 1, "")}, {6, "fedcbaaffg", heavyOf(6, 1, "a 1 f 2")}, {4, "zzzz", heavyOf(4, 0, "z 4")},
	} {
		if got, ok := impl.FeedHeavy(c.places, lettersOf(c.told)); !sameHeavy(got, c.want) || !ok || got.Total != len(c.told) {
			t.Errorf("FeedHeavy(%d, %q): %+v %v, not %+v", c.places, c.told, got, ok, c.want)
		}
	}
	if got, ok := impl.FeedHeavy(3, nil); !sameHeavy(got, heavyOf(3, 0, "")) || !ok {
		t.Error(got, ok)
	}
	r := rand.New(rand.NewSource(160))
	for many := range 206 {
		for places := -1; places <= 8; places++ {
			var l []string
			for range many {
				l = append(l, anySketchName(r))
			}
			if got, ok := checkFeed(t, places, l); ok != (many <= 200 && among(places, 1, 6)) || ok && got.Total != many {
				t.Fatalf("%d names, %d places: %+v %v", many, places, got, ok)
			}
			if got, ok := checkFeed(t, places, slices.Repeat([]string{"cpu"}, many)); ok && many > 0 && (got.Counts[0] != many || got.Gone != 0) {
				t.Fatalf("%d names, %d places: %+v", many, places, got)
			}
		}
	}
}

// FeedHeavy is AddHeavy, name by name.
func TestFeedHeavyIsAddHeavyEach(t *testing.T) {
	r := rand.New(rand.NewSource(161))
	for range 200 {
		places := 1 + r.Intn(6)
		h, ok := impl.NewHeavy(places)
		var l []string
		for range 40 {
			l = append(l, anySketchName(r))
			h, ok = impl.AddHeavy(h, l[len(l)-1])
			if got, is := impl.FeedHeavy(places, l); !sameHeavy(got, h) || !is || !ok {
				t.Fatalf("FeedHeavy(%d, %q): %+v %v, not %+v", places, l, got, is, h)
			}
		}
	}
}

func TestFeedHeavyRefuses(t *testing.T) {
	for _, name := range badNames() {
		for _, l := range [][]string{{name}, {name, "a"}, {"a", name}, {"a", name, "a"}, {"a", "b", "c", "d", name}, {name, name}} {
			for _, places := range []int{1, 2, 3, 6} {
				if got, ok := impl.FeedHeavy(places, l); !isZeroHeavy(got) || ok {
					t.Errorf("FeedHeavy(%d, %q): %+v %v", places, l, got, ok)
				}
			}
		}
	}
	for _, i := range []int{0, 1, 100, 198, 199} {
		l := slices.Repeat([]string{"a", "b"}, 100)
		l[i] = ""
		if got, ok := impl.FeedHeavy(2, l); !isZeroHeavy(got) || ok {
			t.Errorf("FeedHeavy at %d: %+v %v", i, got, ok)
		}
	}
	for _, places := range append(noNumbers(), -100, -2, -1, 0, 7, 8, 9, 100) {
		for _, l := range [][]string{nil, {"a"}, {"a", "b", "a"}, {""}} {
			if got, ok := impl.FeedHeavy(places, l); !isZeroHeavy(got) || ok {
				t.Errorf("FeedHeavy(%d, %q): %+v %v", places, l, got, ok)
			}
		}
	}
	for _, many := range []int{201, 202, 400, 5000} {
		for _, name := range []string{"a", "", "A"} {
			if got, ok := impl.FeedHeavy(3, slices.Repeat([]string{name}, many)); !isZeroHeavy(got) || ok {
				t.Errorf("FeedHeavy of %d times %q: %+v %v", many, name, got, ok)
			}
		}
	}
}

// checkHeavyPromise holds promise 15 of what FeedHeavy told of a list: who was told more than one part of all, and what LeastOf tells of each.
func checkHeavyPromise(t *testing.T, h impl.Heavy, l []string) (heavy int, without int) {
	t.Helper()
	often := map[string]int{"a": 0, "cpu": 0, "zzzzzzzz": 0}
	for _, name := range l {
		often[name]++
	}
	parts := len(h.Names) + 1
	for name, n := range often {
		least, most, ok := impl.LeastOf(h, name)
		if least > n || n > most || !ok {
			t.Fatalf("LeastOf(%+v, %q) of %q: %d %d %v, but %d were told", h, name, l, least, most, ok, n)
		}
		hasPlace := slices.Contains(h.Names, name)
		if n*parts > len(l) {
			heavy++
			if !hasPlace {
				t.Fatalf("%q has no place in %+v: %d of %d were told, %q", name, h, n, len(l), l)
			}
		}
		if n > 0 && !hasPlace {
			without++
		}
		if hasPlace != (least > 0) {
			t.Fatalf("LeastOf(%+v, %q): %d", h, name, least)
		}
	}
	if h.Total != len(l) || h.Gone*parts > len(l) || !impl.GoodHeavy(h) {
		t.Fatalf("%+v of %q", h, l)
	}
	return heavy, without
}

// Promise 15, of drawn names: some are told much more often than others.
func TestWhoWasToldMoreThanOnePartHasAPlace(t *testing.T) {
	r := rand.New(rand.NewSource(162))
	heavy, without := 0, 0
	for range 1500 {
		kinds, many := 1+r.Intn(30), r.Intn(201)
		var l []string
		for range many {
			k := r.Intn(kinds)
			for r.Intn(3) > 0 {
				k /= 2
			}
			l = append(l, strings.Repeat(string(rune('a'+k%26)), 1+k/26))
		}
		for places := 1; places <= 6; places++ {
			h, ok := checkFeed(t, places, l)
			if !ok {
				t.Fatal(places, l)
			}
			more, no := checkHeavyPromise(t, h, l)
			heavy, without = heavy+more, without+no
		}
	}
	if heavy < 5000 || without < 5000 {
		t.Error("too few:", heavy, without)
	}
}

// Promise 15, at its edge: one more than one part of all, told first, last, or here and there; of just one part nothing is promised.
func TestOneMoreThanOnePartHasAPlace(t *testing.T) {
	r := rand.New(rand.NewSource(163))
	lost := 0
	for places := 1; places <= 6; places++ {
		for _, n := range []int{1, 2, 5, 13, 25, 28} {
			others := n * places
			var l []string
			for k := range others {
				l = append(l, fmt.Sprintf("b%c%c", 'a'+k%26, 'a'+k/26))
			}
			for _, just := range []bool{true, false} {
				own := slices.Repeat([]string{"a"}, n)
				if !just {
					own = append(own, "a")
				}
				if len(own)+others > 200 {
					continue
				}
				mixed := slices.Concat(own, l)
				r.Shuffle(len(mixed), func(i, j int) { mixed[i], mixed[j] = mixed[j], mixed[i] })
				for _, all := range [][]string{slices.Concat(own, l), slices.Concat(l, own), slices.Concat(own[:n/2], l, own[n/2:]), slices.Concat(l[:others/2], own, l[others/2:]), mixed} {
					h, ok := impl.FeedHeavy(places, all)
					least, _, is := impl.LeastOf(h, "a")
					if !ok || !is || !just && least == 0 {
						t.Fatalf("FeedHeavy(%d, %q): %+v", places, all, h)
					}
					if least == 0 {
						lost++
					}
					checkHeavyPromise(t, h, all)
				}
			}
		}
	}
	if lost < 20 {
		t.Error("too few:", lost)
	}
}

// Promise 15, over all that few names can come to.
func TestWhateverFewNamesAreToldTheHeavyHaveAPlace(t *testing.T) {
	for _, told := range append(textsOf("abc", 7), textsOf("abcd", 6)...) {
		var l []string
		if told != "" {
			l = lettersOf(told)
		}
		for places := 1; places <= 4; places++ {
			h, ok := checkFeed(t, places, l)
			if !ok {
				t.Fatal(places, told)
			}
			checkHeavyPromise(t, h, l)
			if places == 4 && h.Gone != 0 {
				t.Fatalf("%q: there was a place for each: %+v", told, h)
			}
		}
	}
}

// Promise 19: whatever it is given, each function answers.
func TestSketchesAnswerAtAnyArguments(t *testing.T) {
	ints := append(noNumbers(), -1000000, -100001, -2, -1, 0, 1, 2, 3, 4, 6, 7, 10, 11, 12, 200, 201, 1000, 1001, 99999, 100000, 100001, 1000000, 1000001, 1100000, 1100001)
	texts := []string{"", "a", "b", "cpu", "zzzzzzzz", "zzzzzzzzz", "A", "a b", "\n", "\xff", strings.Repeat("a", 30000)}
	for _, x := range ints {
		impl.NewSketch(x)
		impl.NewHeavy(x)
		for _, y := range ints {
			for _, s := range []impl.Sketch{
				{Rows: [][]int{rowAt(8, x)}, Total: y}, {Rows: [][]int{rowAt(8, x, 9, y)}, Total: x + y}, {Rows: [][]int{rowAt(8, x), rowAt(1, y)}, Total: x}, {Rows: [][]int{rowAt(0, 1), rowAt(8, x, 1, y)}, Total: 1}, {Rows: [][]int{rowAt(8, x), rowAt(1, x), rowAt(9, x)}, Total: x},
			} {
				if is := plainGoodSketch(s); impl.GoodSketch(s) != is {
					t.Fatalf("GoodSketch(%v): not %v", s, is)
				}
				checkJoinSketches(t, s, s)
				checkJoinSketches(t, s, sketchAt(len(s.Rows), "a", 99999))
				for _, name := range texts {
					checkAddSketch(t, s, name, y)
					checkAddSketch(t, s, name, 1)
					checkGuess(t, s, name)
				}
			}
			for _, h := range []impl.Heavy{
				{Names: []string{"a"}, Counts: []int{x}, Total: y}, {Names: []string{"a"}, Counts: []int{x}, Gone: y, Total: x + 2*y}, {Names: []string{"a", "b"}, Counts: []int{x, y}, Total: x + y}, {Names: []string{"a", "b"}, Counts: []int{x, y}, Gone: 1, Total: x + y + 3}, {Names: []string{"a", "b", ""}, Counts: []int{1, x, y}, Total: 1 + x + y}, {Names: []string{"", ""}, Counts: []int{x, y}, Total: x + y}, {Names: []string{"", ""}, Counts: []int{0, 0}, Gone: x, Total: y}, {Names: []string{"", ""}, Counts: []int{0, 0}, Gone: x, Total: 3 * x},
			} {
				if is := plainGoodHeavy(h); impl.GoodHeavy(h) != is {
					t.Fatalf("GoodHeavy(%+v): not %v", h, is)
				}
				for _, name := range texts {
					checkAddHeavy(t, h, name)
					checkLeast(t, h, name)
				}
			}
		}
		for _, name := range texts {
			want := 0
			is := among(x, 0, 2) && plainName.MatchString(name)
			if is {
				want = plainPlace(x, name)
			}
			if got, ok := impl.PlaceIn(x, name); got != want || ok != is {
				t.Fatalf("PlaceIn(%d, %q): %d %v", x, name, got, ok)
			}
			for _, other := range texts {
				checkFeed(t, x, []string{name, other})
				checkFeed(t, x, []string{"a", name, other, "b", name})
				checkFeed(t, 1+len(other)%6, []string{name, other, name})
			}
		}
	}
	for _, a := range texts {
		for _, b := range texts {
			h := impl.Heavy{Names: []string{a, b}, Counts: []int{min(len(a), 1), min(len(b), 1)}, Total: min(len(a), 1) + min(len(b), 1)}
			if is := plainGoodHeavy(h); impl.GoodHeavy(h) != is {
				t.Fatalf("GoodHeavy(%+v): not %v", h, is)
			}
			for _, name := range texts {
				checkAddHeavy(t, h, name)
				checkLeast(t, h, name)
			}
		}
	}
}

// roomySketch has much behind its lists in their memory, which is no part of it, though it could be.
func roomySketch() impl.Sketch {
	s := sketchOf(rowAt(8, 3, 2, 1), rowAt(1, 2, 0, 2), rowAt(9, 4), rowAt(1, 4), rowAt(3, 4))
	for row, l := range s.Rows {
		s.Rows[row] = append(append(make([]int, 0, 30), l...), 77, 78, -1, 0, 5)[:11]
	}
	s.Rows = s.Rows[:2]
	return s
}

// wholeSketch has all of a list's memory, within lists too.
func wholeSketch(s impl.Sketch) impl.Sketch {
	out := impl.Sketch{Rows: slices.Clone(s.Rows[:cap(s.Rows)]), Total: s.Total}
	for row, l := range out.Rows {
		out.Rows[row] = l[:cap(l)]
	}
	return out
}

func roomyHeavy(places int, told string) impl.Heavy {
	h := heavyOf(places, 2, told)
	h.Names = append(append(make([]string, 0, 12), h.Names...), "x", "", "a", "zz")[:places]
	h.Counts = append(append(make([]int, 0, 12), h.Counts...), 77, 0, 1, -1)[:places]
	return h
}

func wholeHeavy(h impl.Heavy) impl.Heavy {
	h.Names, h.Counts = h.Names[:cap(h.Names)], h.Counts[:cap(h.Counts)]
	return h
}

// Promise 19: nothing is written into an argument, nor into what lies behind it in its memory, nor is that read.
func TestSketchesWriteIntoNoSketch(t *testing.T) {
	s, was := roomySketch(), cloneSketch(wholeSketch(roomySketch()))
	other, wasOther := roomySketch(), cloneSketch(wholeSketch(roomySketch()))
	check := func(name string) {
		t.Helper()
		if !sameSketch(wholeSketch(s), was) || !sameSketch(wholeSketch(other), wasOther) {
			t.Fatalf("%s has written: %v %v", name, wholeSketch(s), wholeSketch(other))
		}
	}
	for _, name := range []string{"a", "l", "cpu", "z", "b", "host", "", "A"} {
		for _, many := range []int{-1, 0, 1, 5, 1000, 1001} {
			checkAddSketch(t, s, name, many)
			check("AddSketch")
		}
		checkGuess(t, s, name)
		check("GuessOf")
	}
	for _, pair := range [][2]impl.Sketch{{s, other}, {other, s}, {s, s}, {s, emptySketch(2)}, {emptySketch(2), s}, {s, emptySketch(3)}, {emptySketch(1), s}, {s, sketchAt(2, "a", 100000)}} {
		checkJoinSketches(t, pair[0], pair[1])
		check("JoinSketches")
	}
	for _, q := range []impl.Sketch{wholeSketch(s), {Rows: s.Rows[:4], Total: 4}, {Rows: s.Rows, Total: 5}, {Rows: [][]int{s.Rows[0][:12]}, Total: 81}, {Rows: [][]int{s.Rows[0][:10]}, Total: 4}} {
		if impl.GoodSketch(q) {
			t.Errorf("taken: %v", q)
		}
		checkAddSketch(t, q, "a", 1)
		checkGuess(t, q, "a")
		checkJoinSketches(t, q, s)
		checkJoinSketches(t, s, q)
		check("refusing")
	}
	if three := (impl.Sketch{Rows: s.Rows[:3], Total: 4}); !impl.GoodSketch(s) || !impl.GoodSketch(three) {
		t.Error("refused:", s, three)
	}
	check("GoodSketch")
}

// Rows of an argument may be one and the same in memory: they are told as rows that are alike.
func TestSketchesMayShareTheirRows(t *testing.T) {
	row := rowAt(8, 3, 1, 2, 9, 4)
	s := impl.Sketch{Rows: [][]int{row, row, row}, Total: 9}
	for _, name := range []string{"a", "cpu", "z"} {
		checkAddSketch(t, s, name, 7)
		checkGuess(t, s, name)
	}
	checkJoinSketches(t, s, s)
	checkJoinSketches(t, s, sketchOf(row, row, row))
	if !slices.Equal(row, rowAt(8, 3, 1, 2, 9, 4)) {
		t.Error("written into:", row)
	}
}

func TestSketchesWriteIntoNoHeavy(t *testing.T) {
	for _, told := range []string{"", "b 1", "b 5 d 1", "b 2 d 1 f 1", "b 3 d 2 f 9", "b 1 d 1 f 1"} {
		h, was := roomyHeavy(3, told), cloneHeavy(wholeHeavy(roomyHeavy(3, told)))
		check := func(name string) {
			t.Helper()
			if !sameHeavy(wholeHeavy(h), was) {
				t.Fatalf("%s has written: %+v", name, wholeHeavy(h))
			}
		}
		if !impl.GoodHeavy(h) || impl.GoodHeavy(wholeHeavy(h)) {
			t.Errorf("GoodHeavy(%+v)", h)
		}
		for _, name := range []string{"a", "b", "c", "d", "e", "f", "g", "x", "zz", "", "A"} {
			checkAddHeavy(t, h, name)
			check("AddHeavy")
			checkLeast(t, h, name)
			check("LeastOf")
			for _, q := range []impl.Heavy{wholeHeavy(h), {Names: h.Names[:4], Counts: h.Counts[:4], Gone: 2, Total: h.Total + 79}, {Names: h.Names, Counts: h.Counts, Gone: 2}, {Names: h.Names[:2], Counts: h.Counts, Gone: 2, Total: h.Total}} {
				checkAddHeavy(t, q, name)
				checkLeast(t, q, name)
				check("refusing")
			}
		}
	}
}

func TestSketchesWriteIntoNoNames(t *testing.T) {
	all := namesOf("b", "a", "b", "c", "d", "", "A")
	l := slices.Clone(all)[:5]
	for places := -1; places < 8; places++ {
		checkFeed(t, places, l)
		checkFeed(t, places, l[:6])
		checkFeed(t, places, l[:7])
		checkFeed(t, places, l[:0])
	}
	if !slices.Equal(l[:7], all) {
		t.Error("written into:", l[:7])
	}
}

// checkSketchFresh writes over all of a sketch's lists, one at a time, and behind them: no other one may change.
func checkSketchFresh(t *testing.T, name string, way func() impl.Sketch) {
	t.Helper()
	want := cloneSketch(way())
	s := way()
	if slices.ContainsFunc(s.Rows[len(s.Rows):cap(s.Rows)], func(l []int) bool { return l != nil }) || slices.ContainsFunc(s.Rows, hasBehind) {
		t.Errorf("%s hands out %v", name, wholeSketch(s))
	}
	for row := range want.Rows {
		s := way()
		spoil(s.Rows[row], 77)
		s.Rows[row] = want.Rows[row]
		if !sameSketch(s, want) {
			t.Errorf("%s: row %d shares memory: %v", name, row, s)
		}
	}
	s = way()
	for _, l := range s.Rows {
		spoil(l, 77)
	}
	spoil(s.Rows, []int{77})
	if again := way(); !sameSketch(again, want) {
		t.Errorf("%s: %v, not %v", name, again, want)
	}
}

func checkHeavyFresh(t *testing.T, name string, way func() impl.Heavy) {
	t.Helper()
	want := cloneHeavy(way())
	h := way()
	if slices.ContainsFunc(h.Names[len(h.Names):cap(h.Names)], func(s string) bool { return s != "" }) || hasBehind(h.Counts) {
		t.Errorf("%s hands out %+v", name, wholeHeavy(h))
	}
	spoil(h.Names, "?")
	spoil(h.Counts, 77)
	if again := way(); !sameHeavy(again, want) {
		t.Errorf("%s: %+v, not %+v", name, again, want)
	}
}

func TestSketchesAnswerWithNewMemory(t *testing.T) {
	s, was := roomySketch(), cloneSketch(wholeSketch(roomySketch()))
	other := roomySketch()
	for rows := 1; rows <= 3; rows++ {
		checkSketchFresh(t, fmt.Sprint("NewSketch ", rows), func() impl.Sketch {
			q, _ := impl.NewSketch(rows)
			return q
		})
	}
	for _, name := range []string{"a", "cpu", "z"} {
		checkSketchFresh(t, "AddSketch "+name, func() impl.Sketch {
			q, _ := impl.AddSketch(s, name, 5)
			return q
		})
	}
	for _, pair := range [][2]impl.Sketch{{s, other}, {other, s}, {s, s}, {s, emptySketch(2)}, {emptySketch(2), s}, {emptySketch(2), emptySketch(2)}} {
		checkSketchFresh(t, fmt.Sprint("JoinSketches ", pair), func() impl.Sketch {
			q, _ := impl.JoinSketches(pair[0], pair[1])
			return q
		})
	}
	if !sameSketch(wholeSketch(s), was) || !sameSketch(wholeSketch(other), was) {
		t.Errorf("memory is shared: %v %v", wholeSketch(s), wholeSketch(other))
	}
}

func TestHeaviesAnswerWithNewMemory(t *testing.T) {
	for places := 1; places <= 6; places++ {
		checkHeavyFresh(t, fmt.Sprint("NewHeavy ", places), func() impl.Heavy {
			q, _ := impl.NewHeavy(places)
			return q
		})
		for _, told := range []string{"", "a", "ab", "cab", "bacadabefg"} {
			l, want := lettersOf(told), lettersOf(told)
			checkHeavyFresh(t, fmt.Sprint("FeedHeavy ", places, told), func() impl.Heavy {
				q, _ := impl.FeedHeavy(places, l)
				return q
			})
			if !slices.Equal(l, want) {
				t.Error("memory is shared:", l)
			}
		}
	}
	for _, told := range []string{"", "b 1", "b 5 d 1", "b 2 d 1 f 1", "b 1 d 1 f 2", "b 3 d 2 f 9", "b 1 d 1 f 1"} {
		h, was := roomyHeavy(3, told), cloneHeavy(wholeHeavy(roomyHeavy(3, told)))
		for _, name := range []string{"a", "b", "c", "d", "e", "f", "g"} {
			checkHeavyFresh(t, fmt.Sprint("AddHeavy ", told, name), func() impl.Heavy {
				q, _ := impl.AddHeavy(h, name)
				return q
			})
		}
		if !sameHeavy(wholeHeavy(h), was) {
			t.Errorf("memory is shared: %+v", wholeHeavy(h))
		}
	}
}

// Nothing is kept from call to call: what was asked between is not to be seen.
func TestSketchesTellTheSameAgain(t *testing.T) {
	r := rand.New(rand.NewSource(164))
	for range 200 {
		s, h, name := anySketch(r, 1+r.Intn(3)), anyHeavy(r), anySketchName(r)
		sum, is := impl.AddSketch(s, name, 3)
		next, was := impl.AddHeavy(h, name)
		guess, _ := impl.GuessOf(s, name)
		least, most, _ := impl.LeastOf(h, name)
		for range 5 {
			impl.AddSketch(anySketch(r, 1+r.Intn(3)), anySketchName(r), 1+r.Intn(9))
			impl.AddHeavy(anyHeavy(r), anySketchName(r))
			if q, ok := impl.AddSketch(s, name, 3); !sameSketch(q, sum) || ok != is {
				t.Fatalf("AddSketch(%v, %q): %v, and %v", s, name, sum, q)
			}
			if q, ok := impl.AddHeavy(h, name); !sameHeavy(q, next) || ok != was {
				t.Fatalf("AddHeavy(%+v, %q): %+v, and %+v", h, name, next, q)
			}
			if n, _ := impl.GuessOf(s, name); n != guess {
				t.Fatalf("GuessOf(%v, %q): %d, and %d", s, name, guess, n)
			}
			if a, b, _ := impl.LeastOf(h, name); a != least || b != most {
				t.Fatalf("LeastOf(%+v, %q): %d %d, and %d %d", h, name, least, most, a, b)
			}
		}
	}
}
