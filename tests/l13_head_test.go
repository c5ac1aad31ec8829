package tests

import (
	"fmt"
	"math/rand"
	"regexp"
	"slices"
	"strconv"
	"strings"
	"testing"

	"loop.example/g00522/impl"
)

func sayOf(name string, at int, value int) impl.Say {
	return impl.Say{Name: name, At: at, Value: value}
}

// rowWith has its samples as an At and a Value, one behind the other.
func rowWith(name string, l ...int) impl.Row {
	out := impl.Row{Name: name}
	for i := 0; i+1 < len(l); i += 2 {
		out.Samples = append(out.Samples, impl.Sample{At: l[i], Value: l[i+1]})
	}
	return out
}

func rowOfMany(name string, many int) impl.Row {
	return impl.Row{Name: name, Samples: every(10, 10, many)}
}

func headOf(offset int, rows ...impl.Row) impl.Head {
	return impl.Head{Rows: rows, Offset: offset}
}

// headOfMany has so many rows, named a, b and so on, of one sample at 10.
func headOfMany(many int) impl.Head {
	var out impl.Head
	for k := range many {
		out.Rows = append(out.Rows, rowOfMany(string(rune('a'+k)), 1))
	}
	return out
}

func cloneHead(h impl.Head) impl.Head {
	out := impl.Head{Rows: slices.Clone(h.Rows), Offset: h.Offset}
	for i, row := range out.Rows {
		out.Rows[i].Samples = slices.Clone(row.Samples)
	}
	return out
}

func alteredHead(h impl.Head, change func(*impl.Head)) impl.Head {
	out := cloneHead(h)
	change(&out)
	return out
}

func withOffset(h impl.Head, offset int) impl.Head {
	return alteredHead(h, func(q *impl.Head) { q.Offset = offset })
}

func sameRow(a impl.Row, b impl.Row) bool {
	return a.Name == b.Name && slices.Equal(a.Samples, b.Samples)
}

func sameHead(a impl.Head, b impl.Head) bool {
	return a.Offset == b.Offset && slices.EqualFunc(a.Rows, b.Rows, sameRow)
}

func isZeroHead(h impl.Head) bool { return sameHead(h, impl.Head{}) }

var plainName = regexp.MustCompile(`\A[a-z]{1,8}\z`)
var plainOffset = regexp.MustCompile(`\A(?:0|[1-9][0-9]*)\z`)
var plainSay = regexp.MustCompile(`\A([a-z]{1,8}) (0|[1-9][0-9]*) (0|-?[1-9][0-9]*)\z`)

func plainGoodSay(x impl.Say) bool {
	return plainName.MatchString(x.Name) && among(x.At, 0, 1000000000) && among(x.Value, -1000000000, 1000000000)
}

func plainGoodHead(h impl.Head) bool {
	if !among(h.Offset, 0, 1000) || len(h.Rows) > 8 {
		return false
	}
	for i, row := range h.Rows {
		if !among(len(row.Samples), 1, 40) || i > 0 && h.Rows[i-1].Name >= row.Name {
			return false
		}
		for k, x := range row.Samples {
			if !plainGoodSay(sayOf(row.Name, x.At, x.Value)) || k > 0 && row.Samples[k-1].At >= x.At {
				return false
			}
		}
	}
	return true
}

// plainTakeSay goes by the chapter's words, one behind the other, on a copy.
func plainTakeSay(h impl.Head, x impl.Say) (impl.Head, int, bool) {
	if !plainGoodHead(h) || !plainGoodSay(x) || h.Offset == 1000 {
		return impl.Head{}, 0, false
	}
	q := cloneHead(h)
	q.Offset++
	at := slices.IndexFunc(q.Rows, func(row impl.Row) bool { return row.Name == x.Name })
	if at < 0 && len(q.Rows) == 8 {
		return q, 4, true
	}
	if at < 0 {
		q.Rows = append(q.Rows, rowWith(x.Name, x.At, x.Value))
		slices.SortFunc(q.Rows, func(a, b impl.Row) int { return strings.Compare(a.Name, b.Name) })
		return q, 1, true
	}
	l := q.Rows[at].Samples
	switch last := l[len(l)-1].At; {
	case last == x.At:
		return q, 2, true
	case last > x.At:
		return q, 3, true
	case len(l) == 40:
		return q, 4, true
	}
	q.Rows[at].Samples = append(l, impl.Sample{At: x.At, Value: x.Value})
	return q, 1, true
}

func plainFold(h impl.Head, l []impl.Say) (impl.Head, []int, bool) {
	q, ok := cloneHead(h), plainGoodHead(h) && len(l) <= 60
	var codes []int
	for i := 0; i < len(l) && ok; i++ {
		code := 0
		q, code, ok = plainTakeSay(q, l[i])
		codes = append(codes, code)
	}
	if !ok {
		return impl.Head{}, nil, false
	}
	return q, codes, true
}

// plainRows knows of no head: of the first eight names that were told it has what rose, the first forty of each.
func plainRows(l []impl.Say) []impl.Row {
	byName := map[string][]impl.Sample{}
	for _, x := range l {
		had, is := byName[x.Name]
		if is && (len(had) == 40 || had[len(had)-1].At >= x.At) || !is && len(byName) == 8 {
			continue
		}
		byName[x.Name] = append(had, impl.Sample{At: x.At, Value: x.Value})
	}
	var out []impl.Row
	for name, samples := range byName {
		out = append(out, impl.Row{Name: name, Samples: samples})
	}
	slices.SortFunc(out, func(a, b impl.Row) int { return strings.Compare(a.Name, b.Name) })
	return out
}

func plainTrim(h impl.Head, from int) (impl.Head, int) {
	q, went := impl.Head{Offset: h.Offset}, 0
	for _, row := range h.Rows {
		left := slices.DeleteFunc(slices.Clone(row.Samples), func(x impl.Sample) bool { return x.At < from })
		went += len(row.Samples) - len(left)
		if len(left) > 0 {
			q.Rows = append(q.Rows, impl.Row{Name: row.Name, Samples: left})
		}
	}
	return q, went
}

func plainSayText(x impl.Say) string { return fmt.Sprintf("%s %d %d", x.Name, x.At, x.Value) }

// plainHeadText writes heads that are not good, too.
func plainHeadText(h impl.Head) string {
	out := fmt.Sprintln(h.Offset)
	for _, row := range h.Rows {
		for _, x := range row.Samples {
			out += plainSayText(sayOf(row.Name, x.At, x.Value)) + "\n"
		}
	}
	return out
}

func plainReadSay(s string) (impl.Say, bool) {
	parts := plainSay.FindStringSubmatch(s)
	if parts == nil {
		return impl.Say{}, false
	}
	at, err := strconv.Atoi(parts[2])
	value, fault := strconv.Atoi(parts[3])
	x := sayOf(parts[1], at, value)
	if err != nil || fault != nil || !plainGoodSay(x) {
		return impl.Say{}, false
	}
	return x, true
}

func plainReadHead(s string) (impl.Head, bool) {
	lines := strings.Split(s, "\n")
	if len(s) > 20000 || len(lines) < 2 || lines[len(lines)-1] != "" || !plainOffset.MatchString(lines[0]) {
		return impl.Head{}, false
	}
	offset, err := strconv.Atoi(lines[0])
	h := impl.Head{Offset: offset}
	for _, line := range lines[1 : len(lines)-1] {
		x, ok := plainReadSay(line)
		if !ok {
			return impl.Head{}, false
		}
		if len(h.Rows) == 0 || h.Rows[len(h.Rows)-1].Name != x.Name {
			h.Rows = append(h.Rows, impl.Row{Name: x.Name})
		}
		row := &h.Rows[len(h.Rows)-1]
		row.Samples = append(row.Samples, impl.Sample{At: x.At, Value: x.Value})
	}
	if err != nil || !plainGoodHead(h) {
		return impl.Head{}, false
	}
	return h, true
}

// checkTake holds what a head and a say come to against the plain way.
func checkTake(t *testing.T, h impl.Head, x impl.Say) (impl.Head, int, bool) {
	t.Helper()
	want, code, is := plainTakeSay(h, x)
	got, n, ok := impl.TakeSay(h, x)
	if !sameHead(got, want) || n != code || ok != is {
		t.Fatalf("TakeSay(%v, %v): %v %d %v, not %v %d %v", h, x, got, n, ok, want, code, is)
	}
	return got, n, ok
}

func checkFold(t *testing.T, h impl.Head, l []impl.Say) (impl.Head, []int, bool) {
	t.Helper()
	want, codes, is := plainFold(h, l)
	got, told, ok := impl.FoldSays(h, l)
	if !sameHead(got, want) || !slices.Equal(told, codes) || ok != is {
		t.Fatalf("FoldSays(%v, %v): %v %v %v, not %v %v %v", h, l, got, told, ok, want, codes, is)
	}
	return got, told, ok
}

func checkReadSay(t *testing.T, s string) bool {
	t.Helper()
	want, is := plainReadSay(s)
	if x, ok := impl.ReadSay(s); x != want || ok != is {
		t.Fatalf("ReadSay(%q): %v %v, not %v %v", s, x, ok, want, is)
	}
	return is
}

func checkReadHead(t *testing.T, s string) bool {
	t.Helper()
	want, is := plainReadHead(s)
	if h, ok := impl.ReadHead(s); !sameHead(h, want) || ok != is {
		t.Fatalf("ReadHead(%q): %v %v, not %v %v", s, h, ok, want, is)
	}
	return is
}

// namesFor are those of a head's rows, others beside them, and texts that are no Names.
func namesFor(h impl.Head) []string {
	out := append(badNames(), "a", "z", "aa", "zzzzzzzz")
	for _, row := range h.Rows {
		out = append(out, row.Name, row.Name+"a", row.Name[:len(row.Name)-1], strings.ToUpper(row.Name), row.Name+" ")
	}
	return out
}

// checkHead asks a good head all there is to ask of it.
func checkHead(t *testing.T, h impl.Head) {
	t.Helper()
	if !impl.GoodHead(h) {
		t.Fatalf("not good: %v", h)
	}
	s, ok := impl.HeadText(h)
	if s != plainHeadText(h) || !ok {
		t.Fatalf("HeadText(%v): %q %v", h, s, ok)
	}
	if back, ok := impl.ReadHead(s); !sameHead(back, h) || !ok {
		t.Fatalf("ReadHead(%q): %v %v, not %v", s, back, ok, h)
	}
	for _, name := range namesFor(h) {
		at := slices.IndexFunc(h.Rows, func(row impl.Row) bool { return row.Name == name })
		l, ok := impl.RowOf(h, name)
		if ok != (at >= 0) || ok && !slices.Equal(l, h.Rows[at].Samples) || !ok && len(l) != 0 {
			t.Fatalf("RowOf(%v, %q): %v %v", h, name, l, ok)
		}
	}
	if got, codes, ok := impl.FoldSays(h, nil); !sameHead(got, h) || len(codes) != 0 || !ok {
		t.Fatalf("FoldSays(%v, none): %v %v %v", h, got, codes, ok)
	}
}

func checkTrim(t *testing.T, h impl.Head, from int) (impl.Head, int) {
	t.Helper()
	want, many := plainTrim(h, from)
	got, n, ok := impl.TrimHead(h, from)
	if !sameHead(got, want) || n != many || !ok {
		t.Fatalf("TrimHead(%v, %d): %v %d %v, not %v %d", h, from, got, n, ok, want, many)
	}
	return got, n
}

func refuseHead(t *testing.T, h impl.Head) {
	t.Helper()
	if impl.GoodHead(h) {
		t.Fatalf("taken: %v", h)
	}
	if s, ok := impl.HeadText(h); s != "" || ok {
		t.Fatalf("HeadText(%v): %q %v", h, s, ok)
	}
	names := []string{"", "a", "b", "cpu", "zzzzzzzz"}
	for i := 0; i < len(h.Rows) && i < 50; i++ {
		names = append(names, h.Rows[i].Name)
	}
	for _, name := range names {
		if l, ok := impl.RowOf(h, name); len(l) != 0 || ok {
			t.Fatalf("RowOf(%v, %q): %v %v", h, name, l, ok)
		}
		x := sayOf(name, 1000, 5)
		if q, code, ok := impl.TakeSay(h, x); !isZeroHead(q) || code != 0 || ok {
			t.Fatalf("TakeSay(%v, %v): %v %d %v", h, x, q, code, ok)
		}
		if q, codes, ok := impl.FoldSays(h, []impl.Say{x}); !isZeroHead(q) || len(codes) != 0 || ok {
			t.Fatalf("FoldSays(%v, %v): %v %v %v", h, x, q, codes, ok)
		}
	}
	if q, codes, ok := impl.FoldSays(h, nil); !isZeroHead(q) || len(codes) != 0 || ok {
		t.Fatalf("FoldSays(%v, none): %v %v %v", h, q, codes, ok)
	}
	for _, from := range []int{-1, 0, 1, 15, 1000, 1000000001} {
		if q, n, ok := impl.TrimHead(h, from); !isZeroHead(q) || n != 0 || ok {
			t.Fatalf("TrimHead(%v, %d): %v %d %v", h, from, q, n, ok)
		}
	}
}

func badNames() []string {
	out := []string{"", "aaaaaaaaa", "aaaaaaaaaa", strings.Repeat("a", 600), strings.Repeat("a", 100000), "A", "aB", "Ab", "a1", "1", "1a", "0", "-", "_", "a_b", "a b", " a", "a ", " ", "a\n", "\na", "\n", "\x00", "a\x00", "\xff", "ä", "aä", "a\xc3", "`", "{", "a`", "a{", "a=", "a,", "{a}", "aaaaaaa1", "1aaaaaaa", "aaaaaaaA", "aaaa aaa", "ｚ", "ß"}
	for c := range 256 {
		if c < 'a' || c > 'z' {
			out = append(out, string([]byte{byte(c)}), string([]byte{'a', byte(c)}), string([]byte{byte(c), 'a'}), string([]byte{'a', 'b', 'c', byte(c), 'e', 'f', 'g', 'h'}))
		}
	}
	return out
}

func goodNames() []string {
	out := []string{"a", "z", "cpu", "aa", "az", "za", "aaaaaaa", "aaaaaaaa", "zzzzzzzz", "abcdefgh", "ijklmnop", "qrstuvwx", "yz"}
	for c := byte('a'); c <= 'z'; c++ {
		out = append(out, string([]byte{c}), string([]byte{c, 'm'}), string([]byte{'m', c}), strings.Repeat(string([]byte{c}), 8))
	}
	return out
}

func goodTimes() []int { return []int{0, 1, 9, 10, 99, 123456789, 999999999, 1000000000} }

func badTimes() []int {
	return append(noNumbers(), -1, -2, -10, -1000000000, 1000000001, 1000000002, 10000000000)
}

func goodMeasures() []int {
	return []int{-1000000000, -999999999, -10, -9, -1, 0, 1, 9, 10, 999999999, 1000000000}
}

func badMeasures() []int {
	return append(noNumbers(), -1000000001, -1000000002, 1000000001, 1000000002, 10000000000, -10000000000)
}

func goodSays() []impl.Say {
	var out []impl.Say
	for _, name := range goodNames() {
		for _, at := range goodTimes() {
			for _, value := range goodMeasures() {
				out = append(out, sayOf(name, at, value))
			}
		}
	}
	return out
}

func badSays() []impl.Say {
	out := []impl.Say{{}, {At: 1}, {Value: 1}}
	for _, name := range badNames() {
		out = append(out, sayOf(name, 5, 5), sayOf(name, 0, 0), sayOf(name, -1, 0))
	}
	for _, at := range badTimes() {
		out = append(out, sayOf("a", at, 5), sayOf("cpu", at, -5), sayOf("", at, 5))
	}
	for _, value := range badMeasures() {
		out = append(out, sayOf("a", 5, value), sayOf("cpu", 1000, value), sayOf("cpu", -1, value))
	}
	return out
}

// twoRows is good, and has room in each direction.
func twoRows() impl.Head {
	return headOf(4, rowWith("app", 1, -4), rowWith("cpu", 5, 1, 7, 0, 20, 1000000000))
}

// greatestHead has the longest text that a head can have.
func greatestHead() impl.Head {
	out := impl.Head{Offset: 1000}
	for k := range 8 {
		row := impl.Row{Name: strings.Repeat(string(rune('s'+k)), 8)}
		for i := range 40 {
			row.Samples = append(row.Samples, impl.Sample{At: 1000000000 - 39 + i, Value: -1000000000})
		}
		out.Rows = append(out.Rows, row)
	}
	return out
}

// anyHead has names of few letters, so that rows' Names begin alike, and rows that are full more often than by chance.
func anyHead(r *rand.Rand) impl.Head {
	h := impl.Head{Offset: []int{0, r.Intn(1001), r.Intn(1001), 939 + r.Intn(4), 999, 1000}[r.Intn(6)]}
	names := map[string]bool{}
	for range []int{0, 1, 2, r.Intn(9), 7, 8, 8}[r.Intn(7)] {
		names[strings.Repeat("a", r.Intn(3))+string(rune('a'+r.Intn(4)))+strings.Repeat("b", r.Intn(4))] = true
	}
	for name := range names {
		h.Rows = append(h.Rows, impl.Row{Name: name})
	}
	slices.SortFunc(h.Rows, func(a, b impl.Row) int { return strings.Compare(a.Name, b.Name) })
	for i := range h.Rows {
		switch r.Intn(4) {
		case 0:
			h.Rows[i].Samples = every(r.Intn(1000), 1+r.Intn(1000), 38+r.Intn(3))
		case 1:
			h.Rows[i].Samples = every(r.Intn(20), 1+r.Intn(3), 1+r.Intn(5))
		default:
			h.Rows[i].Samples = append(anySamples(r), impl.Sample{At: 1000000000, Value: maxMeasure})
			h.Rows[i].Samples = h.Rows[i].Samples[:min(len(h.Rows[i].Samples), 40)]
		}
	}
	return h
}

// anySayFor is good; it comes close to what a row has last more often than by chance.
func anySayFor(r *rand.Rand, h impl.Head) impl.Say {
	x := sayOf(goodNames()[r.Intn(13)], goodTimes()[r.Intn(8)], goodMeasures()[r.Intn(11)])
	if len(h.Rows) == 0 || r.Intn(4) == 0 {
		return x
	}
	row := h.Rows[r.Intn(len(h.Rows))]
	last := row.Samples[len(row.Samples)-1].At
	x.Name = row.Name
	x.At = max(0, min(1000000000, []int{last - 1, last, last + 1, last + 1, r.Intn(1000000001), row.Samples[0].At}[r.Intn(6)]))
	return x
}

// anySays are good, of so many names, with times that rise more often than not.
func anySays(r *rand.Rand, many int, names int) []impl.Say {
	var out []impl.Say
	at := r.Intn(10)
	for range many {
		name := goodNames()[13+r.Intn(names)]
		out = append(out, sayOf(name, max(0, at+r.Intn(5)-2), r.Intn(2001)-1000))
		at += []int{0, 0, 1, 1, 2, r.Intn(9)}[r.Intn(6)]
	}
	return out
}

func goodHeads() []impl.Head {
	out := []impl.Head{
		{}, {Rows: []impl.Row{}}, {Offset: 1000}, twoRows(), greatestHead(), withOffset(greatestHead(), 0), headOfMany(1), headOfMany(7), headOfMany(8), withOffset(headOfMany(8), 999),
		headOf(0, rowWith("a", 0, 0)), headOf(1, rowWith("aaaaaaaa", 1000000000, -1000000000)), headOf(1, rowWith("z", 0, -1000000000, 1000000000, 1000000000)), headOf(0, rowOfMany("a", 39)), headOf(0, rowOfMany("a", 40)), headOf(7, rowOfMany("a", 40), rowOfMany("aa", 40), rowOfMany("ab", 1), rowOfMany("b", 39)),
		headOf(0, rowWith("a", 1, 1), rowWith("aa", 1, 1), rowWith("aaa", 1, 1), rowWith("aaaaaaaa", 1, 1), rowWith("ab", 1, 1), rowWith("b", 1, 1)), headOf(0, rowWith("y", 9, 9), rowWith("z", 1, 1)), headOf(0, rowWith("yzzzzzzz", 9, 9), rowWith("z", 1, 1)),
	}
	for _, name := range goodNames() {
		out = append(out, headOf(3, rowWith(name, 3, 3, 4, -3)))
	}
	r := rand.New(rand.NewSource(131))
	for range 200 {
		out = append(out, anyHead(r))
	}
	return out
}

func badHeads() []impl.Head {
	var out []impl.Head
	for _, offset := range append(noNumbers(), -2, -1, 1001, 1002, 10000) {
		out = append(out, headOf(offset), withOffset(twoRows(), offset), withOffset(greatestHead(), offset))
	}
	for _, many := range []int{9, 10, 20, 26} {
		out = append(out, headOfMany(many), withOffset(headOfMany(many), 5))
	}
	for _, l := range [][]string{{"a", "a"}, {"b", "a"}, {"aa", "a"}, {"a", "b", "b"}, {"a", "c", "b"}, {"b", "a", "c"}, {"a", "b", "a"}, {"z", "yzzzzzzz"}, {"cpu", "cpu"}, {"ab", "aaaaaaaa"}, {"a", "b", "c", "d", "e", "f", "g", "g"}, {"a", "b", "c", "d", "e", "f", "h", "g"}, {"b", "a", "c", "d", "e", "f", "g", "h"}} {
		var h impl.Head
		for i, name := range l {
			h.Rows = append(h.Rows, rowWith(name, 5+i, i))
		}
		out = append(out, h)
	}
	for _, name := range badNames() {
		out = append(out, headOf(1, rowWith(name, 5, 5)), headOf(1, rowWith("a", 5, 5), rowWith(name, 5, 5)), headOf(1, rowWith(name, 5, 5), rowWith("zz", 5, 5)))
	}
	for at := range 2 {
		out = append(out, alteredHead(twoRows(), func(h *impl.Head) { h.Rows[at].Samples = nil }), alteredHead(twoRows(), func(h *impl.Head) { h.Rows[at].Samples = []impl.Sample{} }), alteredHead(twoRows(), func(h *impl.Head) { h.Rows[at] = impl.Row{} }))
		for _, l := range badSamples() {
			out = append(out, alteredHead(twoRows(), func(h *impl.Head) { h.Rows[at].Samples = l }))
		}
	}
	return append(out, impl.Head{Rows: make([]impl.Row, 1)}, impl.Head{Rows: make([]impl.Row, 8)}, impl.Head{Rows: make([]impl.Row, 100000)}, headOf(0, rowWith("a")), headOf(0, rowOfMany("a", 41)), headOf(0, rowWith("a", 1, 1), rowWith("b"), rowWith("c", 1, 1)), alteredHead(headOfMany(8), func(h *impl.Head) { h.Rows[7].Samples = nil }))
}

func TestHeadsHaveTheirLimits(t *testing.T) {
	if impl.MaxSeries != 8 || impl.MaxFold != 60 || impl.MaxSamples != 40 || impl.MaxTime != 1000000000 {
		t.Error(impl.MaxSeries, impl.MaxFold, impl.MaxSamples, impl.MaxTime)
	}
	if impl.HdNew != 1 || impl.HdAgain != 2 || impl.HdLate != 3 || impl.HdFull != 4 {
		t.Error(impl.HdNew, impl.HdAgain, impl.HdLate, impl.HdFull)
	}
}

func TestNewHeadTellsAsSaid(t *testing.T) {
	for _, offset := range append(manyNumbers(), -1, 0, 1, 500, 998, 999, 1000, 1001, 1002) {
		h, ok := impl.NewHead(offset)
		if is := among(offset, 0, 1000); ok != is || len(h.Rows) != 0 || is && h.Offset != offset || !is && h.Offset != 0 {
			t.Errorf("NewHead(%d): %v %v", offset, h, ok)
		}
		if ok {
			checkHead(t, h)
		}
	}
}

func TestGoodHeadTellsAsSaid(t *testing.T) {
	for _, h := range goodHeads() {
		if !plainGoodHead(h) {
			t.Fatalf("the test's own: %v", h)
		}
		checkHead(t, h)
	}
	for _, offset := range []int{-1, 0, 1, 999, 1000, 1001} {
		if impl.GoodHead(withOffset(twoRows(), offset)) != among(offset, 0, 1000) {
			t.Error("Offset:", offset)
		}
	}
	for many := range 12 {
		if impl.GoodHead(headOfMany(many)) != (many <= 8) {
			t.Error("rows:", many)
		}
	}
	for many := range 90 {
		if impl.GoodHead(headOf(0, rowOfMany("a", many))) != among(many, 1, 40) || impl.GoodHead(headOf(0, rowOfMany("a", 3), rowOfMany("b", many))) != among(many, 1, 40) {
			t.Error("samples:", many)
		}
	}
}

func TestHeadsThatAreNotGood(t *testing.T) {
	for _, h := range badHeads() {
		if plainGoodHead(h) {
			t.Fatalf("the test's own: %v", h)
		}
		refuseHead(t, h)
	}
}

// One change to a good head at a time: it is good just if the plain way tells so.
func TestGoodHeadTellsWhatIsChanged(t *testing.T) {
	r := rand.New(rand.NewSource(132))
	good, bad := 0, 0
	for range 4000 {
		h := anyHead(r)
		if len(h.Rows) > 0 {
			row := &h.Rows[r.Intn(len(h.Rows))]
			at := r.Intn(len(row.Samples))
			switch r.Intn(7) {
			case 0:
				row.Name = append(badNames(), goodNames()...)[r.Intn(1000)]
			case 1:
				row.Samples[at].At = append(badTimes(), goodTimes()...)[r.Intn(len(badTimes())+8)]
			case 2:
				row.Samples[at].Value = append(badMeasures(), goodMeasures()...)[r.Intn(len(badMeasures())+11)]
			case 3:
				row.Samples[at].At += r.Intn(5) - 2
			case 4:
				row.Samples = row.Samples[:at]
			case 5:
				row.Name = h.Rows[r.Intn(len(h.Rows))].Name
			case 6:
				h.Rows = append(h.Rows, rowWith("zzz", 1, 1))
			}
		}
		is := plainGoodHead(h)
		if impl.GoodHead(h) != is {
			t.Fatalf("GoodHead(%v): not %v", h, is)
		}
		if is {
			good++
			checkHead(t, h)
		} else {
			bad++
			refuseHead(t, h)
		}
	}
	if good < 500 || bad < 500 {
		t.Error("too few:", good, bad)
	}
}

func TestTakeSayTellsAsSaid(t *testing.T) {
	cpu := rowWith("cpu", 5, 1, 7, 0, 20, 1000000000)
	for _, c := range []struct {
		h    impl.Head
		x    impl.Say
		want impl.Head
		code int
	}{
		{headOf(0), sayOf("a", 0, 0), headOf(1, rowWith("a", 0, 0)), impl.HdNew},
		{headOf(999), sayOf("zzzzzzzz", 1000000000, -1000000000), headOf(1000, rowWith("zzzzzzzz", 1000000000, -1000000000)), impl.HdNew},
		{headOf(7, rowWith("a", 3, 3)), sayOf("a", 4, 9), headOf(8, rowWith("a", 3, 3, 4, 9)), impl.HdNew},
		{headOf(7, rowWith("a", 3, 3)), sayOf("a", 1000000000, -9), headOf(8, rowWith("a", 3, 3, 1000000000, -9)), impl.HdNew},
		{headOf(7, rowWith("a", 3, 3)), sayOf("a", 3, 3), headOf(8, rowWith("a", 3, 3)), impl.HdAgain},
		{headOf(7, rowWith("a", 3, 3)), sayOf("a", 3, 4), headOf(8, rowWith("a", 3, 3)), impl.HdAgain},
		{headOf(7, rowWith("a", 3, 3)), sayOf("a", 2, 3), headOf(8, rowWith("a", 3, 3)), impl.HdLate},
		{headOf(7, rowWith("a", 3, 3)), sayOf("a", 0, 1), headOf(8, rowWith("a", 3, 3)), impl.HdLate},
		{headOf(7, rowWith("a", 1000000000, 3)), sayOf("a", 1000000000, 1), headOf(8, rowWith("a", 1000000000, 3)), impl.HdAgain},
		{headOf(7, rowWith("a", 0, 3)), sayOf("a", 0, 1), headOf(8, rowWith("a", 0, 3)), impl.HdAgain},
		// A time that the row has, but not last, comes late, and so does one between.
		{twoRows(), sayOf("cpu", 7, 0), headOf(5, rowWith("app", 1, -4), cpu), impl.HdLate},
		{twoRows(), sayOf("cpu", 6, 0), headOf(5, rowWith("app", 1, -4), cpu), impl.HdLate},
		{twoRows(), sayOf("cpu", 20, 0), headOf(5, rowWith("app", 1, -4), cpu), impl.HdAgain},
		{twoRows(), sayOf("app", 2, 8), headOf(5, rowWith("app", 1, -4, 2, 8), cpu), impl.HdNew},
		// Rows are by rising Name: ahead, between and behind.
		{twoRows(), sayOf("a", 1, 8), headOf(5, rowWith("a", 1, 8), rowWith("app", 1, -4), cpu), impl.HdNew},
		{twoRows(), sayOf("ap", 1, 8), headOf(5, rowWith("ap", 1, 8), rowWith("app", 1, -4), cpu), impl.HdNew},
		{twoRows(), sayOf("appa", 0, 8), headOf(5, rowWith("app", 1, -4), rowWith("appa", 0, 8), cpu), impl.HdNew},
		{twoRows(), sayOf("b", 0, 8), headOf(5, rowWith("app", 1, -4), rowWith("b", 0, 8), cpu), impl.HdNew},
		{twoRows(), sayOf("cpv", 0, 8), headOf(5, rowWith("app", 1, -4), cpu, rowWith("cpv", 0, 8)), impl.HdNew},
		{twoRows(), sayOf("d", 0, 8), headOf(5, rowWith("app", 1, -4), cpu, rowWith("d", 0, 8)), impl.HdNew},
	} {
		if got, code, ok := impl.TakeSay(c.h, c.x); !sameHead(got, c.want) || code != c.code || !ok {
			t.Errorf("TakeSay(%v, %v): %v %d %v, not %v %d", c.h, c.x, got, code, ok, c.want, c.code)
		}
		checkTake(t, c.h, c.x)
	}
}

// Of HdAgain, HdLate and HdFull the first one that holds is told.
func TestTheFirstCodeThatHoldsIsTold(t *testing.T) {
	for _, many := range []int{1, 2, 38, 39, 40} {
		for _, rows := range []int{1, 2, 7, 8} {
			h := headOfMany(rows)
			h.Rows[rows/2].Samples = every(10, 10, many)
			name, last := h.Rows[rows/2].Name, 10*many
			room := impl.HdNew
			if many == 40 {
				room = impl.HdFull
			}
			for _, c := range [][2]int{{last, impl.HdAgain}, {last - 1, impl.HdLate}, {last - 5, impl.HdLate}, {0, impl.HdLate}, {last + 1, room}, {last + 10, room}, {1000000000, room}} {
				for _, value := range []int{0, 77, -1000000000} {
					got, code, ok := impl.TakeSay(h, sayOf(name, c[0], value))
					if code != c[1] || !ok || got.Offset != 1 || code != impl.HdNew && !sameHead(withOffset(got, 0), h) {
						t.Errorf("%d samples, %d rows, At %d: %v %d %v, not %d", many, rows, c[0], got, code, ok, c[1])
					}
					checkTake(t, h, sayOf(name, c[0], value))
				}
			}
			if many > 2 {
				checkTake(t, h, sayOf(name, 10, 1))
				checkTake(t, h, sayOf(name, last-10, 1))
			}
		}
	}
}

func TestNewRowsStandWhereTheirNamesAre(t *testing.T) {
	for many := range 9 {
		h := impl.Head{}
		for k := range many {
			h.Rows = append(h.Rows, rowOfMany(string(rune('b'+2*k)), 1+k))
		}
		for c := 'a'; c <= 'z'; c++ {
			for _, name := range []string{string(c), string(c) + "a", "a" + string(c), strings.Repeat(string(c), 8)} {
				isThere := slices.ContainsFunc(h.Rows, func(row impl.Row) bool { return row.Name == name })
				got, code, ok := checkTake(t, h, sayOf(name, 1, 2))
				switch {
				case !ok || got.Offset != 1 || !plainGoodHead(got):
					t.Fatal(many, name, got, ok)
				case isThere && code != impl.HdLate, !isThere && many == 8 && code != impl.HdFull, !isThere && many < 8 && code != impl.HdNew:
					t.Fatal(many, name, code)
				case !isThere && many < 8 && len(got.Rows) != many+1, (isThere || many == 8) && len(got.Rows) != many:
					t.Fatal(many, name, got)
				}
			}
		}
	}
}

func TestTakeSayRefuses(t *testing.T) {
	for _, x := range badSays() {
		for _, h := range []impl.Head{{}, twoRows(), headOfMany(8), withOffset(twoRows(), 999), headOf(3, rowOfMany("cpu", 40))} {
			if q, code, ok := impl.TakeSay(h, x); !isZeroHead(q) || code != 0 || ok {
				t.Fatalf("TakeSay(%v, %v): %v %d %v", h, x, q, code, ok)
			}
			for _, l := range [][]impl.Say{{x}, {sayOf("a", 1, 1), x}, {x, sayOf("a", 1, 1)}} {
				if q, codes, ok := impl.FoldSays(h, l); !isZeroHead(q) || len(codes) != 0 || ok {
					t.Fatalf("FoldSays(%v, %v): %v %v %v", h, l, q, codes, ok)
				}
			}
		}
	}
	// Behind 1000 says there is no room, whatever the code would be.
	for _, offset := range []int{0, 1, 998, 999, 1000} {
		h := withOffset(headOf(0, rowOfMany("a", 1), rowOfMany("b", 40)), offset)
		for _, x := range []impl.Say{sayOf("a", 11, 1), sayOf("a", 10, 1), sayOf("a", 9, 1), sayOf("b", 400, 1), sayOf("b", 401, 1), sayOf("c", 1, 1)} {
			q, _, ok := checkTake(t, h, x)
			if ok != (offset < 1000) || ok && q.Offset != offset+1 {
				t.Errorf("TakeSay(%v, %v): %v %v", h, x, q, ok)
			}
		}
	}
}

func TestTakeSayTellsAsThePlainWay(t *testing.T) {
	met := map[int]int{}
	for _, x := range goodSays() {
		_, code, ok := checkTake(t, impl.Head{}, x)
		if code != impl.HdNew || !ok {
			t.Fatal(x, code, ok)
		}
	}
	r := rand.New(rand.NewSource(133))
	for range 6000 {
		h := anyHead(r)
		for range 4 {
			_, code, _ := checkTake(t, h, anySayFor(r, h))
			met[code]++
		}
	}
	for code := range 5 {
		if met[code] < 500 {
			t.Error("too few:", met)
		}
	}
}

func TestFoldSaysTellsAsSaid(t *testing.T) {
	l := []impl.Say{sayOf("cpu", 5, 1), sayOf("cpu", 5, 2), sayOf("cpu", 3, 0), sayOf("app", 1, -4), sayOf("cpu", 7, 0)}
	h, codes, ok := impl.FoldSays(headOf(6), l)
	if !sameHead(h, headOf(11, rowWith("app", 1, -4), rowWith("cpu", 5, 1, 7, 0))) || !slices.Equal(codes, []int{1, 2, 3, 1, 1}) || !ok {
		t.Error(h, codes, ok)
	}
	h, codes, ok = impl.FoldSays(h, []impl.Say{sayOf("app", 2, 2), sayOf("b", 0, 0), sayOf("app", 2, 3)})
	if !sameHead(h, headOf(14, rowWith("app", 1, -4, 2, 2), rowWith("b", 0, 0), rowWith("cpu", 5, 1, 7, 0))) || !slices.Equal(codes, []int{1, 1, 2}) || !ok {
		t.Error(h, codes, ok)
	}
	for _, h := range goodHeads() {
		checkFold(t, h, nil)
		checkFold(t, h, []impl.Say{})
		checkFold(t, h, l)
	}
	// Names beyond the eighth have no room, but those that are there still have.
	var many []impl.Say
	for k := range 10 {
		many = append(many, sayOf(string(rune('j'-k)), 5, k))
	}
	h, codes, ok = checkFold(t, impl.Head{}, append(many, sayOf("j", 6, 1), sayOf("a", 6, 1)))
	if len(h.Rows) != 8 || h.Rows[0].Name != "c" || h.Offset != 12 || !slices.Equal(codes, []int{1, 1, 1, 1, 1, 1, 1, 1, 4, 4, 1, 4}) || !ok {
		t.Error(h, codes, ok)
	}
}

func TestFoldsHaveAtMostSoManySays(t *testing.T) {
	for many := range 130 {
		var l []impl.Say
		for i := range many {
			l = append(l, sayOf("cpu", i, i))
		}
		h, codes, ok := checkFold(t, headOf(3), l)
		if ok != (many <= 60) || ok && (h.Offset != 3+many || len(codes) != many) || !ok && (!isZeroHead(h) || len(codes) != 0) {
			t.Errorf("%d: %v %v %v", many, h, codes, ok)
		}
		for i, code := range codes {
			if i < 40 && code != impl.HdNew || i >= 40 && code != impl.HdFull {
				t.Errorf("%d: code %d of %v", many, i, codes)
			}
		}
		checkFold(t, headOf(3), make([]impl.Say, many))
	}
	if h, codes, ok := impl.FoldSays(impl.Head{}, slices.Repeat([]impl.Say{sayOf("a", 1, 1)}, 100000)); !isZeroHead(h) || len(codes) != 0 || ok {
		t.Error(h, codes, ok)
	}
	// What is told again is counted, too: there must be room for each say in the Offset.
	for _, offset := range append(rising(930, 1, 72), -1, 0, 1, 500) {
		for _, many := range []int{0, 1, 2, 59, 60, 61} {
			h, _, ok := checkFold(t, headOf(offset), slices.Repeat([]impl.Say{sayOf("a", 1, 1)}, many))
			if ok != (many <= 60 && among(offset, 0, 1000) && offset+many <= 1000) || ok && h.Offset != offset+many {
				t.Errorf("%d says from %d on: %v %v", many, offset, h, ok)
			}
		}
	}
}

func TestOneSayThatIsNotGoodRefusesTheFold(t *testing.T) {
	r := rand.New(rand.NewSource(134))
	bad := badSays()
	for many := 1; many <= 60; many++ {
		for at := range many {
			l := anySays(r, many, 9)
			l[at] = bad[r.Intn(len(bad))]
			if h, codes, ok := impl.FoldSays(twoRows(), l); !isZeroHead(h) || len(codes) != 0 || ok {
				t.Fatalf("FoldSays of %v: %v %v %v", l, h, codes, ok)
			}
		}
	}
}

// checkFoldedOn is promise 13 at one place: what is kept there, as it is or by its text, comes to the same head.
func checkFoldedOn(t *testing.T, h impl.Head, l []impl.Say, at int) {
	t.Helper()
	whole, codes, ok := impl.FoldSays(h, l)
	kept, first, is := impl.FoldSays(h, l[:at])
	if !is {
		if ok {
			t.Fatalf("%v of %v: the first %d can't be folded alone", l, h, at)
		}
		return
	}
	text, isText := impl.HeadText(kept)
	back, isBack := impl.ReadHead(text)
	if !isText || !isBack {
		t.Fatalf("%v is not kept: %q", kept, text)
	}
	for _, q := range []impl.Head{kept, back} {
		on, second, is := impl.FoldSays(q, l[at:])
		if !sameHead(on, whole) || is != ok || is && !slices.Equal(append(slices.Clone(first), second...), codes) {
			t.Fatalf("%v of %v: folded on from %d: %v %v %v, not %v %v %v", l, h, at, on, second, is, whole, codes, ok)
		}
	}
}

// Promise 13: a head folded on from what was kept is the head folded from the beginning.
func TestHeadsFoldedOnAreThoseFoldedFromTheBeginning(t *testing.T) {
	r := rand.New(rand.NewSource(135))
	met, refused := map[int]int{}, 0
	for i := range 400 {
		h := impl.Head{Offset: r.Intn(900)}
		if i%4 == 3 {
			h = anyHead(r)
		}
		l := anySays(r, []int{r.Intn(61), 60, 59}[r.Intn(3)], 1+r.Intn(11))
		whole, codes, ok := checkFold(t, h, l)
		if !ok {
			refused++
		}
		for _, code := range codes {
			met[code]++
		}
		if len(h.Rows) == 0 && ok && !slices.EqualFunc(whole.Rows, plainRows(l), sameRow) {
			t.Fatalf("%v: %v, not %v", l, whole.Rows, plainRows(l))
		}
		for at := range len(l) + 1 {
			checkFoldedOn(t, h, l, at)
		}
	}
	if met[1] < 2000 || met[2] < 500 || met[3] < 500 || met[4] < 500 || refused < 10 {
		t.Error("too few:", met, refused)
	}
}

// Promise 13 over many keepings: whatever the pieces, what was told is folded to the same head as say by say.
func TestHeadsFoldedInPiecesAreThoseFoldedSayBySay(t *testing.T) {
	r := rand.New(rand.NewSource(136))
	full := 0
	for range 60 {
		l := anySays(r, []int{r.Intn(1001), 1000}[r.Intn(2)], 1+r.Intn(14))
		one, _ := impl.NewHead(0)
		var want []int
		for _, x := range l {
			code, ok := 0, false
			if one, code, ok = impl.TakeSay(one, x); !ok {
				t.Fatal(one, x)
			}
			want = append(want, code)
		}
		if one.Offset != len(l) || !slices.EqualFunc(one.Rows, plainRows(l), sameRow) {
			t.Fatalf("%v: %v, not %v", l, one, plainRows(l))
		}
		if slices.Contains(want, impl.HdFull) {
			full++
		}
		kept, _ := impl.NewHead(0)
		var told []int
		for at := 0; at < len(l); {
			end := min(len(l), at+r.Intn(61))
			q, codes, ok := impl.FoldSays(kept, l[at:end])
			// A head that is lost is built anew from what was kept: the same says come to the same.
			text, _ := impl.HeadText(kept)
			back, _ := impl.ReadHead(text)
			again, same, is := impl.FoldSays(back, l[at:end])
			if !ok || !is || !sameHead(q, again) || !slices.Equal(codes, same) {
				t.Fatal(kept, l[at:end], q, again)
			}
			kept, told, at = q, append(told, codes...), end
		}
		if !sameHead(kept, one) || !slices.Equal(told, want) {
			t.Fatalf("%v: %v, not %v", l, kept, one)
		}
	}
	if full < 20 {
		t.Error("too few:", full)
	}
}

// Promise 13, over all that few says can come to.
func TestWhateverFewSaysHeadsFoldedOnAreAsFromTheBeginning(t *testing.T) {
	few := []impl.Say{sayOf("a", 0, 1), sayOf("a", 1, 2), sayOf("a", 2, 3), sayOf("ab", 1, 4), sayOf("b", 0, 5), sayOf("b", 2, 6)}
	seven, crowded := headOfMany(7), headOf(994, rowOfMany("a", 39), rowOfMany("b", 40))
	for i := range seven.Rows {
		seven.Rows[i].Name = "b" + seven.Rows[i].Name
	}
	for i := range crowded.Rows[0].Samples {
		crowded.Rows[0].Samples[i].At = max(0, i-38)
	}
	crowded.Rows[0].Samples = crowded.Rows[0].Samples[38:]
	var walk func(l []impl.Say, left int)
	walk = func(l []impl.Say, left int) {
		for _, h := range []impl.Head{{}, seven, crowded, headOf(997, rowWith("ab", 0, 0))} {
			checkFold(t, h, l)
			for at := range len(l) + 1 {
				checkFoldedOn(t, h, l, at)
			}
		}
		if left > 0 {
			for _, x := range few {
				walk(append(l[:len(l):len(l)], x), left-1)
			}
		}
	}
	walk(nil, 4)
}

func TestRowOfTellsAsSaid(t *testing.T) {
	h := twoRows()
	for _, c := range []struct {
		name string
		want []impl.Sample
	}{{"app", h.Rows[0].Samples}, {"cpu", h.Rows[1].Samples}, {"", nil}, {"a", nil}, {"ap", nil}, {"appl", nil}, {"b", nil}, {"cp", nil}, {"cpua", nil}, {"cpv", nil}, {"zzzzzzzz", nil}, {"App", nil}, {"cpu ", nil}, {"app\x00", nil}, {"aaaaaaaaa", nil}, {"\xff", nil}} {
		if l, ok := impl.RowOf(h, c.name); !slices.Equal(l, c.want) || ok != (c.want != nil) {
			t.Errorf("RowOf(%q): %v %v", c.name, l, ok)
		}
		if l, ok := impl.RowOf(impl.Head{Offset: 5}, c.name); len(l) != 0 || ok {
			t.Errorf("no rows, RowOf(%q): %v %v", c.name, l, ok)
		}
	}
	for k := range 8 {
		if l, ok := impl.RowOf(greatestHead(), greatestHead().Rows[k].Name); !slices.Equal(l, greatestHead().Rows[k].Samples) || !ok {
			t.Error(k, l, ok)
		}
	}
}

func TestTrimHeadTellsAsSaid(t *testing.T) {
	h := headOf(9, rowWith("app", 1, -4), rowWith("cpu", 5, 1, 7, 0, 20, 3), rowWith("net", 5, 9, 6, 9), rowWith("z", 0, 0, 1000000000, 1))
	for _, c := range []struct {
		from int
		want impl.Head
		many int
	}{
		{-1, h, 0}, {0, h, 0},
		{1, headOf(9, h.Rows[0], h.Rows[1], h.Rows[2], rowWith("z", 1000000000, 1)), 1},
		{2, headOf(9, h.Rows[1], h.Rows[2], rowWith("z", 1000000000, 1)), 2},
		{5, headOf(9, h.Rows[1], h.Rows[2], rowWith("z", 1000000000, 1)), 2},
		{6, headOf(9, rowWith("cpu", 7, 0, 20, 3), rowWith("net", 6, 9), rowWith("z", 1000000000, 1)), 4},
		{7, headOf(9, rowWith("cpu", 7, 0, 20, 3), rowWith("z", 1000000000, 1)), 5},
		{8, headOf(9, rowWith("cpu", 20, 3), rowWith("z", 1000000000, 1)), 6},
		{20, headOf(9, rowWith("cpu", 20, 3), rowWith("z", 1000000000, 1)), 6},
		{21, headOf(9, rowWith("z", 1000000000, 1)), 7}, {1000000000, headOf(9, rowWith("z", 1000000000, 1)), 7}, {1000000001, headOf(9), 8},
	} {
		if q, n, ok := impl.TrimHead(h, c.from); !sameHead(q, c.want) || n != c.many || !ok {
			t.Errorf("TrimHead(%d): %v %d %v, not %v %d", c.from, q, n, ok, c.want, c.many)
		}
	}
	for _, from := range append(noNumbers(), -2, -1, 0, 1, 1000000000, 1000000001) {
		for _, h := range goodHeads() {
			checkTrim(t, h, from)
		}
	}
}

// What is trimmed has all from there on, and nothing else; the Offset stays, and what is told goes on behind.
func TestWhatIsTrimmedHasAllFromThereOn(t *testing.T) {
	r := rand.New(rand.NewSource(137))
	none, some, all, rows := 0, 0, 0, 0
	for range 3000 {
		h := anyHead(r)
		from := r.Intn(2000)
		if len(h.Rows) > 0 && r.Intn(3) > 0 {
			l := h.Rows[r.Intn(len(h.Rows))].Samples
			from = l[r.Intn(len(l))].At + r.Intn(3) - 1
		}
		if r.Intn(10) == 0 {
			from = 1000000001
		}
		q, n := checkTrim(t, h, from)
		checkHead(t, q)
		switch {
		case n == 0:
			none++
		case len(q.Rows) == 0:
			all++
		case len(q.Rows) < len(h.Rows):
			rows++
		default:
			some++
		}
		for _, row := range h.Rows {
			l, ok := impl.RowOf(q, row.Name)
			for _, x := range row.Samples {
				if slices.Contains(l, x) != (x.At >= from) {
					t.Fatalf("TrimHead(%v, %d): %v", h, from, q)
				}
			}
			if ok != (row.Samples[len(row.Samples)-1].At >= from) {
				t.Fatalf("TrimHead(%v, %d): %v", h, from, q)
			}
		}
		if again, m := checkTrim(t, q, from); !sameHead(again, q) || m != 0 {
			t.Fatalf("TrimHead(%v, %d) twice: %v %d", h, from, again, m)
		}
		later := from + r.Intn(50)
		once, m := checkTrim(t, h, later)
		if twice, k := checkTrim(t, q, later); !sameHead(once, twice) || n+k != m {
			t.Fatalf("TrimHead(%v) at %d and %d: %v, not %v", h, from, later, twice, once)
		}
		checkTake(t, q, anySayFor(r, h))
	}
	if none < 100 || some < 100 || all < 100 || rows < 100 {
		t.Error("too few:", none, some, all, rows)
	}
}

func TestSayTextTellsAsSaid(t *testing.T) {
	for _, c := range []struct {
		x    impl.Say
		want string
	}{
		{sayOf("a", 1, 2), "a 1 2"}, {sayOf("cpu", 5, -1), "cpu 5 -1"}, {sayOf("a", 0, 0), "a 0 0"}, {sayOf("zzzzzzzz", 1000000000, -1000000000), "zzzzzzzz 1000000000 -1000000000"},
		{sayOf("abcdefgh", 10, 1000000000), "abcdefgh 10 1000000000"}, {sayOf("x", 999999999, -10), "x 999999999 -10"},
	} {
		if s, ok := impl.SayText(c.x); s != c.want || !ok {
			t.Errorf("SayText(%v): %q %v", c.x, s, ok)
		}
		if x, ok := impl.ReadSay(c.want); x != c.x || !ok {
			t.Errorf("ReadSay(%q): %v %v", c.want, x, ok)
		}
	}
	for _, x := range badSays() {
		if s, ok := impl.SayText(x); s != "" || ok {
			t.Errorf("SayText(%v): %q %v", x, s, ok)
		}
		if got, ok := impl.ReadSay(plainSayText(x)); got != (impl.Say{}) || ok {
			t.Errorf("ReadSay(%q): %v %v", plainSayText(x), got, ok)
		}
	}
}

func TestSaysComeBackFromTheirTexts(t *testing.T) {
	r := rand.New(rand.NewSource(138))
	l := goodSays()
	for range 3000 {
		l = append(l, sayOf(anyWord(r, "abcxyz"), r.Intn(1000000001), r.Intn(2000000001)-1000000000))
	}
	for _, x := range l {
		if !plainGoodSay(x) {
			continue
		}
		s, ok := impl.SayText(x)
		if s != plainSayText(x) || !ok {
			t.Fatalf("SayText(%v): %q %v", x, s, ok)
		}
		if back, ok := impl.ReadSay(s); back != x || !ok {
			t.Fatalf("ReadSay(%q): %v %v", s, back, ok)
		}
	}
}

// badSayTexts are texts of no good say.
func badSayTexts() []string {
	return []string{
		"", " ", "  ", "a", "a ", "a 1", "a 1 ", "a  1", "a 1  2", "a  1 2", " a 1 2", "a 1 2 ", "a 1 2 3", "a 1 2\n", "\na 1 2", "a 1\n2", "a\n1 2", "a\t1 2", "a 1\t2", "a,1,2", "a1 2", "a 12", "1 2", " 1 2", "a 1 2\x00", "a 1 2x", "a 1 2 x",
		"a 01 2", "a 00 2", "a 1 02", "a 1 00", "a 1 -0", "a -0 1", "a -0 -0", "a 1 -02", "a 1 -00", "a 1 --2", "a 1 -", "a - 1", "a 1 - 2", "a -1 2", "a -1 -2", "a +1 2", "a 1 +2", "a 1 +0", "a +0 0", "a 1_0 2", "a 1 2_0", "a 0x1 2", "a 1 0x2", "a 1 0b1", "a 1 1e3", "a 1.0 2", "a 1 2.0", "a 1 2.", "a 1,000 2", "a １ 2", "a 1 ２", "a 1 −2",
		"a 1000000001 0", "a 1 1000000001", "a 1 -1000000001", "a 0 01000000000", "a 9223372036854775807 1", "a 9223372036854775808 1", "a 1 9223372036854775807", "a 1 -9223372036854775808", "a 1 -9223372036854775809", "a 18446744073709551616 1", "a 1 18446744073709551617", "a 99999999999999999999999 1", "a 1 99999999999999999999999",
		"A 1 2", "aB 1 2", "a1 1 2", "1 1 2", "aaaaaaaaa 1 2", "ä 1 2", "a- 1 2", "-a 1 2", "a 1 a", "a a 1", "a 1 1a", "a 1a 1", "a 1 2\r", "a\u00a01 2", "a 1\u00a02", "a 1 2\xff",
		"a " + strings.Repeat("0", 100000) + "1 2", "a 1 " + strings.Repeat("1", 100000), strings.Repeat("a", 100000) + " 1 2", strings.Repeat(" ", 100000), "a 1 2" + strings.Repeat(" ", 100000),
	}
}

func TestReadSayRefuses(t *testing.T) {
	for _, s := range badSayTexts() {
		if x, ok := impl.ReadSay(s); x != (impl.Say{}) || ok {
			t.Errorf("ReadSay(%q): %v %v", s, x, ok)
		}
		if h, ok := impl.ReadHead("3\n" + s + "\n"); !isZeroHead(h) || ok {
			t.Errorf("ReadHead of a say %q: %v %v", s, h, ok)
		}
		for _, text := range []string{"3\na 1 2\n" + s + "\n", "3\n" + s + "\nz 1 2\n"} {
			if h, ok := impl.ReadHead(text); !isZeroHead(h) || ok {
				t.Errorf("ReadHead(%q): %v %v", text, h, ok)
			}
		}
	}
	for _, s := range []string{"a 1 2", "a 0 0", "a 1 -2", "a 10 20", "a 1000000000 1000000000", "a 0 -1000000000", "aaaaaaaa 1 2"} {
		if !checkReadSay(t, s) {
			t.Errorf("refused: %q", s)
		}
	}
}

// bent are texts that one byte makes of another one: without it, with another one in its place, and with one more.
func bent(s string, signs string) []string {
	var out []string
	for at := range len(s) + 1 {
		for _, c := range signs {
			out = append(out, s[:at]+string(c)+s[at:])
			if at < len(s) {
				out = append(out, s[:at]+string(c)+s[at+1:])
			}
		}
		if at < len(s) {
			out = append(out, s[:at]+s[at+1:], s[:at], s[at:])
		}
	}
	return out
}

// What one byte makes of a say's text is the text of another say, or of none.
func TestReadSayHasOneFormAlone(t *testing.T) {
	good, bad := 0, 0
	for _, s := range []string{"a 1 2", "cpu 0 -1", "zzzzzzzz 1000000000 -1000000000", "abcdefgh 999999999 999999999", "ab 10 0", "b 0 0"} {
		for _, text := range bent(s, "0129-+ azAZ_.\n\t\x00ä") {
			if checkReadSay(t, text) {
				good++
				x, _ := impl.ReadSay(text)
				if back, ok := impl.SayText(x); back != text || !ok {
					t.Fatalf("%q: %q %v", text, back, ok)
				}
			} else {
				bad++
			}
		}
	}
	if good < 100 || bad < 100 {
		t.Error("too few:", good, bad)
	}
}

func TestHeadTextTellsAsSaid(t *testing.T) {
	for _, c := range []struct {
		h    impl.Head
		want string
	}{
		{impl.Head{}, "0\n"}, {headOf(1000), "1000\n"}, {headOf(4, rowWith("app", 1, -4), rowWith("cpu", 5, 1)), "4\napp 1 -4\ncpu 5 1\n"},
		{headOf(0, rowWith("a", 0, 0, 1, 0)), "0\na 0 0\na 1 0\n"}, {headOf(10, rowWith("a", 5, -1000000000, 1000000000, 1000000000), rowWith("aa", 0, 7)), "10\na 5 -1000000000\na 1000000000 1000000000\naa 0 7\n"},
	} {
		if s, ok := impl.HeadText(c.h); s != c.want || !ok {
			t.Errorf("HeadText(%v): %q %v", c.h, s, ok)
		}
		if h, ok := impl.ReadHead(c.want); !sameHead(h, c.h) || !ok {
			t.Errorf("ReadHead(%q): %v %v", c.want, h, ok)
		}
	}
}

func TestHeadsComeBackFromTheirTexts(t *testing.T) {
	r := rand.New(rand.NewSource(139))
	l := goodHeads()
	for range 1000 {
		l = append(l, anyHead(r))
	}
	for _, h := range l {
		s, ok := impl.HeadText(h)
		if s != plainHeadText(h) || !ok {
			t.Fatalf("HeadText(%v): %q %v", h, s, ok)
		}
		if back, ok := impl.ReadHead(s); !sameHead(back, h) || !ok {
			t.Fatalf("ReadHead(%q): %v %v", s, back, ok)
		}
	}
	if s, ok := impl.HeadText(greatestHead()); len(s) != 9933 || !ok {
		t.Error(len(s), ok)
	}
}

func TestReadHeadRefuses(t *testing.T) {
	texts := []string{
		"", "\n", "\n\n", "0", "4", "-1\n", "1001\n", "1002\n", "00\n", "01\n", "04\n", "-0\n", "+0\n", "+4\n", " 4\n", "4 \n", "4\r\n", "4\n\n", "\n4\n", "a\n", "4a\n", "0x4\n", "1_0\n", "4.0\n", "9223372036854775807\n", "9223372036854775808\n", "18446744073709551616\n", "99999999999999999999999999\n",
		"a 1 2\n", "a 1 2\n4\n", "4 a 1 2\n", "4\na 1 2", "4\na 1 2\n\n", "4\n\na 1 2\n", "4\na 1 2\n\nb 1 2\n", "4\na 1 2\nb 1 2", "4\na 1 2\r\n", "4\na 1 2 \n", "4\n a 1 2\n", "4\na 1 2\n5\n", "4\n5\n", "4\n5\na 1 2\n", "4\na 1 2b 1 2\n", "4\na 1 2\n\x00", "4\na 1 2\n ", "4\na 1 2\nb",
		"4\na 1 2\na 1 2\n", "4\na 1 2\na 1 3\n", "4\na 2 2\na 1 2\n", "4\nb 1 2\na 1 2\n", "4\na 1 2\nb 1 2\na 2 2\n", "4\na 1 2\nb 1 2\na 3 2\nb 2 2\n", "4\naa 1 2\na 1 2\n", "4\na 1 2\nc 1 2\nb 1 2\n",
		"4\na -1 2\n", "4\na 1000000001 2\n", "4\na 1 1000000001\n", "4\na 1 -1000000001\n", "4\naaaaaaaaa 1 2\n", "4\nA 1 2\n", "4\n 1 2\n",
		strings.Repeat("\n", 20000), strings.Repeat("\n", 20001), strings.Repeat("0", 20000), strings.Repeat("1", 19999) + "\n", strings.Repeat("a", 20000), strings.Repeat("0\n", 10000), strings.Repeat("a 1 2\n", 3000), "4\n" + strings.Repeat("a 1 2\n", 3333), "4\n" + strings.Repeat("a 1 2\n", 3334), strings.Repeat("\xff", 200000),
	}
	for _, h := range badHeads() {
		s := plainHeadText(h)
		// Rows without samples leave no line: their text may be that of a head that is good.
		if _, is := plainReadHead(s); !is {
			texts = append(texts, s)
		}
	}
	for _, s := range texts {
		if h, ok := impl.ReadHead(s); !isZeroHead(h) || ok {
			t.Errorf("ReadHead(%q): %v %v", s, h, ok)
		}
		if checkReadHead(t, s) {
			t.Errorf("the test's own: %q", s)
		}
	}
}

// longHeadText has just so many bytes: each of its lines is that of a good say, but there are too many of them.
func longHeadText(bytes int) string {
	out := "0\n"
	for len(out) < bytes {
		left := bytes - len(out)
		long := min(left, 13)
		// What is left behind must be a whole line, of 6 bytes at least.
		if left > 13 && left < 19 {
			long = left - 6
		}
		out += strings.Repeat("z", long-5) + " 1 2\n"
	}
	return out
}

// Texts have at most 20000 bytes; the longest one of a good head is far shorter, so all about there are refused.
func TestHeadTextsHaveAtMostSoManyBytes(t *testing.T) {
	for _, many := range []int{19998, 19999, 20000, 20001, 20002, 40000} {
		s := longHeadText(many)
		if len(s) != many {
			t.Fatalf("the test's own: %d, not %d", len(s), many)
		}
		if h, ok := impl.ReadHead(s); !isZeroHead(h) || ok {
			t.Errorf("%d bytes: %v %v", many, h, ok)
		}
	}
	s := plainHeadText(greatestHead())
	if !checkReadHead(t, s) {
		t.Error("refused: the longest one")
	}
	for _, more := range []string{"\n", " ", "zzzzzzzz 1000000000 0\n", strings.Repeat("\n", 20000-len(s)), strings.Repeat(" ", 20001-len(s)), strings.Repeat("zzzzzzzz 1 1\n", 700)} {
		if checkReadHead(t, s+more) {
			t.Errorf("taken: %d bytes more", len(more))
		}
	}
}

// A text that is cut short at a line's end is that of a head with less; anywhere else it is that of none.
func TestReadHeadReadsWholeLinesAlone(t *testing.T) {
	for _, h := range append(goodHeads()[:40], greatestHead()) {
		s := plainHeadText(h)
		for k := range len(s) {
			if is := k > 0 && s[k-1] == '\n'; checkReadHead(t, s[:k]) != is {
				t.Fatalf("%q, %d bytes of it: not %v", s, k, is)
			}
		}
		for _, more := range []string{"\n", " ", "0\n", "zzzzzzzz", "zzzzzzzz 1000000000", "zzzzzzzz 1000000000 1", s} {
			if checkReadHead(t, s+more) {
				t.Fatalf("%q and %q", s, more)
			}
		}
	}
}

func TestReadHeadHasOneFormAlone(t *testing.T) {
	good, bad := 0, 0
	for _, s := range []string{"0\n", "999\n", "4\na 1 2\n", "4\napp 1 -4\ncpu 5 1\n", "10\na 1 0\na 2 -1\nab 1 1\n", "1000\nzzzzzzzz 1000000000 -1000000000\n"} {
		for _, text := range bent(s, "0129-+ abz\n\t\x00A") {
			if checkReadHead(t, text) {
				good++
				h, _ := impl.ReadHead(text)
				if back, ok := impl.HeadText(h); back != text || !ok {
					t.Fatalf("%q: %q %v", text, back, ok)
				}
			} else {
				bad++
			}
		}
	}
	// Lines of a good head in any order: they are good only as they were.
	r := rand.New(rand.NewSource(140))
	for range 2000 {
		h := anyHead(r)
		if len(h.Rows) == 0 {
			continue
		}
		lines := strings.SplitAfter(plainHeadText(h), "\n")
		a, b := 1+r.Intn(len(lines)-2), 1+r.Intn(len(lines)-2)
		lines[a], lines[b] = lines[b], lines[a]
		if checkReadHead(t, strings.Join(lines, "")) {
			good++
		} else {
			bad++
		}
	}
	if good < 200 || bad < 1000 {
		t.Error("too few:", good, bad)
	}
}

// Promise 19: whatever it is given, each function answers.
func TestHeadsAnswerAtAnyArguments(t *testing.T) {
	ints := append(noNumbers(), -1000000001, -1000000000, -2, -1, 0, 1, 2, 40, 41, 60, 61, 999, 1000, 1001, 1000000000, 1000000001)
	texts := []string{"", "a", "ab", "b", "cpu", "zzzzzzzz", "zzzzzzzzz", "A", "a b", "\n", "\xff", strings.Repeat("a", 30000)}
	for _, x := range ints {
		impl.NewHead(x)
		for _, y := range ints {
			for _, h := range []impl.Head{
				headOf(x, rowWith("a", y, 0)), headOf(0, rowWith("b", x, y)), headOf(y, rowWith("a", 0, 0, x, y), rowWith("b", y, x)), headOf(5, rowWith("a", x, 0, y, 0)), headOf(5, rowWith("a", 5, x, 6, y)), headOf(5, rowWith("a", 5, 5), rowWith("b", x, 1, x, y)),
			} {
				is := plainGoodHead(h)
				if impl.GoodHead(h) != is {
					t.Fatalf("GoodHead(%v): not %v", h, is)
				}
				if !is {
					refuseHead(t, h)
					checkTake(t, h, sayOf("a", x, y))
					checkReadHead(t, plainHeadText(h))
					continue
				}
				checkHead(t, h)
				checkTrim(t, h, x)
				checkTrim(t, h, y)
				for _, name := range texts {
					checkTake(t, h, sayOf(name, x, y))
					checkFold(t, h, []impl.Say{sayOf("a", 7, 7), sayOf(name, y, x), sayOf("a", x, y)})
				}
			}
			for _, name := range texts {
				said := sayOf(name, x, y)
				if s, ok := impl.SayText(said); ok != plainGoodSay(said) || ok && s != plainSayText(said) || !ok && s != "" {
					t.Fatalf("SayText(%v): %q %v", said, s, ok)
				}
				checkReadSay(t, plainSayText(said))
			}
		}
	}
	for _, a := range texts {
		checkReadSay(t, a)
		checkReadHead(t, a)
		for _, b := range texts {
			h := headOf(3, rowWith(a, 1, 1), rowWith(b, 2, 2))
			if impl.GoodHead(h) != plainGoodHead(h) {
				t.Fatalf("GoodHead(%q, %q)", a, b)
			}
			checkTake(t, h, sayOf(b, 3, 3))
			checkReadHead(t, a+"\n"+b)
			checkReadHead(t, "1\n"+a+" 1 1\n"+b+" 2 2\n")
			checkReadSay(t, a+" 1 "+b)
		}
	}
	r := rand.New(rand.NewSource(141))
	for range 20000 {
		s := make([]byte, r.Intn(14))
		for i := range s {
			s[i] = "ab 01-\n"[r.Intn(7)]
		}
		checkReadSay(t, string(s))
		checkReadHead(t, string(s))
		checkReadHead(t, "1\n"+string(s))
	}
}

// roomyHead is twoRows with much behind its lists in their memory, which is no part of it, though it could be.
func roomyHead() impl.Head {
	h := twoRows()
	for i, row := range h.Rows {
		l := row.Samples
		h.Rows[i].Samples = append(append(make([]impl.Sample, 0, 50), l...), impl.Sample{At: 77, Value: 77}, impl.Sample{At: 78, Value: 78}, impl.Sample{At: 5})[:len(l)]
	}
	rows := append(make([]impl.Row, 0, 10), h.Rows...)
	h.Rows = append(rows, rowWith("dd", 77, 77), rowWith("ee", 78, 78), rowWith("a", 1, 1))[:2]
	return h
}

// wholeHead has all of a list's memory, within lists too.
func wholeHead(h impl.Head) impl.Head {
	out := impl.Head{Rows: slices.Clone(h.Rows[:cap(h.Rows)]), Offset: h.Offset}
	for i, row := range out.Rows {
		out.Rows[i].Samples = row.Samples[:cap(row.Samples)]
	}
	return out
}

// Promise 19: nothing is written into an argument, nor into what lies behind it in its memory, nor is that read.
func TestHeadsWriteIntoNoHead(t *testing.T) {
	h, was := roomyHead(), cloneHead(wholeHead(roomyHead()))
	check := func(name string) {
		t.Helper()
		if !sameHead(wholeHead(h), was) {
			t.Fatalf("%s has written: %v", name, wholeHead(h))
		}
	}
	checkHead(t, h)
	check("asking")
	for _, name := range []string{"a", "app", "b", "cpu", "dd", "ee", "zz", "Z"} {
		for _, at := range []int{-1, 0, 1, 2, 19, 20, 21, 77, 1000000000, 1000000001} {
			x := sayOf(name, at, 9)
			got, code, ok := impl.TakeSay(h, x)
			if want, n, is := plainTakeSay(twoRows(), x); !sameHead(got, want) || code != n || ok != is {
				t.Errorf("%v: %v %d %v, not %v %d %v", x, got, code, ok, want, n, is)
			}
			check("TakeSay")
			l := []impl.Say{x, sayOf("bb", 1, 1), sayOf("cpu", 30, 1), sayOf("app", 31, 1), x}
			got, codes, ok := impl.FoldSays(h, l)
			if want, n, is := plainFold(twoRows(), l); !sameHead(got, want) || !slices.Equal(codes, n) || ok != is {
				t.Errorf("%v: %v %v %v, not %v %v %v", l, got, codes, ok, want, n, is)
			}
			check("FoldSays")
		}
		if l, ok := impl.RowOf(h, name); ok != (name == "app" || name == "cpu") || len(l) > 3 {
			t.Errorf("RowOf(%q): %v %v", name, l, ok)
		}
		check("RowOf")
	}
	for _, from := range append(manyNumbers(), 77, 78, 79, 1000000001) {
		q, n, ok := impl.TrimHead(h, from)
		if want, many := plainTrim(twoRows(), from); !sameHead(q, want) || n != many || !ok {
			t.Errorf("TrimHead(%d): %v %d %v, not %v %d", from, q, n, ok, want, many)
		}
		check("TrimHead")
	}
	for _, q := range []impl.Head{wholeHead(h), {Rows: h.Rows[:5]}, {Rows: h.Rows, Offset: -1}, {Rows: []impl.Row{h.Rows[1], h.Rows[0]}}, {Rows: []impl.Row{{Name: "a", Samples: h.Rows[0].Samples[:4]}}}, {Rows: []impl.Row{{Name: "a", Samples: h.Rows[0].Samples[:0]}}}} {
		refuseHead(t, q)
	}
	check("refusing")
}

func TestHeadsWriteIntoNoSays(t *testing.T) {
	all := []impl.Say{sayOf("b", 5, 1), sayOf("a", 5, 1), sayOf("b", 5, 2), sayOf("b", 6, 3), {Name: "B"}, sayOf("c", 1, 1)}
	l := slices.Clone(all)[:3]
	for range 2 {
		h, codes, ok := impl.FoldSays(impl.Head{}, l)
		if !sameHead(h, headOf(3, rowWith("a", 5, 1), rowWith("b", 5, 1))) || !slices.Equal(codes, []int{1, 1, 2}) || !ok {
			t.Error(h, codes, ok)
		}
		spoil(codes, 77)
		impl.FoldSays(h, l[:4])
		impl.FoldSays(h, l[:6])
		impl.FoldSays(withOffset(h, 999), l)
		impl.FoldSays(withOffset(h, -1), l)
	}
	if !slices.Equal(l[:6], all) {
		t.Error("written into:", l[:6])
	}
}

// headHandsOut tells whether something stands behind a head's lists in their memory that is not zero.
func headHandsOut(h impl.Head) bool {
	isSome := func(row impl.Row) bool { return row.Name != "" || cap(row.Samples) > 0 }
	if slices.ContainsFunc(h.Rows[len(h.Rows):cap(h.Rows)], isSome) {
		return true
	}
	return slices.ContainsFunc(h.Rows, func(row impl.Row) bool { return samplesBehind(row.Samples) })
}

func samplesBehind(l []impl.Sample) bool {
	return slices.ContainsFunc(l[len(l):cap(l)], func(x impl.Sample) bool { return x != impl.Sample{} })
}

// checkHeadFresh writes over all of a head's lists, one at a time: no other one may change.
func checkHeadFresh(t *testing.T, name string, way func() impl.Head) {
	t.Helper()
	want, odd := cloneHead(way()), impl.Sample{At: -77, Value: 77}
	if headHandsOut(way()) {
		t.Errorf("%s hands out %v", name, wholeHead(way()))
	}
	for i := range want.Rows {
		h := way()
		spoil(h.Rows[i].Samples, odd)
		h.Rows[i].Samples = want.Rows[i].Samples
		if !sameHead(h, want) {
			t.Errorf("%s: row %d shares memory: %v", name, i, h)
		}
	}
	h := way()
	for _, row := range h.Rows {
		spoil(row.Samples, odd)
	}
	spoil(h.Rows, impl.Row{Name: "?", Samples: []impl.Sample{odd}})
	if again := way(); !sameHead(again, want) {
		t.Errorf("%s: %v, not %v", name, again, want)
	}
}

func TestHeadsAnswerWithNewMemory(t *testing.T) {
	h, was := roomyHead(), cloneHead(wholeHead(roomyHead()))
	for _, x := range []impl.Say{sayOf("a", 1, 1), sayOf("app", 2, 1), sayOf("app", 1, 1), sayOf("b", 2, 1), sayOf("cpu", 30, 1), sayOf("cpu", 20, 1), sayOf("cpu", 1, 1), sayOf("z", 5, 5)} {
		checkHeadFresh(t, fmt.Sprint("TakeSay ", x), func() impl.Head {
			q, _, ok := impl.TakeSay(h, x)
			if !ok {
				t.Fatal(x)
			}
			return q
		})
		checkHeadFresh(t, fmt.Sprint("FoldSays ", x), func() impl.Head {
			q, codes, ok := impl.FoldSays(h, []impl.Say{x, sayOf("aa", 1, 1), x, sayOf("cpu", 31, 1), sayOf("bb", 0, 0)})
			if !ok || hasBehind(codes) {
				t.Fatal(x, codes[:cap(codes)])
			}
			spoil(codes, 77)
			return q
		})
	}
	checkHeadFresh(t, "FoldSays of none", func() impl.Head {
		q, _, _ := impl.FoldSays(h, nil)
		return q
	})
	for _, from := range []int{-1, 0, 1, 2, 6, 20, 21} {
		checkHeadFresh(t, fmt.Sprint("TrimHead ", from), func() impl.Head {
			q, _, _ := impl.TrimHead(h, from)
			return q
		})
	}
	for range 3 {
		for _, name := range []string{"app", "cpu"} {
			l, ok := impl.RowOf(h, name)
			if !ok || samplesBehind(l) {
				t.Error(name, l[:cap(l)])
			}
			spoil(l, impl.Sample{At: -77})
		}
	}
	if !sameHead(wholeHead(h), was) {
		t.Errorf("memory is shared: %v", wholeHead(h))
	}
	checkHeadFresh(t, "NewHead", func() impl.Head {
		q, _ := impl.NewHead(5)
		return q
	})
	for _, q := range goodHeads()[:40] {
		s := plainHeadText(q)
		checkHeadFresh(t, "ReadHead", func() impl.Head {
			back, _ := impl.ReadHead(s)
			return back
		})
	}
}

// Nothing is kept from call to call, and nothing hangs on the order in which rows are dropped.
func TestHeadsTellTheSameAgain(t *testing.T) {
	r := rand.New(rand.NewSource(142))
	for range 200 {
		h := anyHead(r)
		from := r.Intn(500)
		first, n, _ := impl.TrimHead(h, from)
		x := anySayFor(r, h)
		took, code, is := impl.TakeSay(h, x)
		for range 10 {
			if q, m, ok := impl.TrimHead(h, from); !sameHead(q, first) || m != n || !ok {
				t.Fatalf("TrimHead(%v, %d): %v, and %v", h, from, first, q)
			}
			if q, c, ok := impl.TakeSay(h, x); !sameHead(q, took) || c != code || ok != is {
				t.Fatalf("TakeSay(%v, %v): %v, and %v", h, x, took, q)
			}
		}
	}
}
