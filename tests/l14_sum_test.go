package tests

import (
	"cmp"
	"fmt"
	"math"
	"math/rand"
	"slices"
	"strings"
	"testing"

	"loop.example/g00522/impl"
)

// itemOf has its labels as names and values, told in turn.
func itemOf(value int, words ...string) impl.Item {
	return impl.Item{Labels: labels(words...), Value: value}
}

func totalOf(sum int, count int, least int, most int, words ...string) impl.Total {
	return impl.Total{Labels: labels(words...), Sum: sum, Count: count, Least: least, Most: most}
}

func items(l ...impl.Item) []impl.Item    { return l }
func totals(l ...impl.Total) []impl.Total { return l }
func namesOf(l ...string) []string        { return l }

func cloneItems(l []impl.Item) []impl.Item {
	out := slices.Clone(l)
	for i, x := range out {
		out[i].Labels = slices.Clone(x.Labels)
	}
	return out
}

func cloneTotals(l []impl.Total) []impl.Total {
	out := slices.Clone(l)
	for i, x := range out {
		out[i].Labels = slices.Clone(x.Labels)
	}
	return out
}

func sameItem(a impl.Item, b impl.Item) bool {
	return slices.Equal(a.Labels, b.Labels) && a.Value == b.Value
}

func sameTotal(a impl.Total, b impl.Total) bool {
	return slices.Equal(a.Labels, b.Labels) && a.Sum == b.Sum && a.Count == b.Count && a.Least == b.Least && a.Most == b.Most
}

func sameItems(a []impl.Item, b []impl.Item) bool    { return slices.EqualFunc(a, b, sameItem) }
func sameTotals(a []impl.Total, b []impl.Total) bool { return slices.EqualFunc(a, b, sameTotal) }

// plainGoodLabels are those that their text, read by the document's words, has.
func plainGoodLabels(l []impl.Label) bool {
	back, ok := plainReadLabels(plainLabels(l))
	return ok && slices.Equal(back, l)
}

func plainGoodItems(l []impl.Item) bool {
	return len(l) <= 40 && !slices.ContainsFunc(l, func(x impl.Item) bool {
		return !plainGoodLabels(x.Labels) || !among(x.Value, -1000000, 1000000)
	})
}

func plainGoodTotals(l []impl.Total) bool {
	if len(l) > 40 {
		return false
	}
	for i, x := range l {
		if !plainGoodLabels(x.Labels) || !among(x.Count, 1, 1000) || !among(x.Sum, -1000000000, 1000000000) {
			return false
		}
		if !among(x.Least, -1000000, x.Most) || !among(x.Most, x.Least, 1000000) {
			return false
		}
		if i > 0 && strings.Compare(plainLabels(l[i-1].Labels), plainLabels(x.Labels)) >= 0 {
			return false
		}
	}
	return true
}

func plainKeep(l []impl.Label, names []string) []impl.Label {
	byName := map[string]bool{}
	for _, name := range names {
		byName[name] = true
	}
	return slices.DeleteFunc(slices.Clone(l), func(x impl.Label) bool { return !byName[x.Name] })
}

// plainTogether knows totals by the texts of their labels alone.
func plainTogether(l []impl.Total) []impl.Total {
	byText := map[string]impl.Total{}
	for _, x := range l {
		s := plainLabels(x.Labels)
		had, is := byText[s]
		if is {
			x.Sum, x.Count = x.Sum+had.Sum, x.Count+had.Count
			x.Least, x.Most = min(x.Least, had.Least), max(x.Most, had.Most)
		}
		byText[s] = x
	}
	var out []impl.Total
	for _, x := range byText {
		out = append(out, x)
	}
	slices.SortFunc(out, func(a, b impl.Total) int { return strings.Compare(plainLabels(a.Labels), plainLabels(b.Labels)) })
	return out
}

// plainWhereGood tells totals where they are good ones.
func plainWhereGood(l []impl.Total) ([]impl.Total, bool) {
	if !plainGoodTotals(l) {
		return nil, false
	}
	return l, true
}

// plainTotalsBy goes by the Values themselves: it gathers those of each labels, and only then asks for sums.
func plainTotalsBy(l []impl.Item, names []string) ([]impl.Total, bool) {
	if !plainGoodItems(l) || len(names) > 6 {
		return nil, false
	}
	values := map[string][]int{}
	var out []impl.Total
	for _, x := range l {
		kept := plainKeep(x.Labels, names)
		s := plainLabels(kept)
		if len(values[s]) == 0 {
			out = append(out, impl.Total{Labels: kept})
		}
		values[s] = append(values[s], x.Value)
	}
	for i := range out {
		all := values[plainLabels(out[i].Labels)]
		out[i].Count, out[i].Least, out[i].Most = len(all), slices.Min(all), slices.Max(all)
		for _, n := range all {
			out[i].Sum += n
		}
	}
	slices.SortFunc(out, func(a, b impl.Total) int { return strings.Compare(plainLabels(a.Labels), plainLabels(b.Labels)) })
	return plainWhereGood(out)
}

func plainMerge(a []impl.Total, b []impl.Total) ([]impl.Total, bool) {
	if !plainGoodTotals(a) || !plainGoodTotals(b) {
		return nil, false
	}
	return plainWhereGood(plainTogether(slices.Concat(a, b)))
}

func plainCoarse(l []impl.Total, names []string) ([]impl.Total, bool) {
	if !plainGoodTotals(l) || len(names) > 6 {
		return nil, false
	}
	coarse := slices.Clone(l)
	for i, x := range coarse {
		coarse[i].Labels = plainKeep(x.Labels, names)
	}
	return plainWhereGood(plainTogether(coarse))
}

func plainValues(l []impl.Total, op int) ([]int, bool) {
	if !plainGoodTotals(l) || !among(op, 1, 4) {
		return nil, false
	}
	var out []int
	for _, x := range l {
		out = append(out, [...]int{x.Sum, x.Count, x.Least, x.Most}[op-1])
	}
	return out, true
}

// plainTop takes the greatest of those that are left, the first of alike ones, as often as there is one to take.
func plainTop(l []impl.Total, op int, many int) ([]int, bool) {
	values, ok := plainValues(l, op)
	if !ok || !among(many, 0, 40) {
		return nil, false
	}
	var out []int
	for len(out) < min(many, len(l)) {
		best := -1
		for i, n := range values {
			if !slices.Contains(out, i) && (best < 0 || n > values[best]) {
				best = i
			}
		}
		out = append(out, best)
	}
	return out, true
}

func checkKeep(t *testing.T, l []impl.Label, names []string) {
	t.Helper()
	var want []impl.Label
	is := plainGoodLabels(l) && len(names) <= 6
	if is {
		want = plainKeep(l, names)
	}
	if got, ok := impl.KeepLabels(l, names); !slices.Equal(got, want) || ok != is {
		t.Fatalf("KeepLabels(%q, %q): %q %v, not %q %v", l, names, got, ok, want, is)
	}
}

func checkTotalsBy(t *testing.T, l []impl.Item, names []string) ([]impl.Total, bool) {
	t.Helper()
	want, is := plainTotalsBy(l, names)
	got, ok := impl.TotalsBy(l, names)
	if !sameTotals(got, want) || ok != is {
		t.Fatalf("TotalsBy(%v, %q): %v %v, not %v %v", l, names, got, ok, want, is)
	}
	if !impl.GoodTotals(got) {
		t.Fatalf("TotalsBy(%v, %q): not good: %v", l, names, got)
	}
	return got, ok
}

func checkMergeTotals(t *testing.T, a []impl.Total, b []impl.Total) ([]impl.Total, bool) {
	t.Helper()
	want, is := plainMerge(a, b)
	got, ok := impl.MergeTotals(a, b)
	if !sameTotals(got, want) || ok != is {
		t.Fatalf("MergeTotals(%v, %v): %v %v, not %v %v", a, b, got, ok, want, is)
	}
	return got, ok
}

func checkCoarse(t *testing.T, l []impl.Total, names []string) ([]impl.Total, bool) {
	t.Helper()
	want, is := plainCoarse(l, names)
	got, ok := impl.CoarseTotals(l, names)
	if !sameTotals(got, want) || ok != is {
		t.Fatalf("CoarseTotals(%v, %q): %v %v, not %v %v", l, names, got, ok, want, is)
	}
	return got, ok
}

func checkValues(t *testing.T, l []impl.Total, op int) ([]int, bool) {
	t.Helper()
	want, is := plainValues(l, op)
	got, ok := impl.ValuesOf(l, op)
	if !slices.Equal(got, want) || ok != is {
		t.Fatalf("ValuesOf(%v, %d): %v %v, not %v %v", l, op, got, ok, want, is)
	}
	return got, ok
}

func checkTop(t *testing.T, l []impl.Total, op int, many int) ([]int, bool) {
	t.Helper()
	want, is := plainTop(l, op, many)
	got, ok := impl.TopOf(l, op, many)
	if !slices.Equal(got, want) || ok != is {
		t.Fatalf("TopOf(%v, %d, %d): %v %v, not %v %v", l, op, many, got, ok, want, is)
	}
	return got, ok
}

// sumNames are names that may be asked for: none, some, all of what labels here have, told twice, and texts that are no Names.
func sumNames() [][]string {
	return [][]string{
		nil, {}, {"a"}, {"b"}, {"a", "b"}, {"b", "a"}, {"a", "a"}, {"a", "a", "a", "a", "a", "a"}, {"c", "b", "a"}, {"z"}, {"zzzzzzzz", "a"},
		{"a", "b", "c", "d", "e", "f"}, {"f", "e", "d", "c", "b", "a"}, {"app", "host"}, {"aa", "ab"}, {""}, {"", ""}, {"A"}, {"a="}, {"a1"}, {"a "}, {"ab,a"}, {"{a"}, {"a=1"}, {"{}"}, {"a,b"}, {"\xff"}, {"\x00", "a"},
		{"aaaaaaaaa"}, {strings.Repeat("a", 100000), "b"}, {"A", "", "a1", "\xff", "é", "b"}, {"a", "b", "a", "b", "a", "b"}, {"", "", "", "", "", ""},
	}
}

func tooManyNames() [][]string {
	return [][]string{
		{"a", "b", "c", "d", "e", "f", "g"}, {"a", "a", "a", "a", "a", "a", "a"}, make([]string, 7), make([]string, 8), make([]string, 1000), {"a", "b", "c", "d", "e", "f", ""}, {"A", "B", "C", "D", "E", "F", "G"}, slices.Repeat([]string{"a"}, 12),
	}
}

// manyItems have unlike labels each.
func manyItems(many int) []impl.Item {
	var out []impl.Item
	for i := range many {
		out = append(out, itemOf(i*37%41-20, "a", fmt.Sprint(i), "b", fmt.Sprint(i%3)))
	}
	return out
}

// manyTotals are good but for how many they are; the text of their labels rises from the first number on.
func manyTotals(from int, many int) []impl.Total {
	var out []impl.Total
	for i := range many {
		out = append(out, totalOf(i*37%41-20, 1+i%5, -i, i, "a", fmt.Sprint(1000+from+i)))
	}
	return out
}

func anyItems(r *rand.Rand, many int) []impl.Item {
	var out []impl.Item
	for range many {
		var words []string
		for _, name := range []string{"a", "aa", "ab", "b", "c"} {
			if r.Intn(2) == 0 {
				words = append(words, name, []string{"0", "1", "10", "a", "ab"}[r.Intn(1+r.Intn(5))])
			}
		}
		value := []int{0, r.Intn(9) - 4, r.Intn(2000001) - 1000000, 1000000, -1000000}[r.Intn(5)]
		out = append(out, itemOf(value, words...))
	}
	return out
}

func anyTotals(r *rand.Rand, many int) []impl.Total {
	out := plainTogether(withOnes(anyItems(r, many)))
	for i := range out {
		x := &out[i]
		x.Count = []int{1, 2, 500, 999, 1000, 1 + r.Intn(1000), x.Count, x.Count}[r.Intn(8)]
		x.Sum = []int{0, 500000000, -500000000, 1000000000, -1000000000, r.Intn(2000000001) - 1000000000, x.Sum, x.Sum, x.Sum}[r.Intn(9)]
		x.Least = []int{x.Least, x.Most, -1000000}[r.Intn(3)]
		x.Most = []int{x.Least, x.Most, 1000000}[r.Intn(3)]
	}
	return out
}

// withOnes makes a total of each item.
func withOnes(l []impl.Item) []impl.Total {
	var out []impl.Total
	for _, x := range l {
		out = append(out, impl.Total{Labels: x.Labels, Sum: x.Value, Count: 1, Least: x.Value, Most: x.Value})
	}
	return out
}

// anyNames come among those that labels have, more often than not.
func anyNames(r *rand.Rand) []string {
	var out []string
	for range r.Intn(7) {
		out = append(out, []string{"a", "aa", "ab", "b", "c", "d", "", "A"}[r.Intn(8)])
	}
	return out
}

func goodItemLists() [][]impl.Item {
	six := []string{"a", "1", "b", "2", "c", "3", "d", "4", "e", "5", "f", "6"}
	out := [][]impl.Item{
		nil, {}, {{}}, {{Value: 1000000}}, {{Value: -1000000}}, items(itemOf(5, "a", "1")), items(itemOf(0, six...)), items(itemOf(3, "app", "a", "host", "x"), itemOf(5, "app", "a"), itemOf(-1, "app", "b")),
		items(itemOf(1), itemOf(1)), items(itemOf(1, "a", "1"), itemOf(1, "a", "1")), items(itemOf(9, "a", "2"), itemOf(8, "a", "1"), itemOf(7)), items(itemOf(-5, six...), itemOf(1000000, six[:10]...), itemOf(-1000000, six[2:]...)),
		items(itemOf(1, "zzzzzzzz", "zzzzzzzz")), manyItems(39), manyItems(40), slices.Repeat(items(itemOf(1000000, "a", "1")), 40), slices.Repeat(items(itemOf(-1000000)), 40),
	}
	r := rand.New(rand.NewSource(141))
	for range 200 {
		out = append(out, anyItems(r, r.Intn(41)))
	}
	return out
}

func badItemLists() [][]impl.Item {
	out := [][]impl.Item{
		{{Value: 1000001}}, {{Value: -1000001}}, {{Value: math.MaxInt}}, {{Value: math.MinInt}}, items(itemOf(1000001, "a", "1")), items(itemOf(1), itemOf(-1000001)), items(itemOf(1000001), itemOf(1)),
		manyItems(41), manyItems(80), make([]impl.Item, 41), make([]impl.Item, 5000),
	}
	for _, l := range badLabels() {
		out = append(out, items(impl.Item{Labels: l, Value: 3}), items(itemOf(1, "a", "1"), impl.Item{Labels: l}), items(impl.Item{Labels: l}, itemOf(1, "a", "1")))
	}
	for _, i := range []int{0, 1, 20, 38, 39} {
		l := manyItems(40)
		l[i].Value = 1000001
		out = append(out, l)
		l = manyItems(40)
		l[i].Labels = labels("b", "1", "a", "2")
		out = append(out, l)
	}
	return out
}

func goodTotalLists() [][]impl.Total {
	out := [][]impl.Total{
		nil, {}, totals(totalOf(0, 1, 0, 0)), totals(totalOf(7, 3, -1, 5)), totals(totalOf(8, 2, 3, 5, "app", "a"), totalOf(-1, 1, -1, -1, "app", "b")),
		totals(totalOf(1000000000, 1000, 1000000, 1000000, "a", "1")), totals(totalOf(-1000000000, 1, -1000000, -1000000)), totals(totalOf(0, 1, -1000000, 1000000, "zzzzzzzz", "zzzzzzzz")),
		// The document asks no more of a Sum than where it lies: what Count, Least and Most could come to is another thing.
		totals(totalOf(1000000000, 1, 0, 0)), totals(totalOf(-5, 1, 5, 5)), totals(totalOf(0, 1, 1, 2)),
		// Texts rise, not labels: a longer one has its mark behind the Value, and `,` is less than a digit, that less than `}`.
		totals(totalOf(0, 1, 0, 0, "a", "1"), totalOf(0, 1, 0, 0)), totals(totalOf(0, 1, 0, 0, "a", "1", "b", "1"), totalOf(0, 1, 0, 0, "a", "11"), totalOf(0, 1, 0, 0, "a", "1a"), totalOf(0, 1, 0, 0, "a", "1"), totalOf(0, 1, 0, 0, "aa", "0"), totalOf(0, 1, 0, 0, "b", "0"), totalOf(0, 1, 0, 0)),
		manyTotals(0, 1), manyTotals(5, 39), manyTotals(0, 40),
	}
	r := rand.New(rand.NewSource(142))
	for range 200 {
		out = append(out, anyTotals(r, r.Intn(41)))
	}
	return out
}

func badTotalLists() [][]impl.Total {
	a, b := totalOf(3, 2, 1, 2, "a", "1"), totalOf(5, 1, 5, 5, "a", "2")
	out := [][]impl.Total{
		{{}}, {a, a}, {b, a}, totals(totalOf(0, 1, 0, 0), totalOf(0, 1, 0, 0)), totals(totalOf(0, 1, 0, 0), totalOf(9, 3, 1, 4)), totals(totalOf(0, 1, 0, 0), a), {a, b, b}, {a, b, a},
		totals(totalOf(0, 1, 0, 0, "a", "1"), totalOf(0, 1, 0, 0, "a", "1", "b", "1")), totals(totalOf(0, 1, 0, 0, "a", "1"), totalOf(0, 1, 0, 0, "a", "11")), totals(totalOf(0, 1, 0, 0, "aa", "1"), totalOf(0, 1, 0, 0, "a", "1")), totals(totalOf(0, 1, 0, 0, "a", "9"), totalOf(0, 1, 0, 0, "a", "10")),
		manyTotals(0, 41), manyTotals(0, 80), make([]impl.Total, 41), make([]impl.Total, 5000), slices.Repeat(totals(a), 40),
	}
	for _, x := range []impl.Total{
		totalOf(0, 0, 0, 0, "a", "1"), totalOf(0, -1, 0, 0, "a", "1"), totalOf(0, 1001, 0, 0, "a", "1"), totalOf(0, math.MaxInt, 0, 0), totalOf(0, math.MinInt, 0, 0),
		totalOf(1000000001, 1, 0, 0, "a", "1"), totalOf(-1000000001, 1, 0, 0, "a", "1"), totalOf(math.MaxInt, 1, 0, 0), totalOf(math.MinInt, 1, 0, 0),
		totalOf(0, 1, 1, 0, "a", "1"), totalOf(0, 1, 1000000, -1000000), totalOf(0, 1, 0, -1), totalOf(0, 1, 5, 4),
		totalOf(0, 1, -1000001, 0, "a", "1"), totalOf(0, 1, 0, 1000001, "a", "1"), totalOf(0, 1, 1000001, 1000001), totalOf(0, 1, -1000001, -1000001), totalOf(0, 1, math.MinInt, math.MaxInt), totalOf(0, 1, math.MinInt, 0), totalOf(0, 1, 0, math.MaxInt), totalOf(0, 1, math.MaxInt, math.MinInt),
	} {
		last := x
		last.Labels = labels("b", "1")
		out = append(out, totals(x), totals(a, last), totals(x, totalOf(0, 1, 0, 0, "zz", "1")), totals(a, b, last))
	}
	for _, l := range badLabels() {
		x := impl.Total{Labels: l, Sum: 1, Count: 1, Least: 1, Most: 1}
		out = append(out, totals(x), totals(a, x), totals(x, totalOf(0, 1, 0, 0, "zz", "1")))
	}
	for _, i := range []int{0, 1, 20, 38, 39} {
		l := manyTotals(0, 40)
		l[i].Count = 0
		out = append(out, l)
		l = manyTotals(0, 40)
		l[i].Labels = l[max(0, i-1)].Labels[:1:1]
		if i == 0 {
			l[i].Labels = labels("a", "1001")
		}
		out = append(out, l)
	}
	return out
}

func TestSumsHaveTheirOps(t *testing.T) {
	if impl.OpSum != 1 || impl.OpCount != 2 || impl.OpLeast != 3 || impl.OpMost != 4 {
		t.Error(impl.OpSum, impl.OpCount, impl.OpLeast, impl.OpMost)
	}
}

func TestGoodItemsTellsAsSaid(t *testing.T) {
	for _, l := range goodItemLists() {
		if !impl.GoodItems(l) || !plainGoodItems(l) {
			t.Errorf("refused: %v", l)
		}
	}
	for _, l := range badItemLists() {
		if impl.GoodItems(l) || plainGoodItems(l) {
			t.Errorf("taken: %v", l)
		}
	}
	for many := range 83 {
		if impl.GoodItems(manyItems(many)) != (many <= 40) || impl.GoodItems(make([]impl.Item, many)) != (many <= 40) {
			t.Error(many, "items")
		}
	}
	for _, n := range append(noNumbers(), -1000002, -1000001, -1000000, -999999, -1, 0, 1, 999999, 1000000, 1000001, 1000002) {
		for i := range 3 {
			l := manyItems(3)
			l[i].Value = n
			if impl.GoodItems(l) != (n >= -1000000 && n <= 1000000) {
				t.Errorf("%d at %d", n, i)
			}
		}
	}
	six := labels("a", "1", "b", "2", "c", "3", "d", "4", "e", "5", "f", "6", "g", "7")
	for many := range 8 {
		if impl.GoodItems(items(itemOf(1), impl.Item{Labels: six[:many]})) != (many <= 6) {
			t.Error(many, "labels")
		}
	}
	for _, l := range goodLabels() {
		if !impl.GoodItems(items(impl.Item{Labels: l, Value: -7})) {
			t.Errorf("refused: %q", l)
		}
	}
}

func TestGoodTotalsTellsAsSaid(t *testing.T) {
	for _, l := range goodTotalLists() {
		if !impl.GoodTotals(l) || !plainGoodTotals(l) {
			t.Errorf("refused: %v", l)
		}
	}
	for _, l := range badTotalLists() {
		if impl.GoodTotals(l) || plainGoodTotals(l) {
			t.Errorf("taken: %v", l)
		}
	}
	for many := range 83 {
		if impl.GoodTotals(manyTotals(3, many)) != (many <= 40) {
			t.Error(many, "totals")
		}
	}
	for _, l := range goodLabels() {
		if !impl.GoodTotals(totals(impl.Total{Labels: l, Count: 1})) {
			t.Errorf("refused: %q", l)
		}
	}
}

func TestTotalsHaveTheirLimits(t *testing.T) {
	for _, n := range append(noNumbers(), -1000000002, -1000000001, -1000000000, -999999999, -1000001, -1000000, -999999, -2, -1, 0, 1, 2, 999, 1000, 1001, 999999, 1000000, 1000001, 999999999, 1000000000, 1000000001) {
		for i := range 3 {
			for name, c := range map[string]struct {
				change func(*impl.Total)
				is     bool
			}{
				"Sum":   {func(x *impl.Total) { x.Sum = n }, n >= -1000000000 && n <= 1000000000},
				"Count": {func(x *impl.Total) { x.Count = n }, n >= 1 && n <= 1000},
				"Least": {func(x *impl.Total) { x.Least = n }, n >= -1000000 && n <= 2},
				"Most":  {func(x *impl.Total) { x.Most = n }, n >= -2 && n <= 1000000},
				"both":  {func(x *impl.Total) { x.Least, x.Most = n, n }, n >= -1000000 && n <= 1000000},
			} {
				l := totals(totalOf(1, 1, -2, 2, "a", "1"), totalOf(2, 2, -2, 2, "a", "2"), totalOf(3, 3, -2, 2))
				c.change(&l[i])
				if impl.GoodTotals(l) != c.is {
					t.Errorf("%s of %d at %d: not %v", name, n, i, c.is)
				}
			}
		}
	}
}

// Labels' texts are asked for their order, not the labels: all pairs of few ones.
func TestTotalsRiseByTheTextsOfTheirLabels(t *testing.T) {
	var few [][]impl.Label
	for _, s := range []string{"{}", "{a=1}", "{a=11}", "{a=1a}", "{a=a}", "{a=1,b=1}", "{a=1,b=11}", "{a=1,bb=1}", "{a=1,b=1,c=1}", "{aa=1}", "{aa=1,b=1}", "{ab=1}", "{b=1}", "{b=0}", "{z=z}", "{a=0}", "{a=9}", "{a=10}"} {
		l, ok := impl.ReadLabels(s)
		if !ok {
			t.Fatal(s)
		}
		few = append(few, l)
	}
	for _, a := range few {
		for _, b := range few {
			l := totals(impl.Total{Labels: a, Count: 1}, impl.Total{Labels: b, Count: 1})
			if is := plainLabels(a) < plainLabels(b); impl.GoodTotals(l) != is {
				t.Errorf("%q and %q: not %v", a, b, is)
			}
			if got, ok := impl.MergeTotals(l[:1], l[1:]); !ok || !impl.GoodTotals(got) || (len(got) == 1) != (plainLabels(a) == plainLabels(b)) {
				t.Errorf("%q and %q: %v %v", a, b, got, ok)
			}
			got, ok := impl.TotalsBy(items(impl.Item{Labels: a}, impl.Item{Labels: b}), namesOf("a", "aa", "ab", "b", "bb", "z"))
			if !ok || !impl.GoodTotals(got) {
				t.Errorf("%q and %q: %v %v", a, b, got, ok)
			}
		}
	}
}

func TestKeepLabelsTellsAsSaid(t *testing.T) {
	six := labels("a", "1", "b", "2", "c", "3", "d", "4", "e", "5", "f", "6")
	for _, c := range []struct {
		l     []impl.Label
		names []string
		want  []impl.Label
	}{
		{nil, nil, nil}, {nil, namesOf("a"), nil}, {six, nil, nil}, {six, namesOf(), nil}, {six, namesOf("a"), six[:1]}, {six, namesOf("f"), six[5:]}, {six, namesOf("a", "b", "c", "d", "e", "f"), six}, {six, namesOf("f", "e", "d", "c", "b", "a"), six},
		{six, namesOf("c", "b"), six[1:3]}, {six, namesOf("b", "b"), six[1:2]}, {six, namesOf("b", "b", "b", "b", "b", "b"), six[1:2]}, {six, namesOf("e", "x", "a"), labels("a", "1", "e", "5")}, {six, namesOf("x"), nil}, {six, namesOf("1"), nil}, {six, namesOf("", "A", "aa", "a=1", "a ", "\xff"), nil}, {six, namesOf("", "A", "aa", "c"), six[2:3]},
		{labels("app", "a", "host", "x"), namesOf("host"), labels("host", "x")}, {labels("app", "host", "host", "app"), namesOf("app"), labels("app", "host")}, {labels("a", "b"), namesOf("b"), nil}, {labels("a", "1", "aa", "2"), namesOf("aa"), labels("aa", "2")}, {labels("a", "1", "aa", "2"), namesOf("a"), labels("a", "1")}, {labels("app", "1"), namesOf("ap"), nil}, {labels("app", "1"), namesOf("appl"), nil}, {labels("zzzzzzzz", "zzzzzzzz"), namesOf("zzzzzzzz"), labels("zzzzzzzz", "zzzzzzzz")},
	} {
		if got, ok := impl.KeepLabels(c.l, c.names); !slices.Equal(got, c.want) || !ok {
			t.Errorf("KeepLabels(%q, %q): %q %v, not %q", c.l, c.names, got, ok, c.want)
		}
	}
	for _, l := range goodLabels() {
		for _, names := range sumNames() {
			checkKeep(t, l, names)
		}
	}
	r := rand.New(rand.NewSource(143))
	for range 3000 {
		l := anyLabels(r, "abc")
		names := anyNames(r)
		for range r.Intn(7 - len(names)) {
			if len(l) > 0 {
				names = append(names, l[r.Intn(len(l))].Name)
			}
		}
		checkKeep(t, l, names)
	}
}

func TestKeepLabelsRefuses(t *testing.T) {
	for _, l := range badLabels() {
		for _, names := range append(sumNames(), tooManyNames()...) {
			if got, ok := impl.KeepLabels(l, names); len(got) != 0 || ok {
				t.Errorf("KeepLabels(%q, %q): %q %v", l, names, got, ok)
			}
		}
	}
	for _, l := range goodLabels() {
		for _, names := range tooManyNames() {
			if got, ok := impl.KeepLabels(l, names); len(got) != 0 || ok {
				t.Errorf("KeepLabels(%q, %q): %q %v", l, names, got, ok)
			}
		}
	}
	for many := range 20 {
		if _, ok := impl.KeepLabels(nil, make([]string, many)); ok != (many <= 6) {
			t.Error(many, "names")
		}
	}
}

func TestTotalsByTellsAsSaid(t *testing.T) {
	l := items(itemOf(3, "app", "a", "host", "x"), itemOf(5, "app", "a"), itemOf(-1, "app", "b"), itemOf(4), itemOf(9, "host", "x"), itemOf(4, "app", "a", "host", "y"))
	for _, c := range []struct {
		l     []impl.Item
		names []string
		want  []impl.Total
	}{
		{nil, nil, nil}, {nil, namesOf("a"), nil}, {items(), namesOf(), nil},
		{items(itemOf(5, "a", "1")), namesOf("a"), totals(totalOf(5, 1, 5, 5, "a", "1"))}, {items(itemOf(5, "a", "1")), nil, totals(totalOf(5, 1, 5, 5))}, {items(itemOf(5, "a", "1")), namesOf("b"), totals(totalOf(5, 1, 5, 5))}, {items(itemOf(-5)), namesOf("b"), totals(totalOf(-5, 1, -5, -5))},
		{l, nil, totals(totalOf(24, 6, -1, 9))}, {l, namesOf("z"), totals(totalOf(24, 6, -1, 9))},
		{l, namesOf("app"), totals(totalOf(12, 3, 3, 5, "app", "a"), totalOf(-1, 1, -1, -1, "app", "b"), totalOf(13, 2, 4, 9))},
		{l, namesOf("host"), totals(totalOf(12, 2, 3, 9, "host", "x"), totalOf(4, 1, 4, 4, "host", "y"), totalOf(8, 3, -1, 5))},
		{l, namesOf("host", "app", "host"), totals(totalOf(3, 1, 3, 3, "app", "a", "host", "x"), totalOf(4, 1, 4, 4, "app", "a", "host", "y"), totalOf(5, 1, 5, 5, "app", "a"), totalOf(-1, 1, -1, -1, "app", "b"), totalOf(9, 1, 9, 9, "host", "x"), totalOf(4, 1, 4, 4))},
		{items(itemOf(1000000), itemOf(-1000000)), nil, totals(totalOf(0, 2, -1000000, 1000000))}, {items(itemOf(-1000000, "a", "1"), itemOf(1000000, "b", "1")), nil, totals(totalOf(0, 2, -1000000, 1000000))},
		{slices.Repeat(items(itemOf(1000000, "a", "1")), 40), namesOf("a"), totals(totalOf(40000000, 40, 1000000, 1000000, "a", "1"))}, {slices.Repeat(items(itemOf(-1000000, "a", "1")), 40), nil, totals(totalOf(-40000000, 40, -1000000, -1000000))},
		{items(itemOf(0), itemOf(0)), nil, totals(totalOf(0, 2, 0, 0))}, {items(itemOf(-3, "a", "1"), itemOf(-7, "a", "1")), namesOf("a"), totals(totalOf(-10, 2, -7, -3, "a", "1"))}, {items(itemOf(7, "a", "1"), itemOf(3, "a", "1")), namesOf("a"), totals(totalOf(10, 2, 3, 7, "a", "1"))},
		{items(itemOf(1, "a", "b"), itemOf(2, "b", "a")), namesOf("a", "b"), totals(totalOf(1, 1, 1, 1, "a", "b"), totalOf(2, 1, 2, 2, "b", "a"))}, {items(itemOf(1, "a", "1"), itemOf(2, "b", "1")), namesOf("a", "b"), totals(totalOf(1, 1, 1, 1, "a", "1"), totalOf(2, 1, 2, 2, "b", "1"))},
	} {
		if got, ok := impl.TotalsBy(c.l, c.names); !sameTotals(got, c.want) || !ok {
			t.Errorf("TotalsBy(%v, %q): %v %v, not %v", c.l, c.names, got, ok, c.want)
		}
		checkTotalsBy(t, c.l, c.names)
	}
	for _, l := range goodItemLists() {
		for _, names := range sumNames() {
			if _, ok := checkTotalsBy(t, l, names); !ok {
				t.Fatalf("refused: %v by %q", l, names)
			}
		}
	}
}

// Without names, or by names that none has, all are one; by all names unlike labels stay unlike.
func TestItemsWithoutTheNamesAreOne(t *testing.T) {
	for many := 1; many <= 40; many++ {
		for _, names := range [][]string{nil, {"c"}, {"A", "", "zz"}} {
			if got, ok := impl.TotalsBy(manyItems(many), names); len(got) != 1 || len(got[0].Labels) != 0 || got[0].Count != many || !ok {
				t.Fatalf("%d by %q: %v %v", many, names, got, ok)
			}
		}
		if got, ok := impl.TotalsBy(manyItems(many), namesOf("a")); len(got) != many || !ok {
			t.Fatalf("%d: %v %v", many, got, ok)
		}
		if got, ok := impl.TotalsBy(manyItems(many), namesOf("b")); len(got) != min(many, 3) || !ok {
			t.Fatalf("%d: %v %v", many, got, ok)
		}
	}
}

func TestTotalsByRefuses(t *testing.T) {
	for _, l := range badItemLists() {
		for _, names := range [][]string{nil, {"a"}, {"b", "a"}, {"z"}, {"", "A"}, tooManyNames()[0]} {
			if got, ok := impl.TotalsBy(l, names); len(got) != 0 || ok {
				t.Errorf("TotalsBy(%v, %q): %v %v", l, names, got, ok)
			}
		}
	}
	for _, l := range [][]impl.Item{nil, manyItems(1), manyItems(40)} {
		for _, names := range tooManyNames() {
			if got, ok := impl.TotalsBy(l, names); len(got) != 0 || ok {
				t.Errorf("TotalsBy(%v, %q): %v %v", l, names, got, ok)
			}
		}
	}
}

func TestMergeTotalsTellsAsSaid(t *testing.T) {
	a, b := totalOf(3, 2, 1, 2, "a", "1"), totalOf(5, 1, 5, 5, "a", "2")
	none := totalOf(-7, 4, -9, 0)
	for _, c := range []struct{ a, b, want []impl.Total }{
		{nil, nil, nil}, {totals(), nil, nil}, {totals(a), nil, totals(a)}, {nil, totals(a), totals(a)}, {totals(a, b), nil, totals(a, b)},
		{totals(a), totals(b), totals(a, b)}, {totals(b), totals(a), totals(a, b)}, {totals(none), totals(a), totals(a, none)}, {totals(a), totals(none), totals(a, none)},
		{totals(a), totals(a), totals(totalOf(6, 4, 1, 2, "a", "1"))}, {totals(none), totals(none), totals(totalOf(-14, 8, -9, 0))},
		{totals(a, b), totals(b), totals(a, totalOf(10, 2, 5, 5, "a", "2"))}, {totals(b), totals(a, b), totals(a, totalOf(10, 2, 5, 5, "a", "2"))}, {totals(a, b, none), totals(a, b, none), totals(totalOf(6, 4, 1, 2, "a", "1"), totalOf(10, 2, 5, 5, "a", "2"), totalOf(-14, 8, -9, 0))},
		{totals(totalOf(1, 1, 1, 9, "a", "1")), totals(totalOf(2, 1, -3, 4, "a", "1")), totals(totalOf(3, 2, -3, 9, "a", "1"))}, {totals(totalOf(1, 1, -3, 4, "a", "1")), totals(totalOf(2, 1, 1, 9, "a", "1")), totals(totalOf(3, 2, -3, 9, "a", "1"))}, {totals(totalOf(1, 1, -3, 9, "a", "1")), totals(totalOf(2, 1, 1, 4, "a", "1")), totals(totalOf(3, 2, -3, 9, "a", "1"))}, {totals(totalOf(1, 1, -8, -5, "a", "1")), totals(totalOf(2, 1, 5, 8, "a", "1")), totals(totalOf(3, 2, -8, 8, "a", "1"))},
		{totals(totalOf(1, 500, 0, 0)), totals(totalOf(1, 500, 0, 0)), totals(totalOf(2, 1000, 0, 0))}, {totals(totalOf(999999999, 1, 0, 0)), totals(totalOf(1, 1, 0, 0)), totals(totalOf(1000000000, 2, 0, 0))}, {totals(totalOf(-999999999, 1, 0, 0)), totals(totalOf(-1, 1, 0, 0)), totals(totalOf(-1000000000, 2, 0, 0))}, {totals(totalOf(-1000000000, 1, -1000000, 0)), totals(totalOf(1000000000, 1, 0, 1000000)), totals(totalOf(0, 2, -1000000, 1000000))},
		{totals(totalOf(0, 1, 0, 0, "a", "1", "b", "2")), totals(totalOf(0, 1, 0, 0, "a", "1")), totals(totalOf(0, 1, 0, 0, "a", "1", "b", "2"), totalOf(0, 1, 0, 0, "a", "1"))},
	} {
		if got, ok := impl.MergeTotals(c.a, c.b); !sameTotals(got, c.want) || !ok {
			t.Errorf("MergeTotals(%v, %v): %v %v, not %v", c.a, c.b, got, ok, c.want)
		}
	}
	lists := goodTotalLists()[:80]
	for _, a := range lists {
		for _, b := range lists {
			checkMergeTotals(t, a, b)
		}
	}
}

// What goes beyond a limit is refused as a whole: Count, Sum, and how many there are.
func TestMergedTotalsHaveTheirLimits(t *testing.T) {
	one := func(sum int, count int) []impl.Total {
		return totals(totalOf(7, 1, 7, 7, "a", "1"), totalOf(sum, count, -1, 1, "a", "2"), totalOf(8, 1, 8, 8))
	}
	for _, c := range []struct {
		a, b []impl.Total
		is   bool
	}{
		{one(0, 1), one(0, 998), true}, {one(0, 1), one(0, 999), true}, {one(0, 1), one(0, 1000), false}, {one(0, 1000), one(0, 1), false}, {one(0, 500), one(0, 500), true}, {one(0, 501), one(0, 500), false}, {one(0, 1000), one(0, 1000), false},
		{one(999999999, 1), one(1, 1), true}, {one(1000000000, 1), one(1, 1), false}, {one(1, 1), one(1000000000, 1), false}, {one(1000000000, 1), one(0, 1), true}, {one(500000000, 1), one(500000000, 1), true}, {one(500000000, 1), one(500000001, 1), false}, {one(1000000000, 1), one(1000000000, 1), false},
		{one(-999999999, 1), one(-1, 1), true}, {one(-1000000000, 1), one(-1, 1), false}, {one(-1, 1), one(-1000000000, 1), false}, {one(-500000000, 1), one(-500000001, 1), false}, {one(-1000000000, 1), one(1000000000, 1), true}, {one(-1000000000, 1), one(-1000000000, 1), false},
	} {
		if _, ok := checkMergeTotals(t, c.a, c.b); ok != c.is {
			t.Errorf("%v and %v: %v", c.a, c.b, ok)
		}
	}
	for left := range 41 {
		for _, both := range []int{0, 1, 5} {
			for more := -1; more <= 1; more++ {
				right := 40 + more - left + both
				if left < both || right < both || right > 40 {
					continue
				}
				a, b := manyTotals(0, left), manyTotals(left-both, right)
				for _, pair := range [][2][]impl.Total{{a, b}, {b, a}} {
					got, ok := checkMergeTotals(t, pair[0], pair[1])
					if ok != (more <= 0) || ok && len(got) != 40+more {
						t.Errorf("%d and %d, %d of both: %d %v", left, right, both, len(got), ok)
					}
				}
			}
		}
	}
	full := manyTotals(0, 40)
	if got, ok := checkMergeTotals(t, full, full); len(got) != 40 || !ok {
		t.Error(len(got), ok)
	}
}

func TestMergeTotalsRefuses(t *testing.T) {
	for _, bad := range badTotalLists() {
		for _, good := range [][]impl.Total{nil, manyTotals(0, 1), manyTotals(0, 40), totals(totalOf(0, 1, 0, 0))} {
			for _, pair := range [][2][]impl.Total{{bad, good}, {good, bad}, {bad, bad}} {
				if got, ok := impl.MergeTotals(pair[0], pair[1]); len(got) != 0 || ok {
					t.Errorf("MergeTotals(%v, %v): %v %v", pair[0], pair[1], got, ok)
				}
			}
		}
	}
}

func TestCoarseTotalsTellsAsSaid(t *testing.T) {
	l := totals(totalOf(3, 2, 1, 2, "a", "1", "b", "1"), totalOf(5, 1, 5, 5, "a", "1", "b", "2"), totalOf(-7, 4, -9, 0, "a", "2", "b", "1"), totalOf(1, 1, 1, 1, "b", "1"), totalOf(9, 2, 2, 7, "c", "3"))
	for _, c := range []struct {
		l     []impl.Total
		names []string
		want  []impl.Total
	}{
		{nil, nil, nil}, {nil, namesOf("a"), nil}, {l, namesOf("a", "b", "c"), l}, {l, namesOf("c", "b", "a", "a"), l},
		{l, nil, totals(totalOf(11, 10, -9, 7))}, {l, namesOf("z", "", "A"), totals(totalOf(11, 10, -9, 7))},
		{l, namesOf("a"), totals(totalOf(8, 3, 1, 5, "a", "1"), totalOf(-7, 4, -9, 0, "a", "2"), totalOf(10, 3, 1, 7))},
		{l, namesOf("b"), totals(totalOf(-3, 7, -9, 2, "b", "1"), totalOf(5, 1, 5, 5, "b", "2"), totalOf(9, 2, 2, 7))},
		{l, namesOf("c"), totals(totalOf(9, 2, 2, 7, "c", "3"), totalOf(2, 8, -9, 5))},
		{l, namesOf("a", "b"), totals(l[0], l[1], l[2], l[3], totalOf(9, 2, 2, 7))},
		{totals(totalOf(5, 3, -1, 2)), nil, totals(totalOf(5, 3, -1, 2))}, {totals(totalOf(5, 3, -1, 2)), namesOf("a"), totals(totalOf(5, 3, -1, 2))},
		// By b the last one comes first.
		{totals(totalOf(1, 1, 1, 1, "a", "1", "b", "3"), totalOf(2, 2, 2, 2, "a", "2", "b", "2"), totalOf(3, 3, 3, 3, "a", "3", "b", "1")), namesOf("b"), totals(totalOf(3, 3, 3, 3, "b", "1"), totalOf(2, 2, 2, 2, "b", "2"), totalOf(1, 1, 1, 1, "b", "3"))},
	} {
		if got, ok := impl.CoarseTotals(c.l, c.names); !sameTotals(got, c.want) || !ok {
			t.Errorf("CoarseTotals(%v, %q): %v %v, not %v", c.l, c.names, got, ok, c.want)
		}
	}
	for _, l := range goodTotalLists() {
		for _, names := range sumNames() {
			checkCoarse(t, l, names)
		}
	}
}

// Limits are asked of what is told: on the way a Sum may be beyond them.
func TestCoarseTotalsHaveTheirLimits(t *testing.T) {
	sums := func(counts []int, l ...int) []impl.Total {
		var out []impl.Total
		for i, n := range l {
			out = append(out, totalOf(n, counts[i%len(counts)], -1, 1, "a", "1", "b", fmt.Sprint(i)))
		}
		return out
	}
	const most = 1000000000
	for _, c := range []struct {
		l  []impl.Total
		is bool
	}{
		{sums([]int{1}, most, 0), true}, {sums([]int{1}, most, 1), false}, {sums([]int{1}, 1, most), false}, {sums([]int{1}, most-1, 1), true}, {sums([]int{1}, most, most), false}, {sums([]int{1}, most, most, -most), true}, {sums([]int{1}, most, 1, -1), true}, {sums([]int{1}, -most, -1, 1), true}, {sums([]int{1}, -most, -1), false}, {sums([]int{1}, -most, 0), true}, {sums([]int{1}, -most, -most, most, most, most), true}, {sums([]int{1}, -most, -most, most, most, most, 1), false},
		{sums([]int{500}, 0, 0), true}, {sums([]int{500, 501}, 0, 0), false}, {sums([]int{1000}, 0), true}, {sums([]int{1000, 1}, 0, 0), false}, {sums([]int{1, 1000}, 0, 0), false}, {sums([]int{998, 1, 1}, 0, 0, 0), true}, {sums([]int{998, 1, 2}, 0, 0, 0), false}, {sums([]int{334, 333, 333}, 0, 0, 0), true},
	} {
		for _, names := range [][]string{nil, {"a"}, {"c"}, {"a", "a"}} {
			if _, ok := checkCoarse(t, c.l, names); ok != c.is {
				t.Errorf("%v by %q: %v", c.l, names, ok)
			}
		}
		if _, ok := checkCoarse(t, c.l, namesOf("b")); !ok {
			t.Errorf("%v: apart they are good", c.l)
		}
	}
	full := manyTotals(0, 40)
	for _, x := range full {
		if x.Count < 1 || x.Count > 5 {
			t.Fatal("the test's own:", x)
		}
	}
	for _, names := range [][]string{nil, {"a"}, {"b"}} {
		got, ok := checkCoarse(t, full, names)
		if !ok || slices.Equal(names, namesOf("a")) && !sameTotals(got, full) || !slices.Equal(names, namesOf("a")) && (len(got) != 1 || got[0].Count != 120) {
			t.Errorf("%q: %v %v", names, got, ok)
		}
		if got, ok := checkCoarse(t, manyTotals(0, 41), names); len(got) != 0 || ok {
			t.Errorf("41 by %q: %v %v", names, got, ok)
		}
	}
}

func TestCoarseTotalsRefuses(t *testing.T) {
	for _, l := range badTotalLists() {
		for _, names := range [][]string{nil, {"a"}, {"b", "a"}, {"z"}, tooManyNames()[0]} {
			if got, ok := impl.CoarseTotals(l, names); len(got) != 0 || ok {
				t.Errorf("CoarseTotals(%v, %q): %v %v", l, names, got, ok)
			}
		}
	}
	for _, l := range [][]impl.Total{nil, manyTotals(0, 1), manyTotals(0, 40)} {
		for _, names := range tooManyNames() {
			if got, ok := impl.CoarseTotals(l, names); len(got) != 0 || ok {
				t.Errorf("CoarseTotals(%v, %q): %v %v", l, names, got, ok)
			}
		}
	}
}

func TestValuesOfTellsAsSaid(t *testing.T) {
	l := totals(totalOf(3, 2, 1, 7, "a", "1"), totalOf(-5, 1, -6, 5, "a", "2"), totalOf(0, 9, 0, 0))
	for _, c := range []struct {
		op   int
		want []int
	}{{impl.OpSum, []int{3, -5, 0}}, {impl.OpCount, []int{2, 1, 9}}, {impl.OpLeast, []int{1, -6, 0}}, {impl.OpMost, []int{7, 5, 0}}} {
		if got, ok := impl.ValuesOf(l, c.op); !slices.Equal(got, c.want) || !ok {
			t.Errorf("%d: %v %v", c.op, got, ok)
		}
		if got, ok := impl.ValuesOf(nil, c.op); len(got) != 0 || !ok {
			t.Errorf("%d of none: %v %v", c.op, got, ok)
		}
	}
	for _, l := range goodTotalLists() {
		for op := range 6 {
			checkValues(t, l, op)
		}
	}
}

func TestValuesOfRefuses(t *testing.T) {
	ops := append(noNumbers(), -1, 0, 5, 6)
	for _, l := range [][]impl.Total{nil, {}, manyTotals(0, 1), manyTotals(0, 40)} {
		for _, op := range ops {
			if got, ok := impl.ValuesOf(l, op); len(got) != 0 || ok {
				t.Errorf("ValuesOf(%v, %d): %v %v", l, op, got, ok)
			}
			for _, many := range []int{-1, 0, 1, 40, 41} {
				if got, ok := impl.TopOf(l, op, many); len(got) != 0 || ok {
					t.Errorf("TopOf(%v, %d, %d): %v %v", l, op, many, got, ok)
				}
			}
		}
	}
	for _, l := range badTotalLists() {
		for op := range 6 {
			if got, ok := impl.ValuesOf(l, op); len(got) != 0 || ok {
				t.Errorf("ValuesOf(%v, %d): %v %v", l, op, got, ok)
			}
			for _, many := range []int{-1, 0, 1, 40, 41} {
				if got, ok := impl.TopOf(l, op, many); len(got) != 0 || ok {
					t.Errorf("TopOf(%v, %d, %d): %v %v", l, op, many, got, ok)
				}
			}
		}
	}
}

func TestTopOfTellsAsSaid(t *testing.T) {
	l := totals(totalOf(3, 2, 1, 7, "a", "1"), totalOf(-5, 9, -6, 5, "a", "2"), totalOf(3, 2, -6, 8, "a", "3"), totalOf(4, 9, 1, 5, "a", "4"), totalOf(3, 1, 0, 8))
	for _, c := range []struct {
		op   int
		want []int
	}{{impl.OpSum, []int{3, 0, 2, 4, 1}}, {impl.OpCount, []int{1, 3, 0, 2, 4}}, {impl.OpLeast, []int{0, 3, 4, 1, 2}}, {impl.OpMost, []int{2, 4, 0, 1, 3}}} {
		for many := range 41 {
			if got, ok := impl.TopOf(l, c.op, many); !slices.Equal(got, c.want[:min(many, 5)]) || !ok {
				t.Errorf("%d, %d: %v %v", c.op, many, got, ok)
			}
		}
		for _, many := range append(noNumbers(), -2, -1, 41, 42) {
			if got, ok := impl.TopOf(l, c.op, many); len(got) != 0 || ok {
				t.Errorf("%d, %d: %v %v", c.op, many, got, ok)
			}
		}
		for _, many := range []int{0, 1, 40} {
			if got, ok := impl.TopOf(nil, c.op, many); len(got) != 0 || !ok {
				t.Errorf("%d, %d of none: %v %v", c.op, many, got, ok)
			}
		}
	}
	// Forty alike ones stay as they stand; forty that rise turn round.
	alike, steep := manyTotals(0, 40), manyTotals(0, 40)
	for i := range alike {
		alike[i].Sum, alike[i].Count, steep[i].Sum = 7, 1+i%2, -100+i
	}
	for many := range 41 {
		same, ok := impl.TopOf(alike, impl.OpSum, many)
		turned, ok2 := impl.TopOf(steep, impl.OpSum, many)
		halves, ok3 := impl.TopOf(alike, impl.OpCount, many)
		if !slices.Equal(same, rising(0, 1, many)) || len(turned) != many || len(halves) != many || !ok || !ok2 || !ok3 {
			t.Fatal(many, same, turned, halves)
		}
		for i := range many {
			if turned[i] != 39-i || halves[i] != i%20*2+1-i/20 {
				t.Fatal(many, turned, halves)
			}
		}
	}
	for _, l := range goodTotalLists() {
		for op := range 6 {
			for _, many := range []int{-1, 0, 1, 2, len(l) - 1, len(l), len(l) + 1, 39, 40, 41} {
				checkTop(t, l, op, many)
			}
		}
	}
}

// The top ones are the greatest: none that is left out is greater than one of them, nor alike and ahead.
func TestTheTopOnesAreTheGreatest(t *testing.T) {
	r := rand.New(rand.NewSource(144))
	alike := 0
	for range 2000 {
		l := anyTotals(r, r.Intn(41))
		op, many := 1+r.Intn(4), r.Intn(41)
		values, _ := checkValues(t, l, op)
		top, ok := checkTop(t, l, op, many)
		if !ok || len(top) != min(many, len(l)) {
			t.Fatalf("TopOf(%v, %d, %d): %v %v", l, op, many, top, ok)
		}
		for k, i := range top {
			for j, n := range values {
				isAbove := slices.Contains(top[:k], j)
				isAhead := n > values[i] || n == values[i] && j < i
				if isAbove != isAhead {
					t.Fatalf("TopOf(%v, %d, %d): %v has %d, not %d", l, op, many, top, i, j)
				}
				if n == values[i] && i != j {
					alike++
				}
			}
		}
		all, _ := checkTop(t, l, op, 40)
		if !slices.Equal(top, all[:len(top)]) {
			t.Fatalf("TopOf(%v, %d): %v, and %v of all", l, op, top, all)
		}
	}
	if alike < 1000 {
		t.Error("too few:", alike)
	}
}

// Promise 14, of drawn items: at each place where they are parted, the parts merged are all of them at once.
func TestWhatIsPutTogetherInTwoPartsIsWhatIsPutTogetherAtOnce(t *testing.T) {
	r := rand.New(rand.NewSource(145))
	shared, apart := 0, 0
	for range 300 {
		l, names := anyItems(r, r.Intn(41)), anyNames(r)
		want, ok := checkTotalsBy(t, l, names)
		if !ok {
			t.Fatal(l, names)
		}
		for at := range len(l) + 1 {
			a, ok := impl.TotalsBy(l[:at], names)
			b, ok2 := impl.TotalsBy(l[at:], names)
			got, ok3 := impl.MergeTotals(a, b)
			if !sameTotals(got, want) || !ok || !ok2 || !ok3 {
				t.Fatalf("%v at %d by %q: %v %v, not %v", l, at, names, got, ok3, want)
			}
			if turned, ok := impl.MergeTotals(b, a); !sameTotals(turned, want) || !ok {
				t.Fatalf("%v at %d by %q, turned: %v %v, not %v", l, at, names, turned, ok, want)
			}
			if len(a)+len(b) > len(want) {
				shared++
			} else {
				apart++
			}
		}
	}
	if shared < 1000 || apart < 300 {
		t.Error("too few:", shared, apart)
	}
}

// Promise 14, parts of any kind: drawn apart, in any order, and merged one by one.
func TestItemsInAnyPartsComeToTheSame(t *testing.T) {
	r := rand.New(rand.NewSource(146))
	for range 1000 {
		l, names := anyItems(r, r.Intn(41)), anyNames(r)
		want, _ := impl.TotalsBy(l, names)
		parts := make([][]impl.Item, 1+r.Intn(5))
		for _, i := range r.Perm(len(l)) {
			k := r.Intn(len(parts))
			parts[k] = append(parts[k], l[i])
		}
		var got []impl.Total
		for _, part := range parts {
			more, ok := impl.TotalsBy(part, names)
			both, ok2 := checkMergeTotals(t, got, more)
			if !ok || !ok2 {
				t.Fatal(part, more, got)
			}
			got = both
		}
		if !sameTotals(got, want) {
			t.Fatalf("%v by %q: %v, not %v", l, names, got, want)
		}
	}
}

// Promise 14, over all that few items can come to.
func TestWhateverFewItemsTheirPartsComeToTheSame(t *testing.T) {
	few := items(itemOf(1), itemOf(-2, "a", "1"), itemOf(1000000, "a", "1", "b", "1"), itemOf(-1000000, "b", "1"), itemOf(4, "a", "11"))
	var walk func(l []impl.Item, left int)
	walk = func(l []impl.Item, left int) {
		for _, names := range [][]string{nil, {"a"}, {"b"}, {"b", "a"}} {
			want, _ := checkTotalsBy(t, l, names)
			for at := range len(l) + 1 {
				a, _ := impl.TotalsBy(l[:at], names)
				b, _ := impl.TotalsBy(l[at:], names)
				if got, ok := impl.MergeTotals(a, b); !sameTotals(got, want) || !ok {
					t.Fatalf("%v at %d by %q: %v %v, not %v", l, at, names, got, ok, want)
				}
			}
		}
		if left > 0 {
			for _, x := range few {
				walk(append(l[:len(l):len(l)], x), left-1)
			}
		}
	}
	walk(nil, 4)
}

// Promise 14, of totals: what is made coarse in two parts and merged is what is merged and then made coarse.
func TestTotalsInTwoPartsAreMadeCoarseAsAtOnce(t *testing.T) {
	r := rand.New(rand.NewSource(147))
	met, refused := 0, 0
	for range 3000 {
		a, b, names := anyTotals(r, r.Intn(12)), anyTotals(r, r.Intn(12)), anyNames(r)
		both, ok := checkMergeTotals(t, a, b)
		coarseA, ok2 := checkCoarse(t, a, names)
		coarseB, ok3 := checkCoarse(t, b, names)
		if !ok || !ok2 || !ok3 {
			refused++
			continue
		}
		got, is := checkMergeTotals(t, coarseA, coarseB)
		want, ok := checkCoarse(t, both, names)
		if !sameTotals(got, want) || is != ok {
			t.Fatalf("%v and %v by %q: %v %v, not %v %v", a, b, names, got, is, want, ok)
		}
		met++
	}
	if met < 500 || refused < 500 {
		t.Error("too few:", met, refused)
	}
}

// Totals by fewer labels come of totals by more.
func TestTotalsByFewerLabelsComeOfThoseByMore(t *testing.T) {
	r := rand.New(rand.NewSource(148))
	fewer := 0
	for range 3000 {
		l, more := anyItems(r, r.Intn(41)), anyNames(r)
		var names []string
		for _, name := range more {
			if r.Intn(2) == 0 {
				names = append(names, name)
			}
		}
		fine, ok := checkTotalsBy(t, l, more)
		got, ok2 := checkCoarse(t, fine, names)
		want, ok3 := checkTotalsBy(t, l, names)
		if !sameTotals(got, want) || !ok || !ok2 || !ok3 {
			t.Fatalf("%v by %q, and of those by %q: %v, not %v", l, names, more, got, want)
		}
		if again, ok := checkCoarse(t, fine, more); !sameTotals(again, fine) || !ok {
			t.Fatalf("%v by %q: %v, not %v", fine, more, again, fine)
		}
		if len(want) < len(fine) {
			fewer++
		}
	}
	if fewer < 500 {
		t.Error("too few:", fewer)
	}
}

// Nothing goes and nothing comes: all Sums are all Values, all Counts all items.
func TestTotalsHaveAllOfTheItems(t *testing.T) {
	r := rand.New(rand.NewSource(149))
	for range 1000 {
		l, names := anyItems(r, 1+r.Intn(40)), anyNames(r)
		x, ok := impl.TotalsBy(l, names)
		sum, count, least, most := 0, 0, 1000000, -1000000
		for _, item := range l {
			sum, least, most = sum+item.Value, min(least, item.Value), max(most, item.Value)
		}
		one, _ := impl.CoarseTotals(x, nil)
		if len(one) != 1 || !sameTotal(one[0], totalOf(sum, len(l), least, most)) || !ok {
			t.Fatalf("%v by %q: %v %v", l, names, one, ok)
		}
		for _, y := range x {
			count += y.Count
		}
		if count != len(l) {
			t.Fatalf("%v by %q: %v", l, names, x)
		}
	}
}

// Promise 19: whatever it is given, each function answers.
func TestSumsAnswerAtAnyArguments(t *testing.T) {
	ints := append(noNumbers(), -1000000001, -1000000000, -1000001, -1000000, -2, -1, 0, 1, 2, 3, 4, 5, 40, 41, 1000, 1001, 1000000, 1000001, 1000000000, 1000000001)
	texts := []string{"", "a", "b", "zzzzzzzz", "zzzzzzzzz", "A", "a=1", "a,b", "{}", "\n", "\xff", strings.Repeat("a", 30000)}
	for _, x := range ints {
		for _, y := range ints {
			for _, l := range [][]impl.Total{
				totals(totalOf(x, y, 0, 0, "a", "1")), totals(totalOf(0, 1, x, y)), totals(totalOf(x, 1, y, y, "a", "1"), totalOf(y, 1, x, x)), totals(totalOf(1, 1, 1, 1, "a", "1"), totalOf(1, y, x, 1000000, "b", "1")),
			} {
				if is := plainGoodTotals(l); impl.GoodTotals(l) != is {
					t.Fatalf("GoodTotals(%v): not %v", l, is)
				}
				checkCoarse(t, l, nil)
				checkCoarse(t, l, texts[:2])
				checkMergeTotals(t, l, l)
				checkMergeTotals(t, l, manyTotals(0, 40))
				for op := range 6 {
					checkValues(t, l, op)
					checkTop(t, l, op, 2)
				}
				checkValues(t, l, x)
				checkTop(t, l, 1, x)
				checkTop(t, l, x, y)
			}
			for _, l := range [][]impl.Item{items(itemOf(x, "a", "1"), itemOf(y, "a", "1")), items(itemOf(y), itemOf(x, "b", "2"))} {
				if is := plainGoodItems(l); impl.GoodItems(l) != is {
					t.Fatalf("GoodItems(%v): not %v", l, is)
				}
				checkTotalsBy(t, l, nil)
				checkTotalsBy(t, l, texts[:3])
			}
		}
	}
	for _, a := range texts {
		for _, b := range texts {
			for _, l := range [][]impl.Label{labels(a, b), labels(a, "1", b, "2"), labels("a", a, "b", b)} {
				for _, names := range [][]string{nil, {a}, {b, a}, {"a", a, "b", b}, {a, a, a, b, b, b}, {a, a, a, b, b, b, a}} {
					checkKeep(t, l, names)
					checkTotalsBy(t, items(impl.Item{Labels: l, Value: 1}, itemOf(2, "a", "1")), names)
					checkCoarse(t, totals(impl.Total{Labels: l, Count: 1}), names)
				}
				x := totals(impl.Total{Labels: l, Count: 1})
				checkMergeTotals(t, x, x)
				checkValues(t, x, 2)
				checkTop(t, x, 2, 1)
			}
		}
	}
}

// roomyItems have much behind their lists in their memory, which is no part of them, though it could be.
func roomyItems() []impl.Item {
	l := items(itemOf(3, "a", "1", "b", "1"), itemOf(5, "a", "1"), itemOf(-1, "a", "2"), itemOf(77, "a", "1"), itemOf(78), impl.Item{Value: 9999999})
	for i, x := range l {
		l[i].Labels = append(append(make([]impl.Label, 0, 9), x.Labels...), labels("c", "7", "d", "8", "", "")...)[:len(x.Labels)]
	}
	return l[:3]
}

func roomyTotals() []impl.Total {
	l := totals(totalOf(3, 2, 1, 2, "a", "1", "b", "1"), totalOf(5, 1, 5, 5, "a", "1"), totalOf(-7, 4, -9, 0, "a", "2"), totalOf(77, 7, 7, 7, "a", "3"), totalOf(78, 8, 8, 8, "a", "1"), impl.Total{Sum: 5})
	for i, x := range l {
		l[i].Labels = append(append(make([]impl.Label, 0, 9), x.Labels...), labels("c", "7", "d", "8", "", "")...)[:len(x.Labels)]
	}
	return l[:3]
}

// wholeItems have all of a list's memory, within lists too.
func wholeItems(l []impl.Item) []impl.Item {
	out := slices.Clone(l[:cap(l)])
	for i, x := range out {
		out[i].Labels = x.Labels[:cap(x.Labels)]
	}
	return out
}

func wholeTotals(l []impl.Total) []impl.Total {
	out := slices.Clone(l[:cap(l)])
	for i, x := range out {
		out[i].Labels = x.Labels[:cap(x.Labels)]
	}
	return out
}

// Promise 19: nothing is written into an argument, nor into what lies behind it in its memory, nor is that read.
func TestSumsWriteIntoNoItems(t *testing.T) {
	l, was := roomyItems(), cloneItems(wholeItems(roomyItems()))
	all := namesOf("b", "a", "b", "c", "d", "z", "y")
	names := all[:5]
	for range 2 {
		for k := range 6 {
			if got, ok := impl.TotalsBy(l, names[:min(k, 5)]); !ok || len(got) == 0 {
				t.Error(k, got, ok)
			}
			checkTotalsBy(t, l, names[:min(k, 5)])
			checkKeep(t, l[0].Labels, names[:min(k, 5)])
		}
		impl.TotalsBy(l, all)
		impl.TotalsBy(l[:6], names)
		impl.TotalsBy(l[:cap(l)], names)
		impl.KeepLabels(l[0].Labels, all)
		impl.KeepLabels(l[0].Labels[:5], names)
		if !impl.GoodItems(l) || impl.GoodItems(l[:6]) {
			t.Error("GoodItems")
		}
	}
	if !sameItems(wholeItems(l), was) || !slices.Equal(all, namesOf("b", "a", "b", "c", "d", "z", "y")) {
		t.Error("written into:", wholeItems(l), all)
	}
}

func TestSumsWriteIntoNoTotals(t *testing.T) {
	l, was := roomyTotals(), cloneTotals(wholeTotals(roomyTotals()))
	other, wasOther := roomyTotals()[1:2], cloneTotals(wholeTotals(roomyTotals()[1:2]))
	all := namesOf("b", "a", "b", "c", "d", "z", "y")
	check := func(name string) {
		t.Helper()
		if !sameTotals(wholeTotals(l), was) || !sameTotals(wholeTotals(other), wasOther) || !slices.Equal(all, namesOf("b", "a", "b", "c", "d", "z", "y")) {
			t.Fatalf("%s has written: %v %v %v", name, wholeTotals(l), wholeTotals(other), all)
		}
	}
	for k := range 8 {
		if _, ok := checkCoarse(t, l, all[:min(k, 7)]); ok != (k < 7) {
			t.Error(k, ok)
		}
		check("CoarseTotals")
	}
	for _, pair := range [][2][]impl.Total{{l, other}, {other, l}, {l, l}, {other, other}, {l, nil}, {nil, l}, {l[:1], l[1:3]}, {l[:0], l}, {l, l[:5]}, {l[:6], other}} {
		checkMergeTotals(t, pair[0], pair[1])
		check("MergeTotals")
	}
	for op := range 6 {
		checkValues(t, l, op)
		checkValues(t, l[:6], op)
		for many := -1; many < 5; many++ {
			checkTop(t, l, op, many)
			checkTop(t, l[:5], op, many)
		}
		check("ValuesOf and TopOf")
	}
	if !impl.GoodTotals(l) || impl.GoodTotals(l[:6]) || impl.GoodTotals(l[:5]) || !impl.GoodTotals(other) {
		t.Error("GoodTotals")
	}
	check("GoodTotals")
}

// totalsHandOut tells whether something stands behind totals' lists in their memory that is not zero.
func totalsHandOut(l []impl.Total) bool {
	isSome := func(x impl.Total) bool { return !sameTotal(x, impl.Total{}) || x.Labels != nil }
	return slices.ContainsFunc(l[len(l):cap(l)], isSome) || slices.ContainsFunc(l, func(x impl.Total) bool { return labelsBehind(x.Labels) })
}

func labelsBehind(l []impl.Label) bool {
	return slices.ContainsFunc(l[len(l):cap(l)], func(x impl.Label) bool { return x != impl.Label{} })
}

// checkTotalsFresh writes over all of totals' lists, one at a time, and behind them: no other one may change.
func checkTotalsFresh(t *testing.T, name string, way func() []impl.Total) {
	t.Helper()
	want, odd := cloneTotals(way()), impl.Label{Name: "?", Value: "?"}
	if totalsHandOut(way()) {
		t.Errorf("%s hands out %v", name, wholeTotals(way()))
	}
	for i := range want {
		l := way()
		spoil(l[i].Labels, odd)
		l[i].Labels = want[i].Labels
		if !sameTotals(l, want) {
			t.Errorf("%s: labels %d share memory: %v", name, i, l)
		}
	}
	l := way()
	for _, x := range l {
		spoil(x.Labels, odd)
	}
	spoil(l, impl.Total{Labels: []impl.Label{odd}, Sum: 77})
	if again := way(); !sameTotals(again, want) {
		t.Errorf("%s: %v, not %v", name, again, want)
	}
}

func TestSumsAnswerWithNewMemory(t *testing.T) {
	told, wasTold := roomyItems(), cloneItems(wholeItems(roomyItems()))
	l, was := roomyTotals(), cloneTotals(wholeTotals(roomyTotals()))
	other := roomyTotals()[1:3]
	for _, names := range [][]string{nil, {"a"}, {"b"}, {"a", "b"}, {"z"}} {
		checkTotalsFresh(t, fmt.Sprint("TotalsBy ", names), func() []impl.Total {
			x, _ := impl.TotalsBy(told, names)
			return x
		})
		checkTotalsFresh(t, fmt.Sprint("CoarseTotals ", names), func() []impl.Total {
			x, _ := impl.CoarseTotals(l, names)
			return x
		})
		for range 2 {
			kept, ok := impl.KeepLabels(told[0].Labels, names)
			if !ok || labelsBehind(kept) {
				t.Error(names, kept[:cap(kept)])
			}
			spoil(kept, impl.Label{Name: "?"})
		}
	}
	for _, pair := range [][2][]impl.Total{{l, other}, {other, l}, {l, l}, {l, nil}, {nil, l}, {l, l[:0]}, {l[:0], l}, {l[:1], l[1:]}, {l[2:], l[:2]}, {nil, nil}} {
		checkTotalsFresh(t, fmt.Sprint("MergeTotals ", pair), func() []impl.Total {
			x, _ := impl.MergeTotals(pair[0], pair[1])
			return x
		})
	}
	for op := 1; op <= 4; op++ {
		for range 2 {
			values, _ := checkValues(t, l, op)
			if hasBehind(values) {
				t.Error(op, values[:cap(values)])
			}
			spoil(values, 77)
			for many := range 5 {
				top, _ := checkTop(t, l, op, many)
				if hasBehind(top) {
					t.Error(op, many, top[:cap(top)])
				}
				spoil(top, 77)
			}
		}
	}
	if !sameItems(wholeItems(told), wasTold) || !sameTotals(wholeTotals(l), was) || !sameTotals(wholeTotals(other), was[1:]) {
		t.Errorf("memory is shared: %v %v %v", wholeItems(told), wholeTotals(l), wholeTotals(other))
	}
}

// Nothing is kept from call to call, and nothing hangs on the order in which items come.
func TestSumsTellTheSameAgain(t *testing.T) {
	r := rand.New(rand.NewSource(150))
	for range 200 {
		l, names := anyItems(r, r.Intn(41)), anyNames(r)
		first, ok := impl.TotalsBy(l, names)
		top, _ := impl.TopOf(first, 1+r.Intn(4), 40)
		slices.SortFunc(top, cmp.Compare)
		if !ok || !slices.Equal(top, rising(0, 1, len(first))) {
			t.Fatal(first, top)
		}
		for range 10 {
			r.Shuffle(len(l), func(i, j int) { l[i], l[j] = l[j], l[i] })
			if again, ok := impl.TotalsBy(l, names); !sameTotals(again, first) || !ok {
				t.Fatalf("TotalsBy(%v, %q): %v, and %v", l, names, first, again)
			}
		}
	}
}
