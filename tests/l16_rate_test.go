package tests

import (
	"fmt"
	"math"
	"math/big"
	"math/rand"
	"slices"
	"testing"

	"loop.example/g00522/impl"
)

// counter is samples told as an At and its Value, one behind the other.
func counter(l ...int) []impl.Sample {
	var out []impl.Sample
	for i := 0; i+1 < len(l); i += 2 {
		out = append(out, impl.Sample{At: l[i], Value: l[i+1]})
	}
	return out
}

// valued has these Values, ten apart from 0 on.
func valued(l ...int) []impl.Sample {
	var out []impl.Sample
	for i, n := range l {
		out = append(out, impl.Sample{At: 10 * i, Value: n})
	}
	return out
}

// valuedAt has a sample at each of these Ats, with Values that rise and begin anew now and then.
func valuedAt(ats ...int) []impl.Sample {
	var out []impl.Sample
	for i, at := range ats {
		out = append(out, impl.Sample{At: at, Value: (i*7 + 3) % 11})
	}
	return out
}

func rateWindows(l ...impl.Window) []impl.Window { return l }

func windowOf(from int, first int, last int, count int, rise int) impl.Window {
	return impl.Window{From: from, First: first, Last: last, Count: count, Rise: rise}
}

func measuresOf(l []impl.Sample) []int {
	var out []int
	for _, x := range l {
		out = append(out, x.Value)
	}
	return out
}

func timesOf(l []impl.Sample) []int {
	var out []int
	for _, x := range l {
		out = append(out, x.At)
	}
	return out
}

func plainCounter(l []impl.Sample) bool {
	for i, x := range l {
		if !among(x.At, 0, 1000000000) || !among(x.Value, 0, 1000000000) || i > 0 && l[i-1].At >= x.At {
			return false
		}
	}
	return len(l) <= 40
}

// plainLost is what each place's resets up to it have taken off: the Values ahead of them, together.
func plainLost(l []impl.Sample) []int {
	var out []int
	lost := 0
	for i, x := range l {
		if i > 0 && x.Value < l[i-1].Value {
			lost += l[i-1].Value
		}
		out = append(out, lost)
	}
	return out
}

// plainRise goes by where it ends and where it began, and by what was lost between.
func plainRise(l []impl.Sample) int {
	if len(l) == 0 {
		return 0
	}
	return l[len(l)-1].Value - l[0].Value + plainLost(l)[len(l)-1]
}

func plainResets(l []impl.Sample) int {
	many := 0
	for i := range l {
		if i > 0 && l[i].Value < l[i-1].Value {
			many++
		}
	}
	return many
}

func plainUnwrap(l []impl.Sample) ([]impl.Sample, bool) {
	lost := plainLost(l)
	var out []impl.Sample
	for i, x := range l {
		if x.Value+lost[i] > 1000000000 {
			return nil, false
		}
		out = append(out, impl.Sample{At: x.At, Value: x.Value + lost[i]})
	}
	return out, true
}

// plainThin asks for all that the chapter says, one by one.
func plainThin(l []impl.Sample) []impl.Sample {
	var out []impl.Sample
	for i, x := range l {
		if i == 0 || i == len(l)-1 {
			out = append(out, x)
			continue
		}
		ahead, behind := l[i-1].Value, l[i+1].Value
		isBetween := min(ahead, behind) < x.Value && x.Value < max(ahead, behind)
		isOne := x.Value == ahead || x.Value == behind
		hasReset := x.Value < ahead || behind < x.Value
		if !(isBetween || isOne) || hasReset {
			out = append(out, x)
		}
	}
	return out
}

// plainWindows gathers samples by the number of their window, then takes the windows in order.
func plainWindows(l []impl.Sample, size int) []impl.Window {
	in := map[int][]impl.Sample{}
	var numbers []int
	for _, x := range l {
		n := (x.At - x.At%size) / size
		if len(in[n]) == 0 {
			numbers = append(numbers, n)
		}
		in[n] = append(in[n], x)
	}
	slices.Sort(numbers)
	var out []impl.Window
	for _, n := range numbers {
		x := in[n]
		out = append(out, windowOf(n*size, x[0].Value, x[len(x)-1].Value, len(x), plainRise(x)))
	}
	return out
}

func plainRate(l []impl.Sample, per int) int {
	top := new(big.Int).Mul(big.NewInt(int64(plainRise(l))), big.NewInt(int64(per)))
	return int(top.Div(top, big.NewInt(int64(l[len(l)-1].At-l[0].At))).Int64())
}

// plainFill counts multiples by those below each end, and looks for Values from behind.
func plainFill(l []impl.Sample, step int) ([]impl.Sample, bool) {
	if len(l) == 0 {
		return nil, true
	}
	below := 0
	if l[0].At > 0 {
		below = (l[0].At-1)/step + 1
	}
	upTo := l[len(l)-1].At/step + 1
	if upTo-below > 40 {
		return nil, false
	}
	var out []impl.Sample
	for k := below; k < upTo; k++ {
		i := len(l) - 1
		for l[i].At > k*step {
			i--
		}
		out = append(out, impl.Sample{At: k * step, Value: l[i].Value})
	}
	return out, true
}

// checkCounter holds what asks for a counter alone against the plain walk, and tells whether it is one.
func checkCounter(t *testing.T, l []impl.Sample) bool {
	t.Helper()
	is := plainCounter(l)
	rise, resets := 0, 0
	var flat, thin []impl.Sample
	isFlat := false
	if is {
		rise, resets, thin = plainRise(l), plainResets(l), plainThin(l)
		flat, isFlat = plainUnwrap(l)
	}
	if impl.CounterOk(l) != is {
		t.Fatalf("CounterOk(%v): not %v", l, is)
	}
	if n, ok := impl.RiseOf(l); n != rise || ok != is {
		t.Fatalf("RiseOf(%v): %d %v, not %d %v", l, n, ok, rise, is)
	}
	if n, ok := impl.ResetsIn(l); n != resets || ok != is {
		t.Fatalf("ResetsIn(%v): %d %v, not %d %v", l, n, ok, resets, is)
	}
	if x, ok := impl.Unwrap(l); !slices.Equal(x, flat) || ok != isFlat {
		t.Fatalf("Unwrap(%v): %v %v, not %v %v", l, x, ok, flat, isFlat)
	}
	if x, ok := impl.ThinOut(l); !slices.Equal(x, thin) || ok != is {
		t.Fatalf("ThinOut(%v): %v %v, not %v %v", l, x, ok, thin, is)
	}
	return is
}

func checkWindows(t *testing.T, l []impl.Sample, size int) ([]impl.Window, bool) {
	t.Helper()
	is := plainCounter(l) && among(size, 1, 1000000)
	var want []impl.Window
	if is {
		want = plainWindows(l, size)
	}
	got, ok := impl.WindowsOf(l, size)
	if !slices.Equal(got, want) || ok != is {
		t.Fatalf("WindowsOf(%v, %d): %v %v, not %v %v", l, size, got, ok, want, is)
	}
	return got, ok
}

func checkRate(t *testing.T, l []impl.Sample, per int) (int, bool) {
	t.Helper()
	is := plainCounter(l) && len(l) >= 2 && among(per, 1, 1000000)
	want := 0
	if is {
		want = plainRate(l, per)
	}
	got, ok := impl.RateOf(l, per)
	if got != want || ok != is {
		t.Fatalf("RateOf(%v, %d): %d %v, not %d %v", l, per, got, ok, want, is)
	}
	return got, ok
}

func checkFill(t *testing.T, l []impl.Sample, step int) ([]impl.Sample, bool) {
	t.Helper()
	is := plainCounter(l) && among(step, 1, 1000000)
	var want []impl.Sample
	if is {
		want, is = plainFill(l, step)
	}
	got, ok := impl.FillGaps(l, step)
	if !slices.Equal(got, want) || ok != is {
		t.Fatalf("FillGaps(%v, %d): %v %v, not %v %v", l, step, got, ok, want, is)
	}
	return got, ok
}

// checkRates asks all eight functions, those with a number at each of these numbers.
func checkRates(t *testing.T, l []impl.Sample, numbers ...int) {
	t.Helper()
	checkCounter(t, l)
	for _, n := range numbers {
		checkWindows(t, l, n)
		checkRate(t, l, n)
		checkFill(t, l, n)
	}
}

// refuseRates holds that each of the eight functions has its zero answer, whatever number stands beside the list.
func refuseRates(t *testing.T, l []impl.Sample) {
	t.Helper()
	if impl.CounterOk(l) {
		t.Errorf("CounterOk(%v)", l)
	}
	if n, ok := impl.RiseOf(l); n != 0 || ok {
		t.Errorf("RiseOf(%v): %d %v", l, n, ok)
	}
	if n, ok := impl.ResetsIn(l); n != 0 || ok {
		t.Errorf("ResetsIn(%v): %d %v", l, n, ok)
	}
	if x, ok := impl.Unwrap(l); len(x) != 0 || ok {
		t.Errorf("Unwrap(%v): %v %v", l, x, ok)
	}
	if x, ok := impl.ThinOut(l); len(x) != 0 || ok {
		t.Errorf("ThinOut(%v): %v %v", l, x, ok)
	}
	for _, n := range []int{math.MinInt, -1, 0, 1, 2, 7, 10, 1000, 999999, 1000000, 1000001, math.MaxInt} {
		refuseNumber(t, l, n)
	}
}

func refuseNumber(t *testing.T, l []impl.Sample, n int) {
	t.Helper()
	if x, ok := impl.WindowsOf(l, n); len(x) != 0 || ok {
		t.Errorf("WindowsOf(%v, %d): %v %v", l, n, x, ok)
	}
	if x, ok := impl.RateOf(l, n); x != 0 || ok {
		t.Errorf("RateOf(%v, %d): %v %v", l, n, x, ok)
	}
	if x, ok := impl.FillGaps(l, n); len(x) != 0 || ok {
		t.Errorf("FillGaps(%v, %d): %v %v", l, n, x, ok)
	}
}

// badRateNumbers are no size, no per and no step.
func badRateNumbers() []int {
	return append(noNumbers(), -1000001, -1000000, -2, -1, 0, 1000001, 1000002, 2000000, 1000000000)
}

// anyCounter rises by small steps or great ones, stays, falls by a little or to 0; its Ats lie near or far apart.
func anyCounter(r *rand.Rand, many int) []impl.Sample {
	var out []impl.Sample
	at := r.Intn(1 << r.Intn(20))
	n := r.Intn(1 << r.Intn(24))
	far := 1 + r.Intn(24)
	for range many {
		out = append(out, impl.Sample{At: at, Value: n})
		at += 1 + r.Intn(1<<r.Intn(far))
		switch r.Intn(8) {
		case 0:
			n = 0
		case 1:
			n = r.Intn(n + 1)
		case 2:
			n = max(n-1, 0)
		case 3:
		default:
			n += r.Intn(1 << r.Intn(24))
		}
	}
	return out
}

// steepCounter begins anew at each second place, from the greatest Value there is.
func steepCounter(many int) []impl.Sample {
	var out []impl.Sample
	for i := range many {
		out = append(out, impl.Sample{At: i, Value: maxMeasure * (i % 2)})
	}
	return out
}

func goodCounters() [][]impl.Sample {
	out := [][]impl.Sample{
		nil, {}, {{}}, counter(7, 3), counter(0, maxMeasure), counter(impl.MaxTime, 0), counter(impl.MaxTime, maxMeasure),
		counter(0, 0, 1, 0), counter(0, 0, impl.MaxTime, maxMeasure), counter(0, maxMeasure, impl.MaxTime, 0), counter(impl.MaxTime-1, 1, impl.MaxTime, 0), counter(0, maxMeasure, 1, maxMeasure),
		counter(5, 5, 6, 4), counter(5, 5, 6, 5), counter(5, 5, 6, 6), counter(5, maxMeasure, 6, maxMeasure-1), counter(0, 0, 500000000, maxMeasure, impl.MaxTime, maxMeasure-1),
		valued(5, 7, 9, 2, 4), valued(9, 8, 7, 6, 5), valued(1, 2, 3, 4, 5), valued(3, 3, 3, 3), valued(0, 0, 0, 0), valued(5, 0, 5, 0, 5), valued(9, 5, 0), valued(1, 0, 0, 1),
		valued(repeated(0, 40)...), valued(repeated(maxMeasure, 40)...), valued(rising(0, 1, 40)...), valued(rising(39, -1, 40)...), valued(rising(0, maxMeasure/39, 40)...),
		steepCounter(40), steepCounter(39), steepCounter(2), steepCounter(3), counter(1000000, 1, 2000000, 2, 3000000, 1), counter(999999, 1, 1000000, 2, 1000001, 3),
	}
	r := rand.New(rand.NewSource(160))
	for range 400 {
		out = append(out, anyCounter(r, r.Intn(41)))
	}
	return out
}

func badCounters() [][]impl.Sample {
	out := append(badSamples(),
		counter(0, -1), counter(0, -maxMeasure), counter(0, 0, 1, -1), counter(0, -1, 1, 0), counter(0, 5, 1, -1, 2, 7), counter(0, 5, 1, 6, 2, -1),
		counter(-1, 1), counter(-10, 1, 0, 2, 10, 3), counter(-20, 1, -10, 2), counter(0, 1, impl.MaxTime+1, 2), counter(0, 1, 0, 1), counter(5, 1, 4, 2), counter(0, maxMeasure+1), counter(0, 1, 1, maxMeasure+1, 2, 3), counter(impl.MaxTime, 1, impl.MaxTime, 1),
		valued(rising(0, 1, 41)...), valued(repeated(0, 41)...), valued(repeated(0, 42)...), valued(rising(0, 1, 5000)...), steepCounter(41),
	)
	for i := range 40 {
		for _, n := range []int{-1, maxMeasure + 1} {
			l := valued(rising(1, 2, 40)...)
			l[i].Value = n
			out = append(out, l)
		}
	}
	return out
}

func TestCounterOkTellsAsSaid(t *testing.T) {
	for _, l := range goodCounters() {
		if !impl.CounterOk(l) || !plainCounter(l) {
			t.Errorf("no counter: %v", l)
		}
	}
	for _, l := range badCounters() {
		if impl.CounterOk(l) || plainCounter(l) {
			t.Errorf("a counter: %v", l)
		}
	}
	isOne, isNone := 0, 0
	for _, l := range goodSamples() {
		if checkCounter(t, l) {
			isOne++
		} else {
			isNone++
		}
	}
	if isOne < 10 || isNone < 100 {
		t.Error("too few:", isOne, isNone)
	}
}

// Samples may be good, and no counter: just those with a Value below 0.
func TestCountersAreFromZeroOn(t *testing.T) {
	for many := 1; many <= 40; many++ {
		for i := range many {
			for _, n := range []int{-maxMeasure - 1, -maxMeasure, -1, 0, 1, maxMeasure, maxMeasure + 1} {
				l := valued(rising(0, 1, many)...)
				l[i].Value = n
				if is := among(n, 0, maxMeasure); impl.CounterOk(l) != is {
					t.Errorf("%v: not %v", l, is)
				}
				if is := among(n, -maxMeasure, maxMeasure); impl.GoodSamples(l) != is {
					t.Errorf("%v: not %v", l, is)
				}
			}
		}
	}
	if l := valued(rising(0, 1, 41)...); impl.CounterOk(l) || !impl.CounterOk(l[1:]) || !impl.CounterOk(l[:40]) {
		t.Error(l)
	}
}

func TestRiseOfTellsAsSaid(t *testing.T) {
	const most = maxMeasure
	for _, c := range []struct {
		l            []impl.Sample
		rise, resets int
	}{
		{nil, 0, 0}, {counter(), 0, 0}, {counter(5, 0), 0, 0}, {counter(5, 7), 0, 0}, {counter(0, most), 0, 0},
		{valued(0, 0), 0, 0}, {valued(5, 5), 0, 0}, {valued(5, 6), 1, 0}, {valued(5, 4), 4, 1}, {valued(5, 0), 0, 1}, {valued(5, 1), 1, 1}, {valued(0, 5), 5, 0}, {valued(1, 0), 0, 1}, {valued(2, 1), 1, 1},
		{valued(5, 7, 9, 2, 4), 8, 1}, {valued(5, 7, 9, 0, 4), 8, 1}, {valued(5, 7, 9, 9, 10), 5, 0}, {valued(5, 7, 9, 8, 10), 14, 1}, {valued(5, 4, 3, 2, 1), 10, 4}, {valued(5, 4, 3), 7, 2}, {valued(5, 0, 0, 0), 0, 1}, {valued(5, 0, 5, 0, 5), 10, 2}, {valued(9, 5, 0), 5, 2}, {valued(9, 0, 5), 5, 1}, {valued(1, 2, 3, 0), 2, 1}, {valued(1, 2, 3, 2), 4, 1}, {valued(3, 3, 3), 0, 0}, {valued(3, 3, 2, 2, 3), 3, 1},
		{valued(0, most), most, 0}, {valued(most, most), 0, 0}, {valued(most, 0), 0, 1}, {valued(most, most-1), most - 1, 1}, {valued(most-1, most), 1, 0}, {valued(0, most, 0, most), 2 * most, 1}, {valued(most, most-1, most-2), 2*most - 3, 2},
		{steepCounter(40), 20 * most, 19}, {steepCounter(39), 19 * most, 19}, {valued(rising(most, -1, 40)...), 39*most - 39*20, 39}, {valued(rising(0, 1, 40)...), 39, 0}, {valued(repeated(7, 40)...), 0, 0}, {valued(append(repeated(7, 39), 6)...), 6, 1}, {valued(append(repeated(7, 39), 0)...), 0, 1},
		{counter(0, 5, impl.MaxTime, 7), 2, 0}, {counter(0, 5, impl.MaxTime, 3), 3, 1},
	} {
		if n, ok := impl.RiseOf(c.l); n != c.rise || !ok {
			t.Errorf("RiseOf(%v): %d %v, not %d", c.l, n, ok, c.rise)
		}
		if n, ok := impl.ResetsIn(c.l); n != c.resets || !ok {
			t.Errorf("ResetsIn(%v): %d %v, not %d", c.l, n, ok, c.resets)
		}
	}
	for _, l := range goodCounters() {
		if !checkCounter(t, l) {
			t.Fatal("no counter:", l)
		}
	}
}

// A reset counts its value, wherever it is and whatever stood ahead.
func TestResetsCountTheirValues(t *testing.T) {
	for many := 2; many <= 40; many++ {
		for i := 1; i < many; i++ {
			for _, n := range []int{0, 1, 5, 99} {
				l := valued(repeated(100, many)...)
				for j := i; j < many; j++ {
					l[j].Value = n
				}
				if rise, ok := impl.RiseOf(l); rise != n || !ok {
					t.Errorf("RiseOf(%v): %d %v", l, rise, ok)
				}
				if resets, ok := impl.ResetsIn(l); resets != 1 || !ok {
					t.Errorf("ResetsIn(%v): %d %v", l, resets, ok)
				}
			}
		}
	}
}

func TestCountersAreRefused(t *testing.T) {
	for _, l := range badCounters() {
		refuseRates(t, l)
	}
}

func TestUnwrapTellsAsSaid(t *testing.T) {
	const most = maxMeasure
	for _, c := range []struct {
		l    []impl.Sample
		want []int
	}{
		{nil, nil}, {counter(), nil}, {counter(5, 0), []int{0}}, {counter(5, 7), []int{7}}, {counter(impl.MaxTime, most), []int{most}},
		{valued(5, 7, 9, 2, 4), []int{5, 7, 9, 11, 13}}, {valued(5, 5), []int{5, 5}}, {valued(5, 4), []int{5, 9}}, {valued(5, 0), []int{5, 5}}, {valued(5, 0, 0), []int{5, 5, 5}}, {valued(9, 5, 0), []int{9, 14, 14}}, {valued(9, 5, 2), []int{9, 14, 16}}, {valued(9, 0, 5), []int{9, 9, 14}}, {valued(5, 4, 3, 2, 1), []int{5, 9, 12, 14, 15}}, {valued(1, 2, 1, 2, 1), []int{1, 2, 3, 4, 5}}, {valued(1, 2, 3, 3, 0), []int{1, 2, 3, 3, 3}},
		{valued(0, most), []int{0, most}}, {valued(most, most), []int{most, most}}, {valued(most, 0), []int{most, most}}, {valued(most, 0, 0, 0), []int{most, most, most, most}}, {valued(most-1, 1), []int{most - 1, most}}, {valued(most-2, 1, 0, 1), []int{most - 2, most - 1, most - 1, most}}, {valued(500000000, 499999999), []int{500000000, 999999999}}, {valued(500000000, 499999999, 500000000), []int{500000000, 999999999, most}},
	} {
		got, ok := impl.Unwrap(c.l)
		if !slices.Equal(measuresOf(got), c.want) || !slices.Equal(timesOf(got), timesOf(c.l)) || !ok {
			t.Errorf("Unwrap(%v): %v %v, not %v", c.l, got, ok, c.want)
		}
		checkCounter(t, c.l)
	}
}

// What goes beyond the greatest Value is no good sample, and then there is none at all.
func TestUnwrapHasItsLimits(t *testing.T) {
	const most = maxMeasure
	for _, l := range [][]impl.Sample{
		valued(most, 1), valued(most, 0, 1), valued(most-1, 2), valued(most, most-1), valued(most-1, 1, 2), valued(most-1, 1, 0, 1), valued(0, most, 1), valued(0, most, 0, most), valued(1, most, 5, 0), valued(500000001, 500000000), valued(500000000, 499999999, 500000001), steepCounter(4), steepCounter(40),
	} {
		if x, ok := impl.Unwrap(l); len(x) != 0 || ok {
			t.Errorf("Unwrap(%v): %v %v", l, x, ok)
		}
		if !checkCounter(t, l) {
			t.Errorf("a counter: %v", l)
		}
	}
	// Each but the first one is a reset, so all Values together are what it comes to.
	for many := 2; many <= 40; many++ {
		for more := -1; more <= 1; more++ {
			l := valued(rising(most/many, -1, many)...)
			l[0].Value = most + more - sumOf(measuresOf(l[1:]))
			got, ok := impl.Unwrap(l)
			if !checkCounter(t, l) || ok != (more <= 0) || ok && got[many-1].Value != most+more {
				t.Errorf("Unwrap(%v): %v %v", l, got, ok)
			}
		}
	}
}

func TestThinOutTellsAsSaid(t *testing.T) {
	for _, c := range []struct {
		l    []impl.Sample
		want []int
	}{
		{nil, nil}, {counter(), nil}, {valued(5), []int{0}}, {valued(5, 6), []int{0, 10}}, {valued(5, 5), []int{0, 10}}, {valued(6, 5), []int{0, 10}},
		// One between, just that ahead, just that behind, all alike.
		{valued(5, 6, 7), []int{0, 20}}, {valued(5, 5, 7), []int{0, 20}}, {valued(5, 7, 7), []int{0, 20}}, {valued(5, 5, 5), []int{0, 20}}, {valued(0, 0, 0), []int{0, 20}}, {valued(0, 0, 1), []int{0, 20}}, {valued(0, 1, 1), []int{0, 20}}, {valued(0, maxMeasure, maxMeasure), []int{0, 20}},
		// A reset at it, one behind it, both.
		{valued(5, 4, 7), []int{0, 10, 20}}, {valued(5, 4, 5), []int{0, 10, 20}}, {valued(5, 4, 4), []int{0, 10, 20}}, {valued(5, 0, 0), []int{0, 10, 20}}, {valued(5, 7, 6), []int{0, 10, 20}}, {valued(5, 7, 5), []int{0, 10, 20}}, {valued(5, 7, 0), []int{0, 10, 20}}, {valued(5, 5, 4), []int{0, 10, 20}}, {valued(5, 4, 3), []int{0, 10, 20}}, {valued(5, 3, 4), []int{0, 10, 20}}, {valued(5, 7, 4), []int{0, 10, 20}}, {valued(7, 5, 3, 1), []int{0, 10, 20, 30}},
		// Several in a row.
		{valued(5, 7, 9, 2, 4), []int{0, 20, 30, 40}}, {valued(1, 2, 3, 4, 5), []int{0, 40}}, {valued(1, 1, 1, 1, 1), []int{0, 40}}, {valued(1, 2, 3, 0, 1, 2), []int{0, 20, 30, 50}}, {valued(1, 2, 0, 1, 0, 1), []int{0, 10, 20, 30, 40, 50}}, {valued(3, 3, 2, 2, 2, 1, 1), []int{0, 10, 20, 40, 50, 60}}, {valued(0, 1, 0, 1, 2, 3, 3, 0, 0, 0), []int{0, 10, 20, 60, 70, 90}}, {valued(9, 5, 6, 7, 4), []int{0, 10, 30, 40}},
	} {
		got, ok := impl.ThinOut(c.l)
		if !slices.Equal(timesOf(got), c.want) || !ok {
			t.Errorf("ThinOut(%v): %v %v, not those at %v", c.l, got, ok, c.want)
		}
		checkCounter(t, c.l)
	}
	for many := 2; many <= 40; many++ {
		for _, step := range []int{0, 1, 7} {
			l := valued(rising(0, step, many)...)
			if got, ok := impl.ThinOut(l); !slices.Equal(got, []impl.Sample{l[0], l[many-1]}) || !ok {
				t.Errorf("ThinOut(%v): %v %v", l, got, ok)
			}
		}
		l := valued(rising(many, -1, many)...)
		if got, ok := impl.ThinOut(l); !slices.Equal(got, l) || !ok {
			t.Errorf("ThinOut(%v): %v %v", l, got, ok)
		}
	}
}

// What is thinned out rose as much and began anew as often; of a rise its two ends are left, and no more goes.
func TestThinOutKeepsWhatRose(t *testing.T) {
	r := rand.New(rand.NewSource(161))
	went, stayed := 0, 0
	for range 4000 {
		l := anyCounter(r, r.Intn(41))
		got, ok := impl.ThinOut(l)
		rise, _ := impl.RiseOf(l)
		resets, _ := impl.ResetsIn(l)
		left, ok2 := impl.RiseOf(got)
		leftResets, ok3 := impl.ResetsIn(got)
		if rise != left || resets != leftResets || !ok || !ok2 || !ok3 {
			t.Fatalf("%v: %v has %d and %d, not %d and %d", l, got, left, leftResets, rise, resets)
		}
		if again, ok := impl.ThinOut(got); !slices.Equal(again, got) || !ok {
			t.Fatalf("%v: %v, and then %v", l, got, again)
		}
		if len(got) > 2*resets+2 || len(l) > 0 && (got[0] != l[0] || got[len(got)-1] != l[len(l)-1]) {
			t.Fatalf("%v: %v", l, got)
		}
		went, stayed = went+len(l)-len(got), stayed+len(got)
	}
	if went < 1000 || stayed < 1000 {
		t.Error("too few:", went, stayed)
	}
}

func TestWindowsOfTellsAsSaid(t *testing.T) {
	l := valued(5, 7, 9, 2, 4)
	const most = maxMeasure
	for _, c := range []struct {
		l    []impl.Sample
		size int
		want []impl.Window
	}{
		{nil, 1, nil}, {nil, 1000000, nil}, {counter(), 7, nil},
		{l, 20, rateWindows(windowOf(0, 5, 7, 2, 2), windowOf(20, 9, 2, 2, 2), windowOf(40, 4, 4, 1, 0))},
		{l, 1, rateWindows(windowOf(0, 5, 5, 1, 0), windowOf(10, 7, 7, 1, 0), windowOf(20, 9, 9, 1, 0), windowOf(30, 2, 2, 1, 0), windowOf(40, 4, 4, 1, 0))},
		{l, 10, rateWindows(windowOf(0, 5, 5, 1, 0), windowOf(10, 7, 7, 1, 0), windowOf(20, 9, 9, 1, 0), windowOf(30, 2, 2, 1, 0), windowOf(40, 4, 4, 1, 0))},
		{l, 11, rateWindows(windowOf(0, 5, 7, 2, 2), windowOf(11, 9, 9, 1, 0), windowOf(22, 2, 2, 1, 0), windowOf(33, 4, 4, 1, 0))},
		{l, 15, rateWindows(windowOf(0, 5, 7, 2, 2), windowOf(15, 9, 9, 1, 0), windowOf(30, 2, 4, 2, 2))},
		{l, 30, rateWindows(windowOf(0, 5, 9, 3, 4), windowOf(30, 2, 4, 2, 2))}, {l, 40, rateWindows(windowOf(0, 5, 2, 4, 6), windowOf(40, 4, 4, 1, 0))}, {l, 41, rateWindows(windowOf(0, 5, 4, 5, 8))}, {l, 1000000, rateWindows(windowOf(0, 5, 4, 5, 8))},
		// An At that is just a multiple, and those beside it.
		{counter(9, 1, 10, 2, 11, 3), 10, rateWindows(windowOf(0, 1, 1, 1, 0), windowOf(10, 2, 3, 2, 1))}, {counter(9, 3, 10, 2, 11, 1), 10, rateWindows(windowOf(0, 3, 3, 1, 0), windowOf(10, 2, 1, 2, 1))}, {counter(0, 4), 10, rateWindows(windowOf(0, 4, 4, 1, 0))}, {counter(10, 4), 10, rateWindows(windowOf(10, 4, 4, 1, 0))}, {counter(19, 4), 10, rateWindows(windowOf(10, 4, 4, 1, 0))}, {counter(20, 4), 10, rateWindows(windowOf(20, 4, 4, 1, 0))},
		// Windows without samples between others, and ahead of all.
		{counter(5, 1, 75, 9, 79, 3), 10, rateWindows(windowOf(0, 1, 1, 1, 0), windowOf(70, 9, 3, 2, 3))}, {counter(999999999, 1, 1000000000, 2), 10, rateWindows(windowOf(999999990, 1, 1, 1, 0), windowOf(1000000000, 2, 2, 1, 0))}, {counter(0, 1, 1000000000, 2), 1, rateWindows(windowOf(0, 1, 1, 1, 0), windowOf(1000000000, 2, 2, 1, 0))}, {counter(0, most, 1, most-1, 1000000000, 0), 999999, rateWindows(windowOf(0, most, most-1, 2, most-1), windowOf(999999000, 0, 0, 1, 0))},
		{counter(999999, 1, 1000000, 2, 1999999, 3, 2000000, 1), 1000000, rateWindows(windowOf(0, 1, 1, 1, 0), windowOf(1000000, 2, 3, 2, 1), windowOf(2000000, 1, 1, 1, 0))},
		{steepCounter(40), 1000000, rateWindows(windowOf(0, 0, most, 40, 20*most))}, {steepCounter(4), 2, rateWindows(windowOf(0, 0, most, 2, most), windowOf(2, 0, most, 2, most))}, {counter(1, most, 2, 0, 3, most, 4, 0), 2, rateWindows(windowOf(0, most, most, 1, 0), windowOf(2, 0, most, 2, most), windowOf(4, 0, 0, 1, 0))},
	} {
		if got, ok := impl.WindowsOf(c.l, c.size); !slices.Equal(got, c.want) || !ok {
			t.Errorf("WindowsOf(%v, %d): %v %v, not %v", c.l, c.size, got, ok, c.want)
		}
	}
	for _, l := range goodCounters() {
		for _, size := range []int{1, 2, 3, 7, 10, 60, 64, 1000, 65536, 999999, 1000000} {
			if _, ok := checkWindows(t, l, size); !ok {
				t.Fatalf("refused: %v by %d", l, size)
			}
		}
	}
}

func TestWindowsOfRefuses(t *testing.T) {
	for _, l := range [][]impl.Sample{nil, counter(), counter(0, 1), valued(5, 7, 9, 2, 4), valued(rising(0, 1, 40)...)} {
		for _, size := range badRateNumbers() {
			if got, ok := impl.WindowsOf(l, size); len(got) != 0 || ok {
				t.Errorf("WindowsOf(%v, %d): %v %v", l, size, got, ok)
			}
		}
		for _, size := range []int{1, 1000000} {
			if _, ok := impl.WindowsOf(l, size); !ok {
				t.Errorf("WindowsOf(%v, %d)", l, size)
			}
		}
	}
}

func TestRateOfTellsAsSaid(t *testing.T) {
	const most = maxMeasure
	for _, c := range []struct {
		l         []impl.Sample
		per, want int
	}{
		{valued(5, 7, 9, 2, 4), 100, 20}, {valued(5, 7, 9, 2, 4), 1, 0}, {valued(5, 7, 9, 2, 4), 4, 0}, {valued(5, 7, 9, 2, 4), 5, 1}, {valued(5, 7, 9, 2, 4), 9, 1}, {valued(5, 7, 9, 2, 4), 10, 2}, {valued(5, 7, 9, 2, 4), 1000000, 200000},
		// A rise of 0, by no step and by a reset to 0.
		{valued(5, 5), 1000000, 0}, {valued(0, 0), 1, 0}, {valued(5, 0), 1000000, 0}, {valued(0, 1), 1, 0}, {valued(0, 1), 9, 0}, {valued(0, 1), 10, 1}, {valued(0, 1), 19, 1}, {valued(0, 1), 20, 2},
		// Divisions that leave a rest go down.
		{counter(0, 0, 3, 1), 1, 0}, {counter(0, 0, 3, 2), 1, 0}, {counter(0, 0, 3, 3), 1, 1}, {counter(0, 0, 3, 4), 1, 1}, {counter(0, 0, 3, 5), 1, 1}, {counter(0, 0, 3, 6), 1, 2}, {counter(0, 0, 3, 2), 2, 1}, {counter(0, 0, 3, 1), 1000000, 333333}, {counter(0, 0, 3, 2), 1000000, 666666}, {counter(0, 0, 7, 1), 1000000, 142857},
		// How far the last At is from the first one, wherever they lie.
		{counter(5, 0, 6, 1), 1, 1}, {counter(10, 0, 20, 5, 30, 20), 1, 1}, {counter(999999999, 0, 1000000000, 7), 1, 7}, {counter(0, 0, impl.MaxTime, most), 1, 1}, {counter(0, 0, impl.MaxTime, most-1), 1, 0}, {counter(0, 1, impl.MaxTime, most), 1, 0}, {counter(0, 0, impl.MaxTime, most), 1000000, 1000000}, {counter(1, 0, impl.MaxTime, most), 1000000, 1000000}, {counter(0, 0, impl.MaxTime, 1), 1000000, 0}, {counter(0, 0, impl.MaxTime, 1000), 1000000, 1}, {counter(0, 0, impl.MaxTime, 999), 1000000, 0}, {counter(0, 7, impl.MaxTime, 6), 1000000, 0},
		// As much as there can be.
		{counter(0, 0, 1, most), 1000000, 1000000 * most}, {steepCounter(40), 39, 20 * most}, {steepCounter(40), 1000000, 20*most/39*1000000 + 20*most%39*1000000/39}, {valued(rising(most, -1, 40)...), 390, 39*most - 39*20}, {counter(0, most, 1, most-1), 1000000, 1000000 * (most - 1)},
	} {
		if got, ok := impl.RateOf(c.l, c.per); got != c.want || !ok {
			t.Errorf("RateOf(%v, %d): %d %v, not %d", c.l, c.per, got, ok, c.want)
		}
	}
	for _, l := range goodCounters() {
		for _, per := range []int{1, 2, 3, 7, 60, 1000, 999999, 1000000} {
			if _, ok := checkRate(t, l, per); ok != (len(l) >= 2) {
				t.Fatalf("%v by %d: %v", l, per, ok)
			}
		}
	}
}

func TestRateOfRefuses(t *testing.T) {
	for _, l := range [][]impl.Sample{valued(5, 7), valued(5, 7, 9, 2, 4), valued(rising(0, 1, 40)...)} {
		for _, per := range badRateNumbers() {
			if got, ok := impl.RateOf(l, per); got != 0 || ok {
				t.Errorf("RateOf(%v, %d): %d %v", l, per, got, ok)
			}
		}
		for _, per := range []int{1, 1000000} {
			if _, ok := impl.RateOf(l, per); !ok {
				t.Errorf("RateOf(%v, %d)", l, per)
			}
		}
	}
	for _, l := range [][]impl.Sample{nil, counter(), counter(0, 0), counter(0, 5), counter(5, 5), counter(impl.MaxTime, maxMeasure)} {
		for _, per := range append(badRateNumbers(), 1, 2, 1000, 999999, 1000000) {
			if got, ok := impl.RateOf(l, per); got != 0 || ok {
				t.Errorf("RateOf(%v, %d): %d %v", l, per, got, ok)
			}
		}
	}
}

func TestFillGapsTellsAsSaid(t *testing.T) {
	l := valued(5, 7, 9, 2, 4)
	for _, c := range []struct {
		l    []impl.Sample
		step int
		want []impl.Sample
	}{
		{nil, 1, nil}, {nil, 1000000, nil}, {counter(), 7, nil},
		{l, 15, counter(0, 5, 15, 7, 30, 2)}, {l, 10, l}, {l, 20, counter(0, 5, 20, 9, 40, 4)}, {l, 40, counter(0, 5, 40, 4)}, {l, 41, counter(0, 5)}, {l, 1000000, counter(0, 5)}, {l, 5, counter(0, 5, 5, 5, 10, 7, 15, 7, 20, 9, 25, 9, 30, 2, 35, 2, 40, 4)}, {l, 9, counter(0, 5, 9, 5, 18, 7, 27, 9, 36, 2)}, {l, 11, counter(0, 5, 11, 7, 22, 9, 33, 2)},
		// The first At is a multiple, or is not; the last one is, or is not.
		{counter(10, 1, 30, 2), 10, counter(10, 1, 20, 1, 30, 2)}, {counter(11, 1, 30, 2), 10, counter(20, 1, 30, 2)}, {counter(9, 1, 30, 2), 10, counter(10, 1, 20, 1, 30, 2)}, {counter(10, 1, 29, 2), 10, counter(10, 1, 20, 1)}, {counter(10, 1, 31, 2), 10, counter(10, 1, 20, 1, 30, 1)}, {counter(1, 1, 9, 2), 10, nil}, {counter(1, 1, 10, 2), 10, counter(10, 2)}, {counter(0, 1, 9, 2), 10, counter(0, 1)}, {counter(1, 1, 9, 2, 10, 0, 11, 3), 10, counter(10, 0)},
		// One sample, and none where no multiple is.
		{counter(0, 4), 1, counter(0, 4)}, {counter(0, 4), 1000000, counter(0, 4)}, {counter(5, 4), 1, counter(5, 4)}, {counter(5, 4), 5, counter(5, 4)}, {counter(5, 4), 2, nil}, {counter(5, 4), 10, nil}, {counter(1000000, 4), 1000000, counter(1000000, 4)}, {counter(999999, 4), 1000000, nil}, {counter(1000001, 4), 1000000, nil}, {counter(999999, 4, 1000001, 3), 1000000, counter(1000000, 4)}, {counter(1000001, 4, 1999999, 3), 1000000, nil}, {counter(impl.MaxTime, 4), 1000000, counter(impl.MaxTime, 4)}, {counter(impl.MaxTime, 4), 3, nil}, {counter(impl.MaxTime-1, 4, impl.MaxTime, 5), 1, counter(impl.MaxTime-1, 4, impl.MaxTime, 5)},
		// A gap of many steps, and many samples between two multiples.
		{counter(0, 1, 35, 2, 36, 9), 6, counter(0, 1, 6, 1, 12, 1, 18, 1, 24, 1, 30, 1, 36, 9)}, {counter(3, 1, 4, 2, 5, 3, 6, 4, 7, 5, 8, 6), 7, counter(7, 5)}, {counter(3, 9, 4, 8, 5, 7, 6, 6, 8, 6, 14, 1), 7, counter(7, 6, 14, 1)}, {counter(0, 0, 3, 0, 4, 7), 2, counter(0, 0, 2, 0, 4, 7)},
		{counter(961000001, 8, impl.MaxTime, 9), 1000000, counterFrom(962000000, 1000000, append(repeated(8, 38), 9))},
	} {
		if got, ok := impl.FillGaps(c.l, c.step); !slices.Equal(got, c.want) || !ok {
			t.Errorf("FillGaps(%v, %d): %v %v, not %v", c.l, c.step, got, ok, c.want)
		}
	}
	for _, l := range goodCounters() {
		for _, step := range []int{1, 2, 3, 7, 10, 60, 64, 1000, 65536, 999999, 1000000} {
			checkFill(t, l, step)
		}
	}
}

// counterFrom has these Values, each a step behind the one ahead.
func counterFrom(at int, step int, values []int) []impl.Sample {
	var out []impl.Sample
	for i, n := range values {
		out = append(out, impl.Sample{At: at + i*step, Value: n})
	}
	return out
}

// There may be MaxSamples multiples, and not one more, however near the ends lie to them.
func TestFillGapsHasItsLimits(t *testing.T) {
	for _, step := range []int{1, 2, 7, 1000, 999999, 1000000} {
		for many := 38; many <= 43; many++ {
			for _, begin := range []int{0, 1, 5} {
				for ahead := range min(step, 3) {
					for behind := range min(step, 3) {
						first, last := begin*step-ahead, (begin+many-1)*step+behind
						if first < 0 {
							continue
						}
						got, ok := checkFill(t, counter(first, 3, last, 8), step)
						if ok != (many <= 40) || ok && len(got) != many {
							t.Errorf("%d by %d from %d to %d: %v %v", many, step, first, last, got, ok)
						}
					}
				}
			}
		}
	}
	for _, step := range []int{1, 2, 999, 1000000} {
		for _, l := range [][]impl.Sample{counter(0, 1, impl.MaxTime, 2), counter(1, 1, impl.MaxTime-1, 2), counter(0, 1, 1, 1, 2, 1, 500000000, 7, impl.MaxTime, 2)} {
			if got, ok := impl.FillGaps(l, step); len(got) != 0 || ok {
				t.Errorf("FillGaps(%v, %d): %v %v", l, step, got, ok)
			}
		}
	}
}

func TestFillGapsRefuses(t *testing.T) {
	for _, l := range [][]impl.Sample{nil, counter(), counter(0, 1), valued(5, 7, 9, 2, 4), counterFrom(0, 1, repeated(3, 40))} {
		for _, step := range badRateNumbers() {
			if got, ok := impl.FillGaps(l, step); len(got) != 0 || ok {
				t.Errorf("FillGaps(%v, %d): %v %v", l, step, got, ok)
			}
		}
		if _, ok := impl.FillGaps(l, 1000000); !ok {
			t.Errorf("FillGaps(%v)", l)
		}
	}
}

// What is filled is a counter by steps; it has the samples that stand at multiples, and rose no more than all did.
func TestFilledGapsAreACounterBySteps(t *testing.T) {
	r := rand.New(rand.NewSource(162))
	filled, refused, hidden := 0, 0, 0
	for range 4000 {
		l, step := anyCounter(r, r.Intn(41)), 1+r.Intn(1<<r.Intn(20))
		got, ok := checkFill(t, l, step)
		if !ok {
			refused++
			continue
		}
		for i, x := range got {
			if x.At%step != 0 || i > 0 && x.At != got[i-1].At+step {
				t.Fatalf("%v by %d: %v", l, step, got)
			}
		}
		for _, x := range l {
			if x.At%step == 0 && !slices.Contains(got, x) {
				t.Fatalf("%v by %d: %v lacks %v", l, step, got, x)
			}
		}
		rise, ok := impl.RiseOf(got)
		all, _ := impl.RiseOf(l)
		if !ok || rise > all {
			t.Fatalf("%v by %d: %v rose by %d, all by %d", l, step, got, rise, all)
		}
		if again, ok := impl.FillGaps(got, step); !slices.Equal(again, got) || !ok {
			t.Fatalf("%v by %d: %v, and then %v", l, step, got, again)
		}
		filled++
		if rise < all {
			hidden++
		}
	}
	if filled < 1000 || refused < 500 || hidden < 500 {
		t.Error("too few:", filled, refused, hidden)
	}
}

// checkMeet parts a counter at each of its samples, which both parts have.
func checkMeet(t *testing.T, l []impl.Sample) {
	t.Helper()
	all, ok := impl.RiseOf(l)
	resets, ok2 := impl.ResetsIn(l)
	if !ok || !ok2 {
		t.Fatal("refused:", l)
	}
	for at := range l {
		a, ok := impl.RiseOf(l[:at+1])
		b, ok2 := impl.RiseOf(l[at:])
		if a+b != all || !ok || !ok2 {
			t.Fatalf("%v at %d: %d and %d, not %d", l, at, a, b, all)
		}
		a, _ = impl.ResetsIn(l[:at+1])
		b, _ = impl.ResetsIn(l[at:])
		if a+b != resets {
			t.Fatalf("%v at %d: %d and %d resets, not %d", l, at, a, b, resets)
		}
	}
}

// Promise 16, of drawn counters: what rose in two parts that meet is what rose in all.
func TestWhatRoseInTwoPartsThatMeetIsWhatRoseInAll(t *testing.T) {
	r := rand.New(rand.NewSource(163))
	resets := 0
	for range 2000 {
		l := anyCounter(r, 1+r.Intn(40))
		checkMeet(t, l)
		n, _ := impl.ResetsIn(l)
		resets += n
	}
	if resets < 5000 {
		t.Error("too few:", resets)
	}
	for _, l := range goodCounters() {
		checkMeet(t, l)
	}
}

// Promise 16, in any parts: each meets the one ahead in one sample.
func TestWhatRoseInPartsIsWhatRoseInAll(t *testing.T) {
	r := rand.New(rand.NewSource(164))
	for range 2000 {
		l := anyCounter(r, 1+r.Intn(40))
		all, _ := impl.RiseOf(l)
		sum, at := 0, 0
		for at < len(l)-1 {
			to := at + 1 + r.Intn(len(l)-1-at)
			n, ok := impl.RiseOf(l[at : to+1])
			if !ok {
				t.Fatal(l, at, to)
			}
			sum, at = sum+n, to
		}
		if sum != all {
			t.Fatalf("%v: %d, not %d", l, sum, all)
		}
	}
}

// Promise 16, over all that few samples can come to.
func TestWhateverFewSamplesRoseInParts(t *testing.T) {
	var walk func(l []int, left int)
	walk = func(l []int, left int) {
		x := valued(l...)
		checkMeet(t, x)
		checkRates(t, x, 1, 10, 15, 20, 30)
		if left > 0 {
			for n := range 4 {
				walk(append(l[:len(l):len(l)], n), left-1)
			}
		}
	}
	walk(nil, 6)
}

// Whatever Ats few samples have, windows and gaps are as said.
func TestWhateverAtsFewSamplesHave(t *testing.T) {
	for mask := range 1 << 11 {
		var ats []int
		for at := range 11 {
			if mask>>at&1 == 1 {
				ats = append(ats, at)
			}
		}
		l := valuedAt(ats...)
		checkRates(t, l, 1, 2, 3, 4, 5, 6, 7, 10, 11, 12)
		for i := range l {
			l[i].At += 97
		}
		checkRates(t, l, 1, 2, 3, 4, 7, 10, 97, 98, 100, 107, 108, 109)
	}
}

// What is unwrapped never falls, and rose as much as what it was.
func TestWhatIsUnwrappedNeverFalls(t *testing.T) {
	r := rand.New(rand.NewSource(165))
	flat, refused := 0, 0
	for range 4000 {
		l := anyCounter(r, 1+r.Intn(40))
		if r.Intn(4) == 0 {
			l[r.Intn(len(l))].Value = maxMeasure - r.Intn(1<<r.Intn(30))
		}
		if !checkCounter(t, l) {
			t.Fatal("no counter:", l)
		}
		rise, _ := impl.RiseOf(l)
		got, ok := impl.Unwrap(l)
		if ok != (l[0].Value+rise <= maxMeasure) {
			t.Fatalf("%v rose by %d: %v", l, rise, ok)
		}
		if !ok {
			refused++
			continue
		}
		flat++
		checkUnwrapped(t, l, got)
	}
	if flat < 1000 || refused < 200 {
		t.Error("too few:", flat, refused)
	}
}

func checkUnwrapped(t *testing.T, l []impl.Sample, got []impl.Sample) {
	t.Helper()
	for i, x := range got {
		part, _ := impl.RiseOf(l[:i+1])
		if x.At != l[i].At || x.Value != l[0].Value+part || i > 0 && x.Value < got[i-1].Value {
			t.Fatalf("%v: %v", l, got)
		}
	}
	rise, _ := impl.RiseOf(l)
	again, ok := impl.RiseOf(got)
	if resets, ok2 := impl.ResetsIn(got); again != rise || resets != 0 || !ok || !ok2 {
		t.Fatalf("%v: %v rose by %d, not %d, with %d resets", l, got, again, rise, resets)
	}
	if twice, ok := impl.Unwrap(got); !slices.Equal(twice, got) || !ok {
		t.Fatalf("%v: %v, and then %v", l, got, twice)
	}
}

// Windows have each sample once; their rises and the steps between them are all that rose.
func TestWindowsHaveEachSampleOnce(t *testing.T) {
	r := rand.New(rand.NewSource(166))
	several, alone := 0, 0
	for range 4000 {
		l, size := anyCounter(r, r.Intn(41)), 1+r.Intn(1<<r.Intn(20))
		got, ok := checkWindows(t, l, size)
		all, _ := impl.RiseOf(l)
		sum, at := 0, 0
		for i, w := range got {
			if w.Count < 1 || w.From%size != 0 || i > 0 && w.From <= got[i-1].From {
				t.Fatalf("%v by %d: %v", l, size, got)
			}
			in := l[at : at+w.Count]
			if in[0].At < w.From || in[w.Count-1].At >= w.From+size || in[0].Value != w.First || in[w.Count-1].Value != w.Last {
				t.Fatalf("%v by %d: %v has %v", l, size, w, in)
			}
			if i > 0 {
				between, _ := impl.RiseOf(l[at-1 : at+1])
				sum += between
			}
			sum, at = sum+w.Rise, at+w.Count
			if w.Count > 1 {
				several++
			} else {
				alone++
			}
		}
		if sum != all || at != len(l) || !ok {
			t.Fatalf("%v by %d: %v rose by %d, not %d", l, size, got, sum, all)
		}
	}
	if several < 1000 || alone < 1000 {
		t.Error("too few:", several, alone)
	}
}

// A counter is told by its chunk as well as by its samples: chapter 2 keeps what this chapter asks.
func TestCountersComeBackFromTheirChunks(t *testing.T) {
	for _, l := range goodCounters() {
		s, ok := impl.EncodeChunk(l)
		back, ok2 := impl.DecodeChunk(s)
		if !ok || !ok2 || !checkCounter(t, back) {
			t.Fatalf("%v: %v", l, back)
		}
		a, _ := impl.RiseOf(l)
		b, _ := impl.RiseOf(back)
		if a != b {
			t.Fatalf("%v: %d and %d", l, a, b)
		}
	}
}

// Promise 19: whatever it is given, each function answers.
func TestRatesAnswerAtAnyArguments(t *testing.T) {
	ints := append(noNumbers(), -maxMeasure-1, -maxMeasure, -2, -1, 0, 1, 2, 3, 10, 39, 40, 41, 999999, 1000000, 1000001, maxMeasure-1, maxMeasure, maxMeasure+1)
	for _, x := range ints {
		for _, y := range ints {
			for _, l := range [][]impl.Sample{
				counter(x, y), counter(x, 1, y, 2), counter(0, x, 1, y), counter(0, x, 1, y, 2, x), counter(0, 1, x, 3, y, 2), counter(x, y, y, x), counter(x, x, x+1, y, y, x),
			} {
				checkRates(t, l, x, y, 1, 1000000)
			}
		}
	}
	for _, n := range ints {
		for _, l := range [][]impl.Sample{nil, {}, counter(5, 5), valued(5, 7, 9, 2, 4), steepCounter(40), steepCounter(41), counter(0, 0, impl.MaxTime, maxMeasure)} {
			checkRates(t, l, n)
		}
	}
	r := rand.New(rand.NewSource(167))
	good, bad := 0, 0
	for range 3000 {
		l := anyCounter(r, r.Intn(43))
		for range r.Intn(3) {
			if len(l) > 0 {
				i, n := r.Intn(len(l)), ints[r.Intn(len(ints))]
				if r.Intn(2) == 0 {
					l[i].At = n
				} else {
					l[i].Value = n
				}
			}
		}
		checkRates(t, l, ints[r.Intn(len(ints))], 1+r.Intn(1000000), 1+r.Intn(100))
		if plainCounter(l) {
			good++
		} else {
			bad++
		}
	}
	if good < 500 || bad < 500 {
		t.Error("too few:", good, bad)
	}
}

// roomyCounter has much behind its list in its memory, which is no part of it, though it could be.
func roomyCounter() []impl.Sample {
	l := append(make([]impl.Sample, 0, 50), valued(5, 7, 9, 2, 4, 4, 6, 8, 1, 70)...)
	for i := range 30 {
		l = append(l, impl.Sample{At: 100 + 10*i, Value: 100 - i})
	}
	return append(l, counter(0, -5, 7, maxMeasure+1, -1, 3)...)[:5]
}

// Promise 19: nothing is written into an argument, nor into what lies behind it in its memory, nor is that read.
func TestRatesWriteIntoNoArgument(t *testing.T) {
	l := roomyCounter()
	was := slices.Clone(l[:cap(l)])
	plain := slices.Clip(slices.Clone(l))
	for _, long := range []int{0, 1, 2, 3, 4, 5, 10, 40, 41, 43, cap(l)} {
		for _, n := range []int{-1, 0, 1, 10, 15, 20, 1000000, 1000001} {
			checkRates(t, l[:long], n)
			if !slices.Equal(l[:cap(l)], was) {
				t.Fatalf("%d, %d: written into: %v", long, n, l[:cap(l)])
			}
		}
	}
	for _, n := range []int{1, 10, 15, 20, 1000000} {
		checkSameRates(t, l, plain, n)
	}
}

// checkSameRates holds that two lists that are alike are answered alike, whatever their memory is.
func checkSameRates(t *testing.T, a []impl.Sample, b []impl.Sample, n int) {
	t.Helper()
	if ratesText(a, n) != ratesText(b, n) {
		t.Errorf("%v: %s, and %s", a, ratesText(a, n), ratesText(b, n))
	}
}

// ratesText has all that is answered of a list and a number.
func ratesText(l []impl.Sample, n int) string {
	rise, ok := impl.RiseOf(l)
	resets, ok2 := impl.ResetsIn(l)
	flat, ok3 := impl.Unwrap(l)
	thin, ok4 := impl.ThinOut(l)
	in, ok5 := impl.WindowsOf(l, n)
	rate, ok6 := impl.RateOf(l, n)
	filled, ok7 := impl.FillGaps(l, n)
	return fmt.Sprint(impl.CounterOk(l), rise, ok, resets, ok2, flat, ok3, thin, ok4, in, ok5, rate, ok6, filled, ok7)
}

func TestRatesAnswerWithNewMemory(t *testing.T) {
	l := roomyCounter()
	was := slices.Clone(l[:cap(l)])
	odd := impl.Sample{At: -77, Value: -78}
	for _, long := range []int{0, 1, 2, 5, 10, 40} {
		ways := map[string]func() []impl.Sample{
			"Unwrap":   func() []impl.Sample { x, _ := impl.Unwrap(l[:long]); return x },
			"ThinOut":  func() []impl.Sample { x, _ := impl.ThinOut(l[:long]); return x },
			"FillGaps": func() []impl.Sample { x, _ := impl.FillGaps(l[:long], 10); return x },
		}
		for name, way := range ways {
			want, first := slices.Clone(way()), way()
			if samplesBehind(first) || len(want) == 0 && long > 0 {
				t.Errorf("%s hands out %v", name, first[:cap(first)])
			}
			other := way()
			spoil(first, odd)
			if again := way(); !slices.Equal(again, want) || !slices.Equal(other, want) {
				t.Errorf("%s: %v and %v, not %v", name, other, again, want)
			}
		}
		in, _ := impl.WindowsOf(l[:long], 20)
		want := slices.Clone(in)
		if slices.ContainsFunc(in[len(in):cap(in)], func(w impl.Window) bool { return w != impl.Window{} }) {
			t.Error("WindowsOf hands out", in[:cap(in)])
		}
		spoil(in, windowOf(-1, -1, -1, -1, -1))
		if again, _ := impl.WindowsOf(l[:long], 20); !slices.Equal(again, want) {
			t.Error(again, want)
		}
	}
	if !slices.Equal(l[:cap(l)], was) {
		t.Error("memory is shared:", l[:cap(l)])
	}
}

// Nothing is kept from call to call, and nothing hangs on where a counter lies in memory.
func TestRatesTellTheSameAgain(t *testing.T) {
	r := rand.New(rand.NewSource(168))
	var lists [][]impl.Sample
	var texts []string
	for range 300 {
		l := anyCounter(r, r.Intn(42))
		lists, texts = append(lists, l), append(texts, ratesText(l, 100))
	}
	for _, i := range r.Perm(len(lists)) {
		refuseRates(t, counter(0, -1))
		moved := append(make([]impl.Sample, 3, 60), lists[i]...)[3:]
		if got := ratesText(moved, 100); got != texts[i] {
			t.Fatalf("%v: %s, and %s", lists[i], texts[i], got)
		}
	}
}
