package tests

import (
	"math"
	"math/rand"
	"slices"
	"strconv"
	"strings"
	"testing"

	"loop.example/g00522/impl"
)

// events reads words, each a Node, with < and the number of what it hears of behind: 0 1<0 0.
func events(words string) []impl.Event {
	var out []impl.Event
	for _, w := range strings.Fields(words) {
		node, from, hears := strings.Cut(w, "<")
		if !hears {
			from = "-1"
		}
		k, err := strconv.Atoi(node)
		if err != nil {
			panic(err)
		}
		n, err := strconv.Atoi(from)
		if err != nil {
			panic(err)
		}
		out = append(out, impl.Event{Node: k, From: n})
	}
	return out
}

// alone are so many events of one node, which hear of none.
func alone(node int, many int) []impl.Event {
	return slices.Repeat([]impl.Event{{Node: node, From: -1}}, many)
}

// inTurns goes round the nodes, and each event hears of the one just ahead.
func inTurns(nodes int, many int) []impl.Event {
	var out []impl.Event
	for i := range many {
		out = append(out, impl.Event{Node: i % nodes, From: i - 1})
	}
	return out
}

// starOf has one event of node 0, of which all others hear.
func starOf(nodes int, many int) []impl.Event {
	out := alone(0, 1)
	for i := 1; i < many; i++ {
		out = append(out, impl.Event{Node: 1 + i%(nodes-1)})
	}
	return out
}

// anyEvents hear of one of another node as often as in that many times ten; near ones more often than others.
func anyEvents(r *rand.Rand, nodes int, many int, often int) []impl.Event {
	var out []impl.Event
	for i := range many {
		e := impl.Event{Node: r.Intn(nodes), From: -1}
		if i > 0 && r.Intn(10) < often {
			from := r.Intn(i)
			if r.Intn(2) > 0 {
				from = i - 1 - r.Intn(min(i, 4))
			}
			if out[from].Node != e.Node {
				e.From = from
			}
		}
		out = append(out, e)
	}
	return out
}

type nodesAndEvents struct {
	nodes int
	l     []impl.Event
}

func goodEventLists() []nodesAndEvents {
	out := []nodesAndEvents{
		{1, nil}, {1, []impl.Event{}}, {2, nil}, {5, nil}, {1, events("0")}, {2, events("0")}, {2, events("1")}, {5, events("4")}, {5, events("0")}, {1, events("0 0 0")},
		{2, events("0 1<0")}, {2, events("0 1<0 0")}, {2, events("1 0<0")}, {2, events("0 1 0<1 1<0")}, {2, events("0 0 1<0 1<1")}, {3, events("0 1<0 2<1")}, {3, events("0 1<0 2<0 1<2 2<1")}, {5, events("4 3<0 2<1 1<2 0<3")},
		{1, alone(0, 40)}, {5, alone(4, 40)}, {5, alone(0, 39)}, {2, inTurns(2, 40)}, {5, inTurns(5, 40)}, {3, inTurns(3, 39)}, {2, starOf(2, 40)}, {5, starOf(5, 40)},
		{2, append(alone(0, 39), impl.Event{Node: 1, From: 0})}, {2, append(alone(0, 39), impl.Event{Node: 1, From: 38})}, {5, append(alone(3, 20), slices.Repeat([]impl.Event{{Node: 1, From: 19}}, 20)...)},
	}
	r := rand.New(rand.NewSource(111))
	for i := range 200 {
		nodes := 1 + i%5
		out = append(out, nodesAndEvents{nodes, anyEvents(r, nodes, r.Intn([]int{5, 12, 41}[i/5%3]), []int{2, 5, 9}[i/15%3])})
	}
	return out
}

func badEventLists() []nodesAndEvents {
	out := []nodesAndEvents{
		{0, nil}, {-1, nil}, {6, nil}, {0, events("0")}, {6, events("0")}, {-1, events("0")}, {7, events("0 1<0")},
		{1, alone(0, 41)}, {5, alone(4, 41)}, {5, inTurns(5, 41)}, {2, starOf(2, 42)}, {1, alone(0, 5000)}, {1, make([]impl.Event, 41)},
		{1, events("1")}, {1, events("-1")}, {2, events("2")}, {5, events("5")}, {5, events("-1")}, {2, events("0 2<0")}, {2, events("0 1<0 2")}, {2, events("2 0 1")}, {3, events("0 3<0")},
		// The first event has nothing ahead of it to hear of.
		{2, events("0<0")}, {2, events("0<1 1")}, {2, events("0<-2")}, {2, events("0<1")}, {1, make([]impl.Event, 1)}, {5, make([]impl.Event, 40)},
		// What is not ahead, and what is of the same node.
		{2, events("0 1<1")}, {2, events("0 1<2")}, {2, events("0 1<2 0")}, {2, events("0 1<-2")}, {2, events("0 1<-3")}, {2, events("0 0<0")}, {2, events("0 1 0<0")}, {2, events("0 1 1<1")}, {3, events("0 1 2 1<1")}, {1, events("0 0<0")}, {2, events("0 1<0 0 1<1")}, {2, events("0 1<0 1<4")},
		{2, append(alone(0, 39), impl.Event{Node: 1, From: 39})}, {2, append(alone(0, 39), impl.Event{Node: 0, From: 38})}, {2, append(alone(0, 39), impl.Event{Node: 1, From: 40})}, {2, append(alone(0, 39), impl.Event{Node: 2, From: 38})},
	}
	full := inTurns(3, 40)
	for _, n := range append(noNumbers(), -3, -2, 40, 41) {
		out = append(out, nodesAndEvents{n, nil}, nodesAndEvents{n, events("0 1<0")})
		for _, at := range []int{0, 1, 2, 20, 39} {
			l := slices.Clone(full)
			l[at].Node = n
			out = append(out, nodesAndEvents{3, l})
			l = slices.Clone(full)
			l[at].From = n
			out = append(out, nodesAndEvents{3, l})
		}
	}
	return out
}

func plainGoodEvents(nodes int, l []impl.Event) bool {
	if !among(nodes, 1, 5) || len(l) >= 41 {
		return false
	}
	for i, e := range l {
		if !among(e.Node, 0, nodes-1) || e.From < -1 || e.From >= i {
			return false
		}
		if e.From >= 0 && l[e.From].Node == e.Node {
			return false
		}
	}
	return true
}

// plainCame goes by the chapter's words: what is first for what is first for an event is first for it, till nothing is new.
func plainCame(l []impl.Event) [][]bool {
	came := make([][]bool, len(l))
	for a := range l {
		came[a] = make([]bool, len(l))
		for b := range l {
			came[a][b] = a < b && l[a].Node == l[b].Node || l[b].From == a
		}
	}
	for by := range l {
		for a := range l {
			for b := range l {
				came[a][b] = came[a][b] || came[a][by] && came[by][b]
			}
		}
	}
	return came
}

func plainClocks(nodes int, l []impl.Event) [][]int {
	came := plainCame(l)
	out := make([][]int, len(l))
	for b := range l {
		out[b] = make([]int, nodes)
		for a := range l {
			if a == b || came[a][b] {
				out[b][l[a].Node]++
			}
		}
	}
	return out
}

// plainStamps tells how long the longest row is in which each came first for the next one, up to an event.
func plainStamps(l []impl.Event) []int {
	came := plainCame(l)
	out := make([]int, len(l))
	for b := range l {
		for a := range b {
			if came[a][b] {
				out[b] = max(out[b], out[a])
			}
		}
		out[b]++
	}
	return out
}

func plainGoodUpto(nodes int, l []impl.Event, upto []int) bool {
	if len(upto) != nodes {
		return false
	}
	has := make([]int, nodes)
	for _, e := range l {
		has[e.Node]++
	}
	for k, n := range upto {
		if !among(n, 0, has[k]) {
			return false
		}
	}
	return true
}

// plainIsCut gathers the events that have happened first, and asks each of what it heard then.
func plainIsCut(nodes int, l []impl.Event, upto []int) bool {
	happened := map[int]bool{}
	left := slices.Clone(upto)
	for i, e := range l {
		if left[e.Node] > 0 {
			left[e.Node]--
			happened[i] = true
		}
	}
	for i := range happened {
		if from := l[i].From; from >= 0 && !happened[from] {
			return false
		}
	}
	return true
}

func plainGoodPair(a []int, b []int) bool {
	wrong := func(n int) bool { return n < 0 || n >= 41 }
	return len(a) == len(b) && among(len(a), 1, 5) && !slices.ContainsFunc(a, wrong) && !slices.ContainsFunc(b, wrong)
}

func plainLess(a []int, b []int) bool {
	some := false
	for k := range a {
		if a[k] > b[k] {
			return false
		}
		some = some || a[k] < b[k]
	}
	return some
}

func plainJoin(a []int, b []int) []int {
	var out []int
	for k := range a {
		if a[k] > b[k] {
			out = append(out, a[k])
		} else {
			out = append(out, b[k])
		}
	}
	return out
}

// checkPair asks both functions of two lists, good or not.
func checkPair(t *testing.T, a []int, b []int) {
	t.Helper()
	good := plainGoodPair(a, b)
	if less, ok := impl.LessClock(a, b); ok != good || less != (good && plainLess(a, b)) {
		t.Fatalf("LessClock(%v, %v): %v %v", a, b, less, ok)
	}
	var want []int
	if good {
		want = plainJoin(a, b)
	}
	if l, ok := impl.JoinCuts(a, b); ok != good || !slices.Equal(l, want) {
		t.Fatalf("JoinCuts(%v, %v): %v %v", a, b, l, ok)
	}
}

func checkCut(t *testing.T, nodes int, l []impl.Event, upto []int) bool {
	t.Helper()
	good := plainGoodUpto(nodes, l, upto)
	want := good && plainIsCut(nodes, l, upto)
	if is, ok := impl.IsCut(nodes, l, upto); is != want || ok != good {
		t.Fatalf("IsCut(%d, %v, %v): %v %v, not %v %v", nodes, l, upto, is, ok, want, good)
	}
	return want
}

// checkEvents asks all functions of good events, and holds them against the plain ones.
func checkEvents(t *testing.T, nodes int, l []impl.Event) {
	t.Helper()
	if !impl.GoodEvents(nodes, l) {
		t.Fatalf("GoodEvents(%d, %v)", nodes, l)
	}
	clocks, came := plainClocks(nodes, l), plainCame(l)
	if c, ok := impl.ClocksOf(nodes, l); !slices.EqualFunc(c, clocks, slices.Equal[[]int]) || !ok {
		t.Fatalf("ClocksOf(%d, %v): %v %v, not %v", nodes, l, c, ok, clocks)
	}
	if s, ok := impl.StampsOf(nodes, l); !slices.Equal(s, plainStamps(l)) || !ok {
		t.Fatalf("StampsOf(%d, %v): %v %v, not %v", nodes, l, s, ok, plainStamps(l))
	}
	for a := range l {
		for b := range l {
			if f, ok := impl.CameFirst(nodes, l, a, b); f != came[a][b] || !ok {
				t.Fatalf("CameFirst(%d, %v, %d, %d): %v %v", nodes, l, a, b, f, ok)
			}
		}
		if u, ok := impl.CutOf(nodes, l, a); !slices.Equal(u, clocks[a]) || !ok {
			t.Fatalf("CutOf(%d, %v, %d): %v %v, not %v", nodes, l, a, u, ok, clocks[a])
		}
	}
}

// checkClockPromise is promise 11, by what the program itself tells: first just if the clock is less, and the stamp is less then.
func checkClockPromise(t *testing.T, nodes int, l []impl.Event) (first int, neither int) {
	t.Helper()
	c, okC := impl.ClocksOf(nodes, l)
	s, okS := impl.StampsOf(nodes, l)
	if !okC || !okS || len(c) != len(l) || len(s) != len(l) {
		t.Fatalf("%d, %v: %v %v %v %v", nodes, l, c, okC, s, okS)
	}
	for a := range l {
		for b := range l {
			came, ok := impl.CameFirst(nodes, l, a, b)
			less, okLess := impl.LessClock(c[a], c[b])
			if !ok || !okLess || came != less || came && s[a] >= s[b] || came && a >= b {
				t.Fatalf("%d, %v: %d for %d: %v %v, %v %v, stamps %d %d", nodes, l, a, b, came, ok, less, okLess, s[a], s[b])
			}
			back, _ := impl.CameFirst(nodes, l, b, a)
			switch {
			case came:
				first++
			case !back && a != b:
				neither++
			}
		}
	}
	return first, neither
}

// checkCutPromise asks that what CutOf tells is a cut, and that two cuts joined are one.
func checkCutPromise(t *testing.T, nodes int, l []impl.Event, some [][]int) {
	t.Helper()
	for k := range l {
		u, ok := impl.CutOf(nodes, l, k)
		if is, okIs := impl.IsCut(nodes, l, u); !is || !ok || !okIs {
			t.Fatalf("CutOf(%d, %v, %d): %v %v, a cut: %v %v", nodes, l, k, u, ok, is, okIs)
		}
		some = append(some, u)
	}
	for _, x := range some {
		for _, y := range some {
			j, ok := impl.JoinCuts(x, y)
			if is, okIs := impl.IsCut(nodes, l, j); !is || !ok || !okIs {
				t.Fatalf("%d, %v: %v and %v joined: %v %v, a cut: %v %v", nodes, l, x, y, j, ok, is, okIs)
			}
		}
	}
}

// allUpto are all numbers of events of each node that there can be.
func allUpto(nodes int, l []impl.Event) [][]int {
	has := make([]int, nodes)
	for _, e := range l {
		has[e.Node]++
	}
	out := [][]int{nil}
	for _, many := range has {
		var next [][]int
		for _, u := range out {
			for n := range many + 1 {
				next = append(next, append(slices.Clone(u), n))
			}
		}
		out = next
	}
	return out
}

func TestClocksHaveTheirLimits(t *testing.T) {
	if impl.MaxEvents != 40 || impl.MaxNodes != 5 {
		t.Error(impl.MaxEvents, impl.MaxNodes)
	}
}

func TestGoodEventsTellsAsSaid(t *testing.T) {
	for _, x := range goodEventLists() {
		if !impl.GoodEvents(x.nodes, x.l) || !plainGoodEvents(x.nodes, x.l) {
			t.Errorf("refused: %d %v", x.nodes, x.l)
		}
	}
	for _, x := range badEventLists() {
		if impl.GoodEvents(x.nodes, x.l) || plainGoodEvents(x.nodes, x.l) {
			t.Errorf("taken: %d %v", x.nodes, x.l)
		}
	}
}

func TestThereAreOneToFiveNodes(t *testing.T) {
	for _, nodes := range manyNumbers() {
		want := nodes >= 1 && nodes <= 5
		for _, l := range [][]impl.Event{nil, {}, alone(0, 1), alone(0, 40)} {
			if impl.GoodEvents(nodes, l) != want {
				t.Errorf("%d nodes, %v", nodes, l)
			}
			if c, ok := impl.ClocksOf(nodes, l); ok != want || ok && len(c) != len(l) || !ok && len(c) != 0 {
				t.Errorf("%d nodes, %v: %v %v", nodes, l, c, ok)
			}
		}
		for node := -2; node < 8; node++ {
			if impl.GoodEvents(nodes, alone(node, 1)) != (want && node >= 0 && node < nodes) {
				t.Errorf("node %d of %d", node, nodes)
			}
			if impl.GoodEvents(nodes, append(alone(0, 1), alone(node, 2)...)) != (want && node >= 0 && node < nodes) {
				t.Errorf("node %d of %d behind another one", node, nodes)
			}
		}
	}
}

func TestThereAreAtMostFortyEvents(t *testing.T) {
	for many := range 90 {
		for _, x := range []nodesAndEvents{{1, alone(0, many)}, {5, alone(4, many)}, {5, inTurns(5, many)}, {2, inTurns(2, many)}} {
			if impl.GoodEvents(x.nodes, x.l) != (many <= 40) {
				t.Error(many, "events")
			}
			if s, ok := impl.StampsOf(x.nodes, x.l); ok != (many <= 40) || ok && len(s) != many || !ok && len(s) != 0 {
				t.Error(many, "events:", s, ok)
			}
		}
	}
}

// Each From that an event may have, at each place: it is of an earlier event of another node, or -1.
func TestEventsHearOfEarlierOnesOfOtherNodes(t *testing.T) {
	for nodes := 1; nodes <= 3; nodes++ {
		for at := range 40 {
			for from := -4; from <= 44; from++ {
				for _, pattern := range [][]int{{0}, {0, 1}, {0, 1, 2}, {1, 0, 0}} {
					var l []impl.Event
					for i := range 40 {
						l = append(l, impl.Event{Node: pattern[i%len(pattern)] % nodes, From: -1})
					}
					l[at].From = from
					want := from == -1 || from >= 0 && from < at && l[from].Node != l[at].Node
					if impl.GoodEvents(nodes, l) != want || plainGoodEvents(nodes, l) != want {
						t.Fatalf("event %d of node %d hears of %d", at, l[at].Node, from)
					}
				}
			}
		}
	}
}

// Any one thing of good events is changed: they are good still just if the plain walk says so.
func TestGoodEventsTellsWhatIsChanged(t *testing.T) {
	r := rand.New(rand.NewSource(112))
	good, bad := 0, 0
	for range 20000 {
		nodes := 1 + r.Intn(5)
		l := anyEvents(r, nodes, 1+r.Intn(40), 6)
		at := r.Intn(len(l))
		switch r.Intn(5) {
		case 0:
			l[at].Node = r.Intn(8) - 1
		case 1:
			l[at].From = at - r.Intn(6)
		case 2:
			l[at].From = []int{-2, -1, 0, 1, 39, 40, math.MinInt, math.MaxInt}[r.Intn(8)]
		case 3:
			nodes += r.Intn(5) - 2
		case 4:
			l = append(l, slices.Repeat(alone(0, 1), r.Intn(3))...)
		}
		is := impl.GoodEvents(nodes, l)
		if is != plainGoodEvents(nodes, l) {
			t.Fatalf("%d, %v: %v", nodes, l, is)
		}
		if is {
			good++
		} else {
			bad++
			refuseEvents(t, nodes, l)
		}
	}
	if good < 3000 || bad < 3000 {
		t.Error("too few of one kind:", good, bad)
	}
}

func TestClocksOfTellsAsSaid(t *testing.T) {
	for _, c := range []struct {
		nodes int
		l     string
		want  [][]int
	}{
		{1, "", nil}, {5, "", nil}, {1, "0", [][]int{{1}}}, {1, "0 0 0", [][]int{{1}, {2}, {3}}}, {2, "1", [][]int{{0, 1}}}, {5, "4", [][]int{{0, 0, 0, 0, 1}}},
		{2, "0 1<0 0", [][]int{{1, 0}, {1, 1}, {2, 0}}},
		// A node that has no event, ahead of others, between them and behind.
		{3, "1 2<0", [][]int{{0, 1, 0}, {0, 1, 1}}}, {3, "0 2<0 0<1", [][]int{{1, 0, 0}, {1, 0, 1}, {2, 0, 1}}}, {4, "0 1 1<0", [][]int{{1, 0, 0, 0}, {0, 1, 0, 0}, {1, 2, 0, 0}}},
		// Several hear of one, and one hears of what is long past.
		{3, "0 1<0 2<0 0", [][]int{{1, 0, 0}, {1, 1, 0}, {1, 0, 1}, {2, 0, 0}}}, {2, "0 0 0 1<2 1<0 1<1", [][]int{{1, 0}, {2, 0}, {3, 0}, {3, 1}, {3, 2}, {3, 3}}},
		// By way of several nodes, and back.
		{3, "0 1<0 2<1 0<2", [][]int{{1, 0, 0}, {1, 1, 0}, {1, 1, 1}, {2, 1, 1}}}, {5, "0 1<0 2<1 3<2 4<3", [][]int{{1, 0, 0, 0, 0}, {1, 1, 0, 0, 0}, {1, 1, 1, 0, 0}, {1, 1, 1, 1, 0}, {1, 1, 1, 1, 1}}},
		// Each hears of the other's first event, and neither of the second one.
		{2, "0 1 0<1 1<0", [][]int{{1, 0}, {0, 1}, {2, 1}, {1, 2}}}, {2, "0 0 1 1 1<0 0<4", [][]int{{1, 0}, {2, 0}, {0, 1}, {0, 2}, {1, 3}, {3, 3}}},
	} {
		l := events(c.l)
		if got, ok := impl.ClocksOf(c.nodes, l); !slices.EqualFunc(got, c.want, slices.Equal[[]int]) || !ok {
			t.Errorf("%d, %s: %v %v", c.nodes, c.l, got, ok)
		}
		for k, want := range c.want {
			if u, ok := impl.CutOf(c.nodes, l, k); !slices.Equal(u, want) || !ok {
				t.Errorf("%d, %s, %d: %v %v", c.nodes, c.l, k, u, ok)
			}
		}
		checkEvents(t, c.nodes, l)
	}
	c, ok := impl.ClocksOf(1, alone(0, 40))
	if len(c) != 40 || !ok || !slices.Equal(c[39], []int{40}) {
		t.Error(c, ok)
	}
	c, ok = impl.ClocksOf(5, inTurns(5, 40))
	if len(c) != 40 || !ok || !slices.Equal(c[39], []int{8, 8, 8, 8, 8}) || !slices.Equal(c[37], []int{8, 8, 8, 7, 7}) {
		t.Error(c, ok)
	}
}

func TestCameFirstTellsAsSaid(t *testing.T) {
	for _, c := range []struct {
		nodes int
		l     string
		a, b  int
		want  bool
	}{
		// An event does not come first for itself.
		{1, "0", 0, 0, false}, {2, "0 1<0", 1, 1, false}, {2, "0 1<0 0<1", 2, 2, false},
		// Two of one node, in both orders.
		{1, "0 0", 0, 1, true}, {1, "0 0", 1, 0, false}, {1, "0 0 0 0", 0, 3, true}, {1, "0 0 0 0", 3, 0, false}, {2, "0 1 0", 0, 2, true}, {2, "0 1 0", 2, 0, false},
		// What it heard of, and what that one did not.
		{2, "0 1<0", 0, 1, true}, {2, "0 1<0", 1, 0, false}, {2, "0 0 1<0", 0, 2, true}, {2, "0 0 1<0", 1, 2, false}, {2, "0 0 1<1", 0, 2, true}, {2, "0 0 1<1", 1, 2, true}, {2, "1 0<0 1", 1, 2, false}, {2, "1 0<0 1", 0, 1, true},
		// By way of several nodes.
		{3, "0 1<0 2<1", 0, 2, true}, {3, "0 1<0 2<1", 2, 0, false}, {5, "0 1<0 2<1 3<2 4<3", 0, 4, true}, {3, "0 1<0 1 1 2<3 2 0<5", 0, 5, true}, {3, "0 1<0 1 1 2<3 2 0<5", 1, 6, true}, {3, "0 1<0 1 1 2<1 2", 2, 5, false}, {4, "0 1<0 2 3<2 2<1 3<4", 0, 5, true}, {4, "0 1<0 2 3<2 2<1 3<4", 0, 3, false}, {4, "0 1<0 2 3<2 2<1 3<4", 3, 4, false},
		// Neither.
		{2, "0 1", 0, 1, false}, {2, "0 1", 1, 0, false}, {3, "0 1<0 2<0", 1, 2, false}, {3, "0 1<0 2<0", 2, 1, false}, {2, "0 1 0<1 1<0", 2, 3, false}, {2, "0 1 0<1 1<0", 3, 2, false}, {2, "0 1 0<1 1<0", 0, 1, false}, {2, "0 1 0<1 1<0", 1, 2, true},
	} {
		l := events(c.l)
		if f, ok := impl.CameFirst(c.nodes, l, c.a, c.b); f != c.want || !ok {
			t.Errorf("%d, %s, %d, %d: %v %v", c.nodes, c.l, c.a, c.b, f, ok)
		}
		checkEvents(t, c.nodes, l)
	}
}

// An event's number is in 0..the last one, on both sides, in each function that takes one.
func TestEventsAreAskedForByTheirNumbers(t *testing.T) {
	for _, x := range []nodesAndEvents{{1, nil}, {1, events("0")}, {2, events("0 1<0 0")}, {5, inTurns(5, 39)}, {5, inTurns(5, 40)}} {
		is := func(k int) bool { return among(k, 0, len(x.l)-1) }
		for _, k := range manyNumbers() {
			u, ok := impl.CutOf(x.nodes, x.l, k)
			if ok != is(k) || !ok && len(u) != 0 || ok && len(u) != x.nodes {
				t.Errorf("CutOf(%d, %v, %d): %v %v", x.nodes, x.l, k, u, ok)
			}
			for _, j := range manyNumbers() {
				f, ok := impl.CameFirst(x.nodes, x.l, k, j)
				if ok != (is(k) && is(j)) || !ok && f {
					t.Errorf("CameFirst(%d, %v, %d, %d): %v %v", x.nodes, x.l, k, j, f, ok)
				}
			}
		}
	}
}

func TestStampsOfTellsAsSaid(t *testing.T) {
	for _, c := range []struct {
		nodes int
		l     string
		want  []int
	}{
		{1, "", nil}, {1, "0", []int{1}}, {1, "0 0 0", []int{1, 2, 3}}, {2, "0 1", []int{1, 1}}, {2, "0 1<0", []int{1, 2}}, {2, "0 1<0 0", []int{1, 2, 2}},
		// The greater one is that of the event ahead at its node.
		{2, "0 0 0 1 0<3", []int{1, 2, 3, 1, 4}}, {2, "1 0 0 0<0", []int{1, 1, 2, 3}}, {2, "0 1 1 1<0 1", []int{1, 1, 2, 3, 4}},
		// The greater one is that of which it hears.
		{2, "0 0 0 1<2", []int{1, 2, 3, 4}}, {2, "0 0 0 1 1<2", []int{1, 2, 3, 1, 4}}, {2, "0 0 0 1 1<2 1", []int{1, 2, 3, 1, 4, 5}}, {3, "0 1<0 2<1 0<2", []int{1, 2, 3, 4}},
		// Both are as great.
		{2, "0 1 0<1", []int{1, 1, 2}}, {2, "0 0 1 1 1<1", []int{1, 2, 1, 2, 3}},
		// The latest event has not always the greatest stamp.
		{3, "0 0 0 1<0 2", []int{1, 2, 3, 2, 1}},
	} {
		if s, ok := impl.StampsOf(c.nodes, events(c.l)); !slices.Equal(s, c.want) || !ok {
			t.Errorf("%d, %s: %v %v", c.nodes, c.l, s, ok)
		}
		checkEvents(t, c.nodes, events(c.l))
	}
	for _, x := range []nodesAndEvents{{1, alone(0, 40)}, {5, alone(3, 40)}, {2, inTurns(2, 40)}, {5, inTurns(5, 40)}} {
		if s, ok := impl.StampsOf(x.nodes, x.l); !slices.Equal(s, rising(1, 1, 40)) || !ok {
			t.Errorf("%d, %v: %v %v", x.nodes, x.l, s, ok)
		}
	}
}

func TestLessClockTellsAsSaid(t *testing.T) {
	for _, c := range []struct {
		a, b []int
		less bool
		back bool
	}{
		{[]int{0}, []int{0}, false, false}, {[]int{40}, []int{40}, false, false}, {[]int{0}, []int{1}, true, false}, {[]int{39}, []int{40}, true, false}, {[]int{0}, []int{40}, true, false},
		{[]int{1, 0}, []int{1, 1}, true, false}, {[]int{0, 1}, []int{1, 1}, true, false}, {[]int{0, 0}, []int{1, 1}, true, false}, {[]int{1, 0}, []int{0, 1}, false, false}, {[]int{3, 3}, []int{3, 3}, false, false}, {[]int{0, 40}, []int{1, 39}, false, false},
		// Less in one place alone, at each of five, and greater in one more.
		{[]int{0, 2, 3, 4, 5}, []int{1, 2, 3, 4, 5}, true, false}, {[]int{1, 2, 2, 4, 5}, []int{1, 2, 3, 4, 5}, true, false}, {[]int{1, 2, 3, 4, 4}, []int{1, 2, 3, 4, 5}, true, false}, {[]int{0, 2, 3, 4, 6}, []int{1, 2, 3, 4, 5}, false, false}, {[]int{2, 2, 3, 4, 4}, []int{1, 2, 3, 4, 5}, false, false}, {[]int{0, 1, 4, 3, 4}, []int{1, 2, 3, 4, 5}, false, false},
		{repeated(0, 5), repeated(0, 5), false, false}, {repeated(0, 5), repeated(40, 5), true, false}, {repeated(40, 5), repeated(40, 5), false, false}, {repeated(39, 5), repeated(40, 5), true, false},
	} {
		if less, ok := impl.LessClock(c.a, c.b); less != c.less || !ok {
			t.Errorf("%v, %v: %v %v", c.a, c.b, less, ok)
		}
		if less, ok := impl.LessClock(c.b, c.a); less != c.back || !ok {
			t.Errorf("%v, %v: %v %v", c.b, c.a, less, ok)
		}
		checkPair(t, c.a, c.b)
		checkPair(t, c.b, c.a)
	}
}

func TestJoinCutsTellsAsSaid(t *testing.T) {
	for _, c := range [][3][]int{
		{{0}, {0}, {0}}, {{0}, {1}, {1}}, {{40}, {39}, {40}}, {{2, 0}, {1, 1}, {2, 1}}, {{1, 2, 3}, {3, 2, 1}, {3, 2, 3}}, {{1, 2, 3}, {1, 2, 3}, {1, 2, 3}}, {{0, 0, 0}, {1, 2, 3}, {1, 2, 3}},
		{{0, 40, 0, 40, 0}, {40, 0, 40, 0, 40}, {40, 40, 40, 40, 40}}, {{1, 2, 3, 4, 5}, {5, 4, 3, 2, 1}, {5, 4, 3, 4, 5}}, {repeated(40, 5), repeated(0, 5), repeated(40, 5)}, {{7, 0, 0, 0, 0}, {0, 0, 0, 0, 9}, {7, 0, 0, 0, 9}},
	} {
		for _, l := range [][2][]int{{c[0], c[1]}, {c[1], c[0]}} {
			if j, ok := impl.JoinCuts(l[0], l[1]); !slices.Equal(j, c[2]) || !ok {
				t.Errorf("%v, %v: %v %v", l[0], l[1], j, ok)
			}
			checkPair(t, l[0], l[1])
		}
	}
}

// Lists are as long, of one to five numbers, each in 0..40: whatever stands at whatever place.
func TestListsOfClocksAreInTheirLimits(t *testing.T) {
	for many := range 12 {
		for other := range 12 {
			for _, n := range []int{0, 3, 40} {
				checkPair(t, repeated(n, many), repeated(n, other))
				checkPair(t, repeated(n, many), repeated(40, other))
				checkPair(t, rising(0, 1, many), repeated(n, other))
			}
		}
	}
	for many := 1; many <= 6; many++ {
		for at := range many {
			for _, n := range manyNumbers() {
				l := rising(5, 3, many)
				l[at] = n
				checkPair(t, l, rising(5, 3, many))
				checkPair(t, rising(5, 3, many), l)
				checkPair(t, l, l)
			}
		}
	}
	checkPair(t, nil, nil)
	checkPair(t, []int{}, nil)
	checkPair(t, nil, []int{1})
	checkPair(t, repeated(1, 5000), repeated(2, 5000))
}

func TestListsOfClocksTellAsPlainOnes(t *testing.T) {
	small := [][]int{}
	for a := range 4 {
		for b := range 4 {
			for c := range 4 {
				small = append(small, []int{a, b, c})
			}
		}
	}
	for _, a := range small {
		for _, b := range small {
			checkPair(t, a, b)
		}
	}
	r := rand.New(rand.NewSource(113))
	for range 20000 {
		many := 1 + r.Intn(5)
		a, b := make([]int, many), make([]int, many)
		for k := range many {
			a[k] = r.Intn(41)
			b[k] = min(40, max(0, a[k]+r.Intn(4)-r.Intn(2)))
		}
		checkPair(t, a, b)
		checkPair(t, b, a)
	}
}

func TestIsCutTellsAsSaid(t *testing.T) {
	for _, c := range []struct {
		nodes int
		l     string
		upto  []int
		want  bool
	}{
		// None of them, and all.
		{1, "", []int{0}, true}, {5, "", repeated(0, 5), true}, {2, "0 1<0 0", []int{0, 0}, true}, {2, "0 1<0 0", []int{2, 1}, true}, {1, "0 0", []int{0}, true}, {1, "0 0", []int{1}, true}, {1, "0 0", []int{2}, true},
		// With and without what one of them heard of.
		{2, "0 1<0 0", []int{0, 1}, false}, {2, "0 1<0 0", []int{1, 1}, true}, {2, "0 1<0 0", []int{1, 0}, true}, {2, "0 1<0 0", []int{2, 0}, true},
		{2, "0 0 1 1<1", []int{0, 1}, true}, {2, "0 0 1 1<1", []int{0, 2}, false}, {2, "0 0 1 1<1", []int{1, 2}, false}, {2, "0 0 1 1<1", []int{2, 2}, true}, {2, "0 0 1 1<0", []int{1, 2}, true}, {2, "0 0 1 1<0", []int{0, 2}, false},
		// What it heard of is in, but what that one heard of is not.
		{3, "0 1<0 2<1", []int{0, 1, 1}, false}, {3, "0 1<0 2<1", []int{1, 0, 1}, false}, {3, "0 1<0 2<1", []int{1, 1, 1}, true}, {3, "0 1<0 2<1", []int{0, 0, 1}, false},
		// Only the first one of several lacks what it heard of.
		{2, "0 1<0 1 1", []int{0, 3}, false}, {2, "1 0<0 0 0", []int{3, 0}, false}, {2, "1 0<0 0 0", []int{3, 1}, true},
		// What is not in may lack what it likes.
		{2, "0 1 0 1<2", []int{1, 1}, true}, {2, "0 1 0 1<2", []int{0, 1}, true}, {2, "0 1 0 1<2", []int{1, 2}, false},
		// Nodes that have no event.
		{4, "0 2<0", []int{1, 0, 1, 0}, true}, {4, "0 2<0", []int{0, 0, 1, 0}, false},
	} {
		if is, ok := impl.IsCut(c.nodes, events(c.l), c.upto); is != c.want || !ok {
			t.Errorf("%d, %s, %v: %v %v", c.nodes, c.l, c.upto, is, ok)
		}
		checkCut(t, c.nodes, events(c.l), c.upto)
	}
	if is, ok := impl.IsCut(1, alone(0, 40), []int{40}); !is || !ok {
		t.Error("40 of 40 events:", is, ok)
	}
	if is, ok := impl.IsCut(5, inTurns(5, 40), repeated(8, 5)); !is || !ok {
		t.Error("8 events of each:", is, ok)
	}
}

// A list that is no number of each node's events is not as said: nothing is told of it.
func TestCutsHaveANumberForEachNode(t *testing.T) {
	for _, x := range []nodesAndEvents{{1, nil}, {3, nil}, {1, alone(0, 3)}, {3, events("0 1<0 0 1<2")}, {5, inTurns(5, 13)}, {5, inTurns(5, 40)}, {2, alone(1, 40)}} {
		for many := range 9 {
			for _, n := range []int{0, 1, 8} {
				checkCut(t, x.nodes, x.l, repeated(n, many))
			}
		}
		checkCut(t, x.nodes, x.l, nil)
		for k := range x.nodes {
			for _, n := range manyNumbers() {
				upto := repeated(0, x.nodes)
				upto[k] = n
				checkCut(t, x.nodes, x.l, upto)
				all := make([]int, x.nodes)
				for _, e := range x.l {
					all[e.Node]++
				}
				all[k] = n
				checkCut(t, x.nodes, x.l, all)
			}
		}
	}
	// One more than a node has, and as many as another one has.
	for _, upto := range [][]int{{3, 0}, {2, 2}, {0, 3}, {2, -1}, {-1, 1}, {1}, {2, 1, 0}, {1, 2}} {
		if is, ok := impl.IsCut(2, events("0 1<0 0"), upto); is || ok {
			t.Errorf("%v: %v %v", upto, is, ok)
		}
	}
}

// smallEvents are all good events of so many nodes, at most so many.
func smallEvents(nodes int, many int) [][]impl.Event {
	out := [][]impl.Event{nil}
	from := 0
	for range many {
		upto := len(out)
		for _, l := range out[from:upto] {
			for node := range nodes {
				for hears := -1; hears < len(l); hears++ {
					if hears < 0 || l[hears].Node != node {
						out = append(out, append(slices.Clone(l), impl.Event{Node: node, From: hears}))
					}
				}
			}
		}
		from = upto
	}
	return out
}

// Promise 11 over all small events, with all the cuts that they have.
func TestAllSmallEvents(t *testing.T) {
	is, isNot := 0, 0
	for _, pack := range []struct{ nodes, many int }{{1, 6}, {2, 6}, {3, 4}, {4, 4}} {
		for _, l := range smallEvents(pack.nodes, pack.many) {
			checkEvents(t, pack.nodes, l)
			checkClockPromise(t, pack.nodes, l)
			var cuts [][]int
			for _, upto := range allUpto(pack.nodes, l) {
				if checkCut(t, pack.nodes, l, upto) {
					cuts = append(cuts, upto)
					is++
				} else {
					isNot++
				}
			}
			if len(l) < 5 {
				checkCutPromise(t, pack.nodes, l, cuts)
			}
		}
	}
	if is < 10000 || isNot < 10000 {
		t.Error("too few of one kind:", is, isNot)
	}
}

// Promise 11 over events that are drawn, few and many, that hear often and hardly.
func TestEventsCameFirstJustIfTheirClockIsLess(t *testing.T) {
	r := rand.New(rand.NewSource(114))
	first, neither := 0, 0
	for i := range 160 {
		nodes := 1 + i%5
		l := anyEvents(r, nodes, []int{40, 3 + r.Intn(38), 40, 12}[i/5%4], []int{1, 4, 7, 10}[i/20%4])
		checkEvents(t, nodes, l)
		f, n := checkClockPromise(t, nodes, l)
		first, neither = first+f, neither+n
	}
	for _, x := range goodEventLists() {
		checkEvents(t, x.nodes, x.l)
		checkClockPromise(t, x.nodes, x.l)
	}
	if first < 20000 || neither < 20000 {
		t.Error("too few of one kind:", first, neither)
	}
}

// What CutOf tells is a cut, and two cuts joined are one; one event less or more may be none.
func TestCutsOfEventsAreCuts(t *testing.T) {
	r := rand.New(rand.NewSource(115))
	is, isNot := 0, 0
	for i := range 150 {
		nodes := 2 + i%4
		l := anyEvents(r, nodes, 10+r.Intn(31), []int{3, 6, 9}[i%3])
		checkCutPromise(t, nodes, l, [][]int{repeated(0, nodes)})
		for range 60 {
			u, _ := impl.CutOf(nodes, l, r.Intn(len(l)))
			v, _ := impl.CutOf(nodes, l, r.Intn(len(l)))
			j, _ := impl.JoinCuts(u, v)
			j[r.Intn(nodes)] += r.Intn(3) - 1
			if checkCut(t, nodes, l, j) {
				is++
			} else {
				isNot++
			}
		}
	}
	if is < 2000 || isNot < 2000 {
		t.Error("too few of one kind:", is, isNot)
	}
}

// refuseEvents asks for the zero answer of each function at events that are not good.
func refuseEvents(t *testing.T, nodes int, l []impl.Event) {
	t.Helper()
	if impl.GoodEvents(nodes, l) {
		t.Errorf("taken: %d, %v", nodes, l)
	}
	if c, ok := impl.ClocksOf(nodes, l); len(c) != 0 || ok {
		t.Errorf("ClocksOf(%d, %v): %v %v", nodes, l, c, ok)
	}
	if s, ok := impl.StampsOf(nodes, l); len(s) != 0 || ok {
		t.Errorf("StampsOf(%d, %v): %v %v", nodes, l, s, ok)
	}
	for _, k := range []int{-1, 0, 1, 5, len(l) - 1, len(l), 40} {
		if u, ok := impl.CutOf(nodes, l, k); len(u) != 0 || ok {
			t.Errorf("CutOf(%d, %v, %d): %v %v", nodes, l, k, u, ok)
		}
		for _, j := range []int{0, 1, len(l) - 1} {
			if f, ok := impl.CameFirst(nodes, l, j, k); f || ok {
				t.Errorf("CameFirst(%d, %v, %d, %d): %v %v", nodes, l, j, k, f, ok)
			}
		}
	}
	for _, upto := range [][]int{nil, {0}, {1}, {0, 0}, {1, 0, 0}, repeated(0, max(0, min(nodes, 9))), repeated(1, 5), repeated(0, 6)} {
		if is, ok := impl.IsCut(nodes, l, upto); is || ok {
			t.Errorf("IsCut(%d, %v, %v): %v %v", nodes, l, upto, is, ok)
		}
	}
}

func TestClocksRefuse(t *testing.T) {
	for _, x := range badEventLists() {
		refuseEvents(t, x.nodes, x.l)
	}
}

// Promise 19: whatever a function of this chapter is given, it answers, and all beside false is zero.
func TestClocksAnswerAtAnyArguments(t *testing.T) {
	ints := append(noNumbers(), -2, -1, 0, 1, 2, 3, 4, 5, 6, 39, 40, 41)
	for _, x := range ints {
		for _, y := range ints {
			for _, z := range ints {
				l := []impl.Event{{Node: 0, From: -1}, {Node: x, From: y}, {Node: y, From: z}}
				if impl.GoodEvents(z, l) != plainGoodEvents(z, l) {
					t.Fatalf("GoodEvents(%d, %v)", z, l)
				}
				if impl.GoodEvents(z, l) {
					checkEvents(t, z, l)
					checkCut(t, z, l, []int{x, y, z})
					checkCut(t, z, l, []int{x, y})
				} else {
					refuseEvents(t, z, l)
				}
				checkCut(t, 3, events("0 1<0 2<1"), []int{x, y, z})
				checkPair(t, []int{x, y}, []int{y, z})
				checkPair(t, []int{x, y, z}, []int{1, 2, 3})
				checkPair(t, []int{x}, []int{y, z})
			}
		}
	}
}

// roomyEvents have much behind them in their memory, which is no part of them, though it could be.
func roomyEvents() []impl.Event {
	return append(make([]impl.Event, 0, 12), events("0 1<0 0<1 2 2<1 0<4 1<5 1<9")...)[:5]
}

func roomyUpto(l ...int) []int {
	return append(append(make([]int, 0, 12), l...), 1, 0, 40, 41, -1)[:len(l)]
}

// askClocks calls all functions of the chapter, with good arguments and others.
func askClocks(l []impl.Event, a []int, b []int) {
	for _, x := range [][]impl.Event{l, l[:0], l[:1], l[1:], l[:cap(l)], l[:7], l[:8]} {
		for _, n := range append(manyNumbers(), 41) {
			impl.GoodEvents(n, x)
			impl.ClocksOf(n, x)
			impl.StampsOf(n, x)
			impl.IsCut(n, x, a)
			impl.IsCut(3, x, a[:max(0, min(n, cap(a)))])
			impl.CutOf(n, x, 0)
			impl.CutOf(3, x, n)
			impl.CameFirst(n, x, 0, 1)
			impl.CameFirst(3, x, n, 1)
			impl.CameFirst(3, x, 1, n)
		}
	}
	for _, p := range [][2][]int{{a, b}, {b, a}, {a, a}, {a[:cap(a)], b}, {a, b[:cap(b)]}, {a[:5], b[:5]}, {a[:6], b[:6]}, {a[:1], b[:1]}, {a[:0], b[:0]}, {a[1:], b[:2]}, {nil, b}, {a, nil}} {
		impl.LessClock(p[0], p[1])
		impl.JoinCuts(p[0], p[1])
	}
}

// Promise 19: nothing is written into an argument, nor into what lies behind it in its memory, nor is that read.
func TestClocksWriteIntoNoArgument(t *testing.T) {
	l, a, b := roomyEvents(), roomyUpto(1, 0, 1), roomyUpto(0, 2, 3)
	askClocks(l, a, b)
	checkEvents(t, 3, l)
	checkCut(t, 3, l, a)
	checkPair(t, a, b)
	checkPair(t, b, a)
	wasL, wasA, wasB := roomyEvents(), roomyUpto(1, 0, 1), roomyUpto(0, 2, 3)
	if !slices.Equal(l[:cap(l)], wasL[:cap(wasL)]) || !slices.Equal(a[:cap(a)], wasA[:cap(wasA)]) || !slices.Equal(b[:cap(b)], wasB[:cap(wasB)]) {
		t.Error("written into:", l[:cap(l)], a[:cap(a)], b[:cap(b)])
	}
}

// hasBehind tells whether something lies behind a list's length in its memory.
func hasBehind(l []int) bool {
	return slices.ContainsFunc(l[len(l):cap(l)], func(n int) bool { return n != 0 })
}

func TestClocksAnswerWithNewMemory(t *testing.T) {
	l := roomyEvents()
	want := plainClocks(3, l)
	// The second round sees whether the first one, written over, left a trace.
	for range 2 {
		c, _ := impl.ClocksOf(3, l)
		if len(c) != 5 || slices.ContainsFunc(c[len(c):cap(c)], func(x []int) bool { return x != nil }) {
			t.Fatal(c[:cap(c)])
		}
		for k := range c {
			if !slices.Equal(c[k], want[k]) || hasBehind(c[k]) {
				t.Errorf("clock %d: %v, not %v", k, c[k][:cap(c[k])], want[k])
			}
			// No two clocks share memory: what is written over one is not in those behind.
			spoil(c[k], 77)
		}
		spoil(c, []int{77})
		s, _ := impl.StampsOf(3, l)
		if !slices.Equal(s, plainStamps(l)) || hasBehind(s) {
			t.Error(s[:cap(s)])
		}
		spoil(s, 77)
		for k := range l {
			u, _ := impl.CutOf(3, l, k)
			if !slices.Equal(u, want[k]) || hasBehind(u) {
				t.Errorf("cut %d: %v", k, u[:cap(u)])
			}
			spoil(u, 77)
		}
		for many := 1; many <= 5; many++ {
			a, b := roomyUpto(rising(1, 2, many)...), roomyUpto(rising(9, -2, many)...)
			j, _ := impl.JoinCuts(a, b)
			same, _ := impl.JoinCuts(a, a)
			if !slices.Equal(j, plainJoin(a, b)) || !slices.Equal(same, a) || hasBehind(j) || hasBehind(same) {
				t.Error(j[:cap(j)], same[:cap(same)])
			}
			spoil(j, 77)
			spoil(same, 77)
			if !slices.Equal(a, rising(1, 2, many)) || !slices.Equal(b, rising(9, -2, many)) {
				t.Error("shared:", a, b)
			}
		}
	}
	if was := roomyEvents(); !slices.Equal(l[:cap(l)], was[:cap(was)]) {
		t.Error("shared:", l[:cap(l)])
	}
}
