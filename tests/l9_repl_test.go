package tests

import (
	"fmt"
	"math/rand"
	"slices"
	"strings"
	"testing"

	"loop.example/g00522/impl"
)

// replOf is a world in which nobody is Down; what is certain and the logs are told by words, as entries reads them.
func replOf(leader int, epoch int, inSync []int, certain string, logs ...string) impl.Repl {
	r := impl.Repl{Leader: leader, Epoch: epoch, InSync: inSync, Certain: entries(certain), Down: make([]bool, len(logs))}
	for _, words := range logs {
		r.Logs = append(r.Logs, entries(words))
	}
	return r
}

// downed is a world in which so many more are Down.
func downed(r impl.Repl, nodes ...int) impl.Repl {
	out := cloneRepl(r)
	for _, k := range nodes {
		out.Down[k] = true
	}
	return out
}

func cloneRepl(r impl.Repl) impl.Repl {
	out := impl.Repl{Logs: slices.Clone(r.Logs), Down: slices.Clone(r.Down), Leader: r.Leader, Epoch: r.Epoch, InSync: slices.Clone(r.InSync), Certain: slices.Clone(r.Certain)}
	for i, log := range out.Logs {
		out.Logs[i] = slices.Clone(log)
	}
	return out
}

func alteredRepl(r impl.Repl, change func(*impl.Repl)) impl.Repl {
	out := cloneRepl(r)
	change(&out)
	return out
}

func sameRepl(a impl.Repl, b impl.Repl) bool {
	return slices.EqualFunc(a.Logs, b.Logs, slices.Equal[[]impl.Entry]) && slices.Equal(a.Down, b.Down) && a.Leader == b.Leader && a.Epoch == b.Epoch && slices.Equal(a.InSync, b.InSync) && slices.Equal(a.Certain, b.Certain)
}

func isZeroRepl(r impl.Repl) bool {
	return sameRepl(r, impl.Repl{})
}

func write(text string) impl.ReplStep { return impl.ReplStep{Kind: impl.RpWrite, Text: text} }

func of(kind int, node int) impl.ReplStep { return impl.ReplStep{Kind: kind, Node: node} }

func hasFront(l []impl.Entry, front []impl.Entry) bool {
	return len(l) >= len(front) && slices.Equal(l[:len(front)], front)
}

func plainGoodRepl(r impl.Repl) bool {
	nodes := len(r.Logs)
	if !among(nodes, 1, 5) || nodes != len(r.Down) || !among(r.Leader, 0, nodes-1) || !among(r.Epoch, 1, 1000) {
		return false
	}
	if slices.ContainsFunc(r.Logs, func(l []impl.Entry) bool { return !plainGoodEntries(l) }) || !slices.Contains(r.InSync, r.Leader) {
		return false
	}
	// Nodes that rise are those of all that are among them, in order.
	var rise []int
	for k := range nodes {
		if slices.Contains(r.InSync, k) {
			rise = append(rise, k)
		}
	}
	if !slices.Equal(rise, r.InSync) {
		return false
	}
	return !slices.ContainsFunc(rise, func(k int) bool { return !hasFront(r.Logs[k], r.Certain) })
}

// plainCertain asks, of ever longer fronts of the Leader's log, whether all of InSync have them.
func plainCertain(r impl.Repl) int {
	lead, most := r.Logs[r.Leader], 0
	for long := range len(lead) + 1 {
		if !slices.ContainsFunc(r.InSync, func(k int) bool { return !hasFront(r.Logs[k], lead[:long]) }) {
			most = long
		}
	}
	return most
}

// plainReplStep goes by the chapter's words, one behind the other, on a copy.
func plainReplStep(r impl.Repl, s impl.ReplStep) (impl.Repl, bool) {
	q := cloneRepl(r)
	if !plainReplDoes(&q, s) {
		return impl.Repl{}, false
	}
	if plainGoodRepl(q) && plainCertain(q) > len(q.Certain) {
		q.Certain = slices.Clone(q.Logs[q.Leader][:plainCertain(q)])
	}
	return q, true
}

func plainReplDoes(q *impl.Repl, s impl.ReplStep) bool {
	leaderUp := !q.Down[q.Leader]
	if s.Kind == 1 {
		next := append(q.Logs[q.Leader], impl.Entry{Epoch: q.Epoch, Text: s.Text})
		if s.Node != 0 || !leaderUp || !plainGoodEntries(next) {
			return false
		}
		q.Logs[q.Leader] = next
		return true
	}
	if s.Text != "" || s.Node < 0 || s.Node > len(q.Logs)-1 {
		return false
	}
	isLeader, up, in := s.Node == q.Leader, !q.Down[s.Node], slices.Contains(q.InSync, s.Node)
	own, lead := q.Logs[s.Node], q.Logs[q.Leader]
	switch s.Kind {
	case 2:
		if isLeader || !up || !leaderUp {
			return false
		}
		place, _ := plainFind(own, fewStarts(lead), len(lead))
		q.Logs[s.Node] = append(slices.Clone(own[:place]), lead[place:min(place+1, len(lead))]...)
	case 3:
		q.InSync = slices.DeleteFunc(q.InSync, func(k int) bool { return k == s.Node })
		return in && !isLeader && leaderUp
	case 4:
		q.InSync = append(q.InSync, s.Node)
		slices.Sort(q.InSync)
		return !in && slices.Equal(own, lead) && leaderUp
	case 5:
		q.Down[s.Node] = true
		return up
	case 6:
		q.Down[s.Node] = false
		return !up
	case 7:
		q.Leader, q.Epoch = s.Node, q.Epoch+1
		return in && up && q.Epoch <= 1000
	default:
		return false
	}
	return true
}

// checkReplStep holds a step of a good world against the plain one.
func checkReplStep(t *testing.T, r impl.Repl, s impl.ReplStep) (impl.Repl, bool) {
	t.Helper()
	want, is := plainReplStep(r, s)
	got, ok := impl.StepRepl(r, s)
	if ok != is || !sameRepl(got, want) {
		t.Fatalf("%v of %v: %v %v, not %v %v", s, r, got, ok, want, is)
	}
	return got, ok
}

// mustStep is for a step that can be done.
func mustStep(t *testing.T, r impl.Repl, s impl.ReplStep) impl.Repl {
	t.Helper()
	q, ok := checkReplStep(t, r, s)
	if !ok {
		t.Fatalf("%v of %v can't be done", s, r)
	}
	return q
}

// mustRefuse is for a step of a good world that can't be done: the zero answer, and false.
func mustRefuse(t *testing.T, r impl.Repl, s impl.ReplStep) {
	t.Helper()
	if !impl.GoodRepl(r) {
		t.Fatalf("not good: %v", r)
	}
	if q, ok := checkReplStep(t, r, s); !isZeroRepl(q) || ok {
		t.Fatalf("%v of %v: %v %v", s, r, q, ok)
	}
}

// checkDid is for which steps of a play are done, told by y and n.
func checkDid(t *testing.T, nodes int, l []impl.ReplStep, want string) {
	t.Helper()
	checkReplPlay(t, nodes, l)
	_, did, _ := impl.PlayRepl(nodes, l)
	got := ""
	for _, is := range did {
		got += map[bool]string{true: "y", false: "n"}[is]
	}
	if got != want {
		t.Errorf("%d %v: %s, not %s", nodes, l, got, want)
	}
}

// checkWorld asks a good world all there is to ask of it.
func checkWorld(t *testing.T, r impl.Repl) {
	t.Helper()
	if !impl.GoodRepl(r) {
		t.Fatalf("not good: %v", r)
	}
	if n, ok := impl.CertainLength(r); n != plainCertain(r) || !ok {
		t.Fatalf("%v: %d %v, not %d", r, n, ok, plainCertain(r))
	}
	for k, log := range r.Logs {
		if is, ok := impl.InStep(r, k); is != slices.Equal(log, r.Logs[r.Leader]) || !ok {
			t.Fatalf("%v: %d: %v %v", r, k, is, ok)
		}
	}
	// The leader is always in step.
	if is, ok := impl.InStep(r, r.Leader); !is || !ok {
		t.Fatalf("%v: %v %v", r, is, ok)
	}
}

func refuseRepl(t *testing.T, r impl.Repl) {
	t.Helper()
	if impl.GoodRepl(r) {
		t.Fatalf("taken: %v", r)
	}
	if n, ok := impl.CertainLength(r); n != 0 || ok {
		t.Fatalf("%v: %d %v", r, n, ok)
	}
	for k := -1; k <= 6; k++ {
		if is, ok := impl.InStep(r, k); is || ok {
			t.Fatalf("%v: %d: %v %v", r, k, is, ok)
		}
		for kind := 0; kind <= 8; kind++ {
			if q, ok := impl.StepRepl(r, of(kind, k)); !isZeroRepl(q) || ok {
				t.Fatalf("%d of %d of %v: %v %v", kind, k, r, q, ok)
			}
		}
	}
	if q, ok := impl.StepRepl(r, write("a")); !isZeroRepl(q) || ok {
		t.Fatalf("%v: %v %v", r, q, ok)
	}
}

// anyRepl is good, but seldom one that steps would come to: what is certain may be too little, and logs may have no one history.
func anyRepl(r *rand.Rand) impl.Repl {
	nodes := 1 + r.Intn(5)
	var w impl.Repl
	if r.Intn(3) > 0 {
		w.Logs = world(r, nodes, 1+r.Intn(12))
	} else {
		front := anyEntries(r, []int{4, 36, 40}[r.Intn(3)], 1, "ab")
		for range nodes {
			log := append(slices.Clone(front), anyEntries(r, 4, 2, "ab")...)
			for i := len(front); i < len(log) && len(front) > 0; i++ {
				log[i].Epoch += front[len(front)-1].Epoch - 1
			}
			w.Logs = append(w.Logs, log[:min(len(log), 40)])
		}
	}
	w.Leader = r.Intn(nodes)
	for k := range nodes {
		// Few would be in step by chance.
		if r.Intn(3) == 0 {
			w.Logs[k] = slices.Clone(w.Logs[w.Leader])
		}
		w.Down = append(w.Down, r.Intn(4) == 0)
		if k == w.Leader || r.Intn(2) == 0 {
			w.InSync = append(w.InSync, k)
		}
	}
	w.Epoch = []int{1 + r.Intn(4), 5 + r.Intn(40), 998 + r.Intn(3)}[r.Intn(3)]
	long := plainCertain(w)
	if r.Intn(2) == 0 {
		long = r.Intn(long + 1)
	}
	w.Certain = slices.Clone(w.Logs[w.Leader][:long])
	return w
}

func fullLog(many int) string {
	return strings.Repeat("1x ", many)
}

// goodWorlds are those at the chapter's edges, and any.
func goodWorlds() []impl.Repl {
	all, three := []int{0, 1, 2, 3, 4}, replOf(1, 3, []int{0, 1}, "1a", "1a 1b", "1a 2c", "1d")
	out := []impl.Repl{
		replOf(0, 1, []int{0}, "", ""), replOf(0, 1000, []int{0}, "1a", "1a"), replOf(4, 1, all, "", "", "", "", "", ""), replOf(0, 2, all, "1a", "1a", "1a", "1a", "1a", "1a"), three, downed(three, 0, 1, 2), downed(three, 1),
		// What is outside InSync may lack what is certain, and have anything.
		replOf(2, 1, []int{2}, "1a 1b", "", "1b", "1a 1b"), replOf(0, 5, []int{0, 2}, "1a 2b", "1a 2b 5c", "7x 9y", "1a 2b"),
		// An Epoch may be behind the Leader's last one.
		replOf(0, 1, []int{0}, "", "9a"), replOf(1, 7, []int{0, 1}, "", "", "8a 9b"),
		replOf(0, 1, []int{0, 1}, fullLog(40), fullLog(40), fullLog(40)), replOf(1, 1, []int{0, 1}, "", fullLog(40), fullLog(39)),
		{Logs: [][]impl.Entry{{}}, Down: []bool{true}, Epoch: 1, InSync: []int{0}, Certain: []impl.Entry{}}, {Logs: make([][]impl.Entry, 5), Down: make([]bool, 5), Leader: 3, Epoch: 1, InSync: []int{3}},
	}
	for _, l := range goodEntryLists() {
		out = append(out, impl.Repl{Logs: [][]impl.Entry{l}, Down: []bool{false}, Epoch: 1, InSync: []int{0}, Certain: l}, impl.Repl{Logs: [][]impl.Entry{l, nil}, Down: []bool{true, false}, Leader: 1, Epoch: 1000, InSync: []int{1}})
	}
	r := rand.New(rand.NewSource(91))
	for range 400 {
		out = append(out, anyRepl(r))
	}
	return out
}

func badWorlds() []impl.Repl {
	three := replOf(1, 3, []int{0, 1}, "1a 1b", "1a 1b", "1a 1b 3c", "1d")
	out := []impl.Repl{{}, {Logs: [][]impl.Entry{}, Down: []bool{}, Epoch: 1}, {Epoch: 1, InSync: []int{0}}, {Down: []bool{false}, Epoch: 1, InSync: []int{0}}, {Leader: -1, Epoch: 1}}
	for _, many := range []int{6, 7, 5000} {
		out = append(out, impl.Repl{Logs: make([][]impl.Entry, many), Down: make([]bool, many), Epoch: 1, InSync: []int{0}}, impl.Repl{Logs: make([][]impl.Entry, many), Down: make([]bool, many), Epoch: 1, InSync: rising(0, 1, many)})
	}
	for _, down := range [][]bool{nil, {}, {false}, {false, true}, {false, false, false, false}, {true, true, true, true, true}, make([]bool, 5000)} {
		out = append(out, alteredRepl(three, func(r *impl.Repl) { r.Down = down }))
	}
	for _, n := range append(noNumbers(), -2, -1, 2, 3, 4, 5) {
		out = append(out, alteredRepl(three, func(r *impl.Repl) { r.Leader = n }), alteredRepl(three, func(r *impl.Repl) { r.Leader, r.InSync = n, []int{0, n} }))
	}
	for _, n := range append(noNumbers(), -1, 0, 1001, 1002) {
		out = append(out, alteredRepl(three, func(r *impl.Repl) { r.Epoch = n }))
	}
	for _, l := range [][]int{nil, {}, {0}, {2}, {0, 2}, {1, 0}, {1, 1}, {0, 0, 1}, {0, 1, 1}, {-1, 0, 1}, {-1, 1}, {0, 1, 3}, {1, 3}, {1, 0, 2}, {0, 2, 1}, {1, 2, 3, 4, 5}, rising(0, 1, 5000), repeated(1, 5000)} {
		out = append(out, alteredRepl(three, func(r *impl.Repl) { r.InSync, r.Certain = l, nil }), alteredRepl(three, func(r *impl.Repl) { r.InSync = l }))
	}
	for _, n := range noNumbers() {
		out = append(out, alteredRepl(three, func(r *impl.Repl) { r.InSync = []int{1, n} }), alteredRepl(three, func(r *impl.Repl) { r.InSync = []int{n, 1} }))
	}
	for _, l := range badEntryLists() {
		for k := range 3 {
			out = append(out, alteredRepl(three, func(r *impl.Repl) { r.Logs[k], r.Certain = l, nil }))
		}
		out = append(out, alteredRepl(three, func(r *impl.Repl) { r.Certain = l }), alteredRepl(three, func(r *impl.Repl) { r.Logs[1], r.InSync, r.Certain = l, []int{1}, l }))
	}
	// A log of InSync does not begin with what is certain: it is too short, or another one.
	for _, words := range []string{"1a 1b 3c", "1a 1c", "1a 2b", "1b", "2a", "1a 1a", "1d", "1a 1b 1b", fullLog(40), fullLog(41)} {
		out = append(out, alteredRepl(three, func(r *impl.Repl) { r.Certain = entries(words) }))
	}
	for _, words := range []string{"", "1a", "1b", "1a 1c", "1a 2b", "1a 1bb", "2a 2b", "1b 1b"} {
		out = append(out, alteredRepl(three, func(r *impl.Repl) { r.Logs[0] = entries(words) }), alteredRepl(three, func(r *impl.Repl) { r.Logs[1] = entries(words) }))
	}
	return append(out, alteredRepl(three, func(r *impl.Repl) { r.InSync = []int{0, 1, 2} }), alteredRepl(three, func(r *impl.Repl) { r.InSync = []int{1, 2} }), alteredRepl(three, func(r *impl.Repl) { r.Leader, r.InSync = 2, []int{2} }))
}

func TestFollowersHaveTheirLimits(t *testing.T) {
	if impl.MaxReplSteps != 120 {
		t.Error(impl.MaxReplSteps)
	}
	if impl.RpWrite != 1 || impl.RpFetch != 2 || impl.RpOut != 3 || impl.RpIn != 4 || impl.RpFail != 5 || impl.RpBack != 6 || impl.RpElect != 7 {
		t.Error(impl.RpWrite, impl.RpFetch, impl.RpOut, impl.RpIn, impl.RpFail, impl.RpBack, impl.RpElect)
	}
}

func TestNewReplTellsAsSaid(t *testing.T) {
	for nodes := -3; nodes <= 9; nodes++ {
		r, ok := impl.NewRepl(nodes)
		if !among(nodes, 1, 5) {
			if !isZeroRepl(r) || ok {
				t.Errorf("%d: %v %v", nodes, r, ok)
			}
			continue
		}
		want := replOf(0, 1, rising(0, 1, nodes), "", repeatedText("", nodes)...)
		if !sameRepl(r, want) || !ok {
			t.Errorf("%d: %v %v", nodes, r, ok)
		}
		checkWorld(t, r)
		for k := range nodes {
			if is, ok := impl.InStep(r, k); !is || !ok {
				t.Errorf("%d of %d: %v %v", k, nodes, is, ok)
			}
		}
	}
	for _, nodes := range noNumbers() {
		if r, ok := impl.NewRepl(nodes); !isZeroRepl(r) || ok {
			t.Errorf("%d: %v %v", nodes, r, ok)
		}
	}
}

func repeatedText(s string, many int) []string {
	return slices.Repeat([]string{s}, many)
}

func TestGoodReplTellsAsSaid(t *testing.T) {
	for _, r := range goodWorlds() {
		if !impl.GoodRepl(r) || !plainGoodRepl(r) {
			t.Errorf("refused: %v", r)
		}
	}
	for _, r := range badWorlds() {
		if impl.GoodRepl(r) || plainGoodRepl(r) {
			t.Errorf("taken: %v", r)
		}
	}
}

func TestWorldsAreInTheirLimits(t *testing.T) {
	for nodes := range 9 {
		for downs := range 9 {
			r := impl.Repl{Logs: make([][]impl.Entry, nodes), Down: make([]bool, downs), Epoch: 1, InSync: []int{0}}
			if impl.GoodRepl(r) != (among(nodes, 1, 5) && downs == nodes) {
				t.Error(nodes, "nodes,", downs, "in Down")
			}
		}
	}
	for n := -3; n <= 1010; n++ {
		three := replOf(2, 1, []int{2}, "", "", "", "")
		if impl.GoodRepl(alteredRepl(three, func(r *impl.Repl) { r.Epoch = n })) != among(n, 1, 1000) {
			t.Error("Epoch", n)
		}
		if impl.GoodRepl(alteredRepl(three, func(r *impl.Repl) { r.Leader, r.InSync = n, []int{n} })) != among(n, 0, 2) {
			t.Error("Leader", n)
		}
		if impl.GoodRepl(alteredRepl(three, func(r *impl.Repl) { r.Leader = n })) != (n == 2) {
			t.Error("Leader", n, "that is not in InSync")
		}
		if impl.GoodRepl(alteredRepl(three, func(r *impl.Repl) { r.InSync = []int{n, 2} })) != among(n, 0, 1) {
			t.Error("InSync", n)
		}
	}
	for many := 35; many <= 45; many++ {
		log := entries(fullLog(many))
		r := impl.Repl{Logs: [][]impl.Entry{log, nil}, Down: make([]bool, 2), Epoch: 1, InSync: []int{0}, Certain: log}
		if impl.GoodRepl(r) != (many <= 40) {
			t.Error(many, "entries")
		}
		if r.Certain = nil; impl.GoodRepl(r) != (many <= 40) {
			t.Error(many, "entries")
		}
		if r.InSync, r.Leader = []int{1}, 1; impl.GoodRepl(r) != (many <= 40) {
			t.Error(many, "entries outside InSync")
		}
	}
}

// Every list of at most four numbers as InSync, with every Leader.
func TestInSyncAreRisingNodesWithTheLeader(t *testing.T) {
	lists := [][]int{nil}
	for at := 0; at < len(lists); at++ {
		l := lists[at]
		for leader := -1; leader <= 3; leader++ {
			r := replOf(leader, 1, l, "", "1a", "", "1a 2b")
			if impl.GoodRepl(r) != plainGoodRepl(r) {
				t.Fatalf("%v with Leader %d", l, leader)
			}
		}
		for n := -1; n <= 3 && len(l) < 4; n++ {
			lists = append(lists, append(slices.Clone(l), n))
		}
	}
}

// Any one thing of a good world is changed: it is good still just if the plain walk says so.
func TestGoodReplTellsWhatIsChanged(t *testing.T) {
	r := rand.New(rand.NewSource(92))
	good, bad := 0, 0
	for range 20000 {
		w := anyRepl(r)
		n := []int{-1, 0, 1, 2, 3, 4, 5, 999, 1000, 1001}[r.Intn(10)]
		k := r.Intn(len(w.Logs))
		switch r.Intn(9) {
		case 0:
			w.Leader = n
		case 1:
			w.Epoch = n
		case 2:
			w.InSync = append(w.InSync, n)
		case 3:
			w.InSync[r.Intn(len(w.InSync))] = n
		case 4:
			w.Down = append(w.Down, slices.Repeat([]bool{true}, r.Intn(2))...)
		case 5:
			w.Logs[k] = append(w.Logs[k], impl.Entry{Epoch: n, Text: "b"})
		case 6:
			w.Logs[k] = w.Logs[k][:r.Intn(len(w.Logs[k])+1)]
		case 7:
			w.Certain = append(w.Certain, impl.Entry{Epoch: n, Text: "a"})
		case 8:
			if len(w.Certain) > 0 {
				w.Certain[r.Intn(len(w.Certain))].Text = "a"
			}
		}
		is := impl.GoodRepl(w)
		if is != plainGoodRepl(w) {
			t.Fatalf("%v: %v", w, is)
		}
		if is {
			good++
		} else {
			bad++
		}
	}
	if good < 3000 || bad < 3000 {
		t.Error("too few of one kind:", good, bad)
	}
}

func TestCertainLengthTellsAsSaid(t *testing.T) {
	for _, c := range []struct {
		r    impl.Repl
		want int
	}{
		{replOf(0, 1, []int{0}, "", ""), 0},
		{replOf(0, 1, []int{0}, "", "1a 1b"), 2},
		{replOf(0, 1, []int{0}, "1a 1b", "1a 1b"), 2},
		{replOf(0, 1, []int{0, 1}, "", "1a 1b", ""), 0},
		{replOf(0, 1, []int{0, 1}, "", "1a 1b", "1a"), 1},
		{replOf(1, 1, []int{0, 1}, "", "1a 1b", "1a"), 1},
		{replOf(0, 1, []int{0, 1}, "1a", "1a 1b", "1a 1b 1c"), 2},
		{replOf(0, 1, []int{0, 1}, "", "1a 1b", "1a 1c"), 1},
		{replOf(0, 1, []int{0, 1}, "", "1a 1b", "1a 2b"), 1},
		{replOf(0, 1, []int{0, 1}, "", "1a 1b", "2a 2b"), 0},
		{replOf(0, 1, []int{0, 1, 2}, "", "1a 1b 1c", "1a 1b", "1a"), 1},
		{replOf(0, 1, []int{0, 1, 2}, "", "1a 1b 1c", "1a", "1a 1b"), 1},
		// Who is outside InSync does not count, and who is Down does.
		{replOf(0, 1, []int{0, 1}, "", "1a 1b 1c", "1a 1b", "1x"), 2},
		{replOf(1, 1, []int{1}, "1a", "", "1a 1b 1c", ""), 3},
		{downed(replOf(0, 1, []int{0, 1, 2}, "", "1a 1b 1c", "1a 1b", "1a"), 2), 1},
		{downed(replOf(0, 1, []int{0, 1, 2}, "", "1a 1b 1c", "1a 1b", "1a"), 0, 1, 2), 1},
		{replOf(0, 1, []int{0, 1}, "", fullLog(40), fullLog(40)), 40},
		{replOf(0, 1, []int{0, 1}, "", fullLog(39), fullLog(40)), 39},
		// Two followers that part from the Leader at one place may go on alike.
		{replOf(2, 4, []int{0, 1, 2}, "1a", "1a 2b 2c", "1a 2b 2c", "1a 3b"), 1},
	} {
		if n, ok := impl.CertainLength(c.r); n != c.want || !ok {
			t.Errorf("%v: %d %v, not %d", c.r, n, ok, c.want)
		}
	}
	for _, r := range goodWorlds() {
		checkWorld(t, r)
		// As much is certain whoever of InSync leads.
		for _, k := range r.InSync {
			if n, ok := impl.CertainLength(alteredRepl(r, func(q *impl.Repl) { q.Leader = k })); n != plainCertain(r) || !ok {
				t.Errorf("%v, led by %d: %d %v", r, k, n, ok)
			}
		}
	}
}

func TestInStepTellsAsSaid(t *testing.T) {
	r := downed(replOf(1, 3, []int{1, 3}, "", "1a", "1a 1b", "1a 1b 1c", "1a 1c", "1a 1b"), 4)
	for k, want := range []bool{false, true, false, false, true} {
		if is, ok := impl.InStep(r, k); is != want || !ok {
			t.Errorf("%d: %v %v", k, is, ok)
		}
	}
	for _, k := range append(noNumbers(), -2, -1, 5, 6) {
		if is, ok := impl.InStep(r, k); is || ok {
			t.Errorf("%d: %v %v", k, is, ok)
		}
	}
	for _, c := range []struct {
		own, lead string
		want      bool
	}{{"", "", true}, {"1a", "1a", true}, {"1a", "1b", false}, {"1a", "2a", false}, {"", "1a", false}, {"1a", "", false}, {"1a 2b", "1a 2b", true}, {"1b 2b", "1a 2b", false}, {fullLog(40), fullLog(40), true}, {fullLog(39), fullLog(40), false}} {
		if is, ok := impl.InStep(replOf(1, 1, []int{1}, "", c.own, c.lead), 0); is != c.want || !ok {
			t.Errorf("%s of %s: %v %v", c.own, c.lead, is, ok)
		}
	}
}

// replCase is a world, a step, and what it leaves; a step that can't be done leaves none.
type replCase struct {
	name string
	r    impl.Repl
	s    impl.ReplStep
	want impl.Repl
}

func checkReplCases(t *testing.T, l []replCase) {
	t.Helper()
	for _, c := range l {
		if !impl.GoodRepl(c.r) {
			t.Errorf("%s: not good", c.name)
		}
		got, ok := impl.StepRepl(c.r, c.s)
		if !sameRepl(got, c.want) || ok == isZeroRepl(c.want) {
			t.Errorf("%s: %v %v, not %v", c.name, got, ok, c.want)
		}
		checkReplStep(t, c.r, c.s)
	}
}

func TestWritingTellsAsSaid(t *testing.T) {
	none, both, long := impl.Repl{}, []int{0, 1}, "1"+longRecord(20)
	checkReplCases(t, []replCase{
		{"alone it is certain at once", replOf(0, 1, []int{0}, "", ""), write("a"), replOf(0, 1, []int{0}, "1a", "1a")},
		{"behind others", replOf(0, 4, []int{0}, "1a 3b", "1a 3b"), write("c"), replOf(0, 4, []int{0}, "1a 3b 4c", "1a 3b 4c")},
		{"with another one in InSync", replOf(0, 1, both, "", "", ""), write("a"), replOf(0, 1, both, "", "1a", "")},
		{"by another Leader", replOf(1, 2, both, "1a", "1a", "1a"), write("b"), replOf(1, 2, both, "1a", "1a", "1a 2b")},
		{"what another one has already", replOf(1, 2, both, "1a", "1a 2b", "1a"), write("b"), replOf(1, 2, both, "1a 2b", "1a 2b", "1a 2b")},
		{"no Text", replOf(0, 1, []int{0}, "", ""), write(""), replOf(0, 1, []int{0}, "1", "1")},
		{"the longest Text", replOf(0, 1, []int{0}, "", ""), write(longRecord(20)), replOf(0, 1, []int{0}, long, long)},
		{"a longer Text", replOf(0, 1, []int{0}, "", ""), write(longRecord(21)), none},
		{"the longest Text of no letters", replOf(0, 1, both, "", "", ""), write(strings.Repeat("\xff", 20)), alteredRepl(replOf(0, 1, both, "", "", ""), func(r *impl.Repl) { r.Logs[0] = []impl.Entry{{Epoch: 1, Text: strings.Repeat("\xff", 20)}} })},
		{"a Text of few letters and many bytes", replOf(0, 1, []int{0}, "", ""), write(strings.Repeat("\u00e4", 11)), none},
		{"a Leader that is Down", downed(replOf(0, 1, both, "", "", ""), 0), write("a"), none},
		{"another one is Down", downed(replOf(0, 1, both, "", "", ""), 1), write("a"), downed(replOf(0, 1, both, "", "1a", ""), 1)},
		{"the last place", replOf(0, 1, []int{0}, fullLog(39), fullLog(39)), write("x"), replOf(0, 1, []int{0}, fullLog(40), fullLog(40))},
		{"no place", replOf(0, 1, []int{0}, fullLog(40), fullLog(40)), write("x"), none},
		{"another one has no place", replOf(0, 1, []int{0}, "", "", fullLog(40)), write("x"), replOf(0, 1, []int{0}, "1x", "1x", fullLog(40))},
		{"the last Epoch is Epoch", replOf(0, 5, []int{0}, "5a", "5a"), write("b"), replOf(0, 5, []int{0}, "5a 5b", "5a 5b")},
		{"the last Epoch is one above", replOf(0, 4, []int{0}, "5a", "5a"), write("b"), none},
		{"the last Epoch is far above", replOf(0, 1, []int{0}, "1a 1000b", "1a 1000b"), write("b"), none},
		{"another one's last Epoch is above", replOf(0, 4, []int{0}, "", "", "5a"), write("b"), replOf(0, 4, []int{0}, "4b", "4b", "5a")},
		{"the greatest Epoch", replOf(0, 1000, []int{0}, "", "1000a"), write("b"), replOf(0, 1000, []int{0}, "1000a 1000b", "1000a 1000b")},
	})
	for node := -2; node <= 6; node++ {
		for leader := range 3 {
			r := replOf(leader, 1, []int{0, 1, 2}, "", "", "", "")
			q, ok := checkReplStep(t, r, impl.ReplStep{Kind: impl.RpWrite, Node: node, Text: "a"})
			if ok != (node == 0) || ok && !slices.Equal(q.Logs[leader], entries("1a")) {
				t.Errorf("Node %d, Leader %d: %v %v", node, leader, q, ok)
			}
		}
	}
	for long := range 30 {
		if _, ok := impl.StepRepl(replOf(0, 1, []int{0}, "", ""), write(longRecord(long))); ok != (long <= 20) {
			t.Error(long, "bytes")
		}
		many := 25 + long
		if _, ok := impl.StepRepl(replOf(0, 1, []int{0}, "", fullLog(min(many, 40))), write("a")); ok != (many < 40) {
			t.Error(many, "entries")
		}
	}
}

func TestFetchingTellsAsSaid(t *testing.T) {
	none, both, fetch := impl.Repl{}, []int{0, 1}, of(impl.RpFetch, 1)
	// Node 0 leads; what node 1 has, and then has.
	for name, c := range map[string]struct{ lead, own, want string }{
		"it is empty":                      {"1a 1b 1c", "", "1a"},
		"it is one behind":                 {"1a 1b 1c", "1a 1b", "1a 1b 1c"},
		"it is two behind":                 {"1a 1b 1c", "1a", "1a 1b"},
		"it has all":                       {"1a 1b 1c", "1a 1b 1c", "1a 1b 1c"},
		"both are empty":                   {"", "", ""},
		"it has one more":                  {"1a 1b", "1a 1b 1c", "1a 1b"},
		"it has many more":                 {"1a", "1a 1b 2c 3d", "1a"},
		"it has some, the Leader none":     {"", "1a 2b", ""},
		"it parts":                         {"1a 3c", "1a 2b", "1a 3c"},
		"it parts, and more is to come":    {"1a 3c 3d", "1a 2b", "1a 3c"},
		"it parts, and is longer":          {"1a 3c", "1a 2b 2d 2e", "1a 3c"},
		"it parts at once":                 {"2a 2b", "1a 1b", "2a"},
		"it parts within an Epoch of both": {"1a 1b 3c", "1a 1b 1x 2y", "1a 1b 3c"},
		"the Leader's Epoch goes on":       {"1a 1b 1c 4d", "1a 2b 2c", "1a 1b"},
		"an Epoch that only it has":        {"1a 4d", "1a 2b 3c", "1a 4d"},
		"a full log":                       {fullLog(40), fullLog(39), fullLog(40)},
		"full logs":                        {fullLog(40), fullLog(40), fullLog(40)},
		"a full log that parts":            {fullLog(39) + "2y", fullLog(40), fullLog(39) + "2y"},
		// These are no one history: it goes by Epochs alone.
		"unlike Texts of one Epoch": {"1a 1b 1c", "1x 1y", "1x 1y 1c"},
		"unlike Texts, all of them": {"1a 1b", "1x 1y", "1x 1y"},
	} {
		r := func(words string) impl.Repl { return replOf(0, 7, []int{0}, c.lead, c.lead, words) }
		checkReplCases(t, []replCase{{name, r(c.own), fetch, r(c.want)}})
		if _, ok := impl.StepRepl(downed(r(c.own), 0), fetch); ok {
			t.Error(name, "from a Leader that is Down")
		}
		if _, ok := impl.StepRepl(downed(r(c.own), 1), fetch); ok {
			t.Error(name, "by one that is Down")
		}
		if _, ok := impl.StepRepl(r(c.own), of(impl.RpFetch, 0)); ok {
			t.Error(name, "by the Leader")
		}
	}
	behind := replOf(0, 1, both, "", "1a 1b", "", "")
	checkReplCases(t, []replCase{
		{"in InSync, it makes more certain", behind, fetch, replOf(0, 1, both, "1a", "1a 1b", "1a", "")},
		{"outside InSync, it does not", behind, of(impl.RpFetch, 2), replOf(0, 1, both, "", "1a 1b", "", "1a")},
		{"by the Leader", behind, of(impl.RpFetch, 0), none},
		{"by one that is Down", downed(behind, 1), fetch, none},
		{"from a Leader that is Down", downed(behind, 0), fetch, none},
		{"both are Down", downed(behind, 0, 1), fetch, none},
		{"another one is Down", downed(behind, 2), fetch, downed(replOf(0, 1, both, "1a", "1a 1b", "1a", ""), 2)},
		{"another Leader", replOf(2, 2, []int{0, 2}, "1a", "1a 1b", "", "1a 2c"), of(impl.RpFetch, 0), replOf(2, 2, []int{0, 2}, "1a 2c", "1a 2c", "", "1a 2c")},
		{"it has more, and what is certain stays", replOf(0, 2, both, "1a", "1a", "1a 1b 1c"), fetch, replOf(0, 2, both, "1a", "1a", "1a")},
	})
}

// A world whose logs have no one history can come to a log whose Epochs fall: it is good no more, and nothing more is certain.
func TestFetchingFromAnotherHistory(t *testing.T) {
	for _, c := range []struct{ r, want impl.Repl }{
		{replOf(0, 9, []int{0}, "", "1a 1b 1c 5d", "5x"), replOf(0, 9, []int{0}, "", "1a 1b 1c 5d", "5x 1b")},
		{replOf(0, 9, []int{0, 1}, "", "1a 1b 1c 5d", "5x"), replOf(0, 9, []int{0, 1}, "", "1a 1b 1c 5d", "5x 1b")},
		{replOf(0, 9, []int{0, 1}, "", "1a 1b 1c 5d", "1a 5x"), replOf(0, 9, []int{0, 1}, "", "1a 1b 1c 5d", "1a 5x 1c")},
	} {
		if !impl.GoodRepl(c.r) {
			t.Error(c.r)
		}
		if got, ok := checkReplStep(t, c.r, of(impl.RpFetch, 1)); !sameRepl(got, c.want) || !ok {
			t.Errorf("%v: %v %v, not %v", c.r, got, ok, c.want)
		}
		refuseRepl(t, c.want)
	}
}

func TestLeavingTellsAsSaid(t *testing.T) {
	none, three := impl.Repl{}, []int{0, 1, 2}
	r := replOf(0, 1, three, "1a", "1a 1b 1c", "1a 1b", "1a")
	checkReplCases(t, []replCase{
		{"what it lacks is certain then", r, of(impl.RpOut, 2), replOf(0, 1, []int{0, 1}, "1a 1b", "1a 1b 1c", "1a 1b", "1a")},
		{"another one lacks more", r, of(impl.RpOut, 1), replOf(0, 1, []int{0, 2}, "1a", "1a 1b 1c", "1a 1b", "1a")},
		{"the Leader", r, of(impl.RpOut, 0), none},
		{"the last one but the Leader", replOf(1, 1, []int{0, 1}, "", "", "1a 1b", ""), of(impl.RpOut, 0), replOf(1, 1, []int{1}, "1a 1b", "", "1a 1b", "")},
		{"the Leader alone", replOf(0, 1, []int{0}, "", ""), of(impl.RpOut, 0), none},
		{"it is not in it, and behind", replOf(0, 1, []int{0, 1}, "1a", "1a", "1a", ""), of(impl.RpOut, 2), none},
		{"it is not in it, and in step", replOf(0, 1, []int{0, 1}, "1a", "1a", "1a", "1a"), of(impl.RpOut, 2), none},
		{"it is not in it, and Down", downed(replOf(0, 1, []int{0, 1}, "1a", "1a", "1a", ""), 2), of(impl.RpOut, 2), none},
		{"it is not in it, and more could be certain", replOf(0, 1, []int{0, 1}, "", "1a", "1a", ""), of(impl.RpOut, 2), none},
		{"the Leader alone is in it", replOf(0, 1, []int{0}, "", "", ""), of(impl.RpOut, 1), none},
		{"it is Down", downed(r, 2), of(impl.RpOut, 2), downed(replOf(0, 1, []int{0, 1}, "1a 1b", "1a 1b 1c", "1a 1b", "1a"), 2)},
		{"the Leader is Down", downed(r, 0), of(impl.RpOut, 2), none},
		{"the Leader is Down, and it is not in it", downed(replOf(0, 1, []int{0, 1}, "1a", "1a", "1a", ""), 0), of(impl.RpOut, 2), none},
		{"the Leader, that is Down", downed(r, 0), of(impl.RpOut, 0), none},
		{"of five", replOf(3, 1, []int{0, 1, 2, 3, 4}, "", "", "", "", "", ""), of(impl.RpOut, 2), replOf(3, 1, []int{0, 1, 3, 4}, "", "", "", "", "", "")},
	})
}

func TestComingToInSyncTellsAsSaid(t *testing.T) {
	none := impl.Repl{}
	r := replOf(1, 3, []int{1, 3}, "1a", "1a 3b", "1a 3b", "1a", "1a", "1a 3b 3c")
	with := func(l ...int) impl.Repl { return alteredRepl(r, func(q *impl.Repl) { q.InSync = l }) }
	checkReplCases(t, []replCase{
		{"it is in step", r, of(impl.RpIn, 0), with(0, 1, 3)},
		{"it is behind", r, of(impl.RpIn, 2), none},
		{"it has more", r, of(impl.RpIn, 4), none},
		{"the Leader", r, of(impl.RpIn, 1), none},
		{"the Leader alone", replOf(0, 1, []int{0}, "", ""), of(impl.RpIn, 0), none},
		{"it is in it already, and behind", r, of(impl.RpIn, 3), none},
		{"it is in it already, and in step", with(0, 1, 3), of(impl.RpIn, 0), none},
		{"it is in it already, in step, and Down", downed(with(0, 1, 3), 0), of(impl.RpIn, 0), none},
		{"it is in it already, and more could be certain", replOf(0, 1, []int{0, 1}, "", "1a", "1a"), of(impl.RpIn, 1), none},
		{"it is Down", downed(r, 0), of(impl.RpIn, 0), downed(with(0, 1, 3), 0)},
		{"the Leader is Down", downed(r, 1), of(impl.RpIn, 0), none},
		{"the Leader, that is Down", downed(r, 1), of(impl.RpIn, 1), none},
		{"it parts", replOf(0, 3, []int{0}, "1a 1b", "1a 1b", "1a 1c"), of(impl.RpIn, 1), none},
		{"it has other Epochs", replOf(0, 3, []int{0}, "1a", "1a", "2a"), of(impl.RpIn, 1), none},
		{"it has what is certain, but not all", replOf(0, 3, []int{0, 2}, "1a", "1a 1b", "1a", "1a"), of(impl.RpIn, 1), none},
		{"both are empty", replOf(2, 1, []int{2}, "", "", "", ""), of(impl.RpIn, 1), replOf(2, 1, []int{1, 2}, "", "", "", "")},
		{"behind all", replOf(0, 1, []int{0, 1}, "1a", "1a", "1a", "1a"), of(impl.RpIn, 2), replOf(0, 1, []int{0, 1, 2}, "1a", "1a", "1a", "1a")},
	})
}

func TestFailingTellsAsSaid(t *testing.T) {
	none, r := impl.Repl{}, replOf(0, 2, []int{0, 1}, "1a", "1a 2b", "1a", "1c")
	checkReplCases(t, []replCase{
		{"the Leader fails", r, of(impl.RpFail, 0), downed(r, 0)},
		{"one of InSync fails", r, of(impl.RpFail, 1), downed(r, 1)},
		{"another one fails", r, of(impl.RpFail, 2), downed(r, 2)},
		{"the last one fails", downed(r, 0, 1), of(impl.RpFail, 2), downed(r, 0, 1, 2)},
		{"one of InSync fails twice", downed(r, 1), of(impl.RpFail, 1), none},
		{"another one fails twice", downed(r, 2), of(impl.RpFail, 2), none},
		{"the Leader fails twice", downed(r, 0), of(impl.RpFail, 0), none},
		{"it fails twice, and all are Down", downed(r, 0, 1, 2), of(impl.RpFail, 1), none},
		{"it fails twice, and more could be certain", downed(replOf(0, 1, []int{0, 1}, "", "1a", "1a"), 1), of(impl.RpFail, 1), none},
		{"the Leader is back", downed(r, 0, 2), of(impl.RpBack, 0), downed(r, 2)},
		{"another one is back", downed(r, 0, 2), of(impl.RpBack, 2), downed(r, 0)},
		{"one of InSync is back", downed(r, 1), of(impl.RpBack, 1), r},
		{"one of InSync is back twice", r, of(impl.RpBack, 1), none},
		{"another one is back twice", r, of(impl.RpBack, 2), none},
		{"the Leader is back twice", r, of(impl.RpBack, 0), none},
		{"it is back twice, and all others are Down", downed(r, 0, 2), of(impl.RpBack, 1), none},
		{"it is back twice, and more could be certain", replOf(0, 1, []int{0, 1}, "", "1a", "1a"), of(impl.RpBack, 1), none},
	})
}

// ofManyNodes goes through each Leader and each other node, of two to MaxNodes nodes.
func ofManyNodes(f func(nodes int, leader int, k int)) {
	for nodes := 2; nodes <= impl.MaxNodes; nodes++ {
		for leader := range nodes {
			for k := range nodes {
				if k != leader {
					f(nodes, leader, k)
				}
			}
		}
	}
}

// alikeWorld has all nodes in step and in InSync, with a log of two entries of which one is certain.
func alikeWorld(nodes int, leader int) impl.Repl {
	return replOf(leader, 2, rising(0, 1, nodes), "1a", repeatedText("1a 2b", nodes)...)
}

func without(l []int, k int) []int {
	return slices.DeleteFunc(slices.Clone(l), func(n int) bool { return n == k })
}

// Who is outside InSync can't leave it, whatever its log is and whoever is Down.
func TestNodesOutsideInSyncDoNotLeave(t *testing.T) {
	ofManyNodes(func(nodes int, leader int, k int) {
		for _, own := range []string{"", "1a", "1a 2b", "1a 2b 2c", "1x", "2y", fullLog(40)} {
			r := alikeWorld(nodes, leader)
			r.Logs[k], r.InSync = entries(own), without(r.InSync, k)
			for _, q := range []impl.Repl{r, downed(r, k), downed(r, leader), downed(r, rising(0, 1, nodes)...), alteredRepl(r, func(q *impl.Repl) { q.InSync = []int{leader} })} {
				mustRefuse(t, q, of(impl.RpOut, k))
			}
			for other := range nodes {
				if other != k && other != leader {
					mustStep(t, downed(r, k), of(impl.RpOut, other))
				}
			}
		}
		r := alikeWorld(nodes, leader)
		for _, q := range []impl.Repl{r, downed(r, k)} {
			left := mustStep(t, q, of(impl.RpOut, k))
			mustRefuse(t, left, of(impl.RpOut, k))
			mustRefuse(t, mustStep(t, left, write("c")), of(impl.RpOut, k))
			mustStep(t, mustStep(t, left, of(impl.RpIn, k)), of(impl.RpOut, k))
		}
	})
	for nodes := 2; nodes <= impl.MaxNodes; nodes++ {
		for k := 1; k < nodes; k++ {
			out := of(impl.RpOut, k)
			checkDid(t, nodes, []impl.ReplStep{out, out}, "yn")
			checkDid(t, nodes, []impl.ReplStep{out, out, write("a"), out, of(impl.RpFail, k), out, of(impl.RpBack, k), out, of(impl.RpFetch, k), of(impl.RpIn, k), out, out}, "ynynynynyyyn")
		}
	}
}

// Who is in InSync can't come to it, the Leader least of all, in step or behind, and whoever is Down.
func TestNodesOfInSyncDoNotComeToIt(t *testing.T) {
	for nodes := 1; nodes <= impl.MaxNodes; nodes++ {
		for leader := range nodes {
			r := alikeWorld(nodes, leader)
			for _, q := range []impl.Repl{r, downed(r, leader), alteredRepl(r, func(q *impl.Repl) { q.InSync = []int{leader} }), alteredRepl(r, func(q *impl.Repl) { q.Certain = nil })} {
				mustRefuse(t, q, of(impl.RpIn, leader))
			}
		}
		checkDid(t, nodes, []impl.ReplStep{of(impl.RpIn, 0), write("a"), of(impl.RpIn, 0), of(impl.RpElect, 0), of(impl.RpIn, 0)}, "nynyn")
	}
	ofManyNodes(func(nodes int, leader int, k int) {
		for _, own := range []string{"1a", "1a 2b", "1a 2b 2c", "1a 1x"} {
			r := alikeWorld(nodes, leader)
			r.Logs[k] = entries(own)
			for _, q := range []impl.Repl{r, downed(r, k), downed(r, leader), downed(r, rising(0, 1, nodes)...), alteredRepl(r, func(q *impl.Repl) { q.Certain = nil })} {
				mustRefuse(t, q, of(impl.RpIn, k))
			}
		}
		r := alikeWorld(nodes, leader)
		r.InSync = without(r.InSync, k)
		for _, q := range []impl.Repl{r, downed(r, k)} {
			mustRefuse(t, mustStep(t, q, of(impl.RpIn, k)), of(impl.RpIn, k))
		}
	})
	for nodes := 2; nodes <= impl.MaxNodes; nodes++ {
		for k := 1; k < nodes; k++ {
			in := of(impl.RpIn, k)
			checkDid(t, nodes, []impl.ReplStep{in, of(impl.RpOut, k), in, in}, "nyyn")
			checkDid(t, nodes, []impl.ReplStep{of(impl.RpFail, k), in, of(impl.RpOut, k), in, in, of(impl.RpElect, 0), in}, "ynyynyn")
		}
	}
}

// Who is Down can't fail, and who is not can't be back: the Leader, one of InSync, one outside it, whoever else is Down.
func TestNodesFailAndAreBackInTurn(t *testing.T) {
	for nodes := 1; nodes <= impl.MaxNodes; nodes++ {
		for leader := range nodes {
			for _, inSync := range [][]int{rising(0, 1, nodes), {leader}} {
				for set := range 1 << nodes {
					r := alikeWorld(nodes, leader)
					r.InSync = inSync
					for k := range nodes {
						r.Down[k] = set>>k&1 == 1
					}
					checkTurns(t, r)
					checkTurns(t, alteredRepl(r, func(q *impl.Repl) { q.Logs[leader], q.Certain = entries("1a 2b 2c"), nil }))
				}
			}
		}
		for k := range nodes {
			fail, back := of(impl.RpFail, k), of(impl.RpBack, k)
			checkDid(t, nodes, []impl.ReplStep{back, fail, fail, back, back}, "nynyn")
			checkDid(t, nodes, []impl.ReplStep{fail, of(impl.RpFail, 0), fail, back, of(impl.RpBack, 0), back, fail}, map[bool]string{true: "ynnynny", false: "yynyyny"}[k == 0])
		}
	}
}

// checkTurns asks each node to fail and to be back: just one of the two can be done, and then just the other one.
func checkTurns(t *testing.T, r impl.Repl) {
	t.Helper()
	for k, down := range r.Down {
		can, not := of(impl.RpFail, k), of(impl.RpBack, k)
		if down {
			can, not = not, can
		}
		mustRefuse(t, r, not)
		q := mustStep(t, r, can)
		if q.Down[k] == down {
			t.Fatalf("%v of %v: %v", can, r, q)
		}
		mustRefuse(t, q, can)
		mustStep(t, q, not)
	}
}

func TestElectingTellsAsSaid(t *testing.T) {
	none, r := impl.Repl{}, replOf(0, 2, []int{0, 1, 2}, "1a", "1a 2b 2c", "1a 2b", "1a", "1a 2b 2c")
	led := func(by int) impl.Repl { return alteredRepl(r, func(q *impl.Repl) { q.Leader, q.Epoch = by, 3 }) }
	at := func(leader int, epoch int) impl.Repl { return replOf(leader, epoch, []int{0, 1}, "", "", "") }
	checkReplCases(t, []replCase{
		{"one of InSync", r, of(impl.RpElect, 1), led(1)},
		{"one that has what is certain alone", r, of(impl.RpElect, 2), led(2)},
		{"one that is not of InSync, and has all", r, of(impl.RpElect, 3), none},
		{"the Leader itself", r, of(impl.RpElect, 0), led(0)},
		{"one that is Down", downed(r, 1), of(impl.RpElect, 1), none},
		{"the Leader itself, that is Down", downed(r, 0), of(impl.RpElect, 0), none},
		{"for a Leader that is Down", downed(r, 0), of(impl.RpElect, 1), downed(led(1), 0)},
		{"while others are Down", downed(r, 0, 2, 3), of(impl.RpElect, 1), downed(led(1), 0, 2, 3)},
		{"at the last Epoch but one", at(0, 999), of(impl.RpElect, 1), at(1, 1000)},
		{"at the last Epoch", at(0, 1000), of(impl.RpElect, 1), none},
		{"the Leader itself, at the last Epoch but one", at(1, 999), of(impl.RpElect, 1), at(1, 1000)},
		{"the Leader itself, at the last Epoch", at(1, 1000), of(impl.RpElect, 1), none},
		{"one that has more than the Leader", replOf(0, 3, []int{0, 1}, "1a", "1a", "1a 1b"), of(impl.RpElect, 1), replOf(1, 4, []int{0, 1}, "1a", "1a", "1a 1b")},
		// The Epoch goes on from where it is, whatever the logs have.
		{"one whose last Epoch is above", replOf(0, 3, []int{0, 1}, "", "", "8a"), of(impl.RpElect, 1), replOf(1, 4, []int{0, 1}, "", "", "8a")},
	})
}

// What is certain is looked at behind each step that is done, be it a fetch by one that has all.
func TestEachStepMakesCertainWhatIs(t *testing.T) {
	r := downed(replOf(0, 2, []int{0, 1, 2}, "1a", "1a 1b 2c 2d", "1a 1b 2c", "1a 1b 2c 2d", "1a 1b 2c 2d"), 2)
	for _, c := range []struct {
		s    impl.ReplStep
		long int
	}{
		{write("e"), 3}, {of(impl.RpFetch, 1), 4}, {of(impl.RpFetch, 3), 3}, {of(impl.RpOut, 1), 4}, {of(impl.RpOut, 2), 3}, {of(impl.RpIn, 3), 3},
		{of(impl.RpFail, 0), 3}, {of(impl.RpFail, 1), 3}, {of(impl.RpFail, 3), 3}, {of(impl.RpBack, 2), 3}, {of(impl.RpElect, 1), 3}, {of(impl.RpElect, 0), 3},
	} {
		got, ok := checkReplStep(t, r, c.s)
		if !ok || !slices.Equal(got.Certain, entries("1a 1b 2c 2d")[:c.long]) {
			t.Errorf("%v: %v %v", c.s, got, ok)
		}
		if n, ok := impl.CertainLength(got); n != c.long || !ok {
			t.Errorf("%v: %d %v", c.s, n, ok)
		}
	}
	// Once it is certain it stays so, though the step that follows does nothing for it.
	settled := mustStep(t, r, of(impl.RpBack, 2))
	for _, s := range []impl.ReplStep{write("e"), of(impl.RpFetch, 3), of(impl.RpOut, 2), of(impl.RpIn, 3), of(impl.RpFail, 1), of(impl.RpElect, 1)} {
		if got, ok := checkReplStep(t, settled, s); !ok || !slices.Equal(got.Certain, settled.Certain) {
			t.Errorf("%v: %v %v", s, got, ok)
		}
	}
}

func TestReplStepsThatCanNotBeDone(t *testing.T) {
	r := replOf(1, 2, []int{0, 1}, "1a", "1a", "1a 2b", "1a 2b")
	var bad []impl.ReplStep
	for kind := impl.RpFetch; kind <= impl.RpElect; kind++ {
		for _, node := range append(noNumbers(), -2, -1, 3, 4, 5) {
			bad = append(bad, of(kind, node))
		}
		for node := range 3 {
			bad = append(bad, impl.ReplStep{Kind: kind, Node: node, Text: "a"}, impl.ReplStep{Kind: kind, Node: node, Text: "\x00"}, impl.ReplStep{Kind: kind, Node: node, Text: longRecord(5000)})
		}
	}
	for _, kind := range append(noNumbers(), -7, -2, -1, 0, 8, 9, 10, 257, 1<<32+1) {
		for node := -1; node <= 3; node++ {
			bad = append(bad, of(kind, node), impl.ReplStep{Kind: kind, Node: node, Text: "a"})
		}
	}
	for _, node := range append(noNumbers(), -1, 1, 2, 3) {
		bad = append(bad, of(impl.RpWrite, node), impl.ReplStep{Kind: impl.RpWrite, Node: node, Text: "a"})
	}
	bad = append(bad, write(longRecord(21)), write(longRecord(5000)), of(impl.RpFetch, 1), of(impl.RpOut, 1), of(impl.RpOut, 2), of(impl.RpIn, 0), of(impl.RpIn, 1), of(impl.RpBack, 0), of(impl.RpBack, 1), of(impl.RpBack, 2), of(impl.RpElect, 2))
	for _, s := range bad {
		if got, ok := checkReplStep(t, r, s); !isZeroRepl(got) || ok {
			t.Errorf("%v: %v %v", s, got, ok)
		}
	}
	for _, s := range []impl.ReplStep{write("a"), write(""), of(impl.RpFetch, 0), of(impl.RpFetch, 2), of(impl.RpOut, 0), of(impl.RpIn, 2), of(impl.RpFail, 0), of(impl.RpFail, 2), of(impl.RpElect, 0), of(impl.RpElect, 1)} {
		if got, ok := checkReplStep(t, r, s); isZeroRepl(got) || !ok {
			t.Errorf("%v: %v %v", s, got, ok)
		}
	}
}

func anyReplStep(r *rand.Rand, nodes int) impl.ReplStep {
	s := of(r.Intn(9), r.Intn(nodes+2)-1)
	if s.Kind == impl.RpWrite && r.Intn(8) > 0 {
		s = write(string("ab"[r.Intn(2)]))
	}
	if r.Intn(20) == 0 {
		s.Text = longRecord(19 + r.Intn(3))
	}
	return s
}

func TestStepsOfAnyGoodWorld(t *testing.T) {
	for _, w := range goodWorlds() {
		for kind := 0; kind <= 8; kind++ {
			for k := -1; k <= len(w.Logs); k++ {
				checkReplStep(t, w, of(kind, k))
			}
		}
		checkReplStep(t, w, write("a"))
		checkReplStep(t, w, write(longRecord(20)))
		checkReplStep(t, w, write(longRecord(21)))
	}
	r := rand.New(rand.NewSource(93))
	done, grown := map[int]int{}, 0
	for range 100000 {
		w := anyRepl(r)
		s := anyReplStep(r, len(w.Logs))
		if q, ok := checkReplStep(t, w, s); ok {
			done[s.Kind]++
			if !hasFront(q.Certain, w.Certain) {
				t.Fatalf("%v of %v: less is certain: %v", s, w, q)
			}
			if len(q.Certain) > len(w.Certain) {
				grown++
			}
		}
	}
	for kind := impl.RpWrite; kind <= impl.RpElect; kind++ {
		if done[kind] < 500 {
			t.Error("too few of kind", kind, done[kind])
		}
	}
	if grown < 1000 {
		t.Error("too few that make more certain:", grown)
	}
}

func TestWorldsThatAreNotGood(t *testing.T) {
	for _, r := range badWorlds() {
		refuseRepl(t, r)
	}
}

// checkReplPlay holds a play against plain steps, and against steps one by one.
func checkReplPlay(t *testing.T, nodes int, l []impl.ReplStep) impl.Repl {
	t.Helper()
	r, did, ok := impl.PlayRepl(nodes, l)
	if !ok || len(did) != len(l) || !impl.GoodRepl(r) {
		t.Fatalf("%d %v: %v %v %v", nodes, l, r, did, ok)
	}
	plain := replOf(0, 1, rising(0, 1, nodes), "", repeatedText("", nodes)...)
	stepped, _ := impl.NewRepl(nodes)
	for i, s := range l {
		q, is := plainReplStep(plain, s)
		if is {
			plain = q
		}
		if next, ok := impl.StepRepl(stepped, s); ok {
			stepped = next
		}
		if did[i] != is {
			t.Fatalf("%d %v: step %d: %v", nodes, l, i, did[i])
		}
	}
	if !sameRepl(r, plain) || !sameRepl(r, stepped) {
		t.Fatalf("%d %v: %v, not %v, nor by steps %v", nodes, l, r, plain, stepped)
	}
	return r
}

func TestPlayReplTellsAsSaid(t *testing.T) {
	for nodes := 1; nodes <= 5; nodes++ {
		r, did, ok := impl.PlayRepl(nodes, nil)
		if first, _ := impl.NewRepl(nodes); !sameRepl(r, first) || len(did) != 0 || !ok {
			t.Error(nodes, r, did, ok)
		}
		checkReplPlay(t, nodes, []impl.ReplStep{})
	}
	// The Leader fails with an entry that nobody else has; it comes back, and that is gone.
	lost := []impl.ReplStep{write("a"), of(impl.RpFetch, 1), write("b"), of(impl.RpFail, 0), of(impl.RpElect, 1), write("c"), of(impl.RpBack, 0), of(impl.RpFetch, 0)}
	for _, c := range []struct {
		nodes int
		l     []impl.ReplStep
		want  impl.Repl
		did   string
	}{
		{2, lost, replOf(1, 2, []int{0, 1}, "1a 2c", "1a 2c", "1a 2c"), "yyyyyyyy"},
		{2, lost[:7], replOf(1, 2, []int{0, 1}, "1a", "1a 1b", "1a 2c"), "yyyyyyy"},
		{2, lost[:4], downed(replOf(0, 1, []int{0, 1}, "1a", "1a 1b", "1a"), 0), "yyyy"},
		{3, lost, replOf(1, 2, []int{0, 1, 2}, "", "1a 2c", "1a 2c", ""), "yyyyyyyy"},
		{1, lost, replOf(0, 1, []int{0}, "1a 1b", "1a 1b"), "ynyynnyn"},
		// It leaves, others go on without it, and it may not lead till it has caught up.
		{3, []impl.ReplStep{of(impl.RpOut, 2), write("a"), of(impl.RpFetch, 1), of(impl.RpElect, 2), of(impl.RpIn, 2), of(impl.RpFetch, 2), of(impl.RpIn, 2), of(impl.RpElect, 2), write("b")}, replOf(2, 2, []int{0, 1, 2}, "1a", "1a", "1a", "1a 2b"), "yyynnyyyy"},
		// What can't be done changes nothing, and what follows goes on from there.
		{2, []impl.ReplStep{{}, of(8, 0), of(impl.RpFetch, 0), of(impl.RpFetch, 2), of(impl.RpOut, 0), write(longRecord(21)), of(impl.RpElect, -1), write("a")}, replOf(0, 1, []int{0, 1}, "", "1a", ""), "nnnnnnny"},
	} {
		if got := checkReplPlay(t, c.nodes, c.l); !sameRepl(got, c.want) {
			t.Errorf("%d %v: %v, not %v", c.nodes, c.l, got, c.want)
		}
		checkDid(t, c.nodes, c.l, c.did)
	}
}

func TestReplPlaysHaveAtMostSoManySteps(t *testing.T) {
	for _, many := range []int{0, 1, 2, 39, 40, 41, 119, 120, 121, 122, 5000} {
		l := slices.Repeat([]impl.ReplStep{of(impl.RpElect, 0)}, many)
		r, did, ok := impl.PlayRepl(1, l)
		if many > 120 {
			if !isZeroRepl(r) || len(did) != 0 || ok {
				t.Error(many, r, did, ok)
			}
			continue
		}
		if !ok || len(did) != many || slices.Contains(did, false) || r.Epoch != many+1 {
			t.Error(many, r, did, ok)
		}
		checkReplPlay(t, 1, l)
		checkReplPlay(t, 5, l)
		checkReplPlay(t, 2, slices.Repeat([]impl.ReplStep{of(9, 9)}, many))
		full := checkReplPlay(t, 1, slices.Repeat([]impl.ReplStep{write("a")}, many))
		if len(full.Logs[0]) != min(many, 40) || len(full.Certain) != min(many, 40) {
			t.Error(many, full)
		}
	}
	for _, nodes := range append(noNumbers(), -2, -1, 0, 6, 7) {
		for _, many := range []int{0, 1, 120, 121} {
			r, did, ok := impl.PlayRepl(nodes, slices.Repeat([]impl.ReplStep{write("a")}, many))
			if !isZeroRepl(r) || len(did) != 0 || ok {
				t.Errorf("%d: %v %v %v", nodes, r, did, ok)
			}
		}
	}
}

// checkStands is promise 9: what was certain once stands at the front of the Leader's log and of all that are in step.
func checkStands(t *testing.T, r impl.Repl, once []impl.Entry) {
	t.Helper()
	if !hasFront(r.Logs[r.Leader], once) || !hasFront(r.Certain, once) {
		t.Fatalf("%v was certain: %v", once, r)
	}
	for k, log := range r.Logs {
		is, ok := impl.InStep(r, k)
		if !ok || (is || slices.Contains(r.InSync, k)) && !hasFront(log, once) {
			t.Fatalf("%v was certain, and %d is in step: %v", once, k, r)
		}
	}
	if n, ok := impl.CertainLength(r); n != len(r.Certain) || !ok {
		t.Fatalf("%v: %d %v", r, n, ok)
	}
}

// busyWorld are steps in which nodes fail, come back and lead, and each entry written is another one.
func busyWorld(r *rand.Rand, nodes int, many int) []impl.ReplStep {
	w, _ := impl.NewRepl(nodes)
	writes, fetches, fails := 2+r.Intn(4), 4+r.Intn(8), 1+r.Intn(3)
	var l []impl.ReplStep
	for i := range many {
		s := of(0, r.Intn(nodes))
		switch n := r.Intn(20); {
		case n < writes:
			s = write(fmt.Sprint("t", i))
		case n < writes+fetches:
			s.Kind = impl.RpFetch
		case n < writes+fetches+fails:
			s.Kind = impl.RpFail
		default:
			s.Kind = []int{impl.RpBack, impl.RpBack, impl.RpOut, impl.RpIn, impl.RpIn, impl.RpElect, impl.RpElect}[r.Intn(7)]
		}
		if q, ok := impl.StepRepl(w, s); ok {
			w = q
		}
		l = append(l, s)
	}
	return l
}

// Promise 9, at each step on the way.
func TestWhatWasCertainStands(t *testing.T) {
	r := rand.New(rand.NewSource(94))
	certain, led, cut, left := 0, 0, 0, 0
	for i := range 1500 {
		nodes := 1 + i%5
		l := busyWorld(r, nodes, []int{20, 60, 120}[i%3])
		last := checkReplPlay(t, nodes, l)
		w, _ := impl.NewRepl(nodes)
		for _, s := range l {
			q, ok := impl.StepRepl(w, s)
			if !ok {
				continue
			}
			checkStands(t, q, w.Certain)
			if q.Leader != w.Leader {
				led++
			}
			if s.Kind == impl.RpFetch && !hasFront(q.Logs[s.Node], w.Logs[s.Node]) {
				cut++
			}
			if len(q.InSync) < len(w.InSync) && len(q.Certain) > len(w.Certain) {
				left++
			}
			w = q
		}
		checkStands(t, last, w.Certain)
		certain += len(w.Certain)
	}
	if certain < 5000 || led < 1500 || cut < 500 || left < 200 {
		t.Error("too little came about:", certain, led, cut, left)
	}
}

// Promise 9 in what PlayRepl itself tells: of each shorter play of the same steps.
func TestWhatWasCertainStandsInLongerPlays(t *testing.T) {
	r := rand.New(rand.NewSource(95))
	for i := range 60 {
		nodes := 2 + i%4
		l := busyWorld(r, nodes, 120)
		var once []impl.Entry
		for upto := range len(l) + 1 {
			w, did, ok := impl.PlayRepl(nodes, l[:upto])
			if !ok || len(did) != upto {
				t.Fatal(nodes, l[:upto])
			}
			checkStands(t, w, once)
			once = w.Certain
		}
	}
}

// Logs that steps made have one history: a follower that fetches on and on comes to just the Leader's log, and may be in step.
func TestFollowersCatchUp(t *testing.T) {
	r := rand.New(rand.NewSource(96))
	for i := range 400 {
		nodes := 2 + i%4
		w := checkReplPlay(t, nodes, busyWorld(r, nodes, 80))
		for _, a := range w.Logs {
			for _, b := range w.Logs {
				if is, ok := impl.MatchLogs(a, b); !is || !ok {
					t.Fatalf("MatchLogs(%v, %v): %v %v", a, b, is, ok)
				}
			}
		}
		once := w.Certain
		for k := range nodes {
			if w.Down[k] {
				w = mustStep(t, w, of(impl.RpBack, k))
			}
		}
		for k := range nodes {
			if k == w.Leader {
				continue
			}
			// One fetch at least: it may have more than the Leader.
			for range len(w.Logs[w.Leader]) + 1 {
				w = mustStep(t, w, of(impl.RpFetch, k))
			}
			if is, ok := impl.InStep(w, k); !is || !ok {
				t.Fatalf("%d is not in step: %v", k, w)
			}
			if !slices.Contains(w.InSync, k) {
				w = mustStep(t, w, of(impl.RpIn, k))
			}
		}
		if !slices.Equal(w.InSync, rising(0, 1, nodes)) || !slices.Equal(w.Certain, w.Logs[w.Leader]) {
			t.Fatal(w)
		}
		checkStands(t, w, once)
	}
}

// Promise 9, over all that few steps can come to: worlds with the same logs are told apart by what is certain.
func TestWhateverFewStepsWhatWasCertainStands(t *testing.T) {
	for nodes, depth := range map[int]int{1: 6, 2: 8, 3: 6} {
		first, _ := impl.NewRepl(nodes)
		now, known := []impl.Repl{first}, map[string]bool{fmt.Sprint(first): true}
		certain := 0
		for at := range depth {
			var next []impl.Repl
			for _, w := range now {
				for _, s := range fewReplSteps(nodes, at) {
					q, ok := checkReplStep(t, w, s)
					if !ok {
						continue
					}
					checkStands(t, q, w.Certain)
					if key := fmt.Sprint(q); !known[key] {
						known[key] = true
						next = append(next, q)
						certain += len(q.Certain)
					}
				}
			}
			now = next
		}
		if certain == 0 {
			t.Error("nothing was certain:", nodes)
		}
	}
}

func fewReplSteps(nodes int, at int) []impl.ReplStep {
	out := []impl.ReplStep{write(fmt.Sprint(at))}
	for kind := impl.RpFetch; kind <= impl.RpElect; kind++ {
		for k := range nodes {
			out = append(out, of(kind, k))
		}
	}
	return out
}

// Promise 19: whatever it is given, each function answers.
func TestFollowersAnswerAtAnyArguments(t *testing.T) {
	ints := append(noNumbers(), -2, -1, 0, 1, 2, 5, 6, 40, 999, 1000, 1001)
	base := replOf(1, 3, []int{0, 1}, "1a", "1a 2b", "1a 3c", "2d")
	for _, x := range ints {
		for _, y := range ints {
			for _, r := range []impl.Repl{
				alteredRepl(base, func(r *impl.Repl) { r.Leader, r.Epoch = x, y }), alteredRepl(base, func(r *impl.Repl) { r.InSync = []int{x, y} }), alteredRepl(base, func(r *impl.Repl) { r.Leader, r.InSync = x, []int{x, y} }), alteredRepl(base, func(r *impl.Repl) { r.Leader, r.InSync, r.Certain = y, []int{x, y}, nil }),
				alteredRepl(base, func(r *impl.Repl) { r.Logs[0] = inEpochs(x, y) }), alteredRepl(base, func(r *impl.Repl) { r.Logs[2] = inEpochs(x, y) }), alteredRepl(base, func(r *impl.Repl) { r.Logs[1], r.InSync, r.Certain = inEpochs(x, y), []int{1}, nil }), alteredRepl(base, func(r *impl.Repl) { r.Certain = inEpochs(x, y) }), alteredRepl(base, func(r *impl.Repl) { r.InSync, r.Epoch = []int{1, x}, y }),
				{Leader: x, Epoch: y, InSync: []int{x}, Logs: make([][]impl.Entry, 1), Down: make([]bool, 1)}, {Leader: x, Epoch: y}, {Leader: x, Epoch: 1, InSync: []int{x, y}, Down: make([]bool, 5)},
			} {
				if impl.GoodRepl(r) != plainGoodRepl(r) {
					t.Fatalf("GoodRepl(%v)", r)
				}
				if !impl.GoodRepl(r) {
					refuseRepl(t, r)
					continue
				}
				checkWorld(t, r)
				for kind := 0; kind <= 8; kind++ {
					checkReplStep(t, r, of(kind, 0))
					checkReplStep(t, r, of(kind, x))
					checkReplStep(t, r, impl.ReplStep{Kind: kind, Node: x, Text: longRecord(max(0, min(40, y)))})
				}
				checkReplStep(t, r, of(x, y))
				if is, ok := impl.InStep(r, x); ok != among(x, 0, len(r.Logs)-1) || is && !ok {
					t.Fatalf("InStep(%v, %d): %v %v", r, x, is, ok)
				}
			}
			_, did, ok := impl.PlayRepl(x, []impl.ReplStep{of(x, y), of(y, x), of(impl.RpFail, y), of(impl.RpElect, x), {Kind: y, Node: x, Text: longRecord(5000)}})
			if ok != among(x, 1, 5) || ok != (len(did) == 5) {
				t.Fatalf("PlayRepl(%d, ..): %v %v", x, did, ok)
			}
		}
	}
	huge := slices.Repeat([]impl.Entry{{Epoch: 1, Text: longRecord(20)}}, 100000)
	for _, r := range []impl.Repl{alteredRepl(base, func(r *impl.Repl) { r.Logs[0] = huge }), alteredRepl(base, func(r *impl.Repl) { r.Certain = huge }), alteredRepl(base, func(r *impl.Repl) { r.Logs = slices.Repeat(r.Logs, 10000) })} {
		refuseRepl(t, r)
	}
}

// replWorld is one in which each kind of step can be done, and each list has something; more than 1a may be certain.
func replWorld(certain string) impl.Repl {
	return downed(replOf(1, 3, []int{0, 1, 3}, certain, "1a 2b 2c", "1a 2b 3d", "1a 2b 3d", "1a 2b", "4x"), 3)
}

// roomyWorld is replWorld with much behind its lists in their memory, which is no part of it, though it could be.
func roomyWorld(certain string) impl.Repl {
	r := replWorld(certain)
	more := []impl.Entry{{Epoch: 3, Text: "d"}, {Epoch: 3, Text: "e"}, {Epoch: 77, Text: "77"}}
	for i, log := range r.Logs {
		r.Logs[i] = append(log, more...)[:len(log)]
	}
	r.Logs = append(r.Logs, entries("1a"), entries("77x"))[:5]
	r.Down = append(r.Down, true, false, true)[:5]
	r.InSync = append(r.InSync, 4, 5, 77)[:3]
	r.Certain = append(r.Certain, impl.Entry{Epoch: 2, Text: "b"}, impl.Entry{Epoch: 77, Text: "77"})[:len(r.Certain)]
	return r
}

// wholeRepl has all of a list's memory, within lists too.
func wholeRepl(r impl.Repl) impl.Repl {
	r.Logs = slices.Clone(r.Logs[:cap(r.Logs)])
	for i, log := range r.Logs {
		r.Logs[i] = log[:cap(log)]
	}
	r.Down, r.InSync, r.Certain = r.Down[:cap(r.Down)], r.InSync[:cap(r.InSync)], r.Certain[:cap(r.Certain)]
	return r
}

func replWays() map[string]impl.ReplStep {
	out := map[string]impl.ReplStep{}
	for _, s := range []impl.ReplStep{
		write(""), write("e"), of(impl.RpFetch, 0), of(impl.RpFetch, 2), of(impl.RpFetch, 4), of(impl.RpOut, 0), of(impl.RpOut, 3), of(impl.RpIn, 2),
		of(impl.RpFail, 0), of(impl.RpFail, 4), of(impl.RpBack, 3), of(impl.RpElect, 0), of(impl.RpElect, 1),
	} {
		out[fmt.Sprint(s)] = s
	}
	return out
}

// Promise 19: nothing is written into an argument, nor into what lies behind it in its memory, nor is that read.
func TestFollowersWriteIntoNoWorld(t *testing.T) {
	for _, certain := range []string{"", "1a", "1a 2b"} {
		checkReplUnwritten(t, certain)
	}
}

func checkReplUnwritten(t *testing.T, certain string) {
	t.Helper()
	r, was := roomyWorld(certain), cloneRepl(wholeRepl(roomyWorld(certain)))
	check := func(name string) {
		t.Helper()
		if !sameRepl(wholeRepl(r), was) {
			t.Fatalf("%s has written: %v", name, wholeRepl(r))
		}
	}
	checkWorld(t, r)
	check("asking")
	for name, s := range replWays() {
		x, ok := impl.StepRepl(r, s)
		if y, _ := impl.StepRepl(replWorld(certain), s); !sameRepl(x, y) || !ok {
			t.Errorf("%s: %v %v", name, x, ok)
		}
		check(name)
	}
	for _, n := range manyNumbers() {
		for kind := range 9 {
			impl.StepRepl(r, of(kind, n))
		}
		impl.StepRepl(r, write(longRecord(max(0, min(n, 40)))))
		impl.InStep(r, n)
	}
	check("any number")
	for _, q := range []impl.Repl{
		wholeRepl(r), alteredRepl(r, func(q *impl.Repl) { q.Logs = r.Logs[:6] }), alteredRepl(r, func(q *impl.Repl) { q.Down = r.Down[:6] }), alteredRepl(r, func(q *impl.Repl) { q.InSync = r.InSync[:5] }), alteredRepl(r, func(q *impl.Repl) { q.Certain = r.Certain[:len(r.Certain)+2] }),
		alteredRepl(r, func(q *impl.Repl) { q.Logs = r.Logs[:4] }),
	} {
		refuseRepl(t, q)
	}
	check("refusing")
}

func TestFollowersWriteIntoNoSteps(t *testing.T) {
	all := []impl.ReplStep{write("a"), of(impl.RpFetch, 1), of(impl.RpFail, 0), of(9, 9), write("z")}
	l := slices.Clone(all)[:3]
	for range 2 {
		q, did, ok := impl.PlayRepl(2, l)
		if !sameRepl(q, checkReplPlay(t, 2, l[:3:3])) || !slices.Equal(did, []bool{true, true, true}) || !ok {
			t.Error(q, did, ok)
		}
		impl.PlayRepl(2, l[:5])
		impl.PlayRepl(9, l)
	}
	if !slices.Equal(l[:5], all) {
		t.Error("written into:", l[:5])
	}
}

// replHandsOut tells what stands behind a world's lists in their memory, and is not zero.
func replHandsOut(r impl.Repl) bool {
	for _, l := range append(slices.Clone(r.Logs), r.Certain) {
		if slices.ContainsFunc(l[len(l):cap(l)], func(x impl.Entry) bool { return x != impl.Entry{} }) {
			return true
		}
	}
	return slices.ContainsFunc(r.Logs[len(r.Logs):cap(r.Logs)], func(l []impl.Entry) bool { return cap(l) > 0 }) ||
		slices.Contains(r.Down[len(r.Down):cap(r.Down)], true) || slices.ContainsFunc(r.InSync[len(r.InSync):cap(r.InSync)], func(k int) bool { return k != 0 })
}

// checkReplFresh writes over all of a world's lists of entries, one at a time: no other one may change.
func checkReplFresh(t *testing.T, name string, way func() impl.Repl) {
	t.Helper()
	want := cloneRepl(way())
	if replHandsOut(way()) {
		t.Errorf("%s hands out %v", name, wholeRepl(way()))
	}
	lists := func(r impl.Repl) [][]impl.Entry { return append(slices.Clone(r.Logs), r.Certain) }
	for i := range lists(want) {
		r := way()
		spoil(lists(r)[i], impl.Entry{Epoch: 77, Text: "77"})
		for k, l := range lists(r) {
			if k != i && !slices.Equal(l, lists(want)[k]) {
				t.Errorf("%s: %d and %d share memory", name, i, k)
			}
		}
	}
	r := way()
	for _, l := range lists(r) {
		spoil(l, impl.Entry{Epoch: 77, Text: "77"})
	}
	spoil(r.Logs, entries("77x"))
	spoil(r.Down, true)
	spoil(r.InSync, 77)
	if again := way(); !sameRepl(again, want) {
		t.Errorf("%s: %v, not %v", name, again, want)
	}
}

func TestFollowersAnswerWithNewMemory(t *testing.T) {
	for _, certain := range []string{"", "1a", "1a 2b"} {
		for name, s := range replWays() {
			r, was := roomyWorld(certain), cloneRepl(wholeRepl(roomyWorld(certain)))
			checkReplFresh(t, name, func() impl.Repl {
				q, ok := impl.StepRepl(r, s)
				if !ok {
					t.Fatal(name)
				}
				return q
			})
			if !sameRepl(wholeRepl(r), was) {
				t.Errorf("%s has shared its argument's memory: %v", name, r)
			}
		}
	}
	checkReplFresh(t, "NewRepl", func() impl.Repl {
		r, _ := impl.NewRepl(3)
		return r
	})
	r := rand.New(rand.NewSource(97))
	for range 30 {
		l := busyWorld(r, 4, 100)
		checkReplFresh(t, "PlayRepl", func() impl.Repl {
			w, did, ok := impl.PlayRepl(4, l)
			if !ok || slices.Contains(did[len(did):cap(did)], true) {
				t.Error(did[:cap(did)], ok)
			}
			spoil(did, true)
			return w
		})
	}
}
