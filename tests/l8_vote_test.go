package tests

import (
	"fmt"
	"math"
	"math/bits"
	"math/rand"
	"slices"
	"testing"

	"loop.example/g00522/impl"
)

// voter is told by its Term, Voted, Age and Role, and whom it Heard.
func voter(term int, voted int, age int, role int, heard ...int) impl.Node {
	return impl.Node{Term: term, Voted: voted, Age: age, Heard: heard, Role: role}
}

func asking(from int, to int, term int, age int) impl.Letter {
	return impl.Letter{From: from, To: to, Term: term, Ask: true, Age: age}
}

func voting(from int, to int, term int) impl.Letter {
	return impl.Letter{From: from, To: to, Term: term}
}

func letters(l ...impl.Letter) []impl.Letter { return l }

// leaders are told as pairs: a term and a node.
func leaders(l ...int) [][]int {
	var out [][]int
	for i := 0; i < len(l); i += 2 {
		out = append(out, []int{l[i], l[i+1]})
	}
	return out
}

func manyLeaders(many int) [][]int {
	var out [][]int
	for i := range many {
		out = append(out, []int{1 + i%200, 0})
	}
	return out
}

func pollOf(l []impl.Letter, rows [][]int, nodes ...impl.Node) impl.Poll {
	return impl.Poll{Nodes: nodes, Letters: l, Leaders: rows}
}

// quiet is a poll of nodes of Age 0, in one Term, that have no role and voted for nobody.
func quiet(nodes int, term int) impl.Poll {
	return impl.Poll{Nodes: slices.Repeat([]impl.Node{voter(term, -1, 0, 0)}, nodes)}
}

func clonePoll(p impl.Poll) impl.Poll {
	out := impl.Poll{Nodes: slices.Clone(p.Nodes), Letters: slices.Clone(p.Letters), Leaders: slices.Clone(p.Leaders)}
	for i, x := range out.Nodes {
		out.Nodes[i].Heard = slices.Clone(x.Heard)
	}
	for i, row := range out.Leaders {
		out.Leaders[i] = slices.Clone(row)
	}
	return out
}

func sameNode(a impl.Node, b impl.Node) bool {
	return a.Term == b.Term && a.Voted == b.Voted && a.Age == b.Age && a.Role == b.Role && slices.Equal(a.Heard, b.Heard)
}

func samePoll(a impl.Poll, b impl.Poll) bool {
	return slices.EqualFunc(a.Nodes, b.Nodes, sameNode) && slices.Equal(a.Letters, b.Letters) && slices.EqualFunc(a.Leaders, b.Leaders, slices.Equal[[]int])
}

func isZeroPoll(p impl.Poll) bool {
	return len(p.Nodes) == 0 && len(p.Letters) == 0 && len(p.Leaders) == 0
}

func among(n int, least int, most int) bool {
	return n >= least && n <= most
}

func plainGoodVoter(x impl.Node, nodes int) bool {
	for i, k := range x.Heard {
		if !among(k, 0, nodes-1) || slices.ContainsFunc(x.Heard[:i], func(y int) bool { return y >= k }) {
			return false
		}
	}
	return among(x.Term, 0, 200) && among(x.Voted, -1, nodes-1) && among(x.Age, 0, 9) && among(x.Role, 0, 2) && (x.Role > 0 || len(x.Heard) == 0)
}

func plainGoodPoll(p impl.Poll) bool {
	nodes := len(p.Nodes)
	if !among(nodes, 1, 5) || len(p.Letters) >= 61 || len(p.Leaders) >= 301 {
		return false
	}
	bad := slices.ContainsFunc(p.Nodes, func(x impl.Node) bool { return !plainGoodVoter(x, nodes) })
	for _, x := range p.Letters {
		if !among(x.From, 0, nodes-1) || !among(x.To, 0, nodes-1) || !among(x.Term, 1, 200) {
			return false
		}
		age := 0
		if x.Ask {
			age = p.Nodes[x.From].Age
		}
		bad = bad || x.Age != age
	}
	for _, row := range p.Leaders {
		bad = bad || len(row) != 2 || !among(row[0], 0, 200) || !among(row[1], 0, nodes-1)
	}
	return !bad
}

// anyPoll is good, but seldom one that steps would come to.
func anyPoll(r *rand.Rand) impl.Poll {
	nodes := 1 + r.Intn(5)
	low := []int{0, 0, 3, 198}[r.Intn(4)]
	var p impl.Poll
	for range nodes {
		x := voter(low+r.Intn(3), r.Intn(nodes+1)-1, r.Intn(3), r.Intn(3))
		for k := range nodes {
			if x.Role > 0 && r.Intn(3) == 0 {
				x.Heard = append(x.Heard, k)
			}
		}
		p.Nodes = append(p.Nodes, x)
	}
	for range []int{r.Intn(4), r.Intn(61), 60 - r.Intn(5)}[r.Intn(3)] {
		x := voting(r.Intn(nodes), r.Intn(nodes), max(low+r.Intn(3), 1))
		if r.Intn(2) == 0 {
			x = asking(x.From, x.To, x.Term, p.Nodes[x.From].Age)
		}
		p.Letters = append(p.Letters, x)
	}
	for range []int{0, r.Intn(5), 297 + r.Intn(4)}[r.Intn(3)] {
		p.Leaders = append(p.Leaders, []int{r.Intn(201), r.Intn(nodes)})
	}
	return p
}

// goodPolls are those at the chapter's edges, and any.
func goodPolls() []impl.Poll {
	many := pollOf(nil, nil, voter(0, -1, 0, 0), voter(1, 4, 9, 0), voter(200, 0, 5, 1, 2), voter(199, 3, 3, 2, 1, 3, 4), voter(200, 4, 9, 2, 0, 1, 2, 3, 4))
	withLetters, withLeaders, full := clonePoll(many), clonePoll(many), clonePoll(many)
	withLetters.Letters = letters(asking(0, 1, 1, 0), asking(4, 0, 200, 9), voting(4, 0, 200), voting(0, 0, 1), asking(2, 2, 7, 5))
	withLeaders.Leaders = leaders(0, 0, 200, 4, 200, 3, 1, 1, 0, 0)
	full.Letters = slices.Repeat(letters(voting(1, 2, 3)), 60)
	full.Leaders = manyLeaders(300)
	out := []impl.Poll{
		quiet(1, 0), quiet(5, 0), quiet(5, 200), pollOf([]impl.Letter{}, [][]int{}, voter(0, -1, 0, 0, []int{}...)), pollOf(nil, nil, voter(0, 0, 0, 0)), pollOf(nil, nil, voter(1, 0, 9, 2, 0)),
		pollOf(nil, nil, voter(0, -1, 0, 1)), pollOf(nil, nil, voter(0, -1, 0, 2)), pollOf(nil, nil, voter(0, 1, 0, 1, 1), voter(0, 0, 0, 2, 0, 1)), many, withLetters, withLeaders, full,
	}
	r := rand.New(rand.NewSource(81))
	for range 300 {
		out = append(out, anyPoll(r))
	}
	return out
}

// spoiled is a poll with one thing changed.
func spoiled(p impl.Poll, change func(*impl.Poll)) impl.Poll {
	out := clonePoll(p)
	change(&out)
	return out
}

func badVoters() []impl.Node {
	out := []impl.Node{
		voter(-1, -1, 0, 0), voter(201, -1, 0, 0), voter(0, -2, 0, 0), voter(0, 3, 0, 0), voter(0, 4, 0, 0), voter(0, -1, -1, 0), voter(0, -1, 10, 0), voter(0, -1, 0, -1), voter(0, -1, 0, 3),
		voter(0, -1, 0, 0, 0), voter(0, -1, 0, 0, 2), voter(0, -1, 0, 0, 0, 1, 2), voter(1, 1, 1, 3, 1), voter(1, 1, 1, -1, 1), voter(0, -1, 0, 0, -1),
		voter(1, 1, 1, 1, 1, 1), voter(1, 1, 1, 1, 1, 0), voter(1, 1, 1, 2, 0, 2, 1), voter(1, 1, 1, 1, -1), voter(1, 1, 1, 1, 3), voter(1, 1, 1, 2, 0, 1, 2, 3), voter(1, 1, 1, 2, -1, 0), voter(1, 1, 1, 2, 0, 0, 1), voter(1, 1, 1, 2, 0, 1, 1), voter(1, 1, 1, 2, repeated(1, 5000)...), voter(1, 1, 1, 1, rising(0, 1, 5000)...),
	}
	for _, n := range noNumbers() {
		out = append(out, voter(n, -1, 0, 0), voter(0, n, 0, 0), voter(0, -1, n, 0), voter(0, -1, 0, n), voter(0, -1, 0, 1, n), voter(0, -1, 0, 2, 0, n))
	}
	return out
}

// badLetters are so in a poll of three nodes of the Ages 0, 4 and 9.
func badLetters() []impl.Letter {
	out := letters(
		impl.Letter{}, voting(-1, 0, 1), voting(3, 0, 1), voting(0, -1, 1), voting(0, 3, 1), voting(0, 1, 0), voting(0, 1, -1), voting(0, 1, 201), asking(-1, 0, 1, 0), asking(3, 0, 1, 0), asking(0, -1, 1, 0), asking(0, 3, 1, 0), asking(0, 1, 0, 0), asking(0, 1, 201, 0),
		asking(0, 1, 1, 1), asking(0, 1, 1, -1), asking(1, 0, 1, 0), asking(1, 0, 1, 3), asking(1, 0, 1, 5), asking(1, 2, 1, 9), asking(2, 0, 1, 10), asking(2, 0, 1, 0), asking(2, 0, 1, 8),
		impl.Letter{From: 0, To: 1, Term: 1, Age: 1}, impl.Letter{From: 1, To: 0, Term: 1, Age: 4}, impl.Letter{From: 2, To: 0, Term: 1, Age: 9}, impl.Letter{From: 0, To: 1, Term: 1, Age: -1}, impl.Letter{From: 0, To: 1, Term: 1, Age: 10},
	)
	for _, n := range noNumbers() {
		out = append(out, voting(n, 0, 1), voting(0, n, 1), voting(0, 1, n), asking(n, 0, 1, 0), asking(0, n, 1, 0), asking(0, 1, n, 0), asking(0, 1, 1, n), impl.Letter{From: 0, To: 1, Term: 1, Age: n})
	}
	return out
}

func badRows() [][]int {
	out := [][]int{nil, {}, {1}, {1, 0, 0}, {1, 1, 1, 1}, {-1, 0}, {201, 0}, {1, -1}, {1, 3}, {3, 200}, {-1, -1}, repeated(1, 5000)}
	for _, n := range noNumbers() {
		out = append(out, []int{n, 0}, []int{1, n})
	}
	return out
}

func badPolls() []impl.Poll {
	three := pollOf(letters(asking(1, 0, 1, 4), voting(2, 1, 200)), leaders(1, 1, 200, 2), voter(0, -1, 0, 0), voter(1, 1, 4, 1, 1), voter(200, 2, 9, 2, 0, 2))
	out := []impl.Poll{
		{}, {Nodes: []impl.Node{}}, {Nodes: make([]impl.Node, 6)}, {Leaders: leaders(1, 0)}, {Letters: letters(voting(0, 0, 1))}, quiet(6, 0), quiet(7, 1), quiet(5000, 1),
		spoiled(three, func(p *impl.Poll) { p.Nodes = nil }), spoiled(three, func(p *impl.Poll) { p.Nodes = p.Nodes[:2] }), spoiled(three, func(p *impl.Poll) { p.Nodes = p.Nodes[1:] }), spoiled(three, func(p *impl.Poll) { p.Nodes[1].Age = 5 }),
		spoiled(three, func(p *impl.Poll) { p.Letters = slices.Repeat(letters(voting(0, 1, 1)), 61) }), spoiled(three, func(p *impl.Poll) { p.Letters = slices.Repeat(letters(voting(0, 1, 1)), 62) }), spoiled(three, func(p *impl.Poll) { p.Letters = make([]impl.Letter, 60) }), spoiled(three, func(p *impl.Poll) { p.Letters = make([]impl.Letter, 5000) }),
		spoiled(three, func(p *impl.Poll) { p.Leaders = manyLeaders(301) }), spoiled(three, func(p *impl.Poll) { p.Leaders = manyLeaders(302) }), spoiled(three, func(p *impl.Poll) { p.Leaders = make([][]int, 300) }), spoiled(three, func(p *impl.Poll) { p.Leaders = manyLeaders(5000) }),
	}
	for i, x := range badVoters() {
		out = append(out, spoiled(three, func(p *impl.Poll) { p.Nodes[i%3], p.Letters = x, nil }), spoiled(three, func(p *impl.Poll) { p.Nodes[(i+1)%3], p.Letters = x, nil }))
	}
	for _, x := range badLetters() {
		out = append(out, spoiled(three, func(p *impl.Poll) { p.Letters[0] = x }), spoiled(three, func(p *impl.Poll) { p.Letters = append(p.Letters, x) }))
	}
	for _, row := range badRows() {
		out = append(out, spoiled(three, func(p *impl.Poll) { p.Leaders[0] = row }), spoiled(three, func(p *impl.Poll) { p.Leaders = append(p.Leaders, row) }))
	}
	return out
}

// plainStep goes by the chapter's words, one behind the other, on a copy.
func plainStep(p impl.Poll, s impl.VoteStep) (impl.Poll, bool) {
	q := clonePoll(p)
	if s.Kind == impl.VoStand || s.Kind == impl.VoStop {
		if s.K < 0 || s.K > len(q.Nodes)-1 {
			return impl.Poll{}, false
		}
		x := q.Nodes[s.K]
		if s.Kind == impl.VoStop {
			q.Nodes[s.K] = voter(x.Term, x.Voted, x.Age, 0)
			return q, true
		}
		if x.Term >= 200 {
			return impl.Poll{}, false
		}
		q.Nodes[s.K] = voter(x.Term+1, s.K, x.Age, 1, s.K)
		for to := range q.Nodes {
			if to != s.K && len(q.Letters) < 60 {
				q.Letters = append(q.Letters, asking(s.K, to, x.Term+1, x.Age))
			}
		}
		return plainLead(q, s.K), true
	}
	if !among(s.Kind, 2, 4) || s.K < 0 || s.K > len(q.Letters)-1 {
		return impl.Poll{}, false
	}
	x := q.Letters[s.K]
	if s.Kind == impl.VoTwice {
		q.Letters = append(q.Letters, x)
		return q, len(q.Letters) <= 60
	}
	q.Letters = append(slices.Clone(q.Letters[:s.K]), q.Letters[s.K+1:]...)
	if s.Kind == impl.VoTake {
		q = plainTake(q, x)
	}
	return q, true
}

func plainLead(q impl.Poll, k int) impl.Poll {
	if 2*len(q.Nodes[k].Heard) > len(q.Nodes) {
		q.Nodes[k].Role = 2
		q.Leaders = append(q.Leaders, []int{q.Nodes[k].Term, k})
		q.Leaders = q.Leaders[:min(len(q.Leaders), 300)]
	}
	return q
}

func plainTake(q impl.Poll, x impl.Letter) impl.Poll {
	to := &q.Nodes[x.To]
	if x.Term > to.Term {
		*to = voter(x.Term, -1, to.Age, 0)
	}
	if x.Term == to.Term && x.Ask && (to.Voted == -1 || to.Voted == x.From) && to.Age <= x.Age {
		to.Voted = x.From
		q.Letters = append(q.Letters, voting(x.To, x.From, x.Term))
	}
	if x.Term == to.Term && !x.Ask && to.Role == 1 {
		to.Heard = append(to.Heard, x.From)
		slices.Sort(to.Heard)
		to.Heard = slices.Compact(to.Heard)
		q = plainLead(q, x.To)
	}
	return q
}

// checkStep holds a step of a good poll against the plain one.
func checkStep(t *testing.T, p impl.Poll, s impl.VoteStep) (impl.Poll, bool) {
	t.Helper()
	want, is := plainStep(p, s)
	if !is {
		want = impl.Poll{}
	}
	got, ok := impl.StepPoll(p, s)
	if ok != is || !samePoll(got, want) {
		t.Fatalf("%v of %v: %v %v, not %v %v", s, p, got, ok, want, is)
	}
	if ok && !impl.GoodPoll(got) {
		t.Fatalf("%v of %v: not good: %v", s, p, got)
	}
	return got, ok
}

func TestVotesHaveTheirLimits(t *testing.T) {
	if impl.MaxNodes != 5 || impl.MaxLetters != 60 || impl.MaxVoteSteps != 200 {
		t.Error(impl.MaxNodes, impl.MaxLetters, impl.MaxVoteSteps)
	}
	if impl.VoStand != 1 || impl.VoTake != 2 || impl.VoLose != 3 || impl.VoTwice != 4 || impl.VoStop != 5 {
		t.Error(impl.VoStand, impl.VoTake, impl.VoLose, impl.VoTwice, impl.VoStop)
	}
}

func TestMajorityOfTellsAsSaid(t *testing.T) {
	for n, want := range map[int]int{1: 1, 2: 2, 3: 2, 4: 3, 5: 3, 6: 4, 99: 50, 100: 51} {
		if m, ok := impl.MajorityOf(n); m != want || !ok {
			t.Errorf("%d: %d %v", n, m, ok)
		}
	}
	// A majority is the least number such that what is left of all is less.
	for n := 1; n <= 100; n++ {
		m, ok := impl.MajorityOf(n)
		if !ok || m <= n-m || m-1 > n-(m-1) {
			t.Errorf("%d: %d %v", n, m, ok)
		}
	}
	for _, n := range append(noNumbers(), 0, -1, -2, -100, 101, 102, 1000) {
		if m, ok := impl.MajorityOf(n); m != 0 || ok {
			t.Errorf("%d: %d %v", n, m, ok)
		}
	}
}

func TestIsOverlapTellsAsSaid(t *testing.T) {
	for _, c := range []struct {
		n    int
		a, b []int
		ok   bool
	}{
		{1, []int{0}, []int{0}, true}, {2, []int{0, 1}, []int{0, 1}, true}, {3, []int{0, 1}, []int{1, 2}, true}, {3, []int{0, 2}, []int{0, 1}, true}, {4, []int{0, 1, 2}, []int{1, 2, 3}, true}, {5, []int{0, 1, 2}, []int{2, 3, 4}, true}, {5, []int{0, 1, 2, 3, 4}, []int{0, 3, 4}, true},
		// They are too few: where nobody is in both, and where somebody is.
		{1, nil, nil, false}, {1, []int{0}, nil, false}, {1, nil, []int{0}, false}, {2, []int{0}, []int{1}, false}, {2, []int{0}, []int{0}, false}, {2, []int{0, 1}, []int{1}, false}, {3, []int{0}, []int{1, 2}, false}, {3, []int{1}, []int{1, 2}, false}, {4, []int{0, 1}, []int{2, 3}, false}, {4, []int{0, 1, 2}, []int{2, 3}, false}, {5, []int{0, 1}, []int{2, 3, 4}, false}, {5, []int{0, 1, 2}, []int{3, 4}, false}, {5, []int{0, 1}, []int{0, 1}, false},
		// They do not rise, or name what is no node.
		{3, []int{1, 0}, []int{1, 2}, false}, {3, []int{0, 1}, []int{2, 1}, false}, {3, []int{1, 1}, []int{1, 2}, false}, {3, []int{0, 1}, []int{1, 1, 2}, false}, {3, []int{-1, 0}, []int{0, 1}, false}, {3, []int{0, 1}, []int{1, 3}, false}, {3, []int{0, 1, 2, 3}, []int{0, 1}, false}, {1, []int{1}, []int{1}, false}, {5, []int{3, 4, 5}, []int{3, 4, 5}, false},
		{0, nil, nil, false}, {0, []int{0}, []int{0}, false}, {6, []int{0, 1, 2, 3}, []int{0, 1, 2, 3}, false}, {6, []int{0, 1, 2, 3, 4, 5}, []int{0, 1, 2, 3, 4, 5}, false}, {-1, nil, nil, false}, {5, rising(0, 1, 5000), rising(0, 1, 5000), false},
	} {
		// Two majorities always have one in both.
		if is, ok := impl.IsOverlap(c.n, c.a, c.b); is != c.ok || ok != c.ok {
			t.Errorf("%d %v %v: %v %v", c.n, c.a, c.b, is, ok)
		}
	}
	for _, n := range noNumbers() {
		if is, ok := impl.IsOverlap(n, []int{0, 1, 2}, []int{0, 1, 2}); is || ok {
			t.Errorf("%d: %v %v", n, is, ok)
		}
		if is, ok := impl.IsOverlap(3, []int{0, 1}, []int{0, n}); is || ok {
			t.Errorf("%d: %v %v", n, is, ok)
		}
	}
}

func inMask(mask int) []int {
	var out []int
	for k := range 7 {
		if mask>>k&1 == 1 {
			out = append(out, k)
		}
	}
	return out
}

// Every two lists of nodes, each by the bits of a number.
func TestIsOverlapOfAllLists(t *testing.T) {
	for n := -1; n <= 7; n++ {
		for a := range 128 {
			for b := range 128 {
				x, y := uint(a), uint(b)
				good := among(n, 1, 5) && a>>n == 0 && b>>n == 0 && 2*bits.OnesCount(x) > n && 2*bits.OnesCount(y) > n
				is, ok := impl.IsOverlap(n, inMask(a), inMask(b))
				if ok != good || is != (good && a&b != 0) {
					t.Fatalf("%d %v %v: %v %v", n, inMask(a), inMask(b), is, ok)
				}
			}
		}
	}
}

func TestNewPollTellsAsSaid(t *testing.T) {
	for _, ages := range [][]int{{0}, {9}, {0, 9}, {3, 3, 3}, {9, 8, 7, 6}, {0, 1, 2, 3, 4}, {9, 9, 9, 9, 9}, {5, 0, 9, 0, 5}} {
		var want impl.Poll
		for _, age := range ages {
			want.Nodes = append(want.Nodes, voter(0, -1, age, 0))
		}
		if p, ok := impl.NewPoll(ages); !samePoll(p, want) || !ok || !impl.GoodPoll(p) {
			t.Errorf("%v: %v %v", ages, p, ok)
		}
	}
	bad := [][]int{nil, {}, repeated(0, 6), repeated(9, 7), repeated(1, 5000), {-1}, {10}, {0, -1}, {-1, 0}, {0, 10}, {10, 0}, {0, 1, 2, 3, 10}, {0, 1, -1, 3, 4}}
	for _, n := range noNumbers() {
		bad = append(bad, []int{n}, []int{0, 9, n})
	}
	for _, ages := range bad {
		if p, ok := impl.NewPoll(ages); !isZeroPoll(p) || ok {
			t.Errorf("%v: %v %v", ages, p, ok)
		}
	}
	for age := -3; age <= 13; age++ {
		for many := range 8 {
			if _, ok := impl.NewPoll(repeated(age, many)); ok != (among(age, 0, 9) && among(many, 1, 5)) {
				t.Error(many, "of Age", age)
			}
		}
	}
}

func TestGoodPollTellsAsSaid(t *testing.T) {
	for _, p := range goodPolls() {
		if !impl.GoodPoll(p) || !plainGoodPoll(p) {
			t.Errorf("refused: %v", p)
		}
	}
	for _, p := range badPolls() {
		if impl.GoodPoll(p) || plainGoodPoll(p) {
			t.Errorf("taken: %v", p)
		}
	}
}

func TestPollsHaveAtMostSoMany(t *testing.T) {
	for many := range 8 {
		if impl.GoodPoll(quiet(many, 1)) != among(many, 1, 5) {
			t.Error(many, "nodes")
		}
	}
	for many := 50; many <= 70; many++ {
		p := quiet(2, 1)
		p.Letters = slices.Repeat(letters(voting(1, 0, 1)), many)
		if impl.GoodPoll(p) != (many <= 60) {
			t.Error(many, "letters")
		}
	}
	for many := 290; many <= 310; many++ {
		p := quiet(2, 1)
		p.Leaders = manyLeaders(many)
		if impl.GoodPoll(p) != (many <= 300) {
			t.Error(many, "Leaders")
		}
	}
}

func TestPollNumbersAreInTheirLimits(t *testing.T) {
	for n := -5; n <= 210; n++ {
		for role := range 3 {
			p := quiet(3, 7)
			p.Nodes[1].Role = role
			for name, c := range map[string]struct {
				change func(*impl.Poll)
				good   bool
			}{
				"Term":     {func(p *impl.Poll) { p.Nodes[1].Term = n }, among(n, 0, 200)},
				"Voted":    {func(p *impl.Poll) { p.Nodes[1].Voted = n }, among(n, -1, 2)},
				"Age":      {func(p *impl.Poll) { p.Nodes[1].Age = n }, among(n, 0, 9)},
				"Role":     {func(p *impl.Poll) { p.Nodes[1].Role = n }, among(n, 0, 2)},
				"Heard":    {func(p *impl.Poll) { p.Nodes[1].Heard = []int{n} }, role > 0 && among(n, 0, 2)},
				"heard":    {func(p *impl.Poll) { p.Nodes[1].Heard = []int{1, n} }, role > 0 && n == 2},
				"From":     {func(p *impl.Poll) { p.Letters = letters(voting(n, 0, 1)) }, among(n, 0, 2)},
				"To":       {func(p *impl.Poll) { p.Letters = letters(asking(0, n, 1, 0)) }, among(n, 0, 2)},
				"term":     {func(p *impl.Poll) { p.Letters = letters(asking(0, 1, n, 0)) }, among(n, 1, 200)},
				"vote":     {func(p *impl.Poll) { p.Letters = letters(voting(0, 1, n)) }, among(n, 1, 200)},
				"vote Age": {func(p *impl.Poll) { p.Letters = letters(impl.Letter{To: 1, Term: 1, Age: n}) }, n == 0},
				"Ask Age":  {func(p *impl.Poll) { p.Nodes[0].Age, p.Letters = 6, letters(asking(0, 1, 1, n)) }, n == 6},
				"lead":     {func(p *impl.Poll) { p.Leaders = leaders(n, 2) }, among(n, 0, 200)},
				"leader":   {func(p *impl.Poll) { p.Leaders = leaders(2, n) }, among(n, 0, 2)},
			} {
				if impl.GoodPoll(spoiled(p, c.change)) != c.good {
					t.Errorf("%s of %d with Role %d", name, n, role)
				}
			}
		}
	}
}

// Any one thing of a good poll is changed: it is good still just if the plain walk says so.
func TestGoodPollTellsWhatIsChanged(t *testing.T) {
	r := rand.New(rand.NewSource(82))
	good, bad := 0, 0
	for range 20000 {
		p := anyPoll(r)
		n := []int{-2, -1, 0, 1, 2, 3, 4, 5, 6, 9, 10, 199, 200, 201, math.MinInt, math.MaxInt}[r.Intn(16)]
		x := &p.Nodes[r.Intn(len(p.Nodes))]
		p.Letters = append(p.Letters[:min(len(p.Letters), 59)], voting(0, 0, 1))
		p.Leaders = append(p.Leaders[:min(len(p.Leaders), 299)], []int{1, 0})
		y := &p.Letters[r.Intn(len(p.Letters))]
		row := p.Leaders[r.Intn(len(p.Leaders))]
		switch r.Intn(13) {
		case 0:
			x.Term = n
		case 1:
			x.Voted = n
		case 2:
			x.Age = n
		case 3:
			x.Role = n
		case 4:
			x.Heard = append(x.Heard, n)
		case 5:
			y.From = n
		case 6:
			y.To = n
		case 7:
			y.Term = n
		case 8:
			y.Age = n
		case 9:
			y.Ask = !y.Ask
		case 10:
			row[r.Intn(2)] = n
		case 11:
			p.Letters = append(p.Letters, slices.Repeat(p.Letters[:1], r.Intn(3))...)
		case 12:
			p.Nodes = append(p.Nodes, slices.Repeat(p.Nodes[:1], r.Intn(3))...)
		}
		is := impl.GoodPoll(p)
		if is != plainGoodPoll(p) {
			t.Fatalf("%v: %v", p, is)
		}
		if is {
			good++
		} else {
			bad++
		}
	}
	if good < 3000 || bad < 3000 {
		t.Error("too few of one kind:", good, bad)
	}
}

// voteCase is a poll, a step, and what it leaves; a step that can't be done leaves no poll.
type voteCase struct {
	name string
	p    impl.Poll
	s    impl.VoteStep
	want impl.Poll
}

func checkCases(t *testing.T, l []voteCase) {
	t.Helper()
	for _, c := range l {
		if !impl.GoodPoll(c.p) {
			t.Errorf("%s: not good", c.name)
		}
		got, ok := impl.StepPoll(c.p, c.s)
		if !samePoll(got, c.want) || ok == isZeroPoll(c.want) {
			t.Errorf("%s: %v %v, not %v", c.name, got, ok, c.want)
		}
		checkStep(t, c.p, c.s)
	}
}

func step(kind int, k int) impl.VoteStep { return impl.VoteStep{Kind: kind, K: k} }

func TestStandingTellsAsSaid(t *testing.T) {
	none := impl.Poll{}
	some := voting(1, 0, 5)
	old := func(many int) []impl.Letter { return slices.Repeat(letters(some), many) }
	three := func(l []impl.Letter) impl.Poll {
		return pollOf(l, nil, voter(4, -1, 1, 0), voter(6, 2, 7, 0), voter(3, 0, 9, 0))
	}
	stood := func(l []impl.Letter, more ...impl.Letter) impl.Poll {
		return pollOf(append(l, more...), nil, voter(4, -1, 1, 0), voter(7, 1, 7, 1, 1), voter(3, 0, 9, 0))
	}
	first, second := asking(1, 0, 7, 7), asking(1, 2, 7, 7)
	checkCases(t, []voteCase{
		{"alone it leads at once", quiet(1, 0), step(impl.VoStand, 0), pollOf(nil, leaders(1, 0), voter(1, 0, 0, 2, 0))},
		{"alone, in a last term", quiet(1, 199), step(impl.VoStand, 0), pollOf(nil, leaders(200, 0), voter(200, 0, 0, 2, 0))},
		{"alone, with no term left", quiet(1, 200), step(impl.VoStand, 0), none},
		{"who leads alone stands and leads anew", pollOf(nil, leaders(1, 0), voter(1, 0, 3, 2, 0)), step(impl.VoStand, 0), pollOf(nil, leaders(1, 0, 2, 0), voter(2, 0, 3, 2, 0))},
		{"among three", three(nil), step(impl.VoStand, 1), stood(nil, first, second)},
		{"behind other letters", three(old(2)), step(impl.VoStand, 1), stood(old(2), first, second)},
		{"with just room", three(old(58)), step(impl.VoStand, 1), stood(old(58), first, second)},
		{"with room for one letter", three(old(59)), step(impl.VoStand, 1), stood(old(59), first)},
		{"with no room", three(old(60)), step(impl.VoStand, 1), stood(old(60))},
		{"among two", quiet(2, 0), step(impl.VoStand, 1), pollOf(letters(asking(1, 0, 1, 0)), nil, voter(0, -1, 0, 0), voter(1, 1, 0, 1, 1))},
		{"among five", quiet(5, 9), step(impl.VoStand, 2), pollOf(letters(asking(2, 0, 10, 0), asking(2, 1, 10, 0), asking(2, 3, 10, 0), asking(2, 4, 10, 0)), nil, voter(9, -1, 0, 0), voter(9, -1, 0, 0), voter(10, 2, 0, 1, 2), voter(9, -1, 0, 0), voter(9, -1, 0, 0))},
		{"among others, in a last term", quiet(2, 199), step(impl.VoStand, 0), pollOf(letters(asking(0, 1, 200, 0)), nil, voter(200, 0, 0, 1, 0), voter(199, -1, 0, 0))},
		{"among others, with no term left", quiet(2, 200), step(impl.VoStand, 0), none},
		{"who stands stands anew, unheard", pollOf(nil, nil, voter(2, 0, 0, 1, 0, 1), voter(2, 0, 0, 0), voter(0, -1, 0, 0), voter(0, -1, 0, 0)), step(impl.VoStand, 0), pollOf(letters(asking(0, 1, 3, 0), asking(0, 2, 3, 0), asking(0, 3, 3, 0)), nil, voter(3, 0, 0, 1, 0), voter(2, 0, 0, 0), voter(0, -1, 0, 0), voter(0, -1, 0, 0))},
		{"who leads stands anew", pollOf(nil, leaders(2, 1), voter(2, 1, 0, 0), voter(2, 1, 0, 2, 0, 1)), step(impl.VoStand, 1), pollOf(letters(asking(1, 0, 3, 0)), leaders(2, 1), voter(2, 1, 0, 0), voter(3, 1, 0, 1, 1))},
		{"who voted for another", pollOf(nil, nil, voter(2, 1, 0, 0), voter(2, 1, 0, 1, 1)), step(impl.VoStand, 0), pollOf(letters(asking(0, 1, 3, 0)), nil, voter(3, 0, 0, 1, 0), voter(2, 1, 0, 1, 1))},
	})
}

func TestTakingAnAskTellsAsSaid(t *testing.T) {
	// Node 0 takes what node 1, of Age 5, asks in term 4; node 2 is by.
	poll := func(l []impl.Letter, x impl.Node) impl.Poll {
		return pollOf(l, leaders(1, 2), x, voter(4, 1, 5, 1, 1), voter(2, -1, 0, 0))
	}
	ask, vote := letters(asking(1, 0, 4, 5)), letters(voting(0, 1, 4))
	take := step(impl.VoTake, 0)
	for name, c := range map[string]struct{ x, want impl.Node }{
		"nobody, lesser Age":           {voter(4, -1, 4, 0), voter(4, 1, 4, 0)},
		"nobody, like Age":             {voter(4, -1, 5, 0), voter(4, 1, 5, 0)},
		"From, lesser Age":             {voter(4, 1, 0, 0), voter(4, 1, 0, 0)},
		"From, like Age":               {voter(4, 1, 5, 0), voter(4, 1, 5, 0)},
		"a greater Term, nobody":       {voter(3, -1, 5, 0), voter(4, 1, 5, 0)},
		"a greater Term, another":      {voter(3, 2, 5, 0), voter(4, 1, 5, 0)},
		"a greater Term, itself":       {voter(1, 0, 5, 1, 0), voter(4, 1, 5, 0)},
		"a greater Term, who leads":    {voter(3, 0, 5, 2, 0, 2), voter(4, 1, 5, 0)},
		"a greater Term, from nothing": {voter(0, -1, 0, 0), voter(4, 1, 0, 0)},
		"nobody, and it stands":        {voter(4, -1, 5, 1, 0), voter(4, 1, 5, 1, 0)},
		"From, and it leads":           {voter(4, 1, 5, 2, 0, 1), voter(4, 1, 5, 2, 0, 1)},
	} {
		checkCases(t, []voteCase{{name, poll(ask, c.x), take, poll(vote, c.want)}})
	}
	for name, c := range map[string]struct{ x, want impl.Node }{
		"nobody, greater Age":          {voter(4, -1, 6, 0), voter(4, -1, 6, 0)},
		"nobody, greatest Age":         {voter(4, -1, 9, 0), voter(4, -1, 9, 0)},
		"From, greater Age":            {voter(4, 1, 6, 0), voter(4, 1, 6, 0)},
		"another, lesser Age":          {voter(4, 2, 0, 0), voter(4, 2, 0, 0)},
		"another, like Age":            {voter(4, 2, 5, 0), voter(4, 2, 5, 0)},
		"another, greater Age":         {voter(4, 2, 6, 0), voter(4, 2, 6, 0)},
		"itself, and it stands":        {voter(4, 0, 0, 1, 0), voter(4, 0, 0, 1, 0)},
		"itself, and it leads":         {voter(4, 0, 0, 2, 0, 2), voter(4, 0, 0, 2, 0, 2)},
		"itself, and it stopped":       {voter(4, 0, 0, 0), voter(4, 0, 0, 0)},
		"a lesser Term, nobody":        {voter(5, -1, 0, 0), voter(5, -1, 0, 0)},
		"a lesser Term, From":          {voter(5, 1, 0, 0), voter(5, 1, 0, 0)},
		"a lesser Term, last of all":   {voter(200, -1, 0, 0), voter(200, -1, 0, 0)},
		"a greater Term, greater Age":  {voter(3, -1, 6, 0), voter(4, -1, 6, 0)},
		"a greater Term, leads, older": {voter(3, 0, 9, 2, 0, 2), voter(4, -1, 9, 0)},
		"a greater Term, voted, older": {voter(3, 1, 9, 0), voter(4, -1, 9, 0)},
	} {
		checkCases(t, []voteCase{{name, poll(ask, c.x), take, poll(nil, c.want)}})
	}
}

func TestTakingAVoteTellsAsSaid(t *testing.T) {
	poll := func(l []impl.Letter, rows [][]int, nodes int, x impl.Node) impl.Poll {
		p := quiet(nodes, 4)
		p.Nodes[0], p.Letters, p.Leaders = x, l, rows
		return p
	}
	take := step(impl.VoTake, 0)
	from := func(k int) []impl.Letter { return letters(voting(k, 0, 4)) }
	for _, c := range []struct {
		name  string
		nodes int
		from  int
		x     impl.Node
		want  impl.Node
		leads bool
	}{
		{"a majority of two", 2, 1, voter(4, 0, 3, 1, 0), voter(4, 0, 3, 2, 0, 1), true},
		{"a majority of three", 3, 2, voter(4, 0, 3, 1, 0), voter(4, 0, 3, 2, 0, 2), true},
		{"not yet one of four", 4, 2, voter(4, 0, 3, 1, 0), voter(4, 0, 3, 1, 0, 2), false},
		{"a majority of four", 4, 1, voter(4, 0, 3, 1, 0, 2), voter(4, 0, 3, 2, 0, 1, 2), true},
		{"not yet one of five", 5, 4, voter(4, 0, 3, 1, 0), voter(4, 0, 3, 1, 0, 4), false},
		{"a majority of five", 5, 3, voter(4, 0, 3, 1, 0, 4), voter(4, 0, 3, 2, 0, 3, 4), true},
		{"one comes twice", 4, 2, voter(4, 0, 3, 1, 0, 2), voter(4, 0, 3, 1, 0, 2), false},
		{"its own comes", 3, 0, voter(4, 0, 3, 1, 0), voter(4, 0, 3, 1, 0), false},
		{"the first one, unheard till then", 5, 4, voter(4, 0, 3, 1), voter(4, 0, 3, 1, 4), false},
		{"alone, unheard till then", 1, 0, voter(4, 0, 3, 1), voter(4, 0, 3, 2, 0), true},
		{"twice, with a majority heard already", 3, 1, voter(4, 0, 3, 1, 0, 1), voter(4, 0, 3, 2, 0, 1), true},
		{"one more, with a majority heard already", 3, 2, voter(4, 0, 3, 1, 0, 1), voter(4, 0, 3, 2, 0, 1, 2), true},
		{"it leads already", 3, 2, voter(4, 0, 3, 2, 0, 1), voter(4, 0, 3, 2, 0, 1), false},
		{"it leads already, once more", 3, 1, voter(4, 0, 3, 2, 0, 1), voter(4, 0, 3, 2, 0, 1), false},
		{"it does neither", 3, 1, voter(4, 0, 3, 0), voter(4, 0, 3, 0), false},
		{"it does neither, and voted for another", 3, 1, voter(4, 1, 3, 0), voter(4, 1, 3, 0), false},
		{"a lesser Term", 3, 1, voter(5, 0, 3, 1, 0), voter(5, 0, 3, 1, 0), false},
		{"a lesser Term, and it leads", 3, 1, voter(5, 0, 3, 2, 0, 2), voter(5, 0, 3, 2, 0, 2), false},
		{"a greater Term", 3, 1, voter(3, 0, 3, 1, 0), voter(4, -1, 3, 0), false},
		{"a greater Term, and it leads", 3, 1, voter(3, 0, 3, 2, 0, 2), voter(4, -1, 3, 0), false},
		{"a greater Term, and it does neither", 2, 1, voter(3, 1, 3, 0), voter(4, -1, 3, 0), false},
	} {
		after := leaders(1, 0)
		if c.leads {
			after = leaders(1, 0, 4, 0)
		}
		checkCases(t, []voteCase{{c.name, poll(from(c.from), leaders(1, 0), c.nodes, c.x), take, poll(nil, after, c.nodes, c.want)}})
	}
}

func TestLeadersAreAtMostThreeHundred(t *testing.T) {
	for many := 295; many <= 300; many++ {
		lead := func(term int) [][]int { return append(manyLeaders(many), leaders(term, 0)...)[:min(many+1, 300)] }
		standing := pollOf(letters(voting(1, 0, 7)), manyLeaders(many), voter(7, 0, 0, 1, 0), voter(7, 0, 0, 0))
		alone := pollOf(nil, manyLeaders(many), voter(7, 0, 0, 0))
		checkCases(t, []voteCase{
			{"by a vote", standing, step(impl.VoTake, 0), pollOf(nil, lead(7), voter(7, 0, 0, 2, 0, 1), voter(7, 0, 0, 0))},
			{"alone", alone, step(impl.VoStand, 0), pollOf(nil, lead(8), voter(8, 0, 0, 2, 0))},
		})
	}
}

func TestLettersAreLostAndPutBehind(t *testing.T) {
	a, b, c := asking(0, 1, 2, 0), voting(1, 0, 3), asking(2, 1, 4, 0)
	poll := func(l ...impl.Letter) impl.Poll {
		p := quiet(3, 2)
		p.Letters = l
		return p
	}
	checkCases(t, []voteCase{
		{"lose the first", poll(a, b, c), step(impl.VoLose, 0), poll(b, c)},
		{"lose one between", poll(a, b, c), step(impl.VoLose, 1), poll(a, c)},
		{"lose the last", poll(a, b, c), step(impl.VoLose, 2), poll(a, b)},
		{"lose the only one", poll(a), step(impl.VoLose, 0), poll()},
		{"the first twice", poll(a, b, c), step(impl.VoTwice, 0), poll(a, b, c, a)},
		{"one between twice", poll(a, b, c), step(impl.VoTwice, 1), poll(a, b, c, b)},
		{"the last twice", poll(a, b, c), step(impl.VoTwice, 2), poll(a, b, c, c)},
		{"the only one twice", poll(b), step(impl.VoTwice, 0), poll(b, b)},
		{"one between taken", poll(a, b, c), step(impl.VoTake, 1), pollOf(letters(a, c), nil, voter(3, -1, 0, 0), voter(2, -1, 0, 0), voter(2, -1, 0, 0))},
		{"the first taken", poll(a, b, c), step(impl.VoTake, 0), pollOf(letters(b, c, voting(1, 0, 2)), nil, voter(2, -1, 0, 0), voter(2, 0, 0, 0), voter(2, -1, 0, 0))},
		{"the last taken", poll(a, b, c), step(impl.VoTake, 2), pollOf(letters(a, b, voting(1, 2, 4)), nil, voter(2, -1, 0, 0), voter(4, 2, 0, 0), voter(2, -1, 0, 0))},
	})
	for many := 57; many <= 60; many++ {
		full := append(slices.Repeat(letters(b), many-2), c, a)
		var twice impl.Poll
		if many < 60 {
			twice = poll(append(slices.Clone(full), c)...)
		}
		// A letter leaves ahead of what it brings about: the vote takes its room.
		taken := poll(append(slices.Clone(full[:many-1]), voting(1, 0, 2))...)
		taken.Nodes[1].Voted = 0
		checkCases(t, []voteCase{
			{"twice among many", poll(full...), step(impl.VoTwice, many-2), twice},
			{"taken among many", poll(full...), step(impl.VoTake, many-1), taken},
			{"lost among many", poll(full...), step(impl.VoLose, many-1), poll(full[:many-1]...)},
		})
	}
}

func TestStoppingKeepsTheVote(t *testing.T) {
	poll := func(x impl.Node) impl.Poll {
		return pollOf(letters(asking(1, 0, 4, 3)), leaders(4, 0), x, voter(4, 1, 3, 1, 1), voter(4, 0, 3, 0))
	}
	stop := step(impl.VoStop, 0)
	checkCases(t, []voteCase{
		{"who leads", poll(voter(4, 0, 2, 2, 0, 2)), stop, poll(voter(4, 0, 2, 0))},
		{"who stands", poll(voter(4, 0, 2, 1, 0)), stop, poll(voter(4, 0, 2, 0))},
		{"who stands unheard", poll(voter(4, 0, 2, 1)), stop, poll(voter(4, 0, 2, 0))},
		{"who does neither", poll(voter(4, 2, 2, 0)), stop, poll(voter(4, 2, 2, 0))},
		{"who voted for nobody", poll(voter(4, -1, 2, 0)), stop, poll(voter(4, -1, 2, 0))},
		{"in no term", pollOf(nil, nil, voter(0, -1, 0, 0)), stop, pollOf(nil, nil, voter(0, -1, 0, 0))},
		{"in the last term", pollOf(nil, nil, voter(200, 0, 0, 2, 0)), stop, pollOf(nil, nil, voter(200, 0, 0, 0))},
	})
	// Node 2 voted for 0 in the term, and stops: it has no vote for 1 then, but the one for 0 still counts, and is given again.
	l := []impl.VoteStep{step(impl.VoStand, 0), step(impl.VoStand, 1), step(impl.VoTwice, 1), step(impl.VoTake, 1), step(impl.VoStop, 2), step(impl.VoTake, 2), step(impl.VoTake, 2)}
	p := checkPlay(t, []int{0, 0, 0}, l)
	want := pollOf(letters(asking(0, 1, 1, 0), asking(1, 0, 1, 0), voting(2, 0, 1), voting(2, 0, 1)), nil, voter(1, 0, 0, 1, 0), voter(1, 1, 0, 1, 1), voter(1, 0, 0, 0))
	if !samePoll(p, want) {
		t.Error(p)
	}
	p = checkPlay(t, []int{0, 0, 0}, append(l, step(impl.VoTake, 2), step(impl.VoTake, 2), step(impl.VoTake, 1), step(impl.VoTake, 0)))
	want = pollOf(nil, leaders(1, 0), voter(1, 0, 0, 2, 0, 2), voter(1, 1, 0, 1, 1), voter(1, 0, 0, 0))
	if !samePoll(p, want) {
		t.Error(p)
	}
}

func TestStepsThatCanNotBeDone(t *testing.T) {
	p := pollOf(letters(asking(0, 1, 1, 0), voting(1, 0, 1), asking(0, 2, 1, 0)), leaders(1, 0), voter(1, 0, 0, 2, 0, 1), voter(1, 0, 0, 0), voter(0, -1, 0, 0), voter(0, -1, 0, 0))
	for kind := -3; kind <= 9; kind++ {
		for k := -3; k <= 8; k++ {
			_, ok := checkStep(t, p, step(kind, k))
			node, letter := among(k, 0, 3), among(k, 0, 2)
			can := map[int]bool{1: node, 2: letter, 3: letter, 4: letter, 5: node}[kind]
			if ok != can {
				t.Errorf("kind %d of %d: %v", kind, k, ok)
			}
		}
		for _, k := range noNumbers() {
			if q, ok := impl.StepPoll(p, step(kind, k)); !isZeroPoll(q) || ok {
				t.Errorf("kind %d of %d: %v %v", kind, k, q, ok)
			}
		}
	}
	for _, kind := range noNumbers() {
		if q, ok := impl.StepPoll(p, step(kind, 0)); !isZeroPoll(q) || ok {
			t.Errorf("kind %d: %v %v", kind, q, ok)
		}
	}
	for kind := impl.VoTake; kind <= impl.VoTwice; kind++ {
		if q, ok := impl.StepPoll(quiet(5, 1), step(kind, 0)); !isZeroPoll(q) || ok {
			t.Errorf("kind %d of no letter: %v %v", kind, q, ok)
		}
	}
}

func TestStepsOfAnyGoodPoll(t *testing.T) {
	r := rand.New(rand.NewSource(83))
	done, not := 0, 0
	for _, p := range goodPolls() {
		for kind := 0; kind <= 6; kind++ {
			for _, k := range []int{-1, 0, 1, len(p.Nodes) - 1, len(p.Nodes), len(p.Letters) - 1, len(p.Letters), r.Intn(60)} {
				if _, ok := checkStep(t, p, step(kind, k)); ok {
					done++
				} else {
					not++
				}
			}
		}
		for k := range p.Letters {
			checkStep(t, p, step(impl.VoTake, k))
		}
	}
	if done < 2000 || not < 2000 {
		t.Error("too few of one kind:", done, not)
	}
}

func TestStepsOfNoGoodPoll(t *testing.T) {
	for _, p := range badPolls() {
		refusePoll(t, p)
	}
}

func refusePoll(t *testing.T, p impl.Poll) {
	t.Helper()
	if impl.GoodPoll(p) {
		t.Errorf("taken: %v", p)
	}
	for kind := 0; kind <= 6; kind++ {
		for k := range 3 {
			if q, ok := impl.StepPoll(p, step(kind, k)); !isZeroPoll(q) || ok {
				t.Errorf("kind %d of %d of %v: %v %v", kind, k, p, q, ok)
			}
		}
	}
	for _, term := range []int{-1, 0, 1, 2, 3, 200, 201} {
		if k, ok := impl.LeaderOf(p, term); k != 0 || ok {
			t.Errorf("LeaderOf(%v, %d): %d %v", p, term, k, ok)
		}
	}
}

// checkPlay holds a play against plain steps, each from what the one ahead left.
func checkPlay(t *testing.T, ages []int, l []impl.VoteStep) impl.Poll {
	t.Helper()
	p, ok := impl.NewPoll(ages)
	if !ok {
		t.Fatal(ages)
	}
	var did []bool
	for _, s := range l {
		q, is := plainStep(p, s)
		if is {
			p = q
		}
		did = append(did, is)
	}
	got, gotDid, ok := impl.PlayPoll(ages, l)
	if !samePoll(got, p) || !slices.Equal(gotDid, did) || !ok || !impl.GoodPoll(got) {
		t.Fatalf("%v, %v: %v %v %v, not %v %v", ages, l, got, gotDid, ok, p, did)
	}
	return got
}

func TestPlayPollTellsAsSaid(t *testing.T) {
	stand, take := step(impl.VoStand, 0), step(impl.VoTake, 0)
	p := checkPlay(t, []int{0, 0, 0}, []impl.VoteStep{stand, take, step(impl.VoStand, 1), step(impl.VoTake, 1)})
	want := pollOf(letters(asking(0, 2, 1, 0), asking(1, 0, 2, 0), asking(1, 2, 2, 0)), leaders(1, 0), voter(1, 0, 0, 2, 0, 1), voter(2, 1, 0, 1, 1), voter(0, -1, 0, 0))
	if !samePoll(p, want) {
		t.Error(p)
	}
	p = checkPlay(t, []int{3, 4}, []impl.VoteStep{stand, take, step(impl.VoTwice, 0), step(impl.VoStand, 1), take, take})
	if want = pollOf(nil, leaders(2, 1), voter(2, 1, 3, 0), voter(2, 1, 4, 2, 0, 1)); !samePoll(p, want) {
		t.Error(p)
	}
	// What can't be done changes nothing, and what follows goes on from there.
	p = checkPlay(t, []int{9}, []impl.VoteStep{take, step(0, 0), step(6, 0), step(impl.VoStand, 1), step(impl.VoStop, -1), stand, step(impl.VoLose, 0), step(impl.VoStop, 0)})
	if want = pollOf(nil, leaders(1, 0), voter(1, 0, 9, 0)); !samePoll(p, want) {
		t.Error(p)
	}
}

func TestPlaysHaveAtMostSoManySteps(t *testing.T) {
	for _, many := range []int{0, 1, 2, 199, 200, 201, 202, 5000} {
		l := slices.Repeat([]impl.VoteStep{step(impl.VoStand, 0)}, many)
		p, did, ok := impl.PlayPoll([]int{1}, l)
		if many > 200 {
			if !isZeroPoll(p) || len(did) != 0 || ok {
				t.Error(many, p, did, ok)
			}
			continue
		}
		if !ok || len(did) != many || slices.Contains(did, false) || p.Nodes[0].Term != many || len(p.Leaders) != many {
			t.Error(many, p, did, ok)
		}
		checkPlay(t, []int{1}, l)
		checkPlay(t, []int{1, 2, 3, 4, 5}, l)
		checkPlay(t, []int{1, 2}, slices.Repeat([]impl.VoteStep{step(9, 9)}, many))
	}
	for _, ages := range [][]int{nil, {}, {-1}, {10}, {0, 10}, repeated(0, 6), repeated(0, 5000), {math.MaxInt}, {math.MinInt}} {
		for _, many := range []int{0, 1, 200, 201} {
			p, did, ok := impl.PlayPoll(ages, slices.Repeat([]impl.VoteStep{step(impl.VoStand, 0)}, many))
			if !isZeroPoll(p) || len(did) != 0 || ok {
				t.Errorf("%v: %v %v %v", ages, p, did, ok)
			}
		}
	}
}

func TestLeaderOfTellsAsSaid(t *testing.T) {
	p := quiet(3, 9)
	p.Leaders = leaders(2, 1, 5, 0, 2, 2, 1, 2, 200, 1, 5, 0, 0, 2)
	known := map[int]int{0: 2, 1: 2, 2: 1, 5: 0, 200: 1}
	for term := -3; term <= 205; term++ {
		k, ok := impl.LeaderOf(p, term)
		if want, is := known[term]; k != want || ok != is {
			t.Errorf("%d: %d %v", term, k, ok)
		}
		if k, ok := impl.LeaderOf(quiet(3, 9), term); k != 0 || ok {
			t.Errorf("%d of none: %d %v", term, k, ok)
		}
	}
	for _, term := range noNumbers() {
		if k, ok := impl.LeaderOf(p, term); k != 0 || ok {
			t.Errorf("%d: %d %v", term, k, ok)
		}
	}
	for _, p := range goodPolls() {
		first := map[int]int{}
		for _, row := range slices.Backward(p.Leaders) {
			first[row[0]] = row[1]
		}
		for term := range 201 {
			k, ok := impl.LeaderOf(p, term)
			if want, is := first[term]; k != want || ok != is {
				t.Fatalf("%d of %v: %d %v", term, p, k, ok)
			}
		}
	}
}

// checkOneLeads is promise 8: nobody else led a term that one led, and who leads now is told.
func checkOneLeads(t *testing.T, p impl.Poll) {
	t.Helper()
	by := map[int]int{}
	for _, row := range p.Leaders {
		if k, is := by[row[0]]; is {
			t.Fatalf("term %d is led by %d and %d: %v", row[0], k, row[1], p)
		}
		by[row[0]] = row[1]
	}
	for k, x := range p.Nodes {
		if led, is := by[x.Term]; x.Role == 2 && (!is || led != k) {
			t.Fatalf("%d leads term %d, that %d led: %v", k, x.Term, led, p)
		}
	}
	for term, k := range by {
		if led, ok := impl.LeaderOf(p, term); led != k || !ok {
			t.Fatalf("term %d: %d %v, not %d", term, led, ok, k)
		}
	}
}

// busySteps are those of a poll in which letters are lost, come twice and late, and nodes stop and stand at once.
func busySteps(r *rand.Rand, ages []int, many int) []impl.VoteStep {
	p, _ := impl.NewPoll(ages)
	stands, stops, loses, twice := 1+r.Intn(4), r.Intn(4), r.Intn(4), r.Intn(6)
	var l []impl.VoteStep
	for range many {
		var s impl.VoteStep
		switch n := r.Intn(24); {
		case n < stands || len(p.Letters) == 0:
			s = step(impl.VoStand, r.Intn(len(ages)))
		case n < stands+stops:
			s = step(impl.VoStop, r.Intn(len(ages)))
		case n < stands+stops+loses:
			s = step(impl.VoLose, r.Intn(len(p.Letters)))
		case n < stands+stops+loses+twice:
			s = step(impl.VoTwice, r.Intn(len(p.Letters)))
		default:
			s = step(impl.VoTake, r.Intn(len(p.Letters)))
		}
		if q, ok := impl.StepPoll(p, s); ok {
			p = q
		}
		l = append(l, s)
	}
	return l
}

// Promise 8.
func TestInEachTermAtMostOneLeads(t *testing.T) {
	r := rand.New(rand.NewSource(84))
	led, plays := 0, 0
	for i := range 1500 {
		ages := make([]int, 1+i%5)
		for k := range ages {
			ages[k] = r.Intn(1 + i%3)
		}
		l := busySteps(r, ages, []int{20, 60, 200}[i%3])
		p := checkPlay(t, ages, l)
		checkOneLeads(t, p)
		if len(ages) > 1 {
			led, plays = led+len(p.Leaders), plays+1
		}
	}
	if led < 3*plays {
		t.Error("too few come to lead:", led, "in", plays)
	}
}

// Promise 8, at each step on the way.
func TestAtEachStepAtMostOneLeads(t *testing.T) {
	r := rand.New(rand.NewSource(85))
	for range 60 {
		ages := slices.Repeat([]int{0}, 2+r.Intn(4))
		l := busySteps(r, ages, 200)
		for upto := range len(l) + 1 {
			p, did, ok := impl.PlayPoll(ages, l[:upto])
			if !ok || len(did) != upto {
				t.Fatal(ages, l[:upto])
			}
			checkOneLeads(t, p)
		}
	}
}

// pollKey tells polls alike whose letters are the same ones in another order: any of them can be taken.
func pollKey(p impl.Poll) string {
	var l []int
	for _, x := range p.Letters {
		n := x.Term*1000 + x.From*100 + x.To*10
		if x.Ask {
			n++
		}
		l = append(l, n)
	}
	slices.Sort(l)
	return fmt.Sprint(p.Nodes, l, p.Leaders)
}

// Promise 8, over all that few steps can come to: two stand in one term, and one stops between.
func TestWhateverFewStepsAtMostOneLeads(t *testing.T) {
	for _, ages := range [][]int{{0, 0}, {0, 0, 0}, {1, 0, 0}, {0, 0, 0, 0}} {
		first, _ := impl.NewPoll(ages)
		now, known := []impl.Poll{first}, map[string]bool{pollKey(first): true}
		led := 0
		for range 7 {
			var next []impl.Poll
			for _, p := range now {
				for _, s := range fewSteps(p) {
					q, ok := impl.StepPoll(p, s)
					if !ok {
						t.Fatalf("%v of %v", s, p)
					}
					if key := pollKey(q); !known[key] {
						known[key] = true
						checkOneLeads(t, q)
						next = append(next, q)
						led += len(q.Leaders)
					}
				}
			}
			now = next
		}
		if led == 0 {
			t.Error("nobody led:", ages)
		}
	}
}

// fewSteps stays in the first term, and lets no letter be lost: not to take it is as good.
func fewSteps(p impl.Poll) []impl.VoteStep {
	var out []impl.VoteStep
	for k, x := range p.Nodes {
		if x.Term == 0 {
			out = append(out, step(impl.VoStand, k))
		}
		out = append(out, step(impl.VoStop, k))
	}
	for k := range p.Letters {
		out = append(out, step(impl.VoTake, k), step(impl.VoTwice, k))
	}
	return out
}

// Promise 19: whatever it is given, each function answers.
func TestVotesAnswerAtAnyArguments(t *testing.T) {
	ints := append(noNumbers(), -2, -1, 0, 1, 2, 5, 6, 9, 10, 60, 200, 201)
	for _, x := range ints {
		for _, y := range ints {
			for _, p := range []impl.Poll{
				pollOf(nil, nil, voter(x, y, 0, 0)), pollOf(nil, nil, voter(0, -1, x, y)), pollOf(nil, nil, voter(1, 0, 0, x, y), voter(1, 0, 0, 0)), pollOf(nil, nil, voter(1, 0, 0, 2, x, y), voter(1, 0, 0, 0), voter(y, x, y, x)),
				pollOf(letters(asking(x, y, 1, 0)), nil, voter(1, -1, 0, 0), voter(1, -1, 0, 0)), pollOf(letters(asking(0, 0, x, y)), nil, voter(1, -1, 9, 0)), pollOf(letters(voting(x, 0, y)), nil, voter(1, 0, 0, 1), voter(1, 0, 0, 0)), pollOf(letters(impl.Letter{From: 0, To: x, Term: 1, Age: y}), nil, voter(1, 0, 0, 1), voter(1, 0, 0, 0)),
				pollOf(nil, leaders(x, y), voter(1, 0, 0, 1)), pollOf(nil, [][]int{{x}, {y, x}, {y}}, voter(1, 0, 0, 1)), pollOf(nil, leaders(1, 0, x, y), voter(1, 0, 0, 1), voter(0, 0, 0, 0), voter(0, 0, 0, 0)),
			} {
				if impl.GoodPoll(p) != plainGoodPoll(p) {
					t.Fatalf("GoodPoll(%v)", p)
				}
				if !impl.GoodPoll(p) {
					refusePoll(t, p)
					continue
				}
				for kind := 0; kind <= 6; kind++ {
					checkStep(t, p, step(kind, 0))
					checkStep(t, p, step(kind, x))
				}
				checkStep(t, p, step(x, y))
				impl.LeaderOf(p, x)
			}
			_, did, ok := impl.PlayPoll([]int{x, y}, []impl.VoteStep{step(x, y), step(y, x), step(impl.VoStand, x)})
			if good := among(x, 0, 9) && among(y, 0, 9); ok != good || ok != (len(did) == 3) {
				t.Fatalf("PlayPoll([%d %d], ..): %v %v", x, y, did, ok)
			}
			for _, n := range ints {
				if is, ok := impl.IsOverlap(n, []int{x, y}, []int{y, x}); is || ok {
					t.Fatalf("IsOverlap(%d, [%d %d], [%d %d])", n, x, y, y, x)
				}
			}
		}
	}
}

// votePoll is one in which each kind of step can be done, and each list has something.
func votePoll() impl.Poll {
	return pollOf(letters(asking(1, 0, 4, 2), voting(2, 1, 4), asking(1, 2, 4, 2), voting(2, 1, 3), voting(0, 1, 5)), leaders(1, 2, 3, 0), voter(3, 0, 1, 2, 0, 2), voter(4, 1, 2, 1, 1), voter(4, 1, 0, 0))
}

// roomyPoll is votePoll with much behind its lists in their memory, which is no part of it, though it could be.
func roomyPoll() impl.Poll {
	p := votePoll()
	p.Nodes = append(p.Nodes, voter(4, 1, 0, 1, 1), voter(77, 7, 7, 7, 7))[:3]
	p.Letters = append(p.Letters, voting(0, 1, 4), impl.Letter{Age: 77})[:5]
	p.Leaders = append(p.Leaders, []int{4, 1}, []int{77})[:2]
	for i, x := range p.Nodes {
		p.Nodes[i].Heard = append(x.Heard, 1, 2, 77)[:len(x.Heard)]
	}
	for i, row := range p.Leaders {
		p.Leaders[i] = append(row, 1, 77)[:2]
	}
	return p
}

// withRoom has all of a list's memory, within lists too.
func withRoom(p impl.Poll) impl.Poll {
	q := impl.Poll{Nodes: slices.Clone(p.Nodes[:cap(p.Nodes)]), Letters: p.Letters[:cap(p.Letters)], Leaders: slices.Clone(p.Leaders[:cap(p.Leaders)])}
	for i, x := range q.Nodes {
		q.Nodes[i].Heard = x.Heard[:cap(x.Heard)]
	}
	for i, row := range q.Leaders {
		q.Leaders[i] = row[:cap(row)]
	}
	return q
}

func voteWays() map[string]func(impl.Poll) (impl.Poll, bool) {
	out := map[string]func(impl.Poll) (impl.Poll, bool){}
	for kind := impl.VoStand; kind <= impl.VoStop; kind++ {
		for k := range 5 {
			if k < 3 || kind != impl.VoStand && kind != impl.VoStop {
				out[fmt.Sprint("step ", kind, " of ", k)] = func(p impl.Poll) (impl.Poll, bool) { return impl.StepPoll(p, step(kind, k)) }
			}
		}
	}
	return out
}

// Promise 19: nothing is written into an argument, nor into what lies behind it in its memory, nor is that read.
func TestVotesWriteIntoNoArgument(t *testing.T) {
	p, was := roomyPoll(), withRoom(roomyPoll())
	check := func(name string) {
		t.Helper()
		if !samePoll(withRoom(p), was) {
			t.Fatalf("%s has written: %v", name, withRoom(p))
		}
	}
	if !impl.GoodPoll(p) {
		t.Fatal(p)
	}
	for name, way := range voteWays() {
		x, ok := way(p)
		if y, _ := way(votePoll()); !samePoll(x, y) || !ok {
			t.Errorf("%s: %v %v", name, x, ok)
		}
		check(name)
	}
	for _, n := range manyNumbers() {
		for kind := range 7 {
			impl.StepPoll(p, step(kind, n))
		}
		k, ok := impl.LeaderOf(p, n)
		if want, is := map[int]int{1: 2, 3: 0}[n]; k != want || ok != is {
			t.Errorf("LeaderOf %d: %d %v", n, k, ok)
		}
	}
	check("any number")
	for _, q := range []impl.Poll{withRoom(p), {Nodes: p.Nodes[:5]}, {Nodes: p.Nodes[:2], Letters: p.Letters}, {Nodes: p.Nodes, Letters: p.Letters[:7]}, {Nodes: p.Nodes, Leaders: p.Leaders[:4]}} {
		refusePoll(t, q)
	}
	check("refusing")
	ages, a, b := []int{1, 2, 3, 77, 4}[:3], []int{0, 1, 2, 2}[:2], []int{1, 2, 0, 0}[:2]
	l := []impl.VoteStep{step(impl.VoStand, 2), step(impl.VoTake, 0), step(impl.VoTwice, 1), step(9, 9), step(impl.VoStand, 0)}[:3]
	for range 2 {
		q, did, ok := impl.PlayPoll(ages, l)
		if !samePoll(q, checkPlay(t, []int{1, 2, 3}, l[:3:3])) || !slices.Equal(did, []bool{true, true, true}) || !ok {
			t.Error(q, did, ok)
		}
		if q, ok := impl.NewPoll(ages); len(q.Nodes) != 3 || !ok {
			t.Error(q, ok)
		}
		if is, ok := impl.IsOverlap(3, a, b); !is || !ok {
			t.Error(is, ok)
		}
		impl.IsOverlap(3, a[:4], b[:4])
		impl.NewPoll(ages[:5])
		impl.PlayPoll(ages[:5], l[:5])
		impl.PlayPoll(ages, l[:5])
	}
	if !slices.Equal(ages[:5], []int{1, 2, 3, 77, 4}) || !slices.Equal(a[:4], []int{0, 1, 2, 2}) || !slices.Equal(b[:4], []int{1, 2, 0, 0}) {
		t.Error("written into:", ages[:5], a[:4], b[:4])
	}
	if !slices.Equal(l[:5], []impl.VoteStep{step(impl.VoStand, 2), step(impl.VoTake, 0), step(impl.VoTwice, 1), step(9, 9), step(impl.VoStand, 0)}) {
		t.Error("written into:", l[:5])
	}
}

// handsOut tells what stands behind a poll's lists in their memory, and is not zero.
func handsOut(p impl.Poll) bool {
	for _, x := range p.Nodes {
		if slices.ContainsFunc(x.Heard[len(x.Heard):cap(x.Heard)], func(k int) bool { return k != 0 }) {
			return true
		}
	}
	for _, row := range p.Leaders {
		if slices.ContainsFunc(row[len(row):cap(row)], func(k int) bool { return k != 0 }) {
			return true
		}
	}
	return slices.ContainsFunc(p.Nodes[len(p.Nodes):cap(p.Nodes)], func(x impl.Node) bool { return !sameNode(x, impl.Node{}) || cap(x.Heard) > 0 }) ||
		slices.ContainsFunc(p.Letters[len(p.Letters):cap(p.Letters)], func(x impl.Letter) bool { return x != impl.Letter{} }) ||
		slices.ContainsFunc(p.Leaders[len(p.Leaders):cap(p.Leaders)], func(row []int) bool { return cap(row) > 0 })
}

// innerLists are those within a poll's lists.
func innerLists(p impl.Poll) [][]int {
	var out [][]int
	for _, x := range p.Nodes {
		out = append(out, x.Heard)
	}
	return append(out, p.Leaders...)
}

// checkFresh writes over all of a poll's lists, one at a time: no other one may change.
func checkFresh(t *testing.T, name string, way func() impl.Poll) {
	t.Helper()
	want := clonePoll(way())
	if handsOut(way()) {
		t.Errorf("%s hands out %v", name, withRoom(way()))
	}
	for i := range innerLists(want) {
		p := way()
		spoil(innerLists(p)[i], 77)
		for k, l := range innerLists(p) {
			if k != i && !slices.Equal(l, innerLists(want)[k]) {
				t.Errorf("%s: %d and %d share memory", name, i, k)
			}
		}
	}
	p := way()
	for _, l := range innerLists(p) {
		spoil(l, 77)
	}
	spoil(p.Nodes, voter(77, 77, 77, 77, 77))
	spoil(p.Letters, impl.Letter{From: 77})
	spoil(p.Leaders, []int{77})
	if again := way(); !samePoll(again, want) {
		t.Errorf("%s: %v, not %v", name, again, want)
	}
}

func TestVotesAnswerWithNewMemory(t *testing.T) {
	for name, way := range voteWays() {
		p, was := roomyPoll(), withRoom(roomyPoll())
		checkFresh(t, name, func() impl.Poll {
			q, ok := way(p)
			if !ok {
				t.Fatal(name)
			}
			return q
		})
		if !samePoll(withRoom(p), was) {
			t.Errorf("%s has shared its argument's memory: %v", name, p)
		}
	}
	checkFresh(t, "NewPoll", func() impl.Poll {
		p, _ := impl.NewPoll([]int{1, 2, 3})
		return p
	})
	r := rand.New(rand.NewSource(86))
	for range 20 {
		l := busySteps(r, []int{0, 1, 0, 1}, 60)
		checkFresh(t, "PlayPoll", func() impl.Poll {
			p, did, ok := impl.PlayPoll([]int{0, 1, 0, 1}, l)
			if !ok || slices.Contains(did[len(did):cap(did)], true) {
				t.Error(did[:cap(did)], ok)
			}
			spoil(did, true)
			return p
		})
	}
}
