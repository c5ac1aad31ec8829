package tests

import (
	"fmt"
	"math/rand"
	"slices"
	"testing"

	"loop.example/g00522/impl"
)

func give(from int, to int, many int) impl.SnapStep {
	return impl.SnapStep{Kind: impl.SnGive, From: from, To: to, Many: many}
}

func takeFrom(from int, to int) impl.SnapStep {
	return impl.SnapStep{Kind: impl.SnTake, From: from, To: to}
}

func beginAt(k int) impl.SnapStep { return impl.SnapStep{Kind: impl.SnBegin, From: k} }

// bankOf has nothing on the way and nobody pictured, but for what is changed then.
func bankOf(coins []int, changes ...func(*impl.Bank)) impl.Bank {
	nodes := len(coins)
	b := impl.Bank{Coins: slices.Clone(coins), Ways: make([][]int, nodes*nodes), Kept: repeated(-1, nodes), Heard: make([][]bool, nodes), Found: make([][]int, nodes)}
	for k := range nodes {
		b.Heard[k], b.Found[k] = make([]bool, nodes), make([]int, nodes)
	}
	for _, change := range changes {
		change(&b)
	}
	return b
}

func onWay(from int, to int, l ...int) func(*impl.Bank) {
	return func(b *impl.Bank) { b.Ways[from*len(b.Coins)+to] = l }
}

// keptAt are what each node had when it was pictured.
func keptAt(l ...int) func(*impl.Bank) {
	return func(b *impl.Bank) { b.Kept = l }
}

func heardBy(to int, from ...int) func(*impl.Bank) {
	return func(b *impl.Bank) {
		for _, k := range from {
			b.Heard[to][k] = true
		}
	}
}

func foundOn(from int, to int, many int) func(*impl.Bank) {
	return func(b *impl.Bank) { b.Found[from][to] = many }
}

func cloneBank(b impl.Bank) impl.Bank {
	out := impl.Bank{Coins: slices.Clone(b.Coins), Ways: slices.Clone(b.Ways), Kept: slices.Clone(b.Kept), Heard: slices.Clone(b.Heard), Found: slices.Clone(b.Found)}
	for i, l := range out.Ways {
		out.Ways[i] = slices.Clone(l)
	}
	for i, l := range out.Heard {
		out.Heard[i] = slices.Clone(l)
	}
	for i, l := range out.Found {
		out.Found[i] = slices.Clone(l)
	}
	return out
}

func alteredBank(b impl.Bank, changes ...func(*impl.Bank)) impl.Bank {
	out := cloneBank(b)
	for _, change := range changes {
		change(&out)
	}
	return out
}

func sameBank(a impl.Bank, b impl.Bank) bool {
	return slices.Equal(a.Coins, b.Coins) && slices.EqualFunc(a.Ways, b.Ways, slices.Equal[[]int]) && slices.Equal(a.Kept, b.Kept) && slices.EqualFunc(a.Heard, b.Heard, slices.Equal[[]bool]) && slices.EqualFunc(a.Found, b.Found, slices.Equal[[]int])
}

func isZeroBank(b impl.Bank) bool { return sameBank(b, impl.Bank{}) }

// plainRoom goes by the chapter's words: how many there may be on a way.
func plainRoom(b impl.Bank, from int, to int) int {
	switch {
	case from == to:
		return 0
	case b.Kept[from] == -1:
		return 39
	}
	return 40
}

func plainGoodBank(b impl.Bank) bool {
	nodes := len(b.Coins)
	if !among(nodes, 1, 5) || len(b.Ways) != nodes*nodes || len(b.Kept) != nodes || len(b.Heard) != nodes || len(b.Found) != nodes {
		return false
	}
	for k := range nodes {
		if !among(b.Coins[k], 0, 1000) || !among(b.Kept[k], -1, 1000) || len(b.Heard[k]) != nodes || len(b.Found[k]) != nodes {
			return false
		}
	}
	for at, l := range b.Ways {
		from, to := at/nodes, at%nodes
		if len(l) > plainRoom(b, from, to) || slices.ContainsFunc(l, func(n int) bool { return !among(n, 0, 50) }) {
			return false
		}
		isWayToPictured := from != to && b.Kept[to] >= 0
		if b.Heard[to][from] && !isWayToPictured || b.Found[from][to] != 0 && !isWayToPictured || !among(b.Found[from][to], 0, 1000) {
			return false
		}
	}
	return true
}

// plainBankStep goes by the chapter's words, one behind the other, on a copy.
func plainBankStep(b impl.Bank, s impl.SnapStep) (impl.Bank, bool) {
	q := cloneBank(b)
	nodes := len(q.Coins)
	isNode, isOther := among(s.From, 0, nodes-1), among(s.To, 0, nodes-1) && s.To != s.From
	switch at := s.From*nodes + s.To; {
	case s.Kind == 1 && isNode && isOther && among(s.Many, 1, 50) && s.Many <= q.Coins[s.From] && len(q.Ways[at]) < 39:
		q.Coins[s.From] -= s.Many
		q.Ways[at] = append(q.Ways[at], s.Many)
	case s.Kind == 2 && isNode && isOther && s.Many == 0 && len(q.Ways[at]) > 0:
		n := q.Ways[at][0]
		q.Ways[at] = q.Ways[at][1:]
		plainComes(&q, s.From, s.To, n)
	case s.Kind == 3 && isNode && s.To == 0 && s.Many == 0 && q.Kept[s.From] == -1:
		plainPictured(&q, s.From)
	default:
		return impl.Bank{}, false
	}
	return q, true
}

func plainComes(q *impl.Bank, from int, to int, n int) {
	switch isIt := q.Kept[to] >= 0; {
	case n > 0 && isIt && !q.Heard[to][from]:
		q.Found[from][to] += n
		fallthrough
	case n > 0:
		q.Coins[to] += n
	case !isIt:
		plainPictured(q, to)
		fallthrough
	default:
		q.Heard[to][from] = true
	}
}

func plainPictured(q *impl.Bank, k int) {
	q.Kept[k] = q.Coins[k]
	nodes := len(q.Coins)
	for to := range nodes {
		if to != k {
			q.Ways[k*nodes+to] = append(q.Ways[k*nodes+to], 0)
		}
	}
}

func plainTotal(b impl.Bank) int {
	sum := 0
	for _, l := range append(slices.Clone(b.Ways), b.Coins) {
		for _, n := range l {
			sum += n
		}
	}
	return sum
}

func plainPicture(b impl.Bank) (int, bool) {
	sum := 0
	for to, n := range b.Kept {
		if n < 0 {
			return 0, false
		}
		sum += n
		for from := range b.Kept {
			if from != to && !b.Heard[to][from] {
				return 0, false
			}
			sum += b.Found[from][to]
		}
	}
	return sum, true
}

// checkBank asks a good bank all there is to ask of it.
func checkBank(t *testing.T, b impl.Bank) {
	t.Helper()
	if !impl.GoodBank(b) {
		t.Fatalf("not good: %v", b)
	}
	if n, ok := impl.TotalIn(b); n != plainTotal(b) || !ok {
		t.Fatalf("TotalIn(%v): %d %v, not %d", b, n, ok, plainTotal(b))
	}
	want, is := plainPicture(b)
	if got, ok := impl.IsTaken(b); got != is || !ok {
		t.Fatalf("IsTaken(%v): %v %v, not %v", b, got, ok, is)
	}
	if n, ok := impl.PictureOf(b); n != want || ok != is {
		t.Fatalf("PictureOf(%v): %d %v, not %d %v", b, n, ok, want, is)
	}
}

// checkBankStep holds a step of a good bank against the plain one. No step makes or loses a coin.
func checkBankStep(t *testing.T, b impl.Bank, s impl.SnapStep) (impl.Bank, bool) {
	t.Helper()
	want, is := plainBankStep(b, s)
	got, ok := impl.StepBank(b, s)
	if ok != is || !sameBank(got, want) {
		t.Fatalf("%v of %v: %v %v, not %v %v", s, b, got, ok, want, is)
	}
	if ok && plainTotal(got) != plainTotal(b) {
		t.Fatalf("%v of %v makes or loses coins: %v", s, b, got)
	}
	if ok && impl.GoodBank(got) != plainGoodBank(got) {
		t.Fatalf("%v of %v: good: %v: %v", s, b, impl.GoodBank(got), got)
	}
	return got, ok
}

func refuseBank(t *testing.T, b impl.Bank) {
	t.Helper()
	if impl.GoodBank(b) {
		t.Fatalf("taken: %v", b)
	}
	if n, ok := impl.TotalIn(b); n != 0 || ok {
		t.Fatalf("TotalIn(%v): %d %v", b, n, ok)
	}
	if is, ok := impl.IsTaken(b); is || ok {
		t.Fatalf("IsTaken(%v): %v %v", b, is, ok)
	}
	if n, ok := impl.PictureOf(b); n != 0 || ok {
		t.Fatalf("PictureOf(%v): %d %v", b, n, ok)
	}
	for from := -1; from <= 5; from++ {
		for to := -1; to <= 5; to++ {
			for kind := 0; kind <= 4; kind++ {
				for many := range 2 {
					if q, ok := impl.StepBank(b, impl.SnapStep{Kind: kind, From: from, To: to, Many: many}); !isZeroBank(q) || ok {
						t.Fatalf("%d from %d to %d of %v: %v %v", kind, from, to, b, q, ok)
					}
				}
			}
		}
	}
}

// anyOnWay has marks and coins of the edges more often than by chance.
func anyOnWay(r *rand.Rand, room int) []int {
	var out []int
	for range []int{0, r.Intn(3), r.Intn(3), r.Intn(41), room - 2, room - 1, room}[r.Intn(7)] {
		if len(out) < room {
			out = append(out, []int{0, 1, 50, r.Intn(51)}[r.Intn(4)])
		}
	}
	return out
}

// anyBank is good, but seldom one that steps would come to: marks may be on a way from who is not pictured, and many of them.
func anyBank(r *rand.Rand) impl.Bank {
	nodes := 1 + r.Intn(5)
	b := bankOf(repeated(0, nodes))
	often := r.Intn(5)
	for k := range nodes {
		b.Coins[k] = []int{0, r.Intn(60), r.Intn(1001), 950 + r.Intn(51), 1000}[r.Intn(5)]
		if r.Intn(4) < often {
			b.Kept[k] = []int{0, r.Intn(1001), 1000}[r.Intn(3)]
		}
	}
	for at := range b.Ways {
		from, to := at/nodes, at%nodes
		b.Ways[at] = anyOnWay(r, plainRoom(b, from, to))
		if from != to && b.Kept[to] >= 0 {
			b.Heard[to][from] = r.Intn(4) < often
			b.Found[from][to] = []int{0, r.Intn(60), 950 + r.Intn(51), 1000}[r.Intn(4)]
		}
	}
	return b
}

// threeNodes is good, and each of its lists has something: 1 is pictured, has Heard of 0, and found coins of 2 on the way.
func threeNodes() impl.Bank {
	return bankOf([]int{7, 0, 1000}, keptAt(-1, 4, -1), onWay(0, 1, 5, 0), onWay(0, 2, 50), onWay(1, 0, 3, 0, 1), onWay(1, 2, 0), onWay(2, 1, 2, 2), heardBy(1, 0), foundOn(0, 1, 6), foundOn(2, 1, 9))
}

// allHeard is a bank in which all are pictured and all marks are Heard.
func allHeard(nodes int, kept int) impl.Bank {
	b := bankOf(repeated(3, nodes), keptAt(repeated(kept, nodes)...))
	for to := range nodes {
		for from := range nodes {
			b.Heard[to][from] = from != to
		}
	}
	return b
}

func goodBanks() []impl.Bank {
	out := []impl.Bank{
		threeNodes(), bankOf([]int{0}), bankOf([]int{1000}), bankOf([]int{5}, keptAt(0)), bankOf([]int{5}, keptAt(1000)), bankOf(repeated(0, 5)), bankOf(repeated(1000, 5), keptAt(repeated(1000, 5)...)),
		bankOf([]int{0, 0}, onWay(0, 1, 0)), bankOf([]int{0, 0}, onWay(1, 0, 0, 0, 0)), bankOf([]int{0, 0}, onWay(1, 0, repeated(50, 39)...), onWay(0, 1, repeated(0, 39)...)),
		bankOf([]int{0, 0}, keptAt(0, -1), onWay(0, 1, repeated(1, 40)...), onWay(1, 0, repeated(1, 39)...)), bankOf([]int{0, 0}, keptAt(-1, 0), onWay(0, 1, repeated(1, 39)...), onWay(1, 0, repeated(1, 40)...)),
		bankOf([]int{0, 0}, keptAt(0, -1), foundOn(1, 0, 1000), heardBy(0, 1)), bankOf([]int{0, 0}, keptAt(-1, 0), foundOn(0, 1, 1)), bankOf([]int{0, 0}, keptAt(3, 3), heardBy(1, 0)),
		allHeard(1, 0), allHeard(2, 1000), allHeard(3, 7), allHeard(4, 0), allHeard(5, 1000),
		{Coins: []int{0}, Ways: [][]int{{}}, Kept: []int{-1}, Heard: [][]bool{{false}}, Found: [][]int{{0}}},
	}
	r := rand.New(rand.NewSource(121))
	for range 400 {
		out = append(out, anyBank(r))
	}
	return out
}

// badLists are lists of banks that are shorter and longer than the nodes ask for.
func badLists() []impl.Bank {
	var out []impl.Bank
	for nodes := 1; nodes <= 5; nodes++ {
		b := bankOf(repeated(1, nodes))
		for many := range 30 {
			if many != nodes {
				out = append(out, alteredBank(b, func(b *impl.Bank) { b.Coins = repeated(1, many) }), alteredBank(b, func(b *impl.Bank) { b.Kept = repeated(-1, many) }))
				out = append(out, alteredBank(b, func(b *impl.Bank) { b.Heard = slices.Repeat([][]bool{make([]bool, nodes)}, many) }), alteredBank(b, func(b *impl.Bank) { b.Found = slices.Repeat([][]int{make([]int, nodes)}, many) }))
				for k := range nodes {
					out = append(out, alteredBank(b, func(b *impl.Bank) { b.Heard[k] = make([]bool, many) }), alteredBank(b, func(b *impl.Bank) { b.Found[k] = make([]int, many) }))
				}
			}
			if many != nodes*nodes {
				out = append(out, alteredBank(b, func(b *impl.Bank) { b.Ways = make([][]int, many) }))
			}
		}
		out = append(out, alteredBank(b, func(b *impl.Bank) { b.Ways = nil }), alteredBank(b, func(b *impl.Bank) { b.Ways = make([][]int, 5000) }), alteredBank(b, func(b *impl.Bank) { b.Kept = nil }), alteredBank(b, func(b *impl.Bank) { b.Heard = nil }), alteredBank(b, func(b *impl.Bank) { b.Found = nil }), alteredBank(b, func(b *impl.Bank) { b.Coins = nil }))
	}
	return out
}

func badBanks() []impl.Bank {
	three := threeNodes()
	with := func(changes ...func(*impl.Bank)) impl.Bank { return alteredBank(three, changes...) }
	out := append(badLists(), impl.Bank{}, bankOf(nil), bankOf(repeated(0, 6)), bankOf(repeated(0, 7)), bankOf(repeated(0, 50)), impl.Bank{Coins: []int{1}}, impl.Bank{Ways: [][]int{nil}}, impl.Bank{Heard: [][]bool{{true}}})
	for _, n := range append(noNumbers(), -2, 1001, 1002) {
		for k := range 3 {
			out = append(out, with(func(b *impl.Bank) { b.Coins[k] = n }), with(func(b *impl.Bank) { b.Kept[k] = n }), bankOf([]int{1, 1, 1}, func(b *impl.Bank) { b.Kept[k] = n }))
		}
		out = append(out, with(foundOn(0, 1, n)), with(foundOn(2, 1, n)), with(foundOn(1, 1, n)), with(foundOn(1, 0, n)), with(foundOn(0, 0, n)), with(onWay(0, 1, n)), with(onWay(1, 2, 1, 0, n)), with(onWay(2, 0, append(repeated(1, 38), n)...)))
	}
	for k := range 3 {
		out = append(out, with(func(b *impl.Bank) { b.Coins[k] = -1 }))
		// There is no way of a node to itself.
		for _, l := range [][]int{{0}, {1}, {50}, {1, 0}, repeated(0, 39), {51}} {
			out = append(out, with(onWay(k, k, l...)), alteredBank(allHeard(3, 1), onWay(k, k, l...)))
		}
		out = append(out, with(heardBy(k, k)), alteredBank(allHeard(3, 1), heardBy(k, k)), with(foundOn(k, k, 1)), alteredBank(allHeard(3, 1), foundOn(k, k, 1)), alteredBank(allHeard(3, 1), foundOn(k, k, 1000)), alteredBank(allHeard(3, 1), foundOn(k, k, -1)))
	}
	for _, n := range []int{-1, 51, 52, 1000} {
		for at := range 3 {
			l := []int{1, 0, 50}
			l[at] = n
			out = append(out, with(onWay(0, 2, l...)), with(onWay(1, 0, l...)))
		}
	}
	// 0 and 2 are not pictured.
	out = append(out, with(heardBy(0, 1)), with(heardBy(0, 2)), with(heardBy(2, 1)), with(heardBy(2, 0)), with(foundOn(1, 0, 1)), with(foundOn(2, 0, 1000)), with(foundOn(0, 2, 1)), with(foundOn(1, 2, -1)), with(foundOn(0, 1, -1)))
	out = append(out, with(onWay(0, 1, repeated(1, 40)...)), with(onWay(2, 0, repeated(0, 40)...)), with(onWay(0, 2, repeated(1, 41)...)), with(onWay(1, 0, repeated(1, 41)...)), with(onWay(1, 2, repeated(0, 41)...)), with(onWay(1, 2, repeated(1, 5000)...)))
	return append(out, with(keptAt(-1, -1, -1)), with(keptAt(4, -1, 4)))
}

func TestPicturesHaveTheirLimits(t *testing.T) {
	if impl.MaxCoins != 50 || impl.MaxSnapSteps != 120 || impl.MaxNodes != 5 {
		t.Error(impl.MaxCoins, impl.MaxSnapSteps, impl.MaxNodes)
	}
	if impl.SnGive != 1 || impl.SnTake != 2 || impl.SnBegin != 3 {
		t.Error(impl.SnGive, impl.SnTake, impl.SnBegin)
	}
}

func TestWayAtTellsAsSaid(t *testing.T) {
	for _, c := range [][4]int{{2, 0, 1, 1}, {2, 1, 0, 2}, {3, 1, 2, 5}, {3, 2, 1, 7}, {3, 2, 0, 6}, {5, 0, 4, 4}, {5, 4, 0, 20}, {5, 4, 3, 23}, {5, 3, 4, 19}} {
		if at, ok := impl.WayAt(c[0], c[1], c[2]); at != c[3] || !ok {
			t.Errorf("WayAt(%d, %d, %d): %d %v, not %d", c[0], c[1], c[2], at, ok, c[3])
		}
	}
	for _, nodes := range manyNumbers() {
		for _, from := range append(noNumbers(), -2, -1, 0, 1, 2, 3, 4, 5, 6) {
			for _, to := range append(noNumbers(), -2, -1, 0, 1, 2, 3, 4, 5, 6) {
				want, is := 0, among(nodes, 1, 5) && among(from, 0, nodes-1) && among(to, 0, nodes-1) && from != to
				if is {
					want = from*nodes + to
				}
				if at, ok := impl.WayAt(nodes, from, to); at != want || ok != is {
					t.Fatalf("WayAt(%d, %d, %d): %d %v, not %d %v", nodes, from, to, at, ok, want, is)
				}
			}
		}
	}
}

func TestNewBankTellsAsSaid(t *testing.T) {
	check := func(coins []int, is bool) {
		t.Helper()
		b, ok := impl.NewBank(coins)
		if !is {
			if !isZeroBank(b) || ok {
				t.Errorf("%v: %v %v", coins, b, ok)
			}
			return
		}
		if !sameBank(b, bankOf(coins)) || !ok {
			t.Errorf("%v: %v %v", coins, b, ok)
		}
		checkBank(t, b)
	}
	check(nil, false)
	for many := range 30 {
		for _, n := range []int{0, 1, 7, 49, 50} {
			check(repeated(n, many), among(many, 1, 5))
		}
		for at := range many {
			for _, n := range append(noNumbers(), -2, -1, 0, 50, 51, 52, 1000, 1001) {
				coins := rising(1, 1, many)
				coins[at] = n
				check(coins, among(many, 1, 5) && among(n, 0, 50))
			}
		}
	}
	check(repeated(1, 5000), false)
}

func TestGoodBankTellsAsSaid(t *testing.T) {
	for _, b := range goodBanks() {
		if !plainGoodBank(b) {
			t.Errorf("refused: %v", b)
		}
		checkBank(t, b)
	}
	for i, b := range badBanks() {
		if impl.GoodBank(b) || plainGoodBank(b) {
			t.Errorf("taken: %d: %v", i, b)
		}
	}
}

func TestBanksThatAreNotGood(t *testing.T) {
	for _, b := range badBanks() {
		refuseBank(t, b)
	}
}

func TestBankNumbersAreInTheirLimits(t *testing.T) {
	for _, n := range append(noNumbers(), -3, -2, -1, 0, 1, 2, 49, 50, 51, 52, 999, 1000, 1001, 1002) {
		for k := range 3 {
			if impl.GoodBank(alteredBank(threeNodes(), func(b *impl.Bank) { b.Coins[k] = n })) != among(n, 0, 1000) {
				t.Error("Coins", k, n)
			}
			if impl.GoodBank(bankOf([]int{1, 2, 3}, func(b *impl.Bank) { b.Kept[k] = n })) != among(n, -1, 1000) {
				t.Error("Kept", k, n)
			}
		}
		for from := range 3 {
			for to := range 3 {
				for one := range 3 {
					// Of a node that is pictured, and of two that are not.
					isTo := from != to && to == one
					b := bankOf([]int{1, 2, 3}, func(b *impl.Bank) { b.Kept[one] = 1 }, foundOn(from, to, n))
					if impl.GoodBank(b) != (n == 0 || isTo && among(n, 0, 1000)) {
						t.Error("Found", from, to, n, "where pictured is", one)
					}
					b = bankOf([]int{1, 2, 3}, func(b *impl.Bank) { b.Kept[one] = 1 }, heardBy(to, from))
					if impl.GoodBank(b) != isTo {
						t.Error("Heard", from, to, "where pictured is", one)
					}
				}
				for _, l := range [][]int{{n}, {n, 1}, {0, n, 50}, append(repeated(1, 38), n)} {
					if impl.GoodBank(bankOf([]int{1, 2, 3}, onWay(from, to, l...))) != (from != to && among(n, 0, 50)) {
						t.Error("on the way", from, to, l)
					}
				}
			}
		}
	}
}

func TestWaysHaveTheirRoom(t *testing.T) {
	for nodes := 1; nodes <= 5; nodes++ {
		for from := range nodes {
			for to := range nodes {
				for _, many := range []int{0, 1, 2, 37, 38, 39, 40, 41, 42, 80} {
					for _, n := range []int{0, 1, 50} {
						for _, kept := range []int{-1, 0, 1000} {
							is := many == 0 || from != to && (many <= 39 || kept >= 0 && many == 40)
							b := bankOf(repeated(9, nodes), onWay(from, to, repeated(n, many)...), func(b *impl.Bank) { b.Kept[from] = kept })
							if impl.GoodBank(b) != is {
								t.Fatalf("%d on the way from %d, which kept %d, to %d: %v", many, from, kept, to, !is)
							}
							if from == to {
								continue
							}
							// Whether To is pictured does not matter.
							b = bankOf(repeated(9, nodes), onWay(from, to, repeated(n, many)...), func(b *impl.Bank) { b.Kept[from], b.Kept[to] = kept, 0 })
							if impl.GoodBank(b) != is {
								t.Fatalf("%d on the way from %d, which kept %d, to %d, which is pictured: %v", many, from, kept, to, !is)
							}
						}
					}
				}
			}
		}
	}
}

// Any one thing of a good bank is changed: it is good still just if the plain walk says so.
func TestGoodBankTellsWhatIsChanged(t *testing.T) {
	r := rand.New(rand.NewSource(122))
	good, bad := 0, 0
	for range 20000 {
		b := anyBank(r)
		nodes := len(b.Coins)
		n := []int{-2, -1, 0, 1, 49, 50, 51, 999, 1000, 1001}[r.Intn(10)]
		k, other := r.Intn(nodes), r.Intn(nodes)
		at := r.Intn(nodes * nodes)
		switch r.Intn(8) {
		case 0:
			b.Coins[k] = n
		case 1:
			b.Kept[k] = n
		case 2:
			b.Found[k][other] = n
		case 3:
			b.Heard[k][other] = !b.Heard[k][other]
		case 4:
			b.Ways[at] = append(b.Ways[at], n)
		case 5:
			b.Ways[at] = repeated(1, r.Intn(42))
		case 6:
			b.Found[k] = append(b.Found[k], repeated(0, r.Intn(2))...)
		case 7:
			b.Ways = b.Ways[:len(b.Ways)-r.Intn(2)]
		}
		is := impl.GoodBank(b)
		if is != plainGoodBank(b) {
			t.Fatalf("%v: %v", b, is)
		}
		if is {
			good++
			checkBank(t, b)
		} else {
			bad++
		}
	}
	if good < 3000 || bad < 3000 {
		t.Error("too few of one kind:", good, bad)
	}
}

type bankCase struct {
	name string
	b    impl.Bank
	s    impl.SnapStep
	want impl.Bank
}

// checkBankCases takes a case without a bank for a step that can't be done.
func checkBankCases(t *testing.T, l []bankCase) {
	t.Helper()
	for _, c := range l {
		if !impl.GoodBank(c.b) {
			t.Errorf("%s: not good: %v", c.name, c.b)
		}
		got, ok := checkBankStep(t, c.b, c.s)
		if ok == isZeroBank(c.want) || !sameBank(got, c.want) {
			t.Errorf("%s: %v of %v: %v %v, not %v", c.name, c.s, c.b, got, ok, c.want)
		}
	}
}

func TestGivingTellsAsSaid(t *testing.T) {
	none := impl.Bank{}
	two := func(a int, b int, l ...int) impl.Bank { return bankOf([]int{a, b}, onWay(0, 1, l...)) }
	behind := func(many int, l ...int) []int { return append(repeated(2, many), l...) }
	checkBankCases(t, []bankCase{
		{"one coin", two(5, 5), give(0, 1, 1), two(4, 5, 1)},
		{"all that it has", two(5, 5), give(0, 1, 5), two(0, 5, 5)},
		{"one more than it has", two(5, 9), give(0, 1, 6), none},
		{"none", two(5, 5), give(0, 1, 0), none},
		{"less than none", two(5, 5), give(0, 1, -1), none},
		{"who has none", two(0, 5), give(0, 1, 1), none},
		{"who has none gives none", two(0, 5), give(0, 1, 0), none},
		{"49", two(1000, 5), give(0, 1, 49), two(951, 5, 49)},
		{"50", two(1000, 5), give(0, 1, 50), two(950, 5, 50)},
		{"51", two(1000, 5), give(0, 1, 51), none},
		{"all 50", two(50, 5), give(0, 1, 50), two(0, 5, 50)},
		{"all 51", two(51, 5), give(0, 1, 51), none},
		{"to itself", two(5, 5), give(0, 0, 1), none},
		{"the last one to itself", two(5, 5), give(1, 1, 1), none},
		{"from none", two(5, 5), give(-1, 1, 1), none},
		{"from one more", two(5, 5), give(2, 1, 1), none},
		{"to none", two(5, 5), give(0, -1, 1), none},
		{"to one more", two(5, 5), give(0, 2, 1), none},
		{"behind others", two(5, 5, 3, 0, 1), give(0, 1, 2), two(3, 5, 3, 0, 1, 2)},
		{"behind 37", two(5, 5, behind(37)...), give(0, 1, 1), two(4, 5, behind(37, 1)...)},
		{"behind 38", two(5, 5, behind(38)...), give(0, 1, 1), two(4, 5, behind(38, 1)...)},
		{"behind 39", two(5, 5, behind(39)...), give(0, 1, 1), none},
		{"by the other way", two(5, 5, behind(39)...), give(1, 0, 1), alteredBank(two(5, 4, behind(39)...), onWay(1, 0, 1))},
		{"of one node", bankOf([]int{5}), give(0, 0, 1), none},
	})
	// Who is pictured has room for no more than who is not.
	for many := 36; many <= 40; many++ {
		for _, kept := range []int{-1, 0, 9} {
			if many == 40 && kept < 0 {
				continue
			}
			b := func(coins int, l ...int) impl.Bank {
				return bankOf([]int{1, coins, 1}, keptAt(-1, kept, 7), onWay(1, 2, l...))
			}
			want := none
			if many < 39 {
				want = b(4, behind(many, 3)...)
			}
			checkBankCases(t, []bankCase{{fmt.Sprint("behind ", many, ", kept ", kept), b(7, behind(many)...), give(1, 2, 3), want}})
		}
	}
	for many := -2; many <= 60; many++ {
		for _, coins := range []int{0, 1, 2, 30, 49, 50, 51, 1000} {
			want := none
			if many >= 1 && many <= 50 && many <= coins {
				want = two(coins-many, 0, many)
			}
			checkBankCases(t, []bankCase{{fmt.Sprint(many, " of ", coins), two(coins, 0), give(0, 1, many), want}})
		}
	}
}

func TestTakingCoinsTellsAsSaid(t *testing.T) {
	none := impl.Bank{}
	take := takeFrom(0, 1)
	all := []int{1, 2, 3}
	checkBankCases(t, []bankCase{
		{"from an empty way", bankOf(all), take, none},
		{"to who is not pictured", bankOf(all, onWay(0, 1, 5)), take, bankOf([]int{1, 7, 3})},
		{"to who is not pictured, from who is", bankOf(all, keptAt(9, -1, -1), onWay(0, 1, 5)), take, bankOf([]int{1, 7, 3}, keptAt(9, -1, -1))},
		{"to who is, and has not Heard", bankOf(all, keptAt(-1, 9, -1), onWay(0, 1, 5)), take, bankOf([]int{1, 7, 3}, keptAt(-1, 9, -1), foundOn(0, 1, 5))},
		{"to who kept nothing, and has not Heard", bankOf(all, keptAt(-1, 0, -1), onWay(0, 1, 5)), take, bankOf([]int{1, 7, 3}, keptAt(-1, 0, -1), foundOn(0, 1, 5))},
		{"more behind what was found", bankOf(all, keptAt(-1, 9, -1), onWay(0, 1, 5, 6), foundOn(0, 1, 4)), take, bankOf([]int{1, 7, 3}, keptAt(-1, 9, -1), onWay(0, 1, 6), foundOn(0, 1, 9))},
		{"to who has Heard", bankOf(all, keptAt(-1, 9, -1), onWay(0, 1, 5), heardBy(1, 0)), take, bankOf([]int{1, 7, 3}, keptAt(-1, 9, -1), heardBy(1, 0))},
		{"to who has Heard, and found some ahead", bankOf(all, keptAt(-1, 9, -1), onWay(0, 1, 5), heardBy(1, 0), foundOn(0, 1, 4)), take, bankOf([]int{1, 7, 3}, keptAt(-1, 9, -1), heardBy(1, 0), foundOn(0, 1, 4))},
		{"to who has Heard of another way", bankOf(all, keptAt(-1, 9, -1), onWay(0, 1, 5), heardBy(1, 2)), take, bankOf([]int{1, 7, 3}, keptAt(-1, 9, -1), heardBy(1, 2), foundOn(0, 1, 5))},
		{"where From has Heard of To", bankOf(all, keptAt(9, 9, -1), onWay(0, 1, 5), heardBy(0, 1)), take, bankOf([]int{1, 7, 3}, keptAt(9, 9, -1), heardBy(0, 1), foundOn(0, 1, 5))},
		{"the first of several", bankOf(all, onWay(0, 1, 50, 1, 0, 2)), take, bankOf([]int{1, 52, 3}, onWay(0, 1, 1, 0, 2))},
		{"one coin", bankOf(all, onWay(0, 1, 1, 50)), take, bankOf([]int{1, 3, 3}, onWay(0, 1, 50))},
		{"by the way back", bankOf(all, onWay(0, 1, 5), onWay(1, 0, 4)), takeFrom(1, 0), bankOf([]int{5, 2, 3}, onWay(0, 1, 5))},
		{"by the last way", bankOf(all, keptAt(-1, 9, 9), onWay(2, 1, 5), onWay(1, 2, 4)), takeFrom(2, 1), bankOf([]int{1, 7, 3}, keptAt(-1, 9, 9), onWay(1, 2, 4), foundOn(2, 1, 5))},
		{"the first of 39", bankOf(all, onWay(0, 1, repeated(1, 39)...)), take, bankOf([]int{1, 3, 3}, onWay(0, 1, repeated(1, 38)...))},
		{"the first of 40", bankOf(all, keptAt(0, -1, -1), onWay(0, 1, repeated(1, 40)...)), take, bankOf([]int{1, 3, 3}, keptAt(0, -1, -1), onWay(0, 1, repeated(1, 39)...))},
		{"to itself", bankOf(all, onWay(0, 1, 5)), takeFrom(0, 0), none},
		{"from none", bankOf(all, onWay(0, 1, 5)), takeFrom(-1, 1), none},
		{"to none", bankOf(all, onWay(0, 1, 5)), takeFrom(0, -1), none},
		{"from one more", bankOf(all, onWay(0, 1, 5)), takeFrom(3, 1), none},
		{"to one more", bankOf(all, onWay(0, 1, 5), onWay(1, 0, 5)), takeFrom(0, 3), none},
		{"of one node", bankOf([]int{5}), takeFrom(0, 0), none},
	})
}

func TestTakingAMarkTellsAsSaid(t *testing.T) {
	take := takeFrom(0, 1)
	all := []int{1, 2, 3}
	checkBankCases(t, []bankCase{
		{"who is not pictured is, and Hears", bankOf(all, keptAt(9, -1, -1), onWay(0, 1, 0)), take, bankOf(all, keptAt(9, 2, -1), onWay(1, 0, 0), onWay(1, 2, 0), heardBy(1, 0))},
		{"its marks are behind what it gave", bankOf(all, keptAt(9, -1, -1), onWay(0, 1, 0, 5), onWay(1, 0, 4), onWay(1, 2, 3, 0, 3)), take, bankOf(all, keptAt(9, 2, -1), onWay(0, 1, 5), onWay(1, 0, 4, 0), onWay(1, 2, 3, 0, 3, 0), heardBy(1, 0))},
		{"who has no coins", bankOf([]int{1, 0}, keptAt(9, -1), onWay(0, 1, 0)), take, bankOf([]int{1, 0}, keptAt(9, 0), onWay(1, 0, 0), heardBy(1, 0))},
		{"who has 1000 coins", bankOf([]int{1, 1000}, keptAt(9, -1), onWay(0, 1, 0)), take, bankOf([]int{1, 1000}, keptAt(9, 1000), onWay(1, 0, 0), heardBy(1, 0))},
		{"who is pictured Hears alone", bankOf(all, keptAt(9, 9, -1), onWay(0, 1, 0)), take, bankOf(all, keptAt(9, 9, -1), heardBy(1, 0))},
		{"who is pictured, and found some", bankOf(all, keptAt(9, 9, -1), onWay(0, 1, 0, 4), foundOn(0, 1, 6), heardBy(1, 2)), take, bankOf(all, keptAt(9, 9, -1), onWay(0, 1, 4), foundOn(0, 1, 6), heardBy(1, 0, 2))},
		{"who kept nothing is pictured", bankOf(all, keptAt(9, 0, -1), onWay(0, 1, 0)), take, bankOf(all, keptAt(9, 0, -1), heardBy(1, 0))},
		{"who has Heard already", bankOf(all, keptAt(9, 9, -1), onWay(0, 1, 0), heardBy(1, 0)), take, bankOf(all, keptAt(9, 9, -1), heardBy(1, 0))},
		{"of who is not pictured itself", bankOf(all, onWay(0, 1, 0, 0)), take, bankOf(all, keptAt(-1, 2, -1), onWay(0, 1, 0), onWay(1, 0, 0), onWay(1, 2, 0), heardBy(1, 0))},
		{"by the last way", bankOf(all, keptAt(-1, -1, 9), onWay(2, 1, 0)), takeFrom(2, 1), bankOf(all, keptAt(-1, 2, 9), onWay(1, 0, 0), onWay(1, 2, 0), heardBy(1, 2))},
		{"of two nodes, both being pictured then", bankOf([]int{1, 2}, keptAt(9, -1), onWay(0, 1, 0)), take, bankOf([]int{1, 2}, keptAt(9, 2), onWay(1, 0, 0), heardBy(1, 0))},
		{"with 39 on its ways", bankOf(all, keptAt(9, -1, -1), onWay(0, 1, 0), onWay(1, 0, repeated(1, 39)...), onWay(1, 2, repeated(0, 39)...)), take, bankOf(all, keptAt(9, 2, -1), onWay(1, 0, append(repeated(1, 39), 0)...), onWay(1, 2, repeated(0, 40)...), heardBy(1, 0))},
	})
}

// What comes may come to more than 1000: the bank is told, and is not good.
func TestTakingMayComeToMoreThanAThousand(t *testing.T) {
	for _, many := range []int{1, 2, 49, 50} {
		for _, coins := range []int{0, 949, 950, 951, 998, 999, 1000} {
			for _, found := range []int{-1, 0, 949, 950, 951, 998, 999, 1000} {
				b := bankOf([]int{1, coins}, onWay(0, 1, many, 3))
				want := bankOf([]int{1, coins + many}, onWay(0, 1, 3))
				if found >= 0 {
					b.Kept[1], want.Kept[1] = 7, 7
					b.Found[0][1], want.Found[0][1] = found, found+many
				}
				checkBankCases(t, []bankCase{{fmt.Sprint(many, " to ", coins, ", found ", found), b, takeFrom(0, 1), want}})
				if is := coins+many <= 1000 && found+many <= 1000; impl.GoodBank(want) != is {
					t.Errorf("%v: %v", want, !is)
				} else if !is {
					refuseBank(t, want)
				}
			}
		}
	}
	b := bankOf([]int{1, 1000}, keptAt(-1, 7), onWay(0, 1, 50), foundOn(0, 1, 1000), heardBy(1, 0))
	checkBankCases(t, []bankCase{{"Heard: nothing is found", b, takeFrom(0, 1), bankOf([]int{1, 1050}, keptAt(-1, 7), foundOn(0, 1, 1000), heardBy(1, 0))}})
}

func TestBeginningTellsAsSaid(t *testing.T) {
	none := impl.Bank{}
	all := []int{1, 2, 3}
	checkBankCases(t, []bankCase{
		{"one alone", bankOf([]int{5}), beginAt(0), bankOf([]int{5}, keptAt(5))},
		{"one alone without coins", bankOf([]int{0}), beginAt(0), bankOf([]int{0}, keptAt(0))},
		{"one alone twice", bankOf([]int{5}, keptAt(5)), beginAt(0), none},
		{"one alone that kept nothing twice", bankOf([]int{0}, keptAt(0)), beginAt(0), none},
		{"the first", bankOf(all), beginAt(0), bankOf(all, keptAt(1, -1, -1), onWay(0, 1, 0), onWay(0, 2, 0))},
		{"one between", bankOf(all), beginAt(1), bankOf(all, keptAt(-1, 2, -1), onWay(1, 0, 0), onWay(1, 2, 0))},
		{"the last", bankOf(all), beginAt(2), bankOf(all, keptAt(-1, -1, 3), onWay(2, 0, 0), onWay(2, 1, 0))},
		{"none", bankOf(all), beginAt(-1), none},
		{"one more", bankOf(all), beginAt(3), none},
		{"a second one", bankOf(all, keptAt(-1, 9, -1), onWay(1, 0, 0), onWay(1, 2, 0)), beginAt(0), bankOf(all, keptAt(1, 9, -1), onWay(0, 1, 0), onWay(0, 2, 0), onWay(1, 0, 0), onWay(1, 2, 0))},
		{"who is pictured already", bankOf(all, keptAt(-1, 9, -1)), beginAt(1), none},
		{"all are pictured", allHeard(3, 4), beginAt(2), none},
		{"what is on the way stays ahead", bankOf(all, onWay(0, 1, 5, 0, 6), onWay(2, 0, 4)), beginAt(0), bankOf(all, keptAt(1, -1, -1), onWay(0, 1, 5, 0, 6, 0), onWay(0, 2, 0), onWay(2, 0, 4))},
		{"behind 39", bankOf([]int{1, 1000}, onWay(1, 0, repeated(50, 39)...)), beginAt(1), bankOf([]int{1, 1000}, keptAt(-1, 1000), onWay(1, 0, append(repeated(50, 39), 0)...))},
		{"behind 38", bankOf([]int{1, 2}, onWay(1, 0, repeated(50, 38)...)), beginAt(1), bankOf([]int{1, 2}, keptAt(-1, 2), onWay(1, 0, append(repeated(50, 38), 0)...))},
	})
	for nodes := 1; nodes <= 5; nodes++ {
		for k := range nodes {
			coins := rising(10, 7, nodes)
			want := bankOf(coins, func(b *impl.Bank) { b.Kept[k] = coins[k] })
			for to := range nodes {
				if to != k {
					want.Ways[k*nodes+to] = []int{0}
				}
			}
			checkBankCases(t, []bankCase{{fmt.Sprint(k, " of ", nodes), bankOf(coins), beginAt(k), want}, {"once more", want, beginAt(k), none}})
		}
	}
}

func TestSnapStepsThatCanNotBeDone(t *testing.T) {
	// Each way has coins on it, and each node coins: what can't be done can't for its own fields. 1 is pictured.
	b := bankOf([]int{9, 9, 9}, keptAt(-1, 9, -1))
	for from := range 3 {
		for to := range 3 {
			if from != to {
				onWay(from, to, 4, 0)(&b)
			}
		}
	}
	ints := append(noNumbers(), -3, -2, -1, 0, 1, 2, 3, 4, 9, 10, 50, 51)
	for _, kind := range append(noNumbers(), rising(-3, 1, 12)...) {
		for _, from := range ints {
			for _, to := range ints {
				for _, many := range ints {
					isWay := among(from, 0, 2) && among(to, 0, 2) && from != to
					want := false
					switch kind {
					case 1:
						want = isWay && among(many, 1, 9)
					case 2:
						want = isWay && many == 0
					case 3:
						want = (from == 0 || from == 2) && to == 0 && many == 0
					}
					s := impl.SnapStep{Kind: kind, From: from, To: to, Many: many}
					if q, ok := checkBankStep(t, b, s); ok != want || ok == isZeroBank(q) {
						t.Fatalf("%v: %v %v", s, q, ok)
					}
				}
			}
		}
	}
}

func TestSnapStepsTellAsPlainOnes(t *testing.T) {
	r := rand.New(rand.NewSource(123))
	done, over := map[int]int{}, 0
	for range 6000 {
		b := anyBank(r)
		for kind := 0; kind <= 4; kind++ {
			for range 8 {
				s := impl.SnapStep{Kind: kind, From: r.Intn(len(b.Coins)+2) - 1, To: r.Intn(len(b.Coins)+2) - 1, Many: r.Intn(3) - 1}
				switch {
				case kind == 1 && r.Intn(4) > 0:
					s.Many = []int{1, 50, 51, r.Intn(60)}[r.Intn(4)]
				case kind == 2 && r.Intn(4) > 0:
					s.Many = 0
				case kind == 3 && r.Intn(4) > 0:
					s.To, s.Many = 0, 0
				}
				q, ok := checkBankStep(t, b, s)
				if ok {
					done[kind]++
					if !impl.GoodBank(q) {
						over++
						if kind != impl.SnTake {
							t.Fatalf("%v of %v is not good: %v", s, b, q)
						}
					}
				}
			}
		}
	}
	if done[1] < 3000 || done[2] < 3000 || done[3] < 3000 || done[0] > 0 || done[4] > 0 || over < 300 {
		t.Error("too few, or none of a kind:", done, over)
	}
}

// checkBankPlay holds a play against its steps, one behind the other.
func checkBankPlay(t *testing.T, coins []int, l []impl.SnapStep) impl.Bank {
	t.Helper()
	want := bankOf(coins)
	var all []bool
	for _, s := range l {
		q, ok := checkBankStep(t, want, s)
		if ok {
			want = q
		}
		all = append(all, ok)
	}
	got, did, ok := impl.PlayBank(coins, l)
	if !sameBank(got, want) || !slices.Equal(did, all) || !ok {
		t.Fatalf("%d %v: %v %v %v, not %v %v", coins, l, got, did, ok, want, all)
	}
	return got
}

func TestPlayBankTellsAsSaid(t *testing.T) {
	for _, c := range []struct {
		coins []int
		l     []impl.SnapStep
		want  impl.Bank
		did   string
		shown int
	}{
		{[]int{5}, nil, bankOf([]int{5}), "", -1},
		{[]int{0, 50, 0, 50, 0}, []impl.SnapStep{}, bankOf([]int{0, 50, 0, 50, 0}), "", -1},
		{[]int{5}, []impl.SnapStep{beginAt(0), beginAt(0)}, bankOf([]int{5}, keptAt(5)), "yn", 5},
		// What 0 gave ahead of its picture is found on the way by 1, which is pictured when it comes.
		{[]int{5, 5}, []impl.SnapStep{give(0, 1, 3), beginAt(1), takeFrom(0, 1), takeFrom(1, 0), takeFrom(0, 1)}, bankOf([]int{2, 8}, keptAt(2, 5), heardBy(0, 1), heardBy(1, 0), foundOn(0, 1, 3)), "yyyyy", 10},
		// It comes ahead of the picture of 1, and is in what 1 kept.
		{[]int{5, 5}, []impl.SnapStep{give(0, 1, 3), takeFrom(0, 1), beginAt(1), takeFrom(1, 0), takeFrom(0, 1)}, bankOf([]int{2, 8}, keptAt(2, 8), heardBy(0, 1), heardBy(1, 0)), "yyyyy", 10},
		// What is given behind the mark is not of the picture.
		{[]int{5, 5}, []impl.SnapStep{beginAt(0), give(0, 1, 3), takeFrom(0, 1), takeFrom(1, 0), takeFrom(0, 1)}, bankOf([]int{2, 8}, keptAt(5, 5), heardBy(0, 1), heardBy(1, 0)), "yyyyy", 10},
		// Both begin, with coins on both ways.
		{[]int{5, 5}, []impl.SnapStep{give(0, 1, 3), give(1, 0, 2), beginAt(0), beginAt(1), takeFrom(0, 1), takeFrom(1, 0), takeFrom(1, 0), takeFrom(0, 1)}, bankOf([]int{4, 6}, keptAt(2, 3), heardBy(0, 1), heardBy(1, 0), foundOn(0, 1, 3), foundOn(1, 0, 2)), "yyyyyyyy", 10},
		// One mark is not yet Heard.
		{[]int{5, 5}, []impl.SnapStep{beginAt(0), takeFrom(0, 1)}, bankOf([]int{5, 5}, keptAt(5, 5), onWay(1, 0, 0), heardBy(1, 0)), "yy", -1},
		// Three nodes: who has no mark of the first hears of it by another one.
		{[]int{9, 0, 4}, []impl.SnapStep{give(2, 0, 4), give(0, 1, 9), beginAt(0), takeFrom(0, 2), takeFrom(2, 1), takeFrom(0, 1), takeFrom(0, 1), takeFrom(1, 0), takeFrom(1, 2), takeFrom(2, 0), takeFrom(2, 0)}, bankOf([]int{4, 9, 0}, keptAt(0, 0, 0), heardBy(0, 1, 2), heardBy(1, 0, 2), heardBy(2, 0, 1), foundOn(0, 1, 9), foundOn(2, 0, 4)), "yyyyyyyyyyy", 13},
		// What can't be done changes nothing, and what follows goes on from there.
		{[]int{5, 0}, []impl.SnapStep{{}, {Kind: 4}, {Kind: -1}, give(0, 1, 6), give(1, 0, 1), give(0, 0, 1), give(0, 2, 1), takeFrom(0, 1), takeFrom(1, 1), beginAt(2), beginAt(-1), {Kind: impl.SnBegin, To: 1}, {Kind: impl.SnBegin, Many: 1}, give(0, 1, 5), {Kind: impl.SnTake, To: 1, Many: 5}, takeFrom(0, 1)}, bankOf([]int{0, 5}), "nnnnnnnnnnnnnyny", -1},
	} {
		got := checkBankPlay(t, c.coins, c.l)
		if !sameBank(got, c.want) {
			t.Errorf("%v %v: %v, not %v", c.coins, c.l, got, c.want)
		}
		checkBank(t, got)
		if n, ok := impl.PictureOf(got); ok != (c.shown >= 0) || n != max(0, c.shown) {
			t.Errorf("%v %v: %d %v, not %d", c.coins, c.l, n, ok, c.shown)
		}
		_, did, _ := impl.PlayBank(c.coins, c.l)
		told := ""
		for _, is := range did {
			told += map[bool]string{true: "y", false: "n"}[is]
		}
		if told != c.did {
			t.Errorf("%v %v: %s, not %s", c.coins, c.l, told, c.did)
		}
	}
}

func TestSnapPlaysHaveAtMostSoManySteps(t *testing.T) {
	for _, many := range []int{0, 1, 2, 38, 39, 40, 41, 119, 120, 121, 122, 5000} {
		l := slices.Repeat([]impl.SnapStep{give(0, 1, 1)}, many)
		b, did, ok := impl.PlayBank([]int{50, 3}, l)
		if many > 120 {
			if !isZeroBank(b) || len(did) != 0 || ok {
				t.Error(many, b, did, ok)
			}
			continue
		}
		if !ok || len(did) != many || len(b.Ways[1]) != min(many, 39) || slices.Contains(did[:min(many, 39)], false) || slices.Contains(did[min(many, 39):], true) {
			t.Error(many, b, did, ok)
		}
		checkBankPlay(t, []int{50, 3}, l)
		checkBankPlay(t, []int{1, 2, 3, 4, 5}, l)
		checkBankPlay(t, []int{7}, slices.Repeat([]impl.SnapStep{{Kind: 9, From: 9}}, many))
	}
	for _, coins := range [][]int{nil, {}, repeated(1, 6), {-1}, {51}, {1, 2, 51}, {1, -1, 2}} {
		for _, many := range []int{0, 1, 120, 121} {
			b, did, ok := impl.PlayBank(coins, slices.Repeat([]impl.SnapStep{beginAt(0)}, many))
			if !isZeroBank(b) || len(did) != 0 || ok {
				t.Errorf("%v: %v %v %v", coins, b, did, ok)
			}
		}
	}
}

func TestTotalInTellsAsSaid(t *testing.T) {
	for _, c := range []struct {
		b    impl.Bank
		want int
	}{
		{bankOf([]int{0}), 0}, {bankOf([]int{1000}), 1000}, {bankOf([]int{1, 20, 300}), 321}, {threeNodes(), 7 + 1000 + 5 + 50 + 3 + 1 + 2 + 2}, {bankOf([]int{0, 0}, onWay(0, 1, 0, 0)), 0}, {bankOf([]int{0, 0}, onWay(1, 0, 50, 1)), 51},
		// What was kept and found is not counted once more.
		{bankOf([]int{5}, keptAt(1000)), 5}, {bankOf([]int{1, 2}, keptAt(9, 9), foundOn(0, 1, 900), foundOn(1, 0, 1000)), 3}, {allHeard(5, 1000), 15},
		{bankOf(repeated(1000, 2), keptAt(1, 1), onWay(0, 1, repeated(50, 40)...), onWay(1, 0, repeated(50, 40)...)), 6000},
	} {
		if n, ok := impl.TotalIn(c.b); n != c.want || !ok {
			t.Errorf("%v: %d %v, not %d", c.b, n, ok, c.want)
		}
	}
}

func TestPicturesAreTakenAsSaid(t *testing.T) {
	check := func(b impl.Bank, want int, is bool) {
		t.Helper()
		checkBank(t, b)
		if got, ok := impl.IsTaken(b); got != is || !ok {
			t.Errorf("%v: %v %v", b, got, ok)
		}
		if n, ok := impl.PictureOf(b); n != want || ok != is {
			t.Errorf("%v: %d %v, not %d %v", b, n, ok, want, is)
		}
	}
	check(bankOf([]int{5}), 0, false)
	check(bankOf([]int{5}, keptAt(0)), 0, true)
	check(bankOf([]int{5}, keptAt(7)), 7, true)
	check(bankOf([]int{5}, keptAt(1000)), 1000, true)
	check(alteredBank(allHeard(2, 4), foundOn(0, 1, 30), foundOn(1, 0, 200)), 238, true)
	// Coins on the way behind the marks are not of the picture, nor are more marks.
	check(alteredBank(allHeard(2, 4), onWay(0, 1, 50, 0), onWay(1, 0, 3)), 8, true)
	for nodes := 1; nodes <= 5; nodes++ {
		check(bankOf(repeated(3, nodes)), 0, false)
		check(allHeard(nodes, 0), 0, true)
		check(allHeard(nodes, 1000), 1000*nodes, true)
		full := allHeard(nodes, 6)
		for from := range nodes {
			check(alteredBank(full, func(b *impl.Bank) {
				// One that is not pictured has Heard of none.
				b.Kept[from] = -1
				clear(b.Heard[from])
			}), 0, false)
			for to := range nodes {
				if from != to {
					check(alteredBank(full, foundOn(from, to, 9)), 6*nodes+9, true)
					// All are pictured, and one mark is not Heard.
					check(alteredBank(full, func(b *impl.Bank) { b.Heard[to][from] = false }), 0, false)
					check(alteredBank(full, func(b *impl.Bank) { b.Heard[to][from] = false }, onWay(from, to, 0)), 0, false)
				}
			}
		}
		if nodes > 1 {
			check(bankOf(repeated(3, nodes), keptAt(repeated(3, nodes)...)), 0, false)
		}
	}
}

// busyWays are takes of all ways that have something on them.
func busyWays(b impl.Bank) []impl.SnapStep {
	var out []impl.SnapStep
	for at, l := range b.Ways {
		if len(l) > 0 {
			out = append(out, takeFrom(at/len(b.Coins), at%len(b.Coins)))
		}
	}
	return out
}

// busyBank are steps that give, take and begin; the first picture begins within the first so many steps.
func busyBank(r *rand.Rand, coins []int, many int) []impl.SnapStep {
	b := bankOf(coins)
	nodes := len(coins)
	takes, least := 2+r.Intn(5), r.Intn(many)
	var l []impl.SnapStep
	for i := range many {
		from, to := r.Intn(nodes), r.Intn(nodes)
		s := takeFrom(from, to)
		switch n := r.Intn(8); {
		case i >= least && r.Intn(10) == 0:
			s = beginAt(from)
		case n >= takes:
			s = give(from, to, 1+r.Intn(max(1, min(b.Coins[from], 50))))
		default:
			if busy := busyWays(b); len(busy) > 0 {
				s = busy[r.Intn(len(busy))]
			}
		}
		if q, ok := impl.StepBank(b, s); ok {
			b = q
		}
		l = append(l, s)
	}
	return l
}

// checkAsMany is promise 12: a picture that is taken has just as many coins as there are.
func checkAsMany(t *testing.T, b impl.Bank, coins int) bool {
	t.Helper()
	total, ok := impl.TotalIn(b)
	if !ok || total != coins || !impl.GoodBank(b) {
		t.Fatalf("there were %d: %v: %d %v", coins, b, total, ok)
	}
	is, ok := impl.IsTaken(b)
	n, shown := impl.PictureOf(b)
	if !ok || shown != is || is && n != coins || !is && n != 0 {
		t.Fatalf("there are %d: %v: %v %v, pictured %d %v", coins, b, is, ok, n, shown)
	}
	return is
}

// Promise 12, at each step on the way.
func TestPicturesThatAreTakenHaveAsManyCoins(t *testing.T) {
	r := rand.New(rand.NewSource(124))
	taken, found, went := 0, 0, 0
	for i := range 3000 {
		var coins []int
		for range 1 + i%5 {
			coins = append(coins, r.Intn(51))
		}
		total := plainTotal(bankOf(coins))
		l := busyBank(r, coins, []int{40, 80, 120}[i%3])
		last := checkBankPlay(t, coins, l)
		b := bankOf(coins)
		isIt, shown := false, 0
		for _, s := range l {
			q, ok := impl.StepBank(b, s)
			if !ok {
				continue
			}
			is := checkAsMany(t, q, total)
			if isIt && !is {
				t.Fatalf("%v of %v: no longer taken: %v", s, b, q)
			}
			if is && !isIt {
				shown = plainTotal(impl.Bank{Ways: q.Found})
			}
			if is && !slices.Equal(q.Coins, q.Kept) {
				went++
			}
			isIt, b = is, q
		}
		if checkAsMany(t, last, total) != isIt {
			t.Fatal(last)
		}
		if isIt {
			taken++
			if shown > 0 {
				found++
			}
		}
	}
	if taken < 500 || found < 200 || went < 500 {
		t.Error("too few pictures:", taken, found, went)
	}
}

// Promise 12 in what PlayBank itself tells: of each shorter play of the same steps.
func TestPicturesHaveAsManyCoinsInShorterPlays(t *testing.T) {
	r := rand.New(rand.NewSource(125))
	taken := 0
	for i := range 150 {
		coins := repeated(r.Intn(51), 1+i%5)
		l := busyBank(r, coins, 120)
		for upto := range len(l) + 1 {
			b, did, ok := impl.PlayBank(coins, l[:upto])
			if !ok || len(did) != upto {
				t.Fatal(coins, l[:upto])
			}
			if checkAsMany(t, b, plainTotal(bankOf(coins))) {
				taken++
			}
		}
	}
	if taken < 1000 {
		t.Error("too few pictures:", taken)
	}
}

// Promise 12, over all that few steps can come to.
func TestWhateverFewStepsPicturesHaveAsManyCoins(t *testing.T) {
	for _, c := range []struct {
		coins []int
		depth int
		least int
	}{{[]int{3}, 3, 1}, {[]int{2, 1}, 14, 300}, {[]int{3, 2}, 13, 300}, {[]int{0, 1, 0}, 14, 80}, {[]int{1, 0, 1}, 11, 100}} {
		first, _ := impl.NewBank(c.coins)
		now, known := []impl.Bank{first}, map[string]bool{fmt.Sprint(first): true}
		taken := 0
		for range c.depth {
			var next []impl.Bank
			for _, b := range now {
				for _, s := range fewSnapSteps(b) {
					q, ok := checkBankStep(t, b, s)
					if !ok {
						continue
					}
					if key := fmt.Sprint(q); !known[key] {
						known[key] = true
						next = append(next, q)
						if checkAsMany(t, q, plainTotal(first)) {
							taken++
						}
					}
				}
			}
			now = next
		}
		if taken < c.least {
			t.Error("too few pictures:", c.coins, taken, len(known))
		}
	}
}

func fewSnapSteps(b impl.Bank) []impl.SnapStep {
	var out []impl.SnapStep
	for from := range b.Coins {
		out = append(out, beginAt(from))
		for to := range b.Coins {
			if from != to {
				out = append(out, give(from, to, 1), takeFrom(from, to))
			}
		}
	}
	return out
}

// Promise 19: whatever it is given, each function answers.
func TestPicturesAnswerAtAnyArguments(t *testing.T) {
	ints := append(noNumbers(), -2, -1, 0, 1, 2, 3, 4, 5, 6, 39, 40, 41, 50, 51, 1000, 1001)
	long := func(n int) int { return max(0, min(n, 60)) }
	for _, x := range ints {
		for _, y := range ints {
			base := threeNodes()
			for _, b := range []impl.Bank{
				alteredBank(base, func(b *impl.Bank) { b.Coins[0], b.Kept[0] = x, y }), alteredBank(base, func(b *impl.Bank) { b.Coins[1], b.Kept[1] = x, y }), alteredBank(base, func(b *impl.Bank) { b.Coins = []int{x, y} }), alteredBank(base, keptAt(x, y)), alteredBank(base, keptAt(x, y, 0)),
				alteredBank(base, foundOn(0, 1, x), foundOn(1, 1, y)), alteredBank(base, foundOn(2, 1, x), foundOn(1, 0, y)), alteredBank(base, onWay(0, 1, x, y)), alteredBank(base, onWay(1, 2, x, 0, y)), alteredBank(base, onWay(2, 2, x), onWay(1, 0, y)),
				alteredBank(base, func(b *impl.Bank) { b.Heard[long(x)%3] = make([]bool, long(y)) }), alteredBank(base, func(b *impl.Bank) { b.Found[long(x)%3] = make([]int, long(y)) }), alteredBank(base, func(b *impl.Bank) { b.Ways, b.Heard = make([][]int, long(x)), make([][]bool, long(y)) }), alteredBank(base, func(b *impl.Bank) { b.Found, b.Kept = make([][]int, long(x)), make([]int, long(y)) }),
				{Coins: []int{x}, Kept: []int{y}, Ways: make([][]int, 1), Heard: [][]bool{{false}}, Found: [][]int{{0}}}, {Coins: []int{x}, Kept: []int{y}}, {Ways: [][]int{{x}, {y}}}, {Coins: []int{x, y}, Ways: make([][]int, 4), Kept: []int{-1, -1}, Heard: make([][]bool, 2), Found: make([][]int, 2)},
			} {
				if impl.GoodBank(b) != plainGoodBank(b) {
					t.Fatalf("GoodBank(%v)", b)
				}
				if !impl.GoodBank(b) {
					refuseBank(t, b)
					continue
				}
				checkBank(t, b)
				for kind := 0; kind <= 4; kind++ {
					checkBankStep(t, b, impl.SnapStep{Kind: kind, From: x, To: y})
					checkBankStep(t, b, impl.SnapStep{Kind: kind, From: 0, To: x, Many: y})
					checkBankStep(t, b, impl.SnapStep{Kind: kind, From: x, Many: y})
					checkBankStep(t, b, impl.SnapStep{Kind: x, From: kind, To: y, Many: kind})
				}
			}
			b, did, ok := impl.PlayBank([]int{x, y}, []impl.SnapStep{{Kind: x, From: y}, give(0, 1, x), give(x, y, 1), takeFrom(x, y), beginAt(y), takeFrom(0, 1)})
			if is := among(x, 0, 50) && among(y, 0, 50); ok != is || is != (len(did) == 6) || is == isZeroBank(b) {
				t.Fatalf("PlayBank([%d %d], ..): %v %v", x, y, did, ok)
			}
		}
	}
	base := threeNodes()
	for _, b := range []impl.Bank{
		alteredBank(base, func(b *impl.Bank) { b.Coins = repeated(1, 100000) }), alteredBank(base, func(b *impl.Bank) { b.Ways = make([][]int, 100000) }), alteredBank(base, onWay(1, 0, repeated(1, 100000)...)), bankOf(repeated(1, 300)),
		alteredBank(base, func(b *impl.Bank) { b.Found[0] = repeated(0, 100000) }), alteredBank(base, func(b *impl.Bank) { b.Heard = slices.Repeat(b.Heard, 10000) }),
	} {
		refuseBank(t, b)
	}
}

// roomyBank is threeNodes with much behind its lists in their memory, which is no part of it, though it could be.
func roomyBank() impl.Bank {
	b := threeNodes()
	for i, l := range b.Ways {
		b.Ways[i] = append(l, 1, 0, 77)[:len(l)]
	}
	for k := range 3 {
		b.Heard[k] = append(b.Heard[k], false, true)[:3]
		b.Found[k] = append(b.Found[k], 0, 77)[:3]
	}
	b.Coins = append(b.Coins, 1, 77)[:3]
	b.Ways = append(b.Ways, nil, []int{77})[:9]
	b.Kept = append(b.Kept, -1, 77)[:3]
	b.Heard = append(b.Heard, make([]bool, 4), []bool{true})[:3]
	b.Found = append(b.Found, make([]int, 4), []int{77})[:3]
	return b
}

// wholeBank has all of a list's memory, within lists too.
func wholeBank(b impl.Bank) impl.Bank {
	b.Ways, b.Heard, b.Found = slices.Clone(b.Ways[:cap(b.Ways)]), slices.Clone(b.Heard[:cap(b.Heard)]), slices.Clone(b.Found[:cap(b.Found)])
	for i, l := range b.Ways {
		b.Ways[i] = l[:cap(l)]
	}
	for i, l := range b.Heard {
		b.Heard[i] = l[:cap(l)]
	}
	for i, l := range b.Found {
		b.Found[i] = l[:cap(l)]
	}
	b.Coins, b.Kept = b.Coins[:cap(b.Coins)], b.Kept[:cap(b.Kept)]
	return b
}

// bankSteps are all that can be done with threeNodes: each way that has something, marks and coins, and all that begin.
func bankSteps() []impl.SnapStep {
	return []impl.SnapStep{give(0, 1, 1), give(0, 2, 7), give(2, 0, 50), give(2, 1, 3), takeFrom(0, 1), takeFrom(0, 2), takeFrom(1, 0), takeFrom(1, 2), takeFrom(2, 1), beginAt(0), beginAt(2)}
}

// Promise 19: nothing is written into an argument, nor into what lies behind it in its memory, nor is that read.
func TestPicturesWriteIntoNoBank(t *testing.T) {
	b, was := roomyBank(), cloneBank(wholeBank(roomyBank()))
	check := func(name string) {
		t.Helper()
		if !sameBank(wholeBank(b), was) {
			t.Fatalf("%s has written: %v", name, wholeBank(b))
		}
	}
	checkBank(t, b)
	check("asking")
	for _, s := range bankSteps() {
		got, ok := impl.StepBank(b, s)
		want, _ := impl.StepBank(threeNodes(), s)
		if !ok || !sameBank(got, want) {
			t.Errorf("%v: %v %v, not %v", s, got, ok, want)
		}
		check(fmt.Sprint(s))
	}
	for _, n := range manyNumbers() {
		for kind := range 5 {
			for k := range 4 {
				impl.StepBank(b, impl.SnapStep{Kind: kind, From: k, To: n, Many: k})
				impl.StepBank(b, impl.SnapStep{Kind: kind, From: n, To: k})
				impl.StepBank(b, impl.SnapStep{Kind: kind, From: k, To: (k + 1) % 3, Many: n})
			}
		}
	}
	check("any number")
	for _, q := range []impl.Bank{
		wholeBank(b), alteredBank(b, func(q *impl.Bank) { q.Coins = b.Coins[:4] }), alteredBank(b, func(q *impl.Bank) { q.Coins = b.Coins[:2] }), alteredBank(b, func(q *impl.Bank) { q.Ways = b.Ways[:10] }), alteredBank(b, func(q *impl.Bank) { q.Ways = b.Ways[:8] }), alteredBank(b, func(q *impl.Bank) { q.Kept = b.Kept[:4] }), alteredBank(b, func(q *impl.Bank) { q.Heard = b.Heard[:4] }), alteredBank(b, func(q *impl.Bank) { q.Found = b.Found[:2] }),
		{Coins: b.Coins[:2], Ways: b.Ways[:4], Kept: b.Kept[:2], Heard: b.Heard[:2], Found: b.Found[:2]},
	} {
		refuseBank(t, q)
	}
	check("refusing")
}

func TestPicturesWriteIntoNoStepsAndCoins(t *testing.T) {
	all := []impl.SnapStep{give(0, 1, 3), beginAt(1), takeFrom(0, 1), {Kind: 9, From: 9}, takeFrom(1, 0)}
	l, coins := slices.Clone(all)[:3], append(make([]int, 0, 9), 5, 6, 77)[:2]
	for range 2 {
		b, did, ok := impl.PlayBank(coins, l)
		if !sameBank(b, bankOf([]int{2, 9}, keptAt(-1, 6), onWay(1, 0, 0), foundOn(0, 1, 3))) || !slices.Equal(did, []bool{true, true, true}) || !ok {
			t.Error(b, did, ok)
		}
		impl.PlayBank(coins, l[:5])
		impl.PlayBank(coins[:3], l)
		impl.PlayBank(coins[:9], l)
		n, ok := impl.NewBank(coins)
		if !sameBank(n, bankOf([]int{5, 6})) || !ok {
			t.Error(n, ok)
		}
		impl.NewBank(coins[:3])
	}
	if !slices.Equal(l[:5], all) || !slices.Equal(coins[:9], []int{5, 6, 77, 0, 0, 0, 0, 0, 0}) {
		t.Error("written into:", l[:5], coins[:9])
	}
}

// bankHandsOut tells whether something stands behind a bank's lists in their memory that is not zero.
func bankHandsOut(b impl.Bank) bool {
	if slices.ContainsFunc(b.Ways, hasBehind) || slices.ContainsFunc(b.Found, hasBehind) || hasBehind(b.Coins) || hasBehind(b.Kept) {
		return true
	}
	for _, l := range b.Heard {
		if slices.Contains(l[len(l):cap(l)], true) {
			return true
		}
	}
	isSome := func(l []int) bool { return cap(l) > 0 }
	return slices.ContainsFunc(b.Ways[len(b.Ways):cap(b.Ways)], isSome) || slices.ContainsFunc(b.Found[len(b.Found):cap(b.Found)], isSome) || slices.ContainsFunc(b.Heard[len(b.Heard):cap(b.Heard)], func(l []bool) bool { return cap(l) > 0 })
}

// bankLists are all lists of numbers of a bank, in one order.
func bankLists(b *impl.Bank) []*[]int {
	out := []*[]int{&b.Coins, &b.Kept}
	for i := range b.Ways {
		out = append(out, &b.Ways[i])
	}
	for i := range b.Found {
		out = append(out, &b.Found[i])
	}
	return out
}

// checkBankFresh writes over all of a bank's lists, one at a time: no other one may change.
func checkBankFresh(t *testing.T, name string, way func() impl.Bank) {
	t.Helper()
	want := cloneBank(way())
	if bankHandsOut(way()) {
		t.Errorf("%s hands out %v", name, wholeBank(way()))
	}
	for i := range bankLists(&want) {
		b := way()
		l := bankLists(&b)[i]
		spoil(*l, 77)
		*l = *bankLists(&want)[i]
		if !sameBank(b, want) {
			t.Errorf("%s: list %d shares memory: %v", name, i, b)
		}
	}
	for k := range want.Heard {
		b := way()
		for _, is := range []bool{true, false} {
			spoil(b.Heard[k], is)
			for other := range b.Heard {
				if other != k && !slices.Equal(b.Heard[other], want.Heard[other]) {
					t.Errorf("%s: Heard of %d and %d share memory", name, k, other)
				}
			}
		}
	}
	b := way()
	for _, l := range bankLists(&b) {
		spoil(*l, 77)
	}
	for _, l := range b.Heard {
		spoil(l, true)
	}
	spoil(b.Ways, []int{77})
	spoil(b.Found, []int{77})
	spoil(b.Heard, []bool{true})
	if again := way(); !sameBank(again, want) {
		t.Errorf("%s: %v, not %v", name, again, want)
	}
}

func TestPicturesAnswerWithNewMemory(t *testing.T) {
	for _, s := range bankSteps() {
		b, was := roomyBank(), cloneBank(wholeBank(roomyBank()))
		checkBankFresh(t, fmt.Sprint(s), func() impl.Bank {
			q, ok := impl.StepBank(b, s)
			if !ok {
				t.Fatal(s)
			}
			return q
		})
		if !sameBank(wholeBank(b), was) {
			t.Errorf("%v has shared its argument's memory: %v", s, b)
		}
	}
	coins := append(make([]int, 0, 9), 5, 6, 7)
	checkBankFresh(t, "NewBank", func() impl.Bank {
		b, _ := impl.NewBank(coins)
		return b
	})
	r := rand.New(rand.NewSource(126))
	for i := range 30 {
		l := busyBank(r, coins, 40+3*i-10)
		checkBankFresh(t, "PlayBank", func() impl.Bank {
			b, did, ok := impl.PlayBank(coins, l)
			if !ok || slices.Contains(did[len(did):cap(did)], true) {
				t.Error(did[:cap(did)], ok)
			}
			spoil(did, true)
			return b
		})
	}
	if !slices.Equal(coins, []int{5, 6, 7}) {
		t.Error("shared:", coins)
	}
}
