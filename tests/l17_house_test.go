package tests

import (
	"fmt"
	"math/rand"
	"reflect"
	"slices"
	"strings"
	"testing"

	"loop.example/g00522/impl"
)

func tellPart(part int, x impl.Say) impl.HouseStep {
	return impl.HouseStep{Kind: impl.HoTell, Part: part, What: x}
}

func followPart(part int) impl.HouseStep {
	return impl.HouseStep{Kind: impl.HoFollow, Part: part}
}

func keepPart(part int) impl.HouseStep { return impl.HouseStep{Kind: impl.HoKeep, Part: part} }

func losePart(part int) impl.HouseStep { return impl.HouseStep{Kind: impl.HoLose, Part: part} }

// partByHand goes by the words of chapters 3 and 17, without a remainder on the way.
func partByHand(parts int, name string) int {
	sum, power := 0, 1
	for i := len(name) - 1; i >= 0; i-- {
		sum += int(name[i]) * power
		power *= 31
	}
	return (sum + 7*power) % 1009 % parts
}

// tellRight goes to the part that its name has.
func tellRight(parts int, x impl.Say) impl.HouseStep {
	return tellPart(partByHand(parts, x.Name), x)
}

// unlikeNames are good names, each once.
func unlikeNames() []string {
	return slices.Compact(slices.Sorted(slices.Values(goodNames())))
}

// namesIn are good names, all of one part.
func namesIn(parts int, part int) []string {
	return slices.DeleteFunc(unlikeNames(), func(name string) bool { return partByHand(parts, name) != part })
}

// plainHouse knows what was told and how far heads are; what they have follows from that.
type plainHouse struct {
	logs []plainPieces
	at   []int
	kept []int
}

// part has so many of its says in its head, and so many in what is kept.
type part struct {
	says []impl.Say
	at   int
	kept int
}

func houseOf(parts ...part) impl.House {
	var p plainHouse
	for _, x := range parts {
		p.logs = append(p.logs, logOfRecords(textsOfSays(x.says)...))
		p.at, p.kept = append(p.at, x.at), append(p.kept, x.kept)
	}
	return p.house()
}

func textsOfSays(l []impl.Say) []string {
	var out []string
	for _, x := range l {
		out = append(out, plainSayText(x))
	}
	return out
}

// logOfRecords begins at 0, and is laid out as records that come one by one.
func logOfRecords(records ...string) plainPieces {
	p := plainPieces{pieces: [][]string{nil}}
	for _, s := range records {
		p, _ = p.append(s)
	}
	return p
}

func (p plainHouse) house() impl.House {
	var h impl.House
	for k, log := range p.logs {
		h.Logs = append(h.Logs, log.log())
		h.Heads = append(h.Heads, foldedUpTo(log.records(), p.at[k]))
		h.Kept = append(h.Kept, foldedUpTo(log.records(), p.kept[k]))
	}
	return h
}

func foldedUpTo(records []string, at int) impl.Head {
	var l []impl.Say
	for _, s := range records[:at] {
		x, _ := plainReadSay(s)
		l = append(l, x)
	}
	h, _, _ := plainFold(impl.Head{}, l)
	return h
}

func piecesOf(g impl.Log) plainPieces {
	p := plainPieces{begin: g.Begin}
	for i, x := range g.Pieces {
		if i == 0 {
			p.from = x.From
		}
		l, _ := plainRecords(x.Bytes)
		p.pieces = append(p.pieces, l)
	}
	return p
}

func cloneLog(g impl.Log) impl.Log {
	out := impl.Log{Pieces: slices.Clone(g.Pieces), Begin: g.Begin}
	for i, p := range out.Pieces {
		out.Pieces[i].Index = slices.Clone(p.Index)
	}
	return out
}

func cloneHouse(h impl.House) impl.House {
	var out impl.House
	for _, g := range h.Logs {
		out.Logs = append(out.Logs, cloneLog(g))
	}
	for _, x := range h.Heads {
		out.Heads = append(out.Heads, cloneHead(x))
	}
	for _, x := range h.Kept {
		out.Kept = append(out.Kept, cloneHead(x))
	}
	return out
}

func alteredHouse(h impl.House, change func(*impl.House)) impl.House {
	out := cloneHouse(h)
	change(&out)
	return out
}

func sameHouse(a impl.House, b impl.House) bool {
	return slices.EqualFunc(a.Logs, b.Logs, sameLog) && slices.EqualFunc(a.Heads, b.Heads, sameHead) && slices.EqualFunc(a.Kept, b.Kept, sameHead)
}

func isZeroHouse(h impl.House) bool { return sameHouse(h, impl.House{}) }

// plainGoodHouse goes by the chapter's words, one behind the other.
func plainGoodHouse(h impl.House) bool {
	parts := len(h.Logs)
	if !among(parts, 1, 3) || len(h.Heads) != parts || len(h.Kept) != parts {
		return false
	}
	for k, g := range h.Logs {
		if !plainGoodLog(g) || g.Begin != 0 {
			return false
		}
		records := piecesOf(g).records()
		for _, s := range records {
			if x, ok := plainReadSay(s); !ok || partByHand(parts, x.Name) != k {
				return false
			}
		}
		if !isFoldOf(h.Heads[k], records) || !isFoldOf(h.Kept[k], records) || h.Kept[k].Offset > h.Heads[k].Offset {
			return false
		}
	}
	return true
}

func isFoldOf(h impl.Head, records []string) bool {
	return plainGoodHead(h) && h.Offset <= len(records) && sameHead(h, foldedUpTo(records, h.Offset))
}

// plainHouseStep goes by the chapter's words, one behind the other, on a copy.
func plainHouseStep(h impl.House, s impl.HouseStep) (impl.House, bool) {
	q, parts, isBare := cloneHouse(h), len(h.Logs), s.What == impl.Say{}
	if !among(s.Part, 0, parts-1) || !isBare && s.Kind != 1 {
		return impl.House{}, false
	}
	log, head, kept := piecesOf(q.Logs[s.Part]), &q.Heads[s.Part], &q.Kept[s.Part]
	switch s.Kind {
	case 1:
		if !plainGoodSay(s.What) || partByHand(parts, s.What.Name) != s.Part {
			return impl.House{}, false
		}
		longer, ok := log.append(plainSayText(s.What))
		if !ok {
			return impl.House{}, false
		}
		q.Logs[s.Part] = longer.log()
	case 2:
		if head.Offset == len(log.records()) {
			return impl.House{}, false
		}
		*head = foldedUpTo(log.records(), head.Offset+1)
	case 3:
		*kept = cloneHead(*head)
	case 4:
		*head = cloneHead(*kept)
	default:
		return impl.House{}, false
	}
	return q, true
}

// plainCaught has all heads at the ends of their logs.
func plainCaught(h impl.House) (impl.House, int) {
	q, often := cloneHouse(h), 0
	for k, g := range q.Logs {
		records := piecesOf(g).records()
		often += len(records) - q.Heads[k].Offset
		q.Heads[k] = foldedUpTo(records, len(records))
	}
	return q, often
}

func plainAsk(h impl.House, name string, wait int) ([]impl.Sample, bool, bool) {
	if !plainName.MatchString(name) || !among(wait, 0, 60) {
		return nil, false, false
	}
	head := h.Heads[partByHand(len(h.Logs), name)]
	if head.Offset < wait {
		return nil, false, true
	}
	for _, row := range head.Rows {
		if row.Name == name {
			return row.Samples, true, true
		}
	}
	return nil, true, true
}

func checkAsk(t *testing.T, h impl.House, name string, wait int) ([]impl.Sample, bool) {
	t.Helper()
	want, is, fine := plainAsk(h, name, wait)
	got, so, ok := impl.AskHouse(h, name, wait)
	if !slices.Equal(got, want) || so != is || ok != fine {
		t.Fatalf("AskHouse(%v, %q, %d): %v %v %v, not %v %v %v", h, name, wait, got, so, ok, want, is, fine)
	}
	return got, so
}

// waitsFor are those round the Offsets of a house's heads, and far ones.
func waitsFor(h impl.House) []int {
	out := []int{-1, 0, 1, 59, 60, 61}
	for _, x := range h.Heads {
		out = append(out, x.Offset-1, x.Offset, x.Offset+1)
	}
	return out
}

// checkHouse asks a good house all there is to ask of it.
func checkHouse(t *testing.T, h impl.House) {
	t.Helper()
	if !impl.GoodHouse(h) {
		t.Fatalf("not good: %v", h)
	}
	want, many := plainCaught(h)
	got, often, ok := impl.CatchUp(h)
	if !sameHouse(got, want) || often != many || !ok {
		t.Fatalf("CatchUp(%v): %v %d %v, not %v %d", h, got, often, ok, want, many)
	}
	names := []string{"", "a", "b", "c", "cpu", "zz", "A"}
	for _, x := range h.Heads {
		for _, row := range x.Rows {
			names = append(names, row.Name)
		}
	}
	for _, name := range names {
		for _, wait := range waitsFor(h) {
			checkAsk(t, h, name, wait)
		}
	}
}

func checkHouseStep(t *testing.T, h impl.House, s impl.HouseStep) (impl.House, bool) {
	t.Helper()
	want, is := plainHouseStep(h, s)
	got, ok := impl.StepHouse(h, s)
	if ok != is || !sameHouse(got, want) {
		t.Fatalf("%v of %v: %v %v, not %v %v", s, h, got, ok, want, is)
	}
	if ok && !impl.GoodHouse(got) {
		t.Fatalf("%v of %v is not good: %v", s, h, got)
	}
	return got, ok
}

func refuseHouse(t *testing.T, h impl.House) {
	t.Helper()
	if impl.GoodHouse(h) {
		t.Fatalf("taken: %v", h)
	}
	if q, often, ok := impl.CatchUp(h); !isZeroHouse(q) || often != 0 || ok {
		t.Fatalf("CatchUp(%v): %v %d %v", h, q, often, ok)
	}
	for _, name := range []string{"", "a", "b", "c", "cpu"} {
		for wait := -1; wait <= 2; wait++ {
			if l, is, ok := impl.AskHouse(h, name, wait); len(l) != 0 || is || ok {
				t.Fatalf("AskHouse(%v, %q, %d): %v %v %v", h, name, wait, l, is, ok)
			}
		}
	}
	for kind := 0; kind <= 5; kind++ {
		for part := -1; part <= 3; part++ {
			for _, x := range []impl.Say{{}, sayOf("a", 1000, 1), sayOf("b", 1000, 1), sayOf("c", 1000, 1)} {
				s := impl.HouseStep{Kind: kind, Part: part, What: x}
				if q, ok := impl.StepHouse(h, s); !isZeroHouse(q) || ok {
					t.Fatalf("%v of %v: %v %v", s, h, q, ok)
				}
			}
		}
	}
}

// anyTold are so many says of these names, each short enough for a record; times rise more often than not.
func anyTold(r *rand.Rand, names []string, many int) []impl.Say {
	var out []impl.Say
	at := r.Intn(10)
	for range many {
		x := sayOf(names[r.Intn(len(names))], max(0, at+[]int{0, 0, 0, -1, -2, 1}[r.Intn(6)]), []int{0, -1, 7, r.Intn(2001) - 1000, 123456}[r.Intn(5)])
		if len(plainSayText(x)) > 20 {
			x.Value = 0
		}
		out = append(out, x)
		at += []int{0, 1, 1, 2, r.Intn(9)}[r.Intn(5)]
	}
	return out
}

// anyLaidOut has pieces that end early, too, as a log has that was cut: such a one is good all the same.
func anyLaidOut(r *rand.Rand, records []string) plainPieces {
	p := plainPieces{pieces: [][]string{nil}}
	early := r.Intn(3) * 4
	for _, s := range records {
		if last := p.pieces[len(p.pieces)-1]; len(last) > 0 && early > 0 && len(p.pieces) < 20 && r.Intn(5) == 0 {
			early--
			p.pieces = append(p.pieces, nil)
		}
		if longer, ok := p.append(s); ok {
			p = longer
		}
	}
	if last := p.pieces[len(p.pieces)-1]; len(last) > 0 && len(p.pieces) < 20 && r.Intn(4) == 0 {
		p.pieces = append(p.pieces, nil)
	}
	return p
}

func anyHouse(r *rand.Rand) plainHouse {
	var p plainHouse
	parts := 1 + r.Intn(3)
	for k := range parts {
		names := namesIn(parts, k)
		r.Shuffle(len(names), func(i, j int) { names[i], names[j] = names[j], names[i] })
		// Few names, so that rows are told again and fill; or more than a head has rows for.
		names = names[:[]int{1, 1, 2, 3, 12}[r.Intn(5)]]
		many := []int{0, 0, 1, 2, r.Intn(9), r.Intn(25), 45, 60}[r.Intn(8)]
		log := anyLaidOut(r, textsOfSays(anyTold(r, names, many)))
		end := len(log.records())
		at := []int{0, end, end, r.Intn(end + 1), max(0, end-1)}[r.Intn(5)]
		p.logs = append(p.logs, log)
		p.at = append(p.at, at)
		p.kept = append(p.kept, []int{0, at, r.Intn(at + 1)}[r.Intn(3)])
	}
	return p
}

func fewSays(name string, many int) []impl.Say {
	var out []impl.Say
	for i := range many {
		out = append(out, sayOf(name, 10+i, i-2))
	}
	return out
}

// twoParts is good; each part is behind what was told, and has kept less than it has.
func twoParts() impl.House {
	return houseOf(
		part{[]impl.Say{sayOf("a", 5, 1), sayOf("c", 3, -4), sayOf("a", 5, 2), sayOf("a", 9, 3), sayOf("c", 2, 0), sayOf("c", 4, 6)}, 4, 2},
		part{[]impl.Say{sayOf("b", 1, 1), sayOf("d", 2, 2), sayOf("b", 3, 3)}, 2, 1},
	)
}

// fullOfAll has one part with more names than a head has rows for, and a row that is full.
func fullOfAll() impl.House {
	var l []impl.Say
	for i := range 42 {
		l = append(l, sayOf("a", i, 0))
	}
	for k := range 9 {
		l = append(l, sayOf(string(rune('b'+k)), 1, 1))
	}
	return houseOf(part{l, len(l), 41})
}

func goodHouses() []impl.House {
	out := []impl.House{
		twoParts(), fullOfAll(), houseOf(part{}), houseOf(part{}, part{}), houseOf(part{}, part{}, part{}),
		{Logs: []impl.Log{logOf(0, 0, nil)}, Heads: []impl.Head{{Rows: []impl.Row{}}}, Kept: []impl.Head{{}}},
		houseOf(part{fewSays("a", 1), 0, 0}), houseOf(part{fewSays("a", 1), 1, 0}), houseOf(part{fewSays("a", 1), 1, 1}), houseOf(part{fewSays("a", 60), 60, 60}), houseOf(part{fewSays("a", 60), 60, 59}), houseOf(part{fewSays("a", 60), 41, 40}),
		houseOf(part{[]impl.Say{sayOf("cpu", 1000000000, 12345)}, 1, 0}), houseOf(part{slices.Repeat([]impl.Say{sayOf("cpu", 1000000000, -1234)}, 40), 40, 1}),
	}
	r := rand.New(rand.NewSource(171))
	for range 300 {
		out = append(out, anyHouse(r).house())
	}
	return out
}

// noSays are texts of no good say, each short enough for a record.
func noSays() []string {
	return []string{
		"", " ", "  ", "a", "a ", "a 1", "a 1 ", " a 1 1", "a 1 1 ", "a  1 1", "a 1  1", "a 01 1", "a 1 01", "a 1 +1", "a +1 1", "a 1 -0", "a -0 1", "a -1 1", "a 1 -", "a 1 x", "a x 1", "a 1 1\n", "\na 1 1", "a 1 1 1", "a\t1 1",
		"A 1 1", "1 1 1", "a1 1 1", "abcdefghi 1 1", " 1 1", "\xff 1 1", "ä 1 1", "a 1000000001 1", "a 1 1000000001", "a 1 -1000000001", "a 1 1.0", "a 1e3 1", "a 0x1 1", "a 1,1", "a=1 1", "\x00", "a 1 1\x00", "aaaaaaaaaaaaaaaaaaaa",
	}
}

func badRecords() []impl.House {
	var out []impl.House
	good := []string{"a 1 1", "a 2 2", "a 3 3", "a 4 4"}
	for _, s := range noSays() {
		for at := range good {
			records := slices.Clone(good)
			records[at] = s
			for _, upto := range []int{0, at} {
				p := plainHouse{logs: []plainPieces{logOfRecords(records...)}, at: []int{upto}, kept: []int{0}}
				out = append(out, p.house())
			}
			// A head that has passed over it.
			h := plainHouse{logs: []plainPieces{logOfRecords(good...)}, at: []int{4}, kept: []int{0}}.house()
			h.Logs[0] = logOfRecords(records...).log()
			out = append(out, h)
		}
	}
	// Says of other parts.
	for parts := 2; parts <= 3; parts++ {
		for own := range parts {
			for other := range parts {
				if other == own {
					continue
				}
				for at := range 3 {
					l := fewSays(namesIn(parts, own)[0], 3)
					l[at].Name = namesIn(parts, other)[1]
					for _, upto := range []int{0, 3} {
						all := make([]part, parts)
						all[own] = part{l, upto, 0}
						out = append(out, houseOf(all...))
					}
				}
			}
		}
	}
	return out
}

func badHouseLogs() []impl.House {
	var out []impl.House
	for _, g := range badLogs() {
		out = append(out, impl.House{Logs: []impl.Log{g}, Heads: make([]impl.Head, 1), Kept: make([]impl.Head, 1)})
		for k := range 2 {
			out = append(out, alteredHouse(houseOf(part{}, part{}), func(h *impl.House) { h.Logs[k] = g }))
		}
	}
	// Logs that are good, but do not begin at 0.
	said := []string{"a 1 1", "a 2 2", "a 3 3"}
	for _, g := range []impl.Log{
		logOf(1, 1, nil), logOf(1, 1, said), logOf(0, 1, said), logOf(0, 3, said), logOf(0, 1, said[:1], said[1:]), logOf(100000, 100000, nil), logOf(100000, 100001, said), logOf(1, 2, said),
	} {
		for _, upto := range []int{0, 1, 2, 3} {
			if upto > len(piecesOf(g).records()) {
				continue
			}
			head := foldedUpTo(piecesOf(g).records(), upto)
			out = append(out, impl.House{Logs: []impl.Log{g}, Heads: []impl.Head{head}, Kept: []impl.Head{{}}})
			out = append(out, impl.House{Logs: []impl.Log{g}, Heads: []impl.Head{withOffset(head, min(1000, upto+g.Begin))}, Kept: []impl.Head{{}}})
		}
	}
	return out
}

// otherHeads are near to a head, but are not it.
func otherHeads(x impl.Head) []impl.Head {
	out := []impl.Head{withOffset(x, x.Offset-1), withOffset(x, x.Offset+1), withOffset(x, -1), withOffset(x, 61), withOffset(x, 1000), withOffset(x, 1001), headOf(x.Offset, append(cloneHead(x).Rows, rowWith("zz", 1, 1))...)}
	for _, n := range noNumbers() {
		out = append(out, withOffset(x, n))
	}
	for i := range x.Rows {
		change := func(change func(row *impl.Row)) {
			out = append(out, alteredHead(x, func(q *impl.Head) { change(&q.Rows[i]) }))
		}
		change(func(row *impl.Row) { row.Name += "a" })
		change(func(row *impl.Row) { row.Name = "" })
		change(func(row *impl.Row) { row.Samples = nil })
		change(func(row *impl.Row) { row.Samples[0].Value++ })
		change(func(row *impl.Row) { row.Samples[0].At-- })
		change(func(row *impl.Row) { row.Samples[len(row.Samples)-1].At++ })
		change(func(row *impl.Row) { row.Samples[len(row.Samples)-1].Value = 1000000001 })
		change(func(row *impl.Row) { row.Samples = row.Samples[1:] })
		change(func(row *impl.Row) { row.Samples = append(row.Samples, impl.Sample{At: 999, Value: 9}) })
		out = append(out, alteredHead(x, func(q *impl.Head) { q.Rows = slices.Delete(q.Rows, i, i+1) }))
		out = append(out, alteredHead(x, func(q *impl.Head) { q.Rows = slices.Insert(q.Rows, i, q.Rows[i]) }))
	}
	if len(x.Rows) > 1 {
		out = append(out, alteredHead(x, func(q *impl.Head) { slices.Reverse(q.Rows) }))
	}
	return out
}

func badHouseHeads() []impl.House {
	var out []impl.House
	for _, h := range []impl.House{twoParts(), fullOfAll(), houseOf(part{}), houseOf(part{fewSays("a", 3), 3, 3}), houseOf(part{}, part{fewSays("c", 2), 1, 0}, part{})} {
		for k := range h.Logs {
			for _, x := range otherHeads(h.Heads[k]) {
				out = append(out, alteredHouse(h, func(q *impl.House) { q.Heads[k] = x }))
			}
			for _, x := range otherHeads(h.Kept[k]) {
				out = append(out, alteredHouse(h, func(q *impl.House) { q.Kept[k] = x }))
			}
		}
	}
	for _, x := range badHeads() {
		out = append(out, impl.House{Logs: []impl.Log{impl.NewLog()}, Heads: []impl.Head{x}, Kept: make([]impl.Head, 1)}, impl.House{Logs: []impl.Log{impl.NewLog()}, Heads: make([]impl.Head, 1), Kept: []impl.Head{x}})
	}
	// A kept head that is ahead of its head, though it is what the log's first records come to.
	for at := range 4 {
		for kept := at + 1; kept <= 4; kept++ {
			out = append(out, houseOf(part{fewSays("a", 4), at, kept}), houseOf(part{}, part{fewSays("b", 4), at, kept}))
		}
	}
	// Where what is told again changes no row, a head with the next Offset alone is good, too.
	out = slices.DeleteFunc(out, plainGoodHouse)
	// More was followed than was told.
	h := houseOf(part{fewSays("a", 3), 3, 0})
	out = append(out, alteredHouse(h, func(q *impl.House) { q.Logs[0] = logOfRecords("a 10 -2", "a 11 -1").log() }), alteredHouse(h, func(q *impl.House) { q.Logs[0] = impl.NewLog() }), alteredHouse(h, func(q *impl.House) { q.Kept[0], q.Logs[0] = q.Heads[0], impl.NewLog() }))
	return out
}

// badLengths are houses whose logs, heads and kept heads are not as many, or too few or many.
func badLengths() []impl.House {
	var out []impl.House
	for logs := range 6 {
		for heads := range 6 {
			for kept := range 6 {
				if logs == heads && heads == kept && among(logs, 1, 3) {
					continue
				}
				h := impl.House{Heads: make([]impl.Head, heads), Kept: make([]impl.Head, kept)}
				for range logs {
					h.Logs = append(h.Logs, impl.NewLog())
				}
				out = append(out, h)
			}
		}
	}
	two := twoParts()
	return append(out, impl.House{}, impl.House{Logs: two.Logs[:1], Heads: two.Heads, Kept: two.Kept}, impl.House{Logs: two.Logs, Heads: two.Heads[:1], Kept: two.Kept}, impl.House{Logs: two.Logs, Heads: two.Heads, Kept: two.Kept[:1]}, impl.House{Logs: two.Logs, Heads: two.Heads}, impl.House{Logs: two.Logs, Kept: two.Kept}, impl.House{Heads: two.Heads, Kept: two.Kept}, impl.House{Logs: []impl.Log{two.Logs[1], two.Logs[0]}, Heads: []impl.Head{two.Heads[1], two.Heads[0]}, Kept: []impl.Head{two.Kept[1], two.Kept[0]}},
		impl.House{Logs: make([]impl.Log, 1), Heads: make([]impl.Head, 1), Kept: make([]impl.Head, 1)}, impl.House{Logs: make([]impl.Log, 50000), Heads: make([]impl.Head, 50000), Kept: make([]impl.Head, 50000)})
}

func badHouses() []impl.House {
	return slices.Concat(badLengths(), badRecords(), badHouseLogs(), badHouseHeads())
}

func TestHousesHaveTheirLimits(t *testing.T) {
	if impl.MaxParts != 3 || impl.MaxHouseSteps != 60 {
		t.Error(impl.MaxParts, impl.MaxHouseSteps)
	}
	if impl.HoTell != 1 || impl.HoFollow != 2 || impl.HoKeep != 3 || impl.HoLose != 4 {
		t.Error(impl.HoTell, impl.HoFollow, impl.HoKeep, impl.HoLose)
	}
}

func TestPartOfTellsAsSaid(t *testing.T) {
	// 7 times 31 and 97 is 314; 98 more, and so on.
	for _, c := range []struct {
		parts int
		name  string
		want  int
	}{{1, "a", 0}, {2, "a", 0}, {3, "a", 2}, {2, "b", 1}, {3, "b", 0}, {3, "c", 1}, {2, "z", 339 % 2}, {3, "z", 339 % 3}, {2, "aa", (314*31 + 97) % 1009 % 2}, {3, "aa", (314*31 + 97) % 1009 % 3}, {3, "ab", (314*31 + 98) % 1009 % 3}} {
		if at, ok := impl.PartOf(c.parts, c.name); at != c.want || !ok {
			t.Errorf("PartOf(%d, %q): %d %v, not %d", c.parts, c.name, at, ok, c.want)
		}
	}
	r := rand.New(rand.NewSource(172))
	names := goodNames()
	for range 500 {
		names = append(names, anyWord(r, "abcdefghijklmnopqrstuvwxyz"))
	}
	met := map[[2]int]int{}
	for _, parts := range manyNumbers() {
		for _, name := range names {
			want, is := 0, among(parts, 1, 3)
			if is {
				want = partByHand(parts, name)
				met[[2]int{parts, want}]++
				if hash, ok := impl.HashText(name); hash%parts != want || !ok {
					t.Fatalf("HashText(%q): %d", name, hash)
				}
			}
			if at, ok := impl.PartOf(parts, name); at != want || ok != is {
				t.Fatalf("PartOf(%d, %q): %d %v, not %d %v", parts, name, at, ok, want, is)
			}
		}
		for _, name := range badNames() {
			if at, ok := impl.PartOf(parts, name); at != 0 || ok {
				t.Fatalf("PartOf(%d, %q): %d %v", parts, name, at, ok)
			}
		}
	}
	for _, k := range [][2]int{{1, 0}, {2, 0}, {2, 1}, {3, 0}, {3, 1}, {3, 2}} {
		if met[k] < 100 {
			t.Error("too few:", k, met[k])
		}
	}
}

func TestNewHouseTellsAsSaid(t *testing.T) {
	for _, parts := range manyNumbers() {
		h, ok := impl.NewHouse(parts)
		if !among(parts, 1, 3) {
			if !isZeroHouse(h) || ok {
				t.Errorf("%d: %v %v", parts, h, ok)
			}
			continue
		}
		if !sameHouse(h, houseOf(make([]part, parts)...)) || !ok || len(h.Logs) != parts || !sameLog(h.Logs[parts-1], impl.NewLog()) {
			t.Errorf("%d: %v %v", parts, h, ok)
		}
		checkHouse(t, h)
	}
}

func TestGoodHouseTellsAsSaid(t *testing.T) {
	for _, h := range goodHouses() {
		if !plainGoodHouse(h) {
			t.Errorf("refused: %v", h)
		}
		checkHouse(t, h)
	}
	bad := badHouses()
	for i, h := range bad {
		if impl.GoodHouse(h) || plainGoodHouse(h) {
			t.Errorf("taken: %d: %v", i, h)
		}
	}
	if len(bad) < 1000 {
		t.Error("too few:", len(bad))
	}
}

func TestHeadsAreWhatTheirOffsetsTell(t *testing.T) {
	l := []impl.Say{sayOf("a", 5, 1), sayOf("a", 5, 2), sayOf("a", 4, 3), sayOf("a", 6, 4)}
	first, second := rowWith("a", 5, 1), rowWith("a", 5, 1, 6, 4)
	for _, c := range []struct {
		head impl.Head
		kept impl.Head
		is   bool
	}{
		{headOf(0), headOf(0), true}, {headOf(1, first), headOf(0), true}, {headOf(2, first), headOf(0), true}, {headOf(3, first), headOf(1, first), true}, {headOf(3, first), headOf(3, first), true}, {headOf(4, second), headOf(3, first), true}, {headOf(4, second), headOf(4, second), true},
		{headOf(0, first), headOf(0), false}, {headOf(1), headOf(0), false}, {headOf(3), headOf(0), false}, {headOf(4, first), headOf(0), false}, {headOf(3, second), headOf(0), false}, {headOf(5, second), headOf(0), false}, {headOf(1, second), headOf(0), false},
		{headOf(4, second), headOf(0, first), false}, {headOf(4, second), headOf(1), false}, {headOf(4, second), headOf(4, first), false}, {headOf(4, second), headOf(3, second), false}, {headOf(4, second), headOf(5, second), false}, {headOf(2, first), headOf(3, first), false}, {headOf(0), headOf(1, first), false}, {headOf(-1), headOf(-1), false}, {headOf(0), headOf(-1), false},
	} {
		h := alteredHouse(houseOf(part{l, 0, 0}), func(h *impl.House) { h.Heads[0], h.Kept[0] = c.head, c.kept })
		if impl.GoodHouse(h) != c.is || plainGoodHouse(h) != c.is {
			t.Errorf("%v, %v: not %v", c.head, c.kept, c.is)
		}
	}
}

func TestHousesThatAreNotGood(t *testing.T) {
	for _, h := range badHouses() {
		refuseHouse(t, h)
	}
}

// Any one thing of a good house is changed: it is good still just if the plain walk says so.
func TestGoodHouseTellsWhatIsChanged(t *testing.T) {
	r := rand.New(rand.NewSource(173))
	good, bad := 0, 0
	for range 6000 {
		p := anyHouse(r)
		parts := len(p.logs)
		k, other := r.Intn(parts), r.Intn(parts)
		end := len(p.logs[k].records())
		switch r.Intn(4) {
		case 0:
			p.at[k] = r.Intn(end + 1)
		case 1:
			p.kept[k] = r.Intn(end + 1)
		}
		h := p.house()
		switch r.Intn(9) {
		case 0:
			h.Heads[k], h.Heads[other] = h.Heads[other], h.Heads[k]
		case 1:
			h.Kept[k] = cloneHead(h.Heads[other])
		case 2:
			h.Heads[k].Offset += r.Intn(3) - 1
		case 3:
			h.Kept[k].Offset += r.Intn(3) - 1
		case 4:
			if rows := h.Heads[k].Rows; len(rows) > 0 {
				rows[r.Intn(len(rows))].Samples[0].Value += r.Intn(2)
			}
		case 5:
			if l, ok := p.logs[k].append(plainSayText(anyTold(r, namesIn(parts, other), 1)[0])); ok {
				h.Logs[k] = l.log()
			}
		case 6:
			h.Logs[k] = p.logs[k].cut(r.Intn(end + 1)).log()
		case 7:
			h.Logs[k].Begin = r.Intn(2)
		case 8:
			if l, ok := p.logs[k].append(noSays()[r.Intn(len(noSays()))]); ok && r.Intn(2) == 0 {
				h.Logs[k] = l.log()
			}
		}
		is := impl.GoodHouse(h)
		if is != plainGoodHouse(h) {
			t.Fatalf("%v: %v", h, is)
		}
		if !is {
			bad++
			continue
		}
		good++
		if good%10 == 0 {
			checkHouse(t, h)
		}
	}
	if good < 1000 || bad < 1000 {
		t.Error("too few of one kind:", good, bad)
	}
}

type houseCase struct {
	name string
	h    impl.House
	s    impl.HouseStep
	want impl.House
}

// checkHouseCases takes a case without a house for a step that can't be done.
func checkHouseCases(t *testing.T, l []houseCase) {
	t.Helper()
	for _, c := range l {
		if !impl.GoodHouse(c.h) {
			t.Errorf("%s: not good: %v", c.name, c.h)
		}
		got, ok := checkHouseStep(t, c.h, c.s)
		if ok == isZeroHouse(c.want) || !sameHouse(got, c.want) {
			t.Errorf("%s: %v of %v: %v %v, not %v", c.name, c.s, c.h, got, ok, c.want)
		}
	}
}

func TestTellingTellsAsSaid(t *testing.T) {
	none, two := impl.House{}, houseOf(part{}, part{})
	told := func(x ...impl.Say) impl.House { return houseOf(part{}, part{x, 0, 0}) }
	checkHouseCases(t, []houseCase{
		{"the first say", two, tellPart(1, sayOf("b", 1, 7)), told(sayOf("b", 1, 7))},
		{"behind it", told(sayOf("b", 1, 7)), tellPart(1, sayOf("d", 1, -7)), told(sayOf("b", 1, 7), sayOf("d", 1, -7))},
		{"the same once more", told(sayOf("b", 1, 7)), tellPart(1, sayOf("b", 1, 7)), told(sayOf("b", 1, 7), sayOf("b", 1, 7))},
		{"one that comes late", told(sayOf("b", 5, 7)), tellPart(1, sayOf("b", 1, 7)), told(sayOf("b", 5, 7), sayOf("b", 1, 7))},
		{"in the other part", two, tellPart(0, sayOf("a", 0, 0)), houseOf(part{[]impl.Say{sayOf("a", 0, 0)}, 0, 0}, part{})},
		{"at the last time", two, tellPart(1, sayOf("b", 1000000000, 0)), told(sayOf("b", 1000000000, 0))},
		{"the least measure", two, tellPart(1, sayOf("b", 0, -1000000000)), told(sayOf("b", 0, -1000000000))},
		{"the greatest measure", two, tellPart(1, sayOf("b", 0, 1000000000)), told(sayOf("b", 0, 1000000000))},
		{"that of another part", two, tellPart(0, sayOf("b", 1, 7)), none},
		{"that of another part, the other way", two, tellPart(1, sayOf("a", 1, 7)), none},
		{"to a part that is not there", two, tellPart(2, sayOf("b", 1, 7)), none},
		{"to a part below all", two, tellPart(-1, sayOf("b", 1, 7)), none},
		{"a time below 0", two, tellPart(1, sayOf("b", -1, 7)), none},
		{"a time behind the last one", two, tellPart(1, sayOf("b", 1000000001, 7)), none},
		{"a measure too low", two, tellPart(1, sayOf("b", 1, -1000000001)), none},
		{"a measure too great", two, tellPart(1, sayOf("b", 1, 1000000001)), none},
		{"no Name", two, tellPart(1, sayOf("", 1, 7)), none},
		{"nothing", two, tellPart(0, impl.Say{}), none},
	})
	// All but the log of that part stays as it is.
	h := twoParts()
	for _, x := range []impl.Say{sayOf("a", 1, 1), sayOf("c", 0, 0), sayOf("e", 5, 5)} {
		checkHouseCases(t, []houseCase{{"a say of part 0", h, tellPart(0, x), alteredHouse(h, func(q *impl.House) {
			l, _ := piecesOf(h.Logs[0]).append(plainSayText(x))
			q.Logs[0] = l.log()
		})}})
	}
}

// twentyBytes has a text just as long as a record may be.
func twentyBytes(at int) impl.Say { return sayOf("cpu", 1000000000-at, -1234) }

func TestTellingNeedsRoomInTheLog(t *testing.T) {
	one := houseOf(part{})
	for name := 1; name <= 8; name++ {
		for digits := 1; digits <= 9; digits++ {
			for _, at := range []int{0, 7, 999, 123456, 1000000000} {
				for _, sign := range []int{-1, 1} {
					x := sayOf(strings.Repeat("k", name), at, 0)
					for range digits {
						x.Value = x.Value*10 + sign
					}
					want := impl.House{}
					if len(plainSayText(x)) <= 20 {
						want = houseOf(part{[]impl.Say{x}, 0, 0})
					}
					checkHouseCases(t, []houseCase{{plainSayText(x), one, tellPart(0, x), want}})
				}
			}
		}
	}
	if n := len(plainSayText(twentyBytes(0))); n != 20 {
		t.Fatal(n)
	}
	// Two records of 20 bytes are in a piece, and there are 20 pieces; of short ones there are 60 records.
	for _, c := range []struct {
		x    func(i int) impl.Say
		most int
	}{{func(i int) impl.Say { return twentyBytes(0) }, 40}, {func(i int) impl.Say { return sayOf("a", i, 0) }, 60}, {func(i int) impl.Say { return sayOf("abc", 100000000, 12345) }, 60}, {func(i int) impl.Say { return sayOf("abc", 100000000, 1234) }, 60}} {
		h := houseOf(part{})
		for i := range 70 {
			q, ok := checkHouseStep(t, h, tellPart(0, c.x(i)))
			if ok != (i < c.most) {
				t.Fatalf("%d of %v: %v", i, c.x(i), ok)
			}
			if ok {
				h = q
			}
		}
		if c.most == 40 {
			// What is short has room behind long ones.
			if _, ok := checkHouseStep(t, h, tellPart(0, sayOf("a", 1, 1))); !ok {
				t.Error("short:", h)
			}
		}
		if n, ok := impl.EndOf(h.Logs[0]); n != c.most || !ok {
			t.Error(n, c.most)
		}
		// It follows all the same.
		if q, often, ok := impl.CatchUp(h); often != c.most || !ok || q.Heads[0].Offset != c.most {
			t.Error(q, often, ok)
		}
	}
}

func TestFollowingTellsAsSaid(t *testing.T) {
	none := impl.House{}
	l := []impl.Say{sayOf("b", 5, 1), sayOf("b", 5, 2), sayOf("b", 4, 3), sayOf("d", 1, 4), sayOf("b", 6, 5)}
	at := func(at int, kept int) impl.House { return houseOf(part{}, part{l, at, kept}) }
	with := func(offset int, rows ...impl.Row) impl.House {
		return alteredHouse(at(0, 0), func(h *impl.House) { h.Heads[1] = headOf(offset, rows...) })
	}
	checkHouseCases(t, []houseCase{
		{"the first one", at(0, 0), followPart(1), with(1, rowWith("b", 5, 1))},
		{"one that is told again", at(1, 0), followPart(1), with(2, rowWith("b", 5, 1))},
		{"one that comes late", at(2, 0), followPart(1), with(3, rowWith("b", 5, 1))},
		{"a new row", at(3, 0), followPart(1), with(4, rowWith("b", 5, 1), rowWith("d", 1, 4))},
		{"the last one", at(4, 0), followPart(1), with(5, rowWith("b", 5, 1, 6, 5), rowWith("d", 1, 4))},
		{"behind the last one", at(5, 0), followPart(1), none},
		{"what is kept stays", at(2, 2), followPart(1), at(3, 2)},
		{"of an empty log", at(2, 2), followPart(0), none},
		{"of a part that is not there", at(2, 2), followPart(2), none},
		{"of a part below all", at(2, 2), followPart(-1), none},
		{"with a say", at(2, 2), impl.HouseStep{Kind: impl.HoFollow, Part: 1, What: l[2]}, none},
	})
	// A full row, and rows as many as a head has.
	var full []impl.Say
	for i := range 43 {
		full = append(full, sayOf("a", i, i))
	}
	for i := 38; i < 43; i++ {
		h := houseOf(part{full, i, i})
		q, _ := checkHouseStep(t, h, followPart(0))
		if q.Heads[0].Offset != i+1 || len(q.Heads[0].Rows[0].Samples) != min(i+1, 40) {
			t.Error(i, q.Heads[0])
		}
	}
	var many []impl.Say
	for k := range 11 {
		many = append(many, sayOf(string(rune('k'-k)), 5, k))
	}
	for i := 6; i < 11; i++ {
		h := houseOf(part{many, i, 0})
		q, _ := checkHouseStep(t, h, followPart(0))
		if q.Heads[0].Offset != i+1 || len(q.Heads[0].Rows) != min(i+1, 8) {
			t.Error(i, q.Heads[0])
		}
	}
}

func TestKeepingAndLosingTellAsSaid(t *testing.T) {
	none := impl.House{}
	l := fewSays("b", 4)
	at := func(at int, kept int) impl.House {
		return houseOf(part{fewSays("a", 2), 1, 0}, part{l, at, kept})
	}
	checkHouseCases(t, []houseCase{
		{"keep an empty head", at(0, 0), keepPart(1), at(0, 0)},
		{"keep", at(3, 0), keepPart(1), at(3, 3)},
		{"keep, behind an earlier one", at(3, 1), keepPart(1), at(3, 3)},
		{"keep what is kept", at(3, 3), keepPart(1), at(3, 3)},
		{"keep at the end", at(4, 2), keepPart(1), at(4, 4)},
		{"keep in the other part", at(3, 1), keepPart(0), houseOf(part{fewSays("a", 2), 1, 1}, part{l, 3, 1})},
		{"keep a part that is not there", at(3, 1), keepPart(2), none},
		{"keep a part below all", at(3, 1), keepPart(-1), none},
		{"keep with a say", at(3, 1), impl.HouseStep{Kind: impl.HoKeep, Part: 1, What: l[0]}, none},
		{"lose an empty head", at(0, 0), losePart(1), at(0, 0)},
		{"lose where nothing was kept", at(3, 0), losePart(1), at(0, 0)},
		{"lose", at(3, 1), losePart(1), at(1, 1)},
		{"lose what is kept", at(3, 3), losePart(1), at(3, 3)},
		{"lose in the other part", at(3, 1), losePart(0), houseOf(part{fewSays("a", 2), 0, 0}, part{l, 3, 1})},
		{"lose a part that is not there", at(3, 1), losePart(2), none},
		{"lose a part below all", at(3, 1), losePart(-1), none},
		{"lose with a say", at(3, 1), impl.HouseStep{Kind: impl.HoLose, Part: 1, What: l[0]}, none},
	})
}

func TestHouseStepsThatCanNotBeDone(t *testing.T) {
	ints := append(noNumbers(), -3, -2, -1, 0, 1, 2, 3, 4, 5)
	says := []impl.Say{{}, sayOf("a", 100, 0), sayOf("b", 100, 0), sayOf("c", 0, 0), {Name: "a"}, {Name: "b", At: -1}, {At: 1}, {Value: 1}, {At: -1}, {Name: "A"}, sayOf("abcdefgh", 1000000000, 0), sayOf("abcdefgh", 1000000000, -1000000000)}
	for _, h := range []impl.House{twoParts(), houseOf(part{fewSays("a", 3), 1, 0}), houseOf(part{fewSays("b", 2), 0, 0}, part{fewSays("c", 2), 1, 1}, part{fewSays("a", 1), 0, 0})} {
		parts := len(h.Logs)
		for _, kind := range append(noNumbers(), rising(-3, 1, 14)...) {
			for _, k := range ints {
				for _, x := range says {
					isPart, isBare := among(k, 0, parts-1), x == impl.Say{}
					want := isPart && isBare && among(kind, 2, 4)
					if kind == 1 && isPart && plainGoodSay(x) && len(plainSayText(x)) <= 20 {
						want = partByHand(parts, x.Name) == k
					}
					s := impl.HouseStep{Kind: kind, Part: k, What: x}
					if q, ok := checkHouseStep(t, h, s); ok != want || ok == isZeroHouse(q) {
						t.Fatalf("%v of %v: %v %v", s, h, q, ok)
					}
				}
			}
		}
	}
}

func TestSaysThatAreNotGoodAreNotTold(t *testing.T) {
	for parts := 1; parts <= 3; parts++ {
		h := houseOf(make([]part, parts)...)
		for _, x := range badSays() {
			for k := range parts {
				if q, ok := impl.StepHouse(h, tellPart(k, x)); !isZeroHouse(q) || ok {
					t.Fatalf("%v in %d of %d: %v %v", x, k, parts, q, ok)
				}
			}
			if q, did, ok := impl.PlayHouse(parts, []impl.HouseStep{tellPart(0, x), tellPart(parts-1, x)}); !sameHouse(q, h) || !slices.Equal(did, []bool{false, false}) || !ok {
				t.Fatalf("%v: %v %v %v", x, q, did, ok)
			}
		}
		for _, x := range goodSays()[:700] {
			for k := range parts {
				is := partByHand(parts, x.Name) == k && len(plainSayText(x)) <= 20
				if _, ok := impl.StepHouse(h, tellPart(k, x)); ok != is {
					t.Fatalf("%v in %d of %d: %v", x, k, parts, ok)
				}
			}
		}
	}
}

// anyHouseStep goes to a part that is there, with what it needs, more often than by chance.
func anyHouseStep(r *rand.Rand, parts int, names []string) impl.HouseStep {
	s := impl.HouseStep{Kind: r.Intn(6), Part: r.Intn(parts+2) - 1}
	if r.Intn(4) > 0 {
		s.Kind, s.Part = 1+r.Intn(4), r.Intn(parts)
	}
	switch {
	case s.Kind == impl.HoTell && r.Intn(8) > 0:
		s = tellRight(parts, anyTold(r, names, 1)[0])
		s.What.At += r.Intn(30)
	case s.Kind == impl.HoTell || r.Intn(12) == 0:
		s.What = []impl.Say{{}, sayOf("a", 1, 1), sayOf("cpu", 1000000000, 123456), {At: 1}, {Name: "a", At: -1}}[r.Intn(5)]
	}
	return s
}

func TestHouseStepsTellAsPlainOnes(t *testing.T) {
	r := rand.New(rand.NewSource(174))
	done, not := map[int]int{}, map[int]int{}
	for range 1500 {
		h := anyHouse(r).house()
		for range 12 {
			s := anyHouseStep(r, len(h.Logs), []string{"a", "b", "c", "cpu", "aa"})
			if _, ok := checkHouseStep(t, h, s); ok {
				done[s.Kind]++
			} else {
				not[s.Kind]++
			}
		}
	}
	for kind := 1; kind <= 4; kind++ {
		if done[kind] < 300 || not[kind] < 300 {
			t.Error("too few of a kind:", kind, done, not)
		}
	}
	if done[0] > 0 || done[5] > 0 {
		t.Error("no such kind:", done)
	}
}

// checkHousePlay holds a play against its steps, one behind the other.
func checkHousePlay(t *testing.T, parts int, l []impl.HouseStep) (impl.House, []bool) {
	t.Helper()
	want := houseOf(make([]part, parts)...)
	var all []bool
	for _, s := range l {
		q, ok := plainHouseStep(want, s)
		if ok {
			want = q
		}
		all = append(all, ok)
	}
	got, did, ok := impl.PlayHouse(parts, l)
	if !sameHouse(got, want) || !slices.Equal(did, all) || !ok || !impl.GoodHouse(got) {
		t.Fatalf("%d %v: %v %v %v, not %v %v", parts, l, got, did, ok, want, all)
	}
	return got, did
}

func TestPlayHouseTellsAsSaid(t *testing.T) {
	a, b, c := sayOf("a", 1, 1), sayOf("b", 2, 2), sayOf("a", 3, 3)
	for _, x := range []struct {
		parts int
		l     []impl.HouseStep
		want  impl.House
		did   string
	}{
		{1, nil, houseOf(part{}), ""},
		{3, []impl.HouseStep{}, houseOf(part{}, part{}, part{}), ""},
		{1, []impl.HouseStep{tellPart(0, a), tellPart(0, b), followPart(0), keepPart(0), followPart(0), followPart(0), losePart(0)}, houseOf(part{[]impl.Say{a, b}, 1, 1}), "yyyyyny"},
		// Lost ahead of anything kept, it begins anew.
		{1, []impl.HouseStep{tellPart(0, a), followPart(0), losePart(0), followPart(0), followPart(0)}, houseOf(part{[]impl.Say{a}, 1, 0}), "yyyyn"},
		{1, []impl.HouseStep{losePart(0), keepPart(0), followPart(0), tellPart(0, a), losePart(0)}, houseOf(part{[]impl.Say{a}, 0, 0}), "yynyy"},
		// Each part goes on for itself.
		{2, []impl.HouseStep{tellPart(0, a), tellPart(1, b), tellPart(1, a), followPart(1), keepPart(1), tellPart(0, c), followPart(0), losePart(0)}, houseOf(part{[]impl.Say{a, c}, 0, 0}, part{[]impl.Say{b}, 1, 1}), "yynyyyyy"},
		// What is kept again is the later one.
		{1, []impl.HouseStep{tellPart(0, a), tellPart(0, c), keepPart(0), followPart(0), keepPart(0), followPart(0), losePart(0), losePart(0), followPart(0), keepPart(0)}, houseOf(part{[]impl.Say{a, c}, 2, 2}), "yyyyyyyyyy"},
		// What can't be done changes nothing, and what follows goes on from there.
		{2, []impl.HouseStep{{}, {Kind: 5}, {Kind: -1, Part: 1}, tellPart(0, impl.Say{}), tellPart(2, a), {Kind: impl.HoFollow, What: a}, followPart(0), keepPart(2), losePart(-1), tellPart(0, a), followPart(0), {Kind: impl.HoLose, What: a}, followPart(0)}, houseOf(part{[]impl.Say{a}, 1, 0}, part{}), "nnnnnnnnnyynn"},
	} {
		got, did := checkHousePlay(t, x.parts, x.l)
		if !sameHouse(got, x.want) {
			t.Errorf("%v: %v, not %v", x.l, got, x.want)
		}
		checkHouse(t, got)
		told := ""
		for _, is := range did {
			told += map[bool]string{true: "y", false: "n"}[is]
		}
		if told != x.did {
			t.Errorf("%v: %s, not %s", x.l, told, x.did)
		}
	}
}

func TestHousePlaysHaveAtMostSoManySteps(t *testing.T) {
	for _, many := range []int{0, 1, 2, 58, 59, 60, 61, 62, 5000} {
		var l []impl.HouseStep
		for i := range many {
			l = append(l, tellPart(0, sayOf("a", i, 0)))
		}
		h, did, ok := impl.PlayHouse(1, l)
		p, fine := impl.PlayPlain(l)
		if many > 60 {
			if !isZeroHouse(h) || len(did) != 0 || ok || !isZeroHead(p) || fine {
				t.Error(many, h, did, ok, p, fine)
			}
			// Steps that tell nothing are counted, too.
			if p, ok := impl.PlayPlain(make([]impl.HouseStep, many)); !isZeroHead(p) || ok {
				t.Error(many, p, ok)
			}
			continue
		}
		if !ok || len(did) != many || slices.Contains(did, false) || !fine || p.Offset != many {
			t.Error(many, h, did, ok, p, fine)
		}
		checkHousePlay(t, 1, l)
		checkHousePlay(t, 3, l)
		checkHousePlay(t, 2, slices.Repeat([]impl.HouseStep{{Kind: 9, Part: 9}}, many))
	}
	for _, parts := range append(noNumbers(), -2, -1, 0, 4, 5, 60) {
		for _, many := range []int{0, 1, 60, 61} {
			h, did, ok := impl.PlayHouse(parts, slices.Repeat([]impl.HouseStep{keepPart(0)}, many))
			if !isZeroHouse(h) || len(did) != 0 || ok {
				t.Errorf("%d: %v %v %v", parts, h, did, ok)
			}
		}
	}
}

func TestPlayPlainTellsAsSaid(t *testing.T) {
	a, b, c := sayOf("a", 1, 1), sayOf("b", 2, 2), sayOf("a", 3, 3)
	check := func(want impl.Head, l ...impl.HouseStep) {
		t.Helper()
		if p, ok := impl.PlayPlain(l); !sameHead(p, want) || !ok {
			t.Errorf("%v: %v %v, not %v", l, p, ok, want)
		}
	}
	check(impl.Head{})
	check(impl.Head{}, followPart(0), keepPart(1), losePart(2), impl.HouseStep{}, impl.HouseStep{Kind: 5, What: a})
	check(headOf(1, rowWith("a", 1, 1)), tellPart(0, a))
	check(headOf(3, rowWith("a", 1, 1, 3, 3), rowWith("b", 2, 2)), tellPart(0, a), followPart(0), tellPart(1, b), losePart(0), tellPart(0, c), losePart(0))
	check(headOf(3, rowWith("a", 3, 3)), tellPart(0, c), tellPart(0, a), tellPart(0, c))
	// It knows of no parts, nor of how long a record is.
	check(headOf(2, rowWith("a", 1, 1, 3, 3)), tellPart(-7, a), tellPart(99, c))
	check(headOf(1, rowWith("abcdefgh", 1000000000, -1000000000)), tellPart(0, sayOf("abcdefgh", 1000000000, -1000000000)))
	for kind := -2; kind <= 6; kind++ {
		want := impl.Head{}
		if kind == 1 {
			want = headOf(1, rowWith("a", 1, 1))
		}
		check(want, impl.HouseStep{Kind: kind, What: a})
	}
	for _, x := range badSays() {
		check(headOf(2, rowWith("a", 1, 1, 3, 3)), tellPart(0, a), tellPart(0, x), tellPart(0, c))
	}
	for _, x := range goodSays() {
		check(headOf(1, rowWith(x.Name, x.At, x.Value)), tellPart(0, x))
	}
	// More names than a head has rows for, and more times than a row has samples.
	var many, long []impl.HouseStep
	for k := range 12 {
		many = append(many, tellPart(0, sayOf(string(rune('a'+k)), 1, k)))
	}
	for i := range 60 {
		long = append(long, tellPart(0, sayOf("a", i, 0)))
	}
	if p, ok := impl.PlayPlain(many); len(p.Rows) != 8 || p.Offset != 12 || !ok {
		t.Error(p, ok)
	}
	if p, ok := impl.PlayPlain(long); len(p.Rows) != 1 || len(p.Rows[0].Samples) != 40 || p.Offset != 60 || !ok {
		t.Error(p, ok)
	}
	r := rand.New(rand.NewSource(175))
	for range 1000 {
		var l []impl.HouseStep
		var told []impl.Say
		for range r.Intn(61) {
			s := anyHouseStep(r, 3, goodNames()[:12])
			l = append(l, s)
			if s.Kind == 1 && plainGoodSay(s.What) {
				told = append(told, s.What)
			}
		}
		want, _, _ := plainFold(impl.Head{}, told)
		check(want, l...)
		if p, _ := impl.PlayPlain(l); !slices.EqualFunc(p.Rows, plainRows(told), sameRow) {
			t.Fatalf("%v: %v", l, p)
		}
	}
}

func TestAskHouseTellsAsSaid(t *testing.T) {
	// Part 0 has followed 4 of 6, part 1 2 of 3.
	h := houseOf(
		part{[]impl.Say{sayOf("a", 5, 1), sayOf("c", 3, -4), sayOf("a", 5, 2), sayOf("a", 9, 3), sayOf("e", 2, 0), sayOf("c", 4, 6)}, 4, 2},
		part{[]impl.Say{sayOf("b", 1, 1), sayOf("b", 2, 2), sayOf("b", 3, 3)}, 2, 0},
	)
	row := func(l ...int) []impl.Sample { return rowWith("a", l...).Samples }
	for _, c := range []struct {
		name string
		wait int
		want []impl.Sample
		is   bool
		ok   bool
	}{
		{"a", 0, row(5, 1, 9, 3), true, true}, {"a", 1, row(5, 1, 9, 3), true, true}, {"a", 3, row(5, 1, 9, 3), true, true}, {"a", 4, row(5, 1, 9, 3), true, true}, {"a", 5, nil, false, true}, {"a", 6, nil, false, true}, {"a", 7, nil, false, true}, {"a", 59, nil, false, true}, {"a", 60, nil, false, true}, {"a", 61, nil, false, false}, {"a", -1, nil, false, false},
		{"c", 4, row(3, -4), true, true}, {"c", 5, nil, false, true},
		// It is told, and not followed.
		{"e", 4, nil, true, true}, {"e", 5, nil, false, true},
		// It was never told.
		{"g", 0, nil, true, true}, {"g", 4, nil, true, true}, {"g", 5, nil, false, true},
		{"b", 0, row(1, 1, 2, 2), true, true}, {"b", 2, row(1, 1, 2, 2), true, true}, {"b", 3, nil, false, true}, {"b", 4, nil, false, true}, {"d", 2, nil, true, true}, {"d", 3, nil, false, true},
		{"", 0, nil, false, false}, {"", 60, nil, false, false}, {"A", 0, nil, false, false}, {"abcdefghi", 0, nil, false, false}, {"a ", 0, nil, false, false}, {"a1", 0, nil, false, false}, {"", -1, nil, false, false}, {"A", 61, nil, false, false},
	} {
		l, is, ok := impl.AskHouse(h, c.name, c.wait)
		if !slices.Equal(l, c.want) || is != c.is || ok != c.ok {
			t.Errorf("%q %d: %v %v %v, not %v %v %v", c.name, c.wait, l, is, ok, c.want, c.is, c.ok)
		}
		checkAsk(t, h, c.name, c.wait)
	}
	for _, wait := range manyNumbers() {
		for _, name := range []string{"a", "b", "c", "d", "", "B"} {
			checkAsk(t, h, name, wait)
		}
	}
	for _, name := range append(badNames(), goodNames()...) {
		for _, wait := range []int{-1, 0, 2, 3, 60, 61} {
			checkAsk(t, h, name, wait)
		}
	}
	// At the end of a log that is full.
	full := houseOf(part{fewSays("a", 60), 60, 0})
	if l, is, ok := impl.AskHouse(full, "a", 60); len(l) != 40 || !is || !ok {
		t.Error(l, is, ok)
	}
	if l, is, ok := impl.AskHouse(full, "a", 61); len(l) != 0 || is || ok {
		t.Error(l, is, ok)
	}
}

func TestCatchUpTellsAsSaid(t *testing.T) {
	a, b, c := fewSays("a", 5), fewSays("b", 4), fewSays("c", 3)
	for _, x := range []struct {
		h    impl.House
		want impl.House
		n    int
	}{
		{houseOf(part{}), houseOf(part{}), 0},
		{houseOf(part{}, part{}, part{}), houseOf(part{}, part{}, part{}), 0},
		{houseOf(part{a, 5, 2}), houseOf(part{a, 5, 2}), 0},
		{houseOf(part{a, 4, 2}), houseOf(part{a, 5, 2}), 1},
		{houseOf(part{a, 0, 0}), houseOf(part{a, 5, 0}), 5},
		{houseOf(part{a, 2, 1}, part{b, 1, 1}), houseOf(part{a, 5, 1}, part{b, 4, 1}), 6},
		{houseOf(part{a, 5, 1}, part{b, 1, 1}), houseOf(part{a, 5, 1}, part{b, 4, 1}), 3},
		{houseOf(part{a, 2, 1}, part{b, 4, 4}), houseOf(part{a, 5, 1}, part{b, 4, 4}), 3},
		{houseOf(part{}, part{b, 0, 0}), houseOf(part{}, part{b, 4, 0}), 4},
		{houseOf(part{b, 1, 0}, part{c, 2, 2}, part{a, 0, 0}), houseOf(part{b, 4, 0}, part{c, 3, 2}, part{a, 5, 0}), 9},
		{houseOf(part{fewSays("a", 60), 0, 0}), houseOf(part{fewSays("a", 60), 60, 0}), 60},
	} {
		got, n, ok := impl.CatchUp(x.h)
		if !sameHouse(got, x.want) || n != x.n || !ok {
			t.Errorf("%v: %v %d %v, not %v %d", x.h, got, n, ok, x.want, x.n)
		}
		if again, n, ok := impl.CatchUp(got); !sameHouse(again, got) || n != 0 || !ok {
			t.Errorf("once more: %v %d %v", again, n, ok)
		}
		// It is what as many steps come to.
		h := x.h
		for k := range h.Logs {
			for q, ok := impl.StepHouse(h, followPart(k)); ok; q, ok = impl.StepHouse(h, followPart(k)) {
				h = q
			}
		}
		if !sameHouse(h, got) {
			t.Errorf("step by step: %v, not %v", h, got)
		}
	}
}

// checkHasAllTold is promise 17: a house that has caught up has of each name just what plain play has of it.
func checkHasAllTold(t *testing.T, h impl.House, plain impl.Head, names []string) {
	t.Helper()
	c, often, ok := impl.CatchUp(h)
	if !ok || !impl.GoodHouse(c) {
		t.Fatalf("CatchUp(%v): %v %v", h, c, ok)
	}
	behind, all := 0, 0
	for k, g := range h.Logs {
		end, _ := impl.EndOf(g)
		behind += end - h.Heads[k].Offset
		all += end
	}
	if often != behind || all != plain.Offset {
		t.Fatalf("%v: %d were followed, not %d; %d were told, not %d", h, often, behind, all, plain.Offset)
	}
	rows := 0
	for _, name := range names {
		want, is := impl.RowOf(plain, name)
		k, _ := impl.PartOf(len(h.Logs), name)
		end, _ := impl.EndOf(h.Logs[k])
		// Who waits for all that was told reads it, and can't do so ahead.
		for wait := range end + 1 {
			if l, so, ok := impl.AskHouse(c, name, wait); !slices.Equal(l, want) || !so || !ok {
				t.Fatalf("%q, %d: %v %v %v, not %v: %v", name, wait, l, so, ok, want, c)
			}
		}
		if l, so, ok := impl.AskHouse(c, name, end+1); len(l) != 0 || so || ok != (end < 60) {
			t.Fatalf("%q, %d: %v %v %v", name, end+1, l, so, ok)
		}
		if l, so, ok := impl.AskHouse(h, name, end); so != (h.Heads[k].Offset == end) || so && !slices.Equal(l, want) || !so && len(l) != 0 || !ok {
			t.Fatalf("%q, %d: %v %v %v: %v", name, end, l, so, ok, h)
		}
		if is {
			rows++
		}
	}
	if rows != len(plain.Rows) {
		t.Fatalf("%v has other names than %v", plain, names)
	}
}

// anyHousePlay are steps of these names; what they tell can be done, or is no good say.
func anyHousePlay(r *rand.Rand, parts int, names []string, many int) []impl.HouseStep {
	var l []impl.HouseStep
	tells := 1 + r.Intn(4)
	at := 0
	for range many {
		k := r.Intn(parts)
		s := []impl.HouseStep{followPart(k), followPart(k), followPart(k), keepPart(k), losePart(k), tellPart(k, impl.Say{Name: "A"}), {Kind: 7}}[r.Intn(7)]
		if r.Intn(5) < tells {
			at += r.Intn(3)
			s = tellRight(parts, sayOf(names[r.Intn(len(names))], max(0, at-r.Intn(3)), r.Intn(2001)-1000))
		}
		l = append(l, s)
	}
	return l
}

func mixedNames(r *rand.Rand, many int) []string {
	names := unlikeNames()
	r.Shuffle(len(names), func(i, j int) { names[i], names[j] = names[j], names[i] })
	return names[:many]
}

// shortNames are such that each say of them, with small numbers, fits in a record.
func shortNames(r *rand.Rand, many int) []string {
	return slices.DeleteFunc(mixedNames(r, len(unlikeNames())), func(name string) bool { return len(name) > 3 })[:many]
}

// Promise 17, at each step on the way.
func TestHousesHaveJustWhatWasTold(t *testing.T) {
	r := rand.New(rand.NewSource(176))
	lost, again, eight := 0, 0, 0
	for i := range 400 {
		parts := 1 + i%3
		names := shortNames(r, 1+r.Intn(8))
		l := anyHousePlay(r, parts, names, []int{20, 40, 60}[i%3])
		last, did := checkHousePlay(t, parts, l)
		plain, ok := impl.PlayPlain(l)
		if !ok {
			t.Fatal(l)
		}
		checkHasAllTold(t, last, plain, names)
		h := houseOf(make([]part, parts)...)
		for at, s := range l {
			q, ok := impl.StepHouse(h, s)
			if ok != did[at] {
				t.Fatalf("%v: %v", s, ok)
			}
			if !ok {
				continue
			}
			checkHeadsGoOn(t, h, s, q)
			if s.Kind == impl.HoLose && q.Heads[s.Part].Offset < h.Heads[s.Part].Offset {
				lost++
			}
			h = q
		}
		if !sameHouse(h, last) {
			t.Fatalf("%v, not %v", h, last)
		}
		if len(plainRows(whatWasTold(l))) == 8 {
			eight++
		}
		if _, codes, _ := impl.FoldSays(impl.Head{}, whatWasTold(l)); slices.Contains(codes, impl.HdAgain) && slices.Contains(codes, impl.HdLate) {
			again++
		}
	}
	if lost < 300 || again < 50 || eight < 10 {
		t.Error("too few:", lost, again, eight)
	}
}

func whatWasTold(l []impl.HouseStep) []impl.Say {
	var out []impl.Say
	for _, s := range l {
		if s.Kind == 1 && plainGoodSay(s.What) {
			out = append(out, s.What)
		}
	}
	return out
}

// checkHeadsGoOn asks that a head never goes back but where it is lost, and that a kept one is never ahead of it.
func checkHeadsGoOn(t *testing.T, h impl.House, s impl.HouseStep, q impl.House) {
	t.Helper()
	for k := range h.Heads {
		was, is, isThis := h.Heads[k].Offset, q.Heads[k].Offset, k == s.Part
		switch {
		case isThis && s.Kind == impl.HoFollow:
			was++
		case isThis && s.Kind == impl.HoLose:
			was = h.Kept[k].Offset
		}
		if is != was || q.Kept[k].Offset > is {
			t.Fatalf("%v of %v: part %d is at %d: %v", s, h, k, is, q)
		}
		if isKept := isThis && s.Kind == impl.HoKeep; isKept && !sameHead(q.Kept[k], q.Heads[k]) || !isKept && !sameHead(q.Kept[k], h.Kept[k]) {
			t.Fatalf("%v of %v: part %d keeps %v", s, h, k, q.Kept[k])
		}
		if isTold := isThis && s.Kind == impl.HoTell; isTold == sameLog(q.Logs[k], h.Logs[k]) {
			t.Fatalf("%v of %v: part %d has the log %v", s, h, k, q.Logs[k])
		}
	}
}

// Promise 17 where a name's times rise: it has all that was told of it, as it was told.
func TestNamesWhoseTimesRiseHaveAllThatWasTold(t *testing.T) {
	r := rand.New(rand.NewSource(177))
	for i := range 300 {
		parts, names := 1+i%3, shortNames(r, 1+r.Intn(8))
		told := map[string][]impl.Sample{}
		var l []impl.HouseStep
		for at := range 60 {
			k := r.Intn(parts)
			name := names[r.Intn(len(names))]
			if s := []impl.HouseStep{{}, {}, followPart(k), keepPart(k), losePart(k)}[r.Intn(5)]; s.Kind > 0 || len(told[name]) == 40 {
				l = append(l, s)
				continue
			}
			x := sayOf(name, at*7, r.Intn(100))
			told[name] = append(told[name], impl.Sample{At: x.At, Value: x.Value})
			l = append(l, tellRight(parts, x))
		}
		h, _ := checkHousePlay(t, parts, l)
		c, _, _ := impl.CatchUp(h)
		for _, name := range names {
			if got, is, ok := impl.AskHouse(c, name, 0); !slices.Equal(got, told[name]) || !is || !ok {
				t.Fatalf("%q: %v %v %v, not %v: %v", name, got, is, ok, told[name], l)
			}
		}
	}
}

// What a house refuses was not told: plain play, which knows of no parts and no records, is asked without it.
func TestWhatWasRefusedWasNotTold(t *testing.T) {
	r := rand.New(rand.NewSource(178))
	refused := 0
	for i := range 400 {
		parts, names := 1+i%3, mixedNames(r, 1+r.Intn(8))
		var l []impl.HouseStep
		for range 60 {
			s := anyHouseStep(r, parts, names)
			if s.Kind == impl.HoTell && r.Intn(5) == 0 {
				s.Part = r.Intn(parts)
			}
			if s.Kind == impl.HoTell && r.Intn(4) == 0 {
				s.What.At, s.What.Value = 123456789, -123456
			}
			if s.Kind == impl.HoTell && plainGoodSay(s.What) && !slices.Contains(names, s.What.Name) {
				s.What.Name = names[0]
			}
			l = append(l, s)
		}
		h, did := checkHousePlay(t, parts, l)
		var done []impl.HouseStep
		for at, s := range l {
			if did[at] {
				done = append(done, s)
			} else if s.Kind == impl.HoTell && plainGoodSay(s.What) {
				refused++
			}
		}
		plain, _ := impl.PlayPlain(done)
		checkHasAllTold(t, h, plain, names)
		if same, all := checkHousePlay(t, parts, done); !sameHouse(same, h) || slices.Contains(all, false) {
			t.Fatalf("%v: %v, not %v", l, same, h)
		}
	}
	if refused < 500 {
		t.Error("too few:", refused)
	}
}

// Promise 17, over all that few steps can come to.
func TestWhateverFewStepsHousesHaveWhatWasTold(t *testing.T) {
	says := []impl.Say{sayOf("a", 1, 1), sayOf("a", 2, 2), sayOf("b", 1, 3)}
	for _, c := range []struct {
		parts int
		depth int
		least int
	}{{1, 7, 1000}, {2, 7, 1000}, {3, 6, 500}} {
		var can []impl.HouseStep
		for k := range c.parts {
			can = append(can, followPart(k), keepPart(k), losePart(k))
		}
		for _, x := range says {
			can = append(can, tellRight(c.parts, x))
		}
		type way struct {
			h     impl.House
			steps []impl.HouseStep
		}
		first, _ := impl.NewHouse(c.parts)
		now, known := []way{{h: first}}, map[string]bool{fmt.Sprint(first): true}
		for range c.depth {
			var next []way
			for _, w := range now {
				for _, s := range can {
					q, ok := checkHouseStep(t, w.h, s)
					if !ok {
						continue
					}
					checkHeadsGoOn(t, w.h, s, q)
					if key := fmt.Sprint(q); !known[key] {
						known[key] = true
						steps := append(slices.Clone(w.steps), s)
						plain, _ := impl.PlayPlain(steps)
						checkHasAllTold(t, q, plain, []string{"a", "b", "c"})
						next = append(next, way{q, steps})
					}
				}
			}
			now = next
		}
		if len(known) < c.least {
			t.Error("too few:", c.parts, len(known))
		}
	}
}

// More names than a head has rows for: each part has its own rows.
func TestEachPartHasItsOwnRows(t *testing.T) {
	for parts := 1; parts <= 3; parts++ {
		var l []impl.HouseStep
		for k := range 26 {
			l = append(l, tellRight(parts, sayOf(string(rune('a'+k)), 1, k)))
		}
		h, _ := checkHousePlay(t, parts, l)
		c, n, ok := impl.CatchUp(h)
		if n != 26 || !ok {
			t.Error(parts, n, ok)
		}
		rows := 0
		for k, x := range c.Heads {
			if x.Offset != len(slices.DeleteFunc(slices.Clone(l), func(s impl.HouseStep) bool { return s.Part != k })) {
				t.Error(parts, k, x)
			}
			rows += len(x.Rows)
		}
		if rows != 8*parts {
			t.Error(parts, rows)
		}
	}
}

// Promise 19: whatever it is given, each function answers.
func TestHousesAnswerAtAnyArguments(t *testing.T) {
	ints := append(noNumbers(), -2, -1, 0, 1, 2, 3, 4, 5, 59, 60, 61, 1000, 1001)
	names := []string{"", "a", "b", "cpu", "A", "abcdefghi", "\xff", strings.Repeat("a", 30000)}
	long := func(n int) int { return max(0, min(n, 70)) }
	for _, x := range ints {
		impl.NewHouse(x)
		for _, name := range names {
			impl.PartOf(x, name)
		}
		for _, y := range ints {
			two := twoParts()
			for _, h := range []impl.House{
				two, alteredHouse(two, func(h *impl.House) { h.Heads[0].Offset, h.Kept[0].Offset = x, y }), alteredHouse(two, func(h *impl.House) { h.Heads[1].Offset, h.Heads[0].Offset = x, y }), alteredHouse(two, func(h *impl.House) { h.Logs[0].Begin, h.Logs[1].Begin = x, y }), alteredHouse(two, func(h *impl.House) { h.Logs[0].Pieces[0].From, h.Logs[0].Begin = x, y }), alteredHouse(two, func(h *impl.House) { h.Logs[1].Pieces[0].Index = []int{x, y} }),
				alteredHouse(two, func(h *impl.House) { h.Heads = make([]impl.Head, long(x)); h.Kept = make([]impl.Head, long(y)) }), alteredHouse(two, func(h *impl.House) { h.Logs = make([]impl.Log, long(x)) }), {Logs: []impl.Log{logOf(0, 0, []string{fmt.Sprint("a ", x, " ", y)})}, Heads: make([]impl.Head, 1), Kept: make([]impl.Head, 1)}, alteredHouse(two, func(h *impl.House) { h.Heads[0].Rows[0].Samples[0] = impl.Sample{At: x, Value: y} }), alteredHouse(two, func(h *impl.House) { h.Kept[0].Rows = make([]impl.Row, long(x)) }),
			} {
				if impl.GoodHouse(h) != plainGoodHouse(h) {
					t.Fatalf("GoodHouse(%v)", h)
				}
				if !impl.GoodHouse(h) {
					refuseHouse(t, h)
					continue
				}
				for _, name := range names {
					checkAsk(t, h, name, x)
				}
				checkHouseStep(t, h, impl.HouseStep{Kind: x, Part: y})
				for kind := 0; kind <= 5; kind++ {
					checkHouseStep(t, h, impl.HouseStep{Kind: kind, Part: x, What: sayOf("a", y, 1)})
					checkHouseStep(t, h, impl.HouseStep{Kind: kind, Part: long(x) % 2, What: sayOf(names[long(y)%8], x, y)})
				}
			}
			h, did, ok := impl.PlayHouse(x, []impl.HouseStep{{Kind: y}, tellPart(0, sayOf("a", x, y)), tellPart(y, sayOf("b", 1, x)), followPart(y), {Kind: x, Part: y}, losePart(x)})
			if is := among(x, 1, 3); ok != is || is != (len(did) == 6) || is == isZeroHouse(h) {
				t.Fatalf("PlayHouse(%d, ..) with %d: %v %v", x, y, did, ok)
			}
			if p, ok := impl.PlayPlain([]impl.HouseStep{tellPart(x, sayOf("a", y, x)), {Kind: x, What: sayOf("b", y, y)}}); !ok || p.Offset > 2 {
				t.Fatalf("PlayPlain with %d, %d: %v %v", x, y, p, ok)
			}
		}
	}
	two := twoParts()
	for _, h := range []impl.House{
		alteredHouse(two, func(h *impl.House) { h.Heads[0].Rows = make([]impl.Row, 100000) }), alteredHouse(two, func(h *impl.House) { h.Logs[1].Pieces = make([]impl.Piece, 100000) }), alteredHouse(two, func(h *impl.House) { h.Kept = make([]impl.Head, 100000) }), alteredHouse(two, func(h *impl.House) { h.Logs[0].Pieces[0].Bytes = strings.Repeat("\x00", 100000) }), alteredHouse(two, func(h *impl.House) { h.Heads[0].Rows[0].Samples = make([]impl.Sample, 100000) }),
	} {
		refuseHouse(t, h)
	}
}

// eachList goes to all lists of a value, within lists too, up to the ends of their memory.
func eachList(v reflect.Value, visit func(reflect.Value)) {
	switch v.Kind() {
	case reflect.Struct:
		for i := range v.NumField() {
			eachList(v.Field(i), visit)
		}
	case reflect.Slice:
		visit(v)
		whole := v.Slice(0, v.Cap())
		for i := range whole.Len() {
			eachList(whole.Index(i), visit)
		}
	}
}

// memoryOf are the beginnings and ends of the lists of a value.
func memoryOf(values ...any) [][2]uintptr {
	var out [][2]uintptr
	for _, x := range values {
		eachList(reflect.ValueOf(x), func(l reflect.Value) {
			if l.Cap() > 0 {
				from := l.Pointer()
				out = append(out, [2]uintptr{from, from + uintptr(l.Cap())*l.Type().Elem().Size()})
			}
		})
	}
	return out
}

func isApart(a [2]uintptr, b [2]uintptr) bool {
	return a[1] <= b[0] || b[1] <= a[0]
}

// checkApart asks that an answer's lists are apart from one another and from all that was there ahead, with nothing behind them.
func checkApart(t *testing.T, name string, ahead [][2]uintptr, answer ...any) {
	t.Helper()
	own := memoryOf(answer...)
	for i, a := range own {
		for _, b := range slices.Concat(own[:i], ahead) {
			if !isApart(a, b) {
				t.Fatalf("%s shares memory: %v", name, answer)
			}
		}
	}
	for _, x := range answer {
		eachList(reflect.ValueOf(x), func(l reflect.Value) {
			for i := l.Len(); i < l.Cap(); i++ {
				if !l.Slice(0, l.Cap()).Index(i).IsZero() {
					t.Fatalf("%s hands out %v", name, l.Slice(0, l.Cap()))
				}
			}
		})
	}
}

// imageOf tells all of a value's memory, with what lies behind its lists.
func imageOf(x any) string {
	out := fmt.Sprint(x)
	eachList(reflect.ValueOf(x), func(l reflect.Value) {
		out += fmt.Sprint(";", l.Len(), l.Slice(0, l.Cap()))
	})
	return out
}

// roomyHouse is twoParts with much behind its lists in their memory, which is no part of it, though it could be.
func roomyHouse() impl.House {
	h := twoParts()
	for k := range 2 {
		for i, p := range h.Logs[k].Pieces {
			h.Logs[k].Pieces[i].Index = append(p.Index, len(p.Bytes), 77)[:len(p.Index)]
		}
		pieces := h.Logs[k].Pieces
		h.Logs[k].Pieces = append(pieces, pieceOf(6, "a 9 9"), pieceOf(7, "a 10 9"))[:len(pieces)]
		for _, x := range []*impl.Head{&h.Heads[k], &h.Kept[k]} {
			for i, row := range x.Rows {
				x.Rows[i].Samples = append(slices.Clone(row.Samples), impl.Sample{At: 77, Value: 77}, impl.Sample{At: 5})[:len(row.Samples)]
			}
			x.Rows = append(slices.Clone(x.Rows), rowWith("zz", 1, 1), rowWith("a", 1, 1))[:len(x.Rows)]
		}
	}
	other := houseOf(part{fewSays("a", 3), 2, 1})
	h.Logs = append(h.Logs, other.Logs[0], impl.NewLog())[:2]
	h.Heads = append(h.Heads, other.Heads[0], impl.Head{})[:2]
	h.Kept = append(h.Kept, other.Kept[0], impl.Head{})[:2]
	return h
}

// houseSteps are all that can be done with twoParts.
func houseSteps() []impl.HouseStep {
	out := []impl.HouseStep{tellPart(0, sayOf("a", 1, 1)), tellPart(0, sayOf("c", 100000000, 10000000)), tellPart(1, sayOf("b", 9, 9)), tellPart(1, sayOf("d", 0, 0))}
	for k := range 2 {
		out = append(out, followPart(k), keepPart(k), losePart(k))
	}
	return out
}

// Promise 19: nothing is written into an argument, nor into what lies behind it in its memory, nor is that read.
func TestHousesWriteIntoNoHouse(t *testing.T) {
	h, was := roomyHouse(), imageOf(roomyHouse())
	check := func(name string) {
		t.Helper()
		if imageOf(h) != was {
			t.Fatalf("%s has written: %v", name, imageOf(h))
		}
	}
	checkHouse(t, h)
	check("asking")
	for _, s := range houseSteps() {
		got, ok := impl.StepHouse(h, s)
		want, _ := impl.StepHouse(twoParts(), s)
		if !sameHouse(got, want) || ok == isZeroHouse(got) {
			t.Errorf("%v: %v %v, not %v", s, got, ok, want)
		}
		check(fmt.Sprint(s))
	}
	for _, n := range manyNumbers() {
		for kind := range 6 {
			impl.StepHouse(h, impl.HouseStep{Kind: kind, Part: n})
			impl.StepHouse(h, impl.HouseStep{Kind: kind, Part: kind % 2, What: sayOf("a", n, n)})
		}
		impl.AskHouse(h, "a", n)
		impl.AskHouse(h, "b", n)
	}
	check("any number")
	for _, q := range []impl.House{
		{Logs: h.Logs[:3], Heads: h.Heads, Kept: h.Kept}, {Logs: h.Logs, Heads: h.Heads[:3], Kept: h.Kept}, {Logs: h.Logs, Heads: h.Heads, Kept: h.Kept[:3]}, {Logs: h.Logs[:4], Heads: h.Heads[:4], Kept: h.Kept[:4]}, {Logs: h.Logs[:1], Heads: h.Heads, Kept: h.Kept}, {Logs: h.Logs, Heads: h.Heads[:1], Kept: h.Kept[:1]}, {Logs: h.Logs, Heads: h.Kept, Kept: h.Heads},
	} {
		refuseHouse(t, q)
	}
	check("refusing")
}

func TestHousesWriteIntoNoSteps(t *testing.T) {
	all := []impl.HouseStep{tellPart(0, sayOf("a", 1, 1)), followPart(0), keepPart(0), {Kind: 9, Part: 9}, tellPart(0, sayOf("a", 2, 2)), tellPart(1, sayOf("a", 2, 2))}
	l := slices.Clone(all)[:3]
	for range 2 {
		h, did, ok := impl.PlayHouse(2, l)
		if !sameHouse(h, houseOf(part{fewSaysAt(1), 1, 1}, part{})) || !slices.Equal(did, []bool{true, true, true}) || !ok {
			t.Error(h, did, ok)
		}
		p, ok := impl.PlayPlain(l)
		if !sameHead(p, headOf(1, rowWith("a", 1, 1))) || !ok {
			t.Error(p, ok)
		}
		impl.PlayHouse(2, l[:6])
		impl.PlayPlain(l[:6])
		impl.PlayHouse(0, l)
	}
	if !slices.Equal(l[:6], all) {
		t.Error("written into:", l[:6])
	}
}

func fewSaysAt(many int) []impl.Say {
	var out []impl.Say
	for i := range many {
		out = append(out, sayOf("a", i+1, i+1))
	}
	return out
}

// spoilHouse writes over all of a house's memory.
func spoilHouse(h impl.House) {
	for _, g := range h.Logs {
		spoilLog(g)
	}
	for _, x := range slices.Concat(h.Heads, h.Kept) {
		for _, row := range x.Rows {
			spoil(row.Samples, impl.Sample{At: -77, Value: 77})
		}
		spoil(x.Rows, impl.Row{Name: "?"})
	}
	spoil(h.Logs, impl.Log{Begin: 77})
	spoil(h.Heads, impl.Head{Offset: 77})
	spoil(h.Kept, impl.Head{Offset: 77})
}

func TestHousesAnswerWithNewMemory(t *testing.T) {
	h, was := roomyHouse(), imageOf(roomyHouse())
	ahead := memoryOf(h)
	for _, s := range houseSteps() {
		want, is := plainHouseStep(twoParts(), s)
		for range 2 {
			q, ok := impl.StepHouse(h, s)
			if ok != is || !sameHouse(q, want) {
				t.Fatalf("%v: %v %v, not %v", s, q, ok, want)
			}
			checkApart(t, fmt.Sprint(s), ahead, q)
			spoilHouse(q)
		}
	}
	for range 2 {
		q, n, ok := impl.CatchUp(h)
		if want, _ := plainCaught(twoParts()); !sameHouse(q, want) || n != 3 || !ok {
			t.Fatal(q, n, ok)
		}
		checkApart(t, "CatchUp", ahead, q)
		spoilHouse(q)
		for _, name := range []string{"a", "b", "c", "d"} {
			l, is, ok := impl.AskHouse(h, name, 1)
			if !is || !ok || len(l) == 0 {
				t.Fatal(name, l, is, ok)
			}
			checkApart(t, "AskHouse", ahead, l)
			spoil(l, impl.Sample{At: -77})
		}
	}
	if imageOf(h) != was {
		t.Errorf("memory is shared: %v", imageOf(h))
	}
	for parts := 1; parts <= 3; parts++ {
		for range 2 {
			q, _ := impl.NewHouse(parts)
			if !sameHouse(q, houseOf(make([]part, parts)...)) {
				t.Fatal(q)
			}
			checkApart(t, "NewHouse", ahead, q)
			spoilHouse(q)
		}
	}
	r := rand.New(rand.NewSource(179))
	for i := range 60 {
		parts := 1 + i%3
		l := anyHousePlay(r, parts, shortNames(r, 5), 60)
		want, _ := checkHousePlay(t, parts, l)
		q, did, ok := impl.PlayHouse(parts, l)
		p, fine := impl.PlayPlain(l)
		if !ok || !fine || !sameHouse(q, want) {
			t.Fatal(q, ok, p, fine)
		}
		checkApart(t, "a play", memoryOf(l), q, did, p)
		// What is kept and the head that it was are apart: one goes on, the other stays.
		for k := range parts {
			for _, s := range []impl.HouseStep{keepPart(k), losePart(k)} {
				x, _ := impl.StepHouse(q, s)
				checkApart(t, fmt.Sprint(s), memoryOf(q), x)
			}
		}
		caught, _, _ := impl.CatchUp(q)
		checkApart(t, "CatchUp", memoryOf(q), caught)
	}
}

// Nothing is kept from call to call, not even by what was given up in between.
func TestHousesTellTheSameAgain(t *testing.T) {
	r := rand.New(rand.NewSource(180))
	bad := badHouses()
	for range 200 {
		h := anyHouse(r).house()
		s := anyHouseStep(r, len(h.Logs), goodNames()[:5])
		first, is := impl.StepHouse(h, s)
		caught, n, _ := impl.CatchUp(h)
		for range 5 {
			impl.GoodHouse(bad[r.Intn(len(bad))])
			impl.StepHouse(h, impl.HouseStep{Kind: 9})
			if q, ok := impl.StepHouse(h, s); !sameHouse(q, first) || ok != is {
				t.Fatalf("%v of %v: %v, and %v", s, h, first, q)
			}
			if q, m, ok := impl.CatchUp(h); !sameHouse(q, caught) || m != n || !ok {
				t.Fatalf("CatchUp(%v): %v, and %v", h, caught, q)
			}
		}
	}
}
