package tests

import (
	"math"
	"math/rand"
	"slices"
	"strings"
	"testing"

	"loop.example/g00522/impl"
)

const maxFirst = 100000

// written is a record as it stands in a piece: two times its length, which is one byte here, and it.
func written(s string) string {
	return string([]byte{byte(2 * len(s))}) + s
}

// pieceOf lays records out by hand.
func pieceOf(from int, records ...string) impl.Piece {
	p := impl.Piece{From: from}
	for i, s := range records {
		if i%3 == 0 {
			p.Index = append(p.Index, len(p.Bytes))
		}
		p.Bytes += written(s)
	}
	return p
}

// logOf has its first record at from, and its records in pieces as they are told.
func logOf(from int, begin int, pieces ...[]string) impl.Log {
	g := impl.Log{Begin: begin}
	for _, l := range pieces {
		g.Pieces = append(g.Pieces, pieceOf(from, l...))
		from += len(l)
	}
	return g
}

// plainPieces tells where the records of a log of lists stand, without bytes.
type plainPieces struct {
	from   int
	begin  int
	pieces [][]string
}

func (p plainPieces) log() impl.Log {
	return logOf(p.from, p.begin, p.pieces...)
}

func (p plainPieces) records() []string {
	return slices.Concat(p.pieces...)
}

func (p plainPieces) end() int {
	return p.from + len(p.records())
}

func (p plainPieces) clone() plainPieces {
	out := p
	out.pieces = nil
	for _, l := range p.pieces {
		out.pieces = append(out.pieces, slices.Clone(l))
	}
	return out
}

func bytesOf(l []string) int {
	return len(pieceOf(0, l...).Bytes)
}

func (p plainPieces) append(s string) (plainPieces, bool) {
	out := p.clone()
	if len(s) > 20 || len(p.records()) >= 60 {
		return plainPieces{}, false
	}
	last := len(out.pieces) - 1
	if bytesOf(out.pieces[last])+1+len(s) <= 60 {
		out.pieces[last] = append(out.pieces[last], s)
		return out, true
	}
	out.pieces = append(out.pieces, []string{s})
	return out, len(out.pieces) <= 20
}

// cut goes through all pieces, each with its own From.
func (p plainPieces) cut(offset int) plainPieces {
	out := plainPieces{from: p.from, begin: p.begin}
	from := p.from
	for i, l := range p.pieces {
		if i == 0 || from < offset {
			out.pieces = append(out.pieces, slices.Clone(l[:min(len(l), offset-from)]))
		}
		from += len(l)
	}
	return out
}

func (p plainPieces) drop(offset int) plainPieces {
	out := p.clone()
	out.begin = offset
	for len(out.pieces) > 1 && out.from+len(out.pieces[0]) <= offset {
		out.from += len(out.pieces[0])
		out.pieces = out.pieces[1:]
	}
	return out
}

// tear takes records off the end for as long as fewer bytes than they have are left.
func (p plainPieces) tear(many int) (plainPieces, int, bool) {
	out := p.clone()
	last := len(out.pieces) - 1
	l := out.pieces[last]
	left := bytesOf(l) - many
	for bytesOf(l) > left {
		l = l[:len(l)-1]
	}
	out.pieces[last] = l
	return out, left - bytesOf(l), out.begin <= out.end()
}

func sameLog(a impl.Log, b impl.Log) bool {
	return a.Begin == b.Begin && slices.EqualFunc(a.Pieces, b.Pieces, samePiece)
}

func samePiece(a impl.Piece, b impl.Piece) bool {
	return a.From == b.From && a.Bytes == b.Bytes && slices.Equal(a.Index, b.Index)
}

func isZeroLog(g impl.Log) bool {
	return len(g.Pieces) == 0 && g.Begin == 0
}

func isZeroPiece(p impl.Piece) bool {
	return p.From == 0 && p.Bytes == "" && len(p.Index) == 0
}

// plainRecords reads the whole records with which bytes begin, and how many bytes are left.
func plainRecords(s string) ([]string, int) {
	var out []string
	for len(s) > 0 {
		twice := int(s[0])
		if twice%2 == 1 || twice > 40 || 1+twice/2 > len(s) {
			break
		}
		out = append(out, s[1:1+twice/2])
		s = s[1+twice/2:]
	}
	return out, len(s)
}

// plainGoodLog reads all records and lays them out anew.
func plainGoodLog(g impl.Log) bool {
	if len(g.Pieces) == 0 || len(g.Pieces) > 20 {
		return false
	}
	p := plainPieces{from: g.Pieces[0].From, begin: g.Begin}
	for i, x := range g.Pieces {
		l, left := plainRecords(x.Bytes)
		if left > 0 || len(x.Bytes) > 60 || len(l) == 0 && i < len(g.Pieces)-1 {
			return false
		}
		p.pieces = append(p.pieces, l)
	}
	if p.from < 0 || p.from > 100000 || len(p.records()) > 60 {
		return false
	}
	return p.begin >= p.from && p.begin <= p.from+len(p.pieces[0]) && sameLog(p.log(), g)
}

func anyRecord(r *rand.Rand, long int) string {
	out := make([]byte, r.Intn(long+1))
	for i := range out {
		// Bytes that could be lengths stand in records as well.
		out[i] = []byte{0, 2, 4, 40, 42, 'a', 'b', 128, 255}[r.Intn(9)]
	}
	return string(out)
}

func anyPieces(r *rand.Rand, long int) plainPieces {
	p := plainPieces{from: []int{0, 0, 7, 999, 1000, 1001, 100000}[r.Intn(7)]}
	for range 1 + r.Intn(20) {
		var l []string
		for range 1 + r.Intn(9) {
			s := anyRecord(r, long)
			if bytesOf(l)+1+len(s) <= 60 && len(p.records())+len(l) < 60 {
				l = append(l, s)
			}
		}
		p.pieces = append(p.pieces, l)
		if len(l) == 0 {
			break
		}
	}
	if r.Intn(4) == 0 {
		p.pieces[len(p.pieces)-1] = nil
	}
	p.begin = p.from + r.Intn(len(p.pieces[0])+1)
	return p
}

// rows are so many pieces of so many records each, all unlike.
func rows(pieces int, each int) [][]string {
	var out [][]string
	for i := range pieces {
		var l []string
		for k := range each {
			l = append(l, string([]byte{byte('a' + i), byte('a' + k)}))
		}
		out = append(out, l)
	}
	return out
}

func empties(many int) []string {
	return slices.Repeat([]string{""}, many)
}

func longRecord(long int) string {
	return strings.Repeat("x", long)
}

func goodPlain() []plainPieces {
	full := []string{longRecord(20), longRecord(20), longRecord(17)}
	out := []plainPieces{
		{pieces: rows(1, 0)}, {pieces: rows(1, 1)}, {pieces: rows(1, 3)}, {pieces: rows(1, 4)}, {pieces: rows(1, 20)}, {pieces: rows(20, 1)}, {pieces: rows(20, 3)}, {pieces: rows(3, 20)}, {pieces: rows(6, 10)},
		{pieces: [][]string{full}}, {pieces: slices.Repeat([][]string{full}, 20)}, {pieces: append(slices.Repeat([][]string{full}, 19), nil)}, {pieces: append(slices.Repeat([][]string{full}, 19), full[:2])},
		{pieces: [][]string{empties(60)}}, {pieces: [][]string{empties(59)}}, {pieces: [][]string{empties(59), {"a"}}}, {pieces: [][]string{empties(60), nil}}, {pieces: [][]string{empties(1), nil}}, {pieces: slices.Repeat([][]string{empties(1)}, 20)},
		{pieces: append(rows(2, 5), nil)}, {pieces: append(rows(19, 3), nil)}, {pieces: append(rows(19, 3), []string{"y", "z", "z"})},
		{from: maxFirst, begin: maxFirst, pieces: rows(1, 0)}, {from: maxFirst, begin: maxFirst + 2, pieces: rows(3, 2)}, {from: 1001, begin: 1003, pieces: rows(4, 4)}, {from: 998, begin: 1000, pieces: append(rows(1, 2), nil)},
	}
	for begin := range 6 {
		for _, from := range []int{0, 1, 1000, maxFirst} {
			out = append(out, plainPieces{from: from, begin: from + begin, pieces: rows(3, 5)}, plainPieces{from: from, begin: from + begin, pieces: rows(1, 5)}, plainPieces{from: from, begin: from + begin, pieces: append(rows(1, 5), nil)})
		}
	}
	r := rand.New(rand.NewSource(61))
	for i := range 160 {
		out = append(out, anyPieces(r, []int{0, 1, 5, 20}[i%4]))
	}
	return out
}

// changed is a log of which one piece is another one, and all else is as it was.
func changed(g impl.Log, at int, change func(*impl.Piece)) impl.Log {
	out := impl.Log{Begin: g.Begin, Pieces: slices.Clone(g.Pieces)}
	change(&out.Pieces[at])
	return out
}

// badIndexes lack a place, have one too many, or name one where no record begins.
func badIndexes(p impl.Piece) [][]int {
	end := len(p.Bytes)
	out := [][]int{append(slices.Clone(p.Index), end), append(slices.Clone(p.Index), 0), append(slices.Clone(p.Index), end-1), append(slices.Clone(p.Index), end+1), append(slices.Clone(p.Index), -1), append([]int{0}, p.Index...), append([]int{-1}, p.Index...), make([]int, 5000)}
	if len(p.Index) == 0 {
		return out
	}
	last := p.Index[len(p.Index)-1]
	out = append(out, p.Index[1:], p.Index[:len(p.Index)-1], nil, append(slices.Clone(p.Index), last))
	for i := range p.Index {
		for _, by := range []int{-2, -1, 1, 2, 3, 100, math.MaxInt, math.MinInt} {
			l := slices.Clone(p.Index)
			l[i] += by
			out = append(out, l)
		}
	}
	return out
}

// badBytes end within a record or have a length that no record has.
func badBytes() []string {
	return []string{
		"\x02", "\x04a", "\x28", "\x28" + longRecord(19), "\x00\x02", "\x02a\x02", "\x02a\x04b",
		"\x01", "\x01a", "\x03aa", "\x27" + longRecord(20), "\xff\xff", "\x7f", "\x02a\x01", "\x00\x03",
		"\x2a" + longRecord(21), "\x2c" + longRecord(22), "\x76" + longRecord(59), "\x00\x2a" + longRecord(21), "\x02a\x2a" + longRecord(21),
		"\x80\x00", "\x82\x00a", "\x82\x80\x00a", "\xa8\x00" + longRecord(20), "\x80\x01" + longRecord(58), "\x80\x01", "\x80", "\x82", "\xff", "\x02a\x80\x00", "\x00\x80", "\x84\x80\x80\x80\x80\x00ab", "\x84\x80\x80\x80\x80\x80\x00ab",
		"a", "abc", strings.Repeat("\x80", 60), strings.Repeat("\xff", 60), "\x80\x80\x80\x80\x80\x01", "\xfe\xff\xff\xff\xff\xff\xff\xff\xff\x01",
	}
}

// laidOut tells, of any bytes, the Index that their first whole records would have.
func laidOut(from int, s string) impl.Piece {
	l, _ := plainRecords(s)
	p := pieceOf(from, l...)
	p.Bytes = s
	return p
}

func badLogs() []impl.Log {
	few := rows(3, 4)
	good := logOf(5, 6, few...)
	out := []impl.Log{
		{}, {Begin: 1}, {Pieces: []impl.Piece{}}, {Pieces: make([]impl.Piece, 2)}, {Pieces: make([]impl.Piece, 20)}, {Pieces: make([]impl.Piece, 5000)},
		logOf(0, 0, rows(21, 1)...), logOf(0, 0, append(rows(20, 1), nil)...), logOf(0, 0, rows(22, 1)...), logOf(0, 0, rows(20, 4)...),
		logOf(-1, -1, few...), logOf(-1, 0, few...), logOf(maxFirst+1, maxFirst+1, few...), logOf(maxFirst+1, maxFirst+1, nil), logOf(-5, 0, nil), logOf(math.MinInt, math.MinInt, few...), logOf(math.MaxInt, math.MaxInt, few...), logOf(math.MaxInt-2, math.MaxInt, few...), logOf(math.MaxInt, math.MaxInt, nil),
		logOf(5, 4, few...), logOf(5, 10, few...), logOf(5, 0, few...), logOf(5, -1, few...), logOf(5, 13, few...), logOf(5, 17, few...), logOf(5, math.MaxInt, few...), logOf(5, math.MinInt, few...), logOf(0, 1, nil), logOf(0, -1, nil), logOf(5, 4, nil), logOf(5, 6, nil),
		logOf(0, 0, nil, []string{"a"}), logOf(0, 0, []string{"a"}, nil, []string{"b"}), logOf(0, 0, []string{"a"}, nil, nil), logOf(0, 0, nil, nil),
		logOf(0, 0, empties(60), []string{""}), logOf(0, 60, empties(60), []string{""}), logOf(0, 0, rows(1, 1)[0], empties(60)), logOf(0, 0, append(rows(20, 3)[:19], empties(4))...), logOf(0, 3, append(rows(20, 3)[:19], empties(4))...),
		logOf(0, 0, empties(61)), logOf(0, 0, []string{longRecord(20), longRecord(20), longRecord(18)}), logOf(0, 0, []string{longRecord(20), longRecord(20), longRecord(17), ""}), logOf(0, 0, []string{longRecord(21)}), logOf(0, 0, rows(1, 21)[0]),
	}
	for i := range good.Pieces {
		for _, by := range []int{-1, 1, 2, -4, 4, 100, -100, math.MaxInt, math.MinInt} {
			out = append(out, changed(good, i, func(p *impl.Piece) { p.From += by }))
		}
		for _, index := range badIndexes(good.Pieces[i]) {
			out = append(out, changed(good, i, func(p *impl.Piece) { p.Index = index }))
		}
	}
	for _, s := range badBytes() {
		for _, index := range [][]int{laidOut(0, s).Index, nil, {0}} {
			out = append(out, impl.Log{Pieces: []impl.Piece{{Bytes: s, Index: index}}})
		}
		for i := range good.Pieces {
			out = append(out, changed(good, i, func(p *impl.Piece) {
				if long := p.Bytes + s; len(long) <= 60 {
					*p = laidOut(p.From, long)
				} else {
					*p = laidOut(p.From, s)
				}
			}))
		}
	}
	return out
}

func TestLogsHaveTheirLimits(t *testing.T) {
	if impl.MaxRecord != 20 || impl.MaxPiece != 60 || impl.MaxLog != 60 || impl.Sparse != 3 {
		t.Error(impl.MaxRecord, impl.MaxPiece, impl.MaxLog, impl.Sparse)
	}
}

func TestNewLogIsOneEmptyPiece(t *testing.T) {
	g := impl.NewLog()
	if len(g.Pieces) != 1 || !isZeroPiece(g.Pieces[0]) || g.Begin != 0 || !impl.GoodLog(g) {
		t.Error(g)
	}
	if e, ok := impl.EndOf(g); e != 0 || !ok {
		t.Error(e, ok)
	}
	if l, ok := impl.AllOf(g); len(l) != 0 || !ok {
		t.Error(l, ok)
	}
	if s, ok := impl.ReadAt(g, 0); s != "" || ok {
		t.Error(s, ok)
	}
}

func TestGoodLogTellsAsSaid(t *testing.T) {
	for _, p := range goodPlain() {
		if g := p.log(); !impl.GoodLog(g) || !plainGoodLog(g) {
			t.Errorf("refused: %v", g)
		}
	}
	for _, g := range badLogs() {
		if impl.GoodLog(g) || plainGoodLog(g) {
			t.Errorf("taken: %v", g)
		}
	}
}

// Any one thing of a good log is changed: it is good still just if all can be read and laid out so.
func TestGoodLogTellsWhatIsChanged(t *testing.T) {
	r := rand.New(rand.NewSource(62))
	good, bad := 0, 0
	for range 15000 {
		g := anyPieces(r, 6).log()
		p := &g.Pieces[r.Intn(len(g.Pieces))]
		switch kind := r.Intn(6); {
		case kind == 0:
			g.Begin += r.Intn(7) - 3
		case kind == 1:
			p.From += r.Intn(3) - 1
		case kind == 2 && len(p.Index) > 0:
			p.Index[r.Intn(len(p.Index))] += r.Intn(5) - 2
		case kind == 3 && p.Bytes != "":
			bytes := []byte(p.Bytes)
			bytes[r.Intn(len(bytes))] = byte(r.Intn(256))
			p.Bytes = string(bytes)
		case kind == 4:
			p.Bytes = p.Bytes[:r.Intn(len(p.Bytes)+1)]
		case kind == 5:
			*p = laidOut(p.From, p.Bytes+anyRecord(r, 3))
		}
		if impl.GoodLog(g) != plainGoodLog(g) {
			t.Fatalf("%v: %v", g, impl.GoodLog(g))
		}
		if impl.GoodLog(g) {
			good++
		} else {
			bad++
		}
	}
	if good < 3000 || bad < 3000 {
		t.Error("too few of one kind:", good, bad)
	}
}

func TestRecordsAreAtMostTwentyBytes(t *testing.T) {
	for long := range 59 {
		s := longRecord(long)
		if impl.GoodLog(logOf(0, 0, []string{s})) != (long <= 20) {
			t.Error(long, "bytes in a piece")
		}
		g, ok := impl.AppendLog(impl.NewLog(), s)
		if ok != (long <= 20) || !ok && !isZeroLog(g) {
			t.Error(long, "bytes:", g, ok)
		}
		if told, is := impl.ReadAt(g, 0); is != ok || ok && told != s || ok && !sameLog(g, logOf(0, 0, []string{s})) {
			t.Error(long, "bytes:", told, is)
		}
	}
	for _, long := range []int{61, 100, 5000, 100000} {
		if g, ok := impl.AppendLog(impl.NewLog(), longRecord(long)); !isZeroLog(g) || ok {
			t.Error(long, "bytes:", g, ok)
		}
	}
}

func TestPiecesAreAtMostSixtyBytes(t *testing.T) {
	for many := range 130 {
		if impl.GoodLog(logOf(0, 0, empties(many))) != (many <= 60) {
			t.Error(many, "empty records")
		}
		// As many bytes, in few records: those of 20 bytes first, the last one with what is left.
		l := slices.Repeat([]string{longRecord(20)}, many/21)
		if many%21 > 0 {
			l = append(l, longRecord(many%21-1))
		}
		for _, g := range []impl.Log{logOf(0, 0, l), logOf(9, 9, []string{"a"}, l), logOf(9, 9, l, []string{"a"})} {
			if want := many <= 60 && (many > 0 || len(g.Pieces) == 1 || g.Pieces[1].Bytes == ""); impl.GoodLog(g) != want {
				t.Errorf("%d bytes: %v", many, g)
			}
		}
	}
}

// For 0, 1, Sparse, Sparse and one, and many records.
func TestIndexNamesEverySparseRecord(t *testing.T) {
	for many := range 61 {
		for _, long := range []int{0, 1, 2} {
			if many*(long+1) > 60 {
				continue
			}
			p := pieceOf(3, slices.Repeat([]string{longRecord(long)}, many)...)
			if len(p.Index) != (many+2)/3 || !impl.GoodLog(impl.Log{Pieces: []impl.Piece{p}, Begin: 3}) {
				t.Fatalf("refused: %v", p)
			}
			for _, index := range badIndexes(p) {
				if slices.Equal(index, p.Index) {
					continue
				}
				bad := impl.Piece{From: 3, Bytes: p.Bytes, Index: index}
				if impl.GoodLog(impl.Log{Pieces: []impl.Piece{bad}, Begin: 3}) {
					t.Errorf("taken: %v", bad)
				}
				if many > 0 && impl.GoodLog(impl.Log{Pieces: []impl.Piece{bad, pieceOf(3 + many)}, Begin: 3}) {
					t.Errorf("taken: %v ahead", bad)
				}
				last := impl.Piece{From: 1, Bytes: p.Bytes, Index: index}
				if many < 60 && impl.GoodLog(impl.Log{Pieces: []impl.Piece{pieceOf(0, "z"), last}}) {
					t.Errorf("taken: %v behind", last)
				}
			}
			g, ok := impl.NewLog(), true
			for range many {
				g, ok = impl.AppendLog(g, longRecord(long))
			}
			if !ok || len(g.Pieces) != 1 || !slices.Equal(g.Pieces[0].Index, p.Index) {
				t.Errorf("%d records: %v %v", many, g, ok)
			}
		}
	}
}

func TestLogsHaveOneToTwentyPieces(t *testing.T) {
	for many := range 50 {
		if impl.GoodLog(logOf(0, 0, rows(many, 1)...)) != (many >= 1 && many <= 20) {
			t.Error(many, "pieces")
		}
		if impl.GoodLog(logOf(0, 0, append(rows(many, 1), nil)...)) != (many <= 19) {
			t.Error(many, "pieces and an empty one")
		}
	}
}

func TestFromIsTheOneAheadAndItsRecords(t *testing.T) {
	for _, p := range goodPlain() {
		g := p.log()
		for i := 1; i < len(g.Pieces); i++ {
			if !impl.GoodLog(changed(g, i, func(x *impl.Piece) { x.From += 0 })) {
				t.Fatalf("refused: %v", g)
			}
			for _, by := range []int{-1, 1, 7, math.MinInt} {
				if bad := changed(g, i, func(x *impl.Piece) { x.From += by }); impl.GoodLog(bad) {
					t.Fatalf("taken: %v", bad)
				}
			}
		}
	}
}

func TestOnlyTheLastPieceMayBeEmpty(t *testing.T) {
	for many := 1; many <= 20; many++ {
		for at := range many {
			pieces := rows(many, 2)
			pieces[at] = nil
			if impl.GoodLog(logOf(0, 0, pieces...)) != (at == many-1) {
				t.Errorf("%d of %d", at, many)
			}
		}
	}
}

func TestFirstFromHasItsLimits(t *testing.T) {
	for _, from := range []int{-1000, -1, 0, 1, 999, 1000, 1001, 99999, 100000, 100001, 200000, math.MinInt, math.MaxInt - 100, math.MaxInt} {
		for _, g := range []impl.Log{logOf(from, from, nil), logOf(from, from, rows(1, 3)...), logOf(from, from, rows(4, 3)...)} {
			if impl.GoodLog(g) != (from >= 0 && from <= 100000) {
				t.Error(g)
			}
		}
	}
	// Those behind may begin later.
	if !impl.GoodLog(logOf(100000, 100000, rows(20, 3)...)) {
		t.Error("refused")
	}
}

func TestBeginIsInTheFirstPiece(t *testing.T) {
	for _, from := range []int{0, 5, 100000} {
		for _, pieces := range [][][]string{{nil}, rows(1, 1), rows(1, 4), rows(2, 4), rows(20, 3), append(rows(1, 4), nil)} {
			for begin := from - 10; begin <= from+20; begin++ {
				if impl.GoodLog(logOf(from, begin, pieces...)) != (begin >= from && begin <= from+len(pieces[0])) {
					t.Errorf("Begin %d of %d, %v", begin, from, pieces)
				}
			}
		}
	}
}

func TestLogsHaveAtMostSixtyRecords(t *testing.T) {
	for many := range 130 {
		var pieces [][]string
		for l := range slices.Chunk(empties(many), 13) {
			pieces = append(pieces, l)
		}
		if many == 0 {
			pieces = [][]string{nil}
		}
		// What is gone counts still, as long as it is there.
		for _, begin := range []int{0, min(many, 13)} {
			if impl.GoodLog(logOf(0, begin, pieces...)) != (many <= 60) {
				t.Error(many, "records from", begin)
			}
		}
	}
	for _, p := range []plainPieces{{pieces: [][]string{empties(60)}}, {pieces: rows(20, 3)}, {pieces: rows(3, 20)}, {begin: 3, pieces: rows(20, 3)}, {begin: 60, pieces: [][]string{empties(60), nil}}} {
		for _, s := range []string{"", "a", longRecord(20)} {
			if g, ok := impl.AppendLog(p.log(), s); !isZeroLog(g) || ok {
				t.Errorf("%v and %q: %v %v", p, s, g, ok)
			}
		}
	}
}

func TestLengthsStandInOneForm(t *testing.T) {
	for _, s := range badBytes() {
		l, left := plainRecords(s)
		if left == 0 {
			t.Errorf("%q is good: %q", s, l)
		}
		for _, index := range [][]int{laidOut(0, s).Index, nil, {0}} {
			if impl.GoodLog(impl.Log{Pieces: []impl.Piece{{Bytes: s, Index: index}}}) {
				t.Errorf("taken: %q", s)
			}
		}
		p, n, ok := impl.RecoverPiece(0, s)
		if want := pieceOf(0, l...); !samePiece(p, want) || n != left || !ok {
			t.Errorf("%q: %v %d %v", s, p, n, ok)
		}
	}
	// Each byte as the first one, ahead of more than enough.
	for c := range 256 {
		s := string([]byte{byte(c)}) + longRecord(20)
		want := c%2 == 0 && c <= 40
		p, _, ok := impl.RecoverPiece(0, s)
		if !ok || (len(p.Index) > 0) != want {
			t.Errorf("%d: %v %v", c, p, ok)
		}
		exact := s[:1+min(c/2, 20)]
		if impl.GoodLog(impl.Log{Pieces: []impl.Piece{{Bytes: exact, Index: []int{0}}}}) != want {
			t.Errorf("%d: %q", c, exact)
		}
	}
}

func TestOffsetsAreToldAsSaid(t *testing.T) {
	g := logOf(5, 7, []string{"a", "b", "", "d"}, []string{"e", "f"}, []string{"g"})
	for offset := -1; offset <= 15; offset++ {
		want, there := "", offset >= 7 && offset < 12
		if there {
			want = []string{"", "d", "e", "f", "g"}[offset-7]
		}
		if s, ok := impl.ReadAt(g, offset); s != want || ok != there {
			t.Errorf("ReadAt %d: %q %v", offset, s, ok)
		}
	}
	if e, ok := impl.EndOf(g); e != 12 || !ok {
		t.Error(e, ok)
	}
	if l, ok := impl.AllOf(g); !slices.Equal(l, []string{"", "d", "e", "f", "g"}) || !ok {
		t.Error(l, ok)
	}
	for _, c := range []struct {
		g    impl.Log
		end  int
		left []string
	}{
		{logOf(0, 0, nil), 0, nil}, {logOf(100000, 100000, nil), 100000, nil}, {logOf(5, 7, rows(1, 2)...), 7, nil}, {logOf(5, 7, append(rows(1, 2), nil)...), 7, nil}, {logOf(5, 6, append(rows(1, 2), nil)...), 7, []string{"ab"}}, {logOf(5, 7, rows(2, 2)...), 9, []string{"ba", "bb"}},
		{logOf(100000, 100001, rows(1, 2)...), 100002, []string{"ab"}}, {logOf(0, 0, empties(60)), 60, empties(60)}, {logOf(0, 59, empties(60)), 60, empties(1)}, {logOf(0, 60, empties(60)), 60, nil},
	} {
		e, ok := impl.EndOf(c.g)
		if l, is := impl.AllOf(c.g); e != c.end || !ok || !slices.Equal(l, c.left) || !is {
			t.Errorf("%v: %d %v, %q %v", c.g, e, ok, l, is)
		}
	}
}

// checkOffsets asks for each offset from below Begin to beyond the end.
func checkOffsets(t *testing.T, g impl.Log, from int, begin int, records []string) {
	t.Helper()
	end := from + len(records)
	if e, ok := impl.EndOf(g); e != end || !ok {
		t.Fatalf("EndOf(%v): %d %v, not %d", g, e, ok, end)
	}
	if l, ok := impl.AllOf(g); !slices.Equal(l, records[begin-from:]) || !ok {
		t.Fatalf("AllOf(%v): %q %v, not %q", g, l, ok, records[begin-from:])
	}
	for offset := from - 2; offset <= end+2; offset++ {
		s, ok := impl.ReadAt(g, offset)
		there := offset >= begin && offset < end
		if ok != there || there && s != records[offset-from] || !there && s != "" {
			t.Fatalf("ReadAt(%v, %d): %q %v", g, offset, s, ok)
		}
	}
	for _, offset := range []int{-1, math.MinInt, math.MaxInt, begin - 1, end, begin + math.MaxInt/2} {
		if s, ok := impl.ReadAt(g, offset); s != "" || ok {
			t.Fatalf("ReadAt(%v, %d): %q %v", g, offset, s, ok)
		}
	}
}

// Promise 6: a log tells each record at its offset.
func TestLogsTellEachRecordAtItsOffset(t *testing.T) {
	for _, p := range goodPlain() {
		checkOffsets(t, p.log(), p.from, p.begin, p.records())
	}
}

func TestAppendLogTellsAsSaid(t *testing.T) {
	x, full := longRecord(20), []string{longRecord(20), longRecord(20), longRecord(17)}
	many := slices.Repeat([][]string{full}, 19)
	for _, c := range []struct {
		p    plainPieces
		s    string
		want [][]string
	}{
		{plainPieces{pieces: [][]string{nil}}, "", [][]string{{""}}}, {plainPieces{pieces: [][]string{nil}}, x, [][]string{{x}}},
		{plainPieces{pieces: [][]string{{x, x}}}, longRecord(17), [][]string{full}}, {plainPieces{pieces: [][]string{{x, x}}}, longRecord(18), [][]string{{x, x}, {longRecord(18)}}}, {plainPieces{pieces: [][]string{{x, x}}}, x, [][]string{{x, x}, {x}}},
		{plainPieces{pieces: [][]string{full}}, "", [][]string{full, {""}}}, {plainPieces{pieces: [][]string{full, nil}}, "", [][]string{full, {""}}}, {plainPieces{pieces: [][]string{full, nil}}, x, [][]string{full, {x}}},
		{plainPieces{pieces: [][]string{{"a"}, nil}}, "b", [][]string{{"a"}, {"b"}}}, {plainPieces{pieces: [][]string{{"a"}, {"b"}}}, "c", [][]string{{"a"}, {"b", "c"}}}, {plainPieces{pieces: [][]string{{"a"}, full}}, "c", [][]string{{"a"}, full, {"c"}}},
		{plainPieces{pieces: [][]string{empties(59)}}, "", [][]string{empties(60)}}, {plainPieces{pieces: [][]string{empties(59)}}, "a", [][]string{empties(59), {"a"}}}, {plainPieces{pieces: [][]string{empties(60)}}, "", nil}, {plainPieces{pieces: [][]string{empties(60), nil}}, "", nil},
		{plainPieces{pieces: many}, x, append(slices.Clone(many), []string{x})}, {plainPieces{pieces: append(slices.Clone(many), nil)}, x, append(slices.Clone(many), []string{x})}, {plainPieces{pieces: append(slices.Clone(many), full[:2])}, longRecord(17), append(slices.Clone(many), full)},
		{plainPieces{pieces: append(slices.Clone(many), full[:2])}, longRecord(18), nil}, {plainPieces{pieces: append(slices.Clone(many), []string{x, x, longRecord(16)})}, "", nil}, {plainPieces{pieces: append(slices.Clone(many), []string{x, x})}, longRecord(21), nil},
		{plainPieces{from: 100000, begin: 100001, pieces: [][]string{full}}, x, [][]string{full, {x}}}, {plainPieces{from: 5, begin: 8, pieces: [][]string{full, nil}}, x, [][]string{full, {x}}},
	} {
		g, ok := impl.AppendLog(c.p.log(), c.s)
		if c.want == nil {
			// Sixty records, or sixty bytes in each of twenty pieces, leave no room.
			if !isZeroLog(g) || ok {
				t.Errorf("%v and %q: %v %v", c.p, c.s, g, ok)
			}
			continue
		}
		if !sameLog(g, logOf(c.p.from, c.p.begin, c.want...)) || !ok {
			t.Errorf("%v and %q: %v %v", c.p, c.s, g, ok)
		}
	}
}

func TestAppendLogPutsARecordBehindAll(t *testing.T) {
	done, not := 0, 0
	for _, p := range goodPlain() {
		for _, s := range []string{"", "a", "\x00", "\xff\x80", longRecord(19), longRecord(20), longRecord(21)} {
			want, good := p.append(s)
			g, ok := impl.AppendLog(p.log(), s)
			if ok != good || !good && !isZeroLog(g) {
				t.Fatalf("%v and %q: %v %v", p, s, g, ok)
			}
			if !good {
				not++
				continue
			}
			done++
			if !sameLog(g, want.log()) || !impl.GoodLog(g) {
				t.Fatalf("%v and %q: %v", p, s, g)
			}
			checkOffsets(t, g, p.from, p.begin, append(p.records(), s))
		}
	}
	if done < 500 || not < 200 {
		t.Error("too few of one kind:", done, not)
	}
}

// Records of each length are put behind one another till there is no room.
func TestAppendLogFillsALog(t *testing.T) {
	for long := range 21 {
		s, g := longRecord(long), impl.NewLog()
		each := 60 / (long + 1)
		room := min(60, 20*each)
		for i := range room {
			next, ok := impl.AppendLog(g, s)
			if !ok || len(next.Pieces) != i/each+1 {
				t.Fatalf("%d of %d bytes: %v %v", i, long, next, ok)
			}
			g = next
		}
		for _, more := range []string{s, longRecord(20)} {
			if next, ok := impl.AppendLog(g, more); !isZeroLog(next) || ok {
				t.Errorf("%d of %d bytes: %v %v", room, long, next, ok)
			}
		}
		checkOffsets(t, g, 0, 0, slices.Repeat([]string{s}, room))
		// What is dropped leaves room, once its piece goes.
		if room > each {
			d, ok := impl.DropBefore(g, each)
			if next, is := impl.AppendLog(d, s); !ok || !is || !impl.GoodLog(next) {
				t.Errorf("%d bytes, dropped: %v %v", long, next, is)
			}
		}
	}
}

func TestCutFromTellsAsSaid(t *testing.T) {
	p := plainPieces{from: 5, begin: 7, pieces: [][]string{{"a", "b", "c", "d"}, {"e", "f"}, {"g", "h", "i", "j"}}}
	for offset, want := range map[int][][]string{
		7: {{"a", "b"}}, 8: {{"a", "b", "c"}}, 9: {{"a", "b", "c", "d"}}, 10: {{"a", "b", "c", "d"}, {"e"}}, 11: {{"a", "b", "c", "d"}, {"e", "f"}},
		12: {{"a", "b", "c", "d"}, {"e", "f"}, {"g"}}, 14: {{"a", "b", "c", "d"}, {"e", "f"}, {"g", "h", "i"}}, 15: p.pieces,
	} {
		if g, ok := impl.CutFrom(p.log(), offset); !sameLog(g, logOf(5, 7, want...)) || !ok {
			t.Errorf("%d: %v %v", offset, g, ok)
		}
	}
	for _, c := range []struct {
		g      impl.Log
		offset int
		want   impl.Log
	}{
		// Begin stays, and so does the first piece, without records.
		{logOf(0, 0, nil), 0, logOf(0, 0, nil)}, {logOf(0, 0, rows(3, 3)...), 0, logOf(0, 0, nil)}, {logOf(9, 9, rows(3, 3)...), 9, logOf(9, 9, nil)}, {logOf(9, 12, rows(3, 3)...), 12, logOf(9, 12, rows(1, 3)...)},
		// An empty piece begins at the end, and goes.
		{logOf(0, 0, append(rows(1, 3), nil)...), 3, logOf(0, 0, rows(1, 3)...)}, {logOf(0, 3, append(rows(1, 3), nil)...), 3, logOf(0, 3, rows(1, 3)...)}, {logOf(0, 0, append(rows(2, 3), nil)...), 5, logOf(0, 0, []string{"aa", "ab", "ac"}, []string{"ba", "bb"})},
		{logOf(100000, 100000, rows(20, 3)...), 100060, logOf(100000, 100000, rows(20, 3)...)}, {logOf(100000, 100000, rows(20, 3)...), 100057, logOf(100000, 100000, rows(19, 3)...)},
	} {
		if g, ok := impl.CutFrom(c.g, c.offset); !sameLog(g, c.want) || !ok {
			t.Errorf("%v, %d: %v %v", c.g, c.offset, g, ok)
		}
	}
}

// wrongOffsets are below Begin or beyond the end.
func wrongOffsets(p plainPieces) []int {
	return []int{p.begin - 1, p.begin - 2, p.end() + 1, p.end() + 2, -1, math.MinInt, math.MaxInt, math.MinInt + 1, p.end() + 100000}
}

func TestCutFromLeavesNoRecordFromThereOn(t *testing.T) {
	for _, p := range goodPlain() {
		g := p.log()
		for offset := p.begin; offset <= p.end(); offset++ {
			c, ok := impl.CutFrom(g, offset)
			if !ok || !sameLog(c, p.cut(offset).log()) || !impl.GoodLog(c) {
				t.Fatalf("%v, %d: %v %v", g, offset, c, ok)
			}
			checkOffsets(t, c, p.from, p.begin, p.records()[:offset-p.from])
		}
		for _, offset := range wrongOffsets(p) {
			if c, ok := impl.CutFrom(g, offset); !isZeroLog(c) || ok {
				t.Fatalf("%v, %d: %v %v", g, offset, c, ok)
			}
		}
	}
}

func TestDropBeforeTellsAsSaid(t *testing.T) {
	pieces := [][]string{{"a", "b", "c", "d"}, {"e", "f"}, {"g", "h", "i", "j"}}
	g := logOf(5, 7, pieces...)
	for offset, want := range map[int]impl.Log{
		7: g, 8: logOf(5, 8, pieces...), 9: logOf(9, 9, pieces[1:]...), 10: logOf(9, 10, pieces[1:]...), 11: logOf(11, 11, pieces[2]), 12: logOf(11, 12, pieces[2]), 14: logOf(11, 14, pieces[2]),
		// The last piece stays, though all of its records are ahead.
		15: logOf(11, 15, pieces[2]),
	} {
		if d, ok := impl.DropBefore(g, offset); !sameLog(d, want) || !ok {
			t.Errorf("%d: %v %v", offset, d, ok)
		}
	}
	for _, c := range []struct {
		g      impl.Log
		offset int
		want   impl.Log
	}{
		{logOf(0, 0, nil), 0, logOf(0, 0, nil)}, {logOf(0, 0, rows(1, 3)...), 3, logOf(0, 3, rows(1, 3)...)}, {logOf(0, 0, append(rows(1, 3), nil)...), 3, logOf(3, 3, nil)}, {logOf(0, 0, append(rows(1, 3), nil)...), 2, logOf(0, 2, append(rows(1, 3), nil)...)},
		// At its end Begin is in the first piece: a drop there takes that off.
		{logOf(0, 3, rows(2, 3)...), 3, logOf(3, 3, rows(2, 3)[1])}, {logOf(0, 3, append(rows(1, 3), nil)...), 3, logOf(3, 3, nil)},
	} {
		if d, ok := impl.DropBefore(c.g, c.offset); !sameLog(d, c.want) || !ok {
			t.Errorf("%v, %d: %v %v", c.g, c.offset, d, ok)
		}
	}
}

func TestDropBeforeLeavesAllFromThereOn(t *testing.T) {
	far := 0
	for _, p := range goodPlain() {
		g := p.log()
		for offset := p.begin; offset <= p.end(); offset++ {
			want := p.drop(offset)
			d, ok := impl.DropBefore(g, offset)
			if want.from > maxFirst {
				far++
				if !isZeroLog(d) || ok {
					t.Fatalf("%v, %d: %v %v", g, offset, d, ok)
				}
				continue
			}
			if !ok || !sameLog(d, want.log()) || !impl.GoodLog(d) {
				t.Fatalf("%v, %d: %v %v", g, offset, d, ok)
			}
			checkOffsets(t, d, want.from, offset, p.records()[want.from-p.from:])
		}
		for _, offset := range wrongOffsets(p) {
			if d, ok := impl.DropBefore(g, offset); !isZeroLog(d) || ok {
				t.Fatalf("%v, %d: %v %v", g, offset, d, ok)
			}
		}
	}
	if far < 100 {
		t.Error("too few beyond:", far)
	}
}

// A first From of more than 100000 would be beyond its limit: the log is not told.
func TestDropBeforeKeepsTheFirstFromsLimit(t *testing.T) {
	for from := 99990; from <= 100000; from++ {
		pieces := rows(6, 3)
		g := logOf(from, from, pieces...)
		for offset := from; offset <= from+18; offset++ {
			gone := min((offset-from)/3, 5)
			d, ok := impl.DropBefore(g, offset)
			if good := from+3*gone <= 100000; ok != good || good && !sameLog(d, logOf(from+3*gone, offset, pieces[gone:]...)) || !good && !isZeroLog(d) {
				t.Errorf("from %d, %d: %v %v", from, offset, d, ok)
			}
		}
	}
}

func TestRecoverPieceTellsAsSaid(t *testing.T) {
	abc := written("a") + written("bc") + written("") + written("d")
	for _, c := range []struct {
		s    string
		l    []string
		left int
	}{
		{"", nil, 0}, {"\x00", []string{""}, 0}, {"\x02", nil, 1}, {"\x02a", []string{"a"}, 0}, {"\x02a\x06bc", []string{"a"}, 3}, {"\x02a\x06bcd", []string{"a", "bcd"}, 0}, {"\x02a\x06", []string{"a"}, 1}, {"\x02ab", []string{"a"}, 1},
		{abc, []string{"a", "bc", "", "d"}, 0}, {abc[:7], []string{"a", "bc", ""}, 1}, {abc[:6], []string{"a", "bc", ""}, 0}, {abc[:5], []string{"a", "bc"}, 0}, {abc[:4], []string{"a"}, 2}, {abc[:3], []string{"a"}, 1},
		// Within a length, and at one in another form, all behind it is left, whole or not.
		{"\x02a\x80", []string{"a"}, 1}, {"\x02a\x80\x00\x02b", []string{"a"}, 4}, {"\x02a\x01\x02b", []string{"a"}, 3}, {"\x02a\x2a" + longRecord(21), []string{"a"}, 22}, {"\x01\x02a", nil, 3}, {"\x28" + longRecord(20), []string{longRecord(20)}, 0}, {"\x28" + longRecord(19), nil, 20},
		{strings.Repeat("\x00", 60), empties(60), 0}, {strings.Repeat("\xff", 60), nil, 60}, {strings.Repeat("\x28"+longRecord(20), 2) + "\x22" + longRecord(17), []string{longRecord(20), longRecord(20), longRecord(17)}, 0}, {strings.Repeat("\x28"+longRecord(20), 2) + "\x24" + longRecord(17), []string{longRecord(20), longRecord(20)}, 18},
	} {
		for _, from := range []int{0, 1, 7, 999, 1000} {
			if p, left, ok := impl.RecoverPiece(from, c.s); !samePiece(p, pieceOf(from, c.l...)) || left != c.left || !ok {
				t.Errorf("%d, %q: %v %d %v", from, c.s, p, left, ok)
			}
		}
		for _, from := range []int{-1, 1001, 1002, -1000, 100000, math.MinInt, math.MaxInt} {
			if p, left, ok := impl.RecoverPiece(from, c.s); !isZeroPiece(p) || left != 0 || ok {
				t.Errorf("%d, %q: %v %d %v", from, c.s, p, left, ok)
			}
		}
	}
	for long := range 100 {
		for _, s := range []string{strings.Repeat("\x00", long), strings.Repeat("\x02a", long)[:long], strings.Repeat("\xff", long)} {
			l, left := plainRecords(s)
			p, n, ok := impl.RecoverPiece(1000, s)
			if long > 60 && (!isZeroPiece(p) || n != 0 || ok) || long <= 60 && (!samePiece(p, pieceOf(1000, l...)) || n != left || !ok) {
				t.Errorf("%d bytes: %v %d %v", long, p, n, ok)
			}
		}
	}
}

// All short texts, and long ones of any bytes.
func TestRecoverPieceTellsWholeRecordsAlone(t *testing.T) {
	texts := textsOf("\x00\x01\x02\x04\x2a\x80a", 5)
	r := rand.New(rand.NewSource(63))
	for range 5000 {
		s := ""
		for len(s) < 60 && r.Intn(12) > 0 {
			s += written(anyRecord(r, 8))
		}
		s += anyRecord(r, 10)
		texts = append(texts, s[:min(len(s), 60)])
	}
	whole, torn := 0, 0
	for _, s := range texts {
		l, left := plainRecords(s)
		p, n, ok := impl.RecoverPiece(3, s)
		if !ok || n != left || !samePiece(p, pieceOf(3, l...)) || p.Bytes != s[:len(s)-n] {
			t.Fatalf("%q: %v %d %v", s, p, n, ok)
		}
		g := impl.Log{Pieces: []impl.Piece{p}, Begin: 3}
		if !impl.GoodLog(g) {
			t.Fatalf("%q: %v is not good", s, p)
		}
		checkOffsets(t, g, 3, 3, l)
		if left == 0 {
			whole++
		} else {
			torn++
		}
	}
	if whole < 1000 || torn < 1000 {
		t.Error("too few of one kind:", whole, torn)
	}
}

func TestTearEndTellsAsSaid(t *testing.T) {
	pieces := [][]string{{"a", "b"}, {"cd", "", "efg"}}
	for _, from := range []int{0, 7, 999, 1000, 1001, 50000, 100000} {
		g := logOf(from, from+1, pieces...)
		for tear, want := range []struct {
			l    []string
			left int
		}{
			{pieces[1], 0}, {[]string{"cd", ""}, 3}, {[]string{"cd", ""}, 2}, {[]string{"cd", ""}, 1}, {[]string{"cd", ""}, 0}, {[]string{"cd"}, 0}, {nil, 2}, {nil, 1}, {nil, 0},
		} {
			if x, left, ok := impl.TearEnd(g, tear); !sameLog(x, logOf(from, from+1, pieces[0], want.l)) || left != want.left || !ok {
				t.Errorf("%v, %d: %v %d %v", g, tear, x, left, ok)
			}
		}
		for _, tear := range []int{-1, 9, 10, -2, 100, math.MinInt, math.MaxInt} {
			if x, left, ok := impl.TearEnd(g, tear); !isZeroLog(x) || left != 0 || ok {
				t.Errorf("%v, %d: %v %d %v", g, tear, x, left, ok)
			}
		}
	}
	for _, c := range []struct {
		g    impl.Log
		tear int
		left int
		want impl.Log
	}{
		// An empty piece can be torn of nothing alone.
		{logOf(0, 0, nil), 0, 0, logOf(0, 0, nil)}, {logOf(0, 0, nil), 1, 0, impl.Log{}}, {logOf(0, 0, append(rows(1, 2), nil)...), 0, 0, logOf(0, 0, append(rows(1, 2), nil)...)}, {logOf(0, 0, append(rows(1, 2), nil)...), 1, 0, impl.Log{}}, {logOf(0, 2, append(rows(1, 2), nil)...), 0, 0, logOf(0, 2, append(rows(1, 2), nil)...)},
		// One piece alone: its records up to Begin must be there still.
		{logOf(3, 3, []string{"a", "b"}), 4, 0, logOf(3, 3, nil)}, {logOf(3, 3, []string{"a", "b"}), 3, 1, logOf(3, 3, nil)}, {logOf(3, 4, []string{"a", "b"}), 2, 0, logOf(3, 4, []string{"a"})}, {logOf(3, 4, []string{"a", "b"}), 1, 1, logOf(3, 4, []string{"a"})},
		{logOf(3, 4, []string{"a", "b"}), 3, 0, impl.Log{}}, {logOf(3, 4, []string{"a", "b"}), 4, 0, impl.Log{}}, {logOf(3, 5, []string{"a", "b"}), 0, 0, logOf(3, 5, []string{"a", "b"})}, {logOf(3, 5, []string{"a", "b"}), 1, 0, impl.Log{}}, {logOf(3, 5, []string{"a", "b"}), 4, 0, impl.Log{}},
		// With another piece ahead of it all may go.
		{logOf(3, 5, []string{"a", "b"}, []string{"c"}), 2, 0, logOf(3, 5, []string{"a", "b"}, nil)}, {logOf(3, 5, []string{"a", "b"}, []string{"c"}), 1, 1, logOf(3, 5, []string{"a", "b"}, nil)},
	} {
		x, left, ok := impl.TearEnd(c.g, c.tear)
		if !sameLog(x, c.want) || left != c.left || ok != (len(c.want.Pieces) > 0) {
			t.Errorf("%v, %d: %v %d %v", c.g, c.tear, x, left, ok)
		}
	}
}

// Promise 6: of a log whose end is torn the first records are told, whole, and no other ones.
func TestTornLogsTellTheFirstRecordsWhole(t *testing.T) {
	told, beyond, part := 0, 0, 0
	for _, p := range goodPlain() {
		g := p.log()
		long := bytesOf(p.pieces[len(p.pieces)-1])
		for tear := -2; tear <= long+2; tear++ {
			x, left, ok := impl.TearEnd(g, tear)
			if tear < 0 || tear > long {
				if !isZeroLog(x) || left != 0 || ok {
					t.Fatalf("%v, %d: %v %d %v", g, tear, x, left, ok)
				}
				continue
			}
			want, bytes, good := p.tear(tear)
			if !good {
				beyond++
				if !isZeroLog(x) || left != 0 || ok {
					t.Fatalf("%v, %d: %v %d %v", g, tear, x, left, ok)
				}
				continue
			}
			told++
			if bytes > 0 {
				part++
			}
			if !ok || left != bytes || !sameLog(x, want.log()) || !impl.GoodLog(x) {
				t.Fatalf("%v, %d: %v %d %v", g, tear, x, left, ok)
			}
			l := want.records()
			if !slices.Equal(l, p.records()[:len(l)]) {
				t.Fatalf("%v, %d: %q", g, tear, l)
			}
			checkOffsets(t, x, p.from, p.begin, l)
		}
	}
	if told < 2000 || beyond < 100 || part < 1000 {
		t.Error("too few of one kind:", told, beyond, part)
	}
}

// Promise 6, held against a plain list: records by their offsets alone, without pieces.
func TestLogsAreAPlainListWhateverIsDone(t *testing.T) {
	r := rand.New(rand.NewSource(64))
	counts := map[string]int{}
	for range 300 {
		g := impl.NewLog()
		var list []string
		begin := 0
		long := []int{0, 2, 8, 20}[r.Intn(4)]
		for range 80 {
			next, ok := impl.Log{}, false
			switch kind := r.Intn(20); {
			case kind < 15:
				s := anyRecord(r, long)
				if next, ok = impl.AppendLog(g, s); ok {
					list = append(list, s)
					counts["append"]++
				}
			case kind < 17:
				at := begin + r.Intn(len(list)-begin+1)
				if next, ok = impl.CutFrom(g, at); !ok {
					t.Fatal(g, at)
				}
				list = list[:at]
				counts["cut"]++
			case kind < 19:
				at := min(begin+r.Intn(4), len(list))
				if next, ok = impl.DropBefore(g, at); !ok {
					t.Fatal(g, at)
				}
				begin = at
				counts["drop"]++
			default:
				last := g.Pieces[len(g.Pieces)-1]
				left := 0
				if next, left, ok = impl.TearEnd(g, r.Intn(len(last.Bytes)+1)); ok {
					end, _ := impl.EndOf(next)
					if left >= 21 || end > len(list) {
						t.Fatal(g, next, left)
					}
					list = list[:end]
					counts["tear"]++
				}
			}
			if ok {
				g = next
			}
			if !plainGoodLog(g) || !impl.GoodLog(g) || g.Begin != begin {
				t.Fatal("not good:", g)
			}
			if e, ok := impl.EndOf(g); e != len(list) || !ok {
				t.Fatalf("%v: ends at %d, not %d", g, e, len(list))
			}
			if l, ok := impl.AllOf(g); !slices.Equal(l, list[begin:]) || !ok {
				t.Fatalf("%v: %q, not %q", g, l, list[begin:])
			}
			for offset := begin - 1; offset <= len(list); offset++ {
				s, ok := impl.ReadAt(g, offset)
				if there := offset >= begin && offset < len(list); ok != there || there && s != list[offset] {
					t.Fatalf("%v, %d: %q %v", g, offset, s, ok)
				}
			}
		}
	}
	for _, kind := range []string{"append", "cut", "drop", "tear"} {
		if counts[kind] < 500 {
			t.Error("too few of one kind:", counts)
		}
	}
}

// What a log is cut from and told again is what it was.
func TestCutRecordsCanBePutBack(t *testing.T) {
	for _, p := range goodPlain() {
		g := p.log()
		for offset := p.begin; offset <= p.end(); offset += 3 {
			c, ok := impl.CutFrom(g, offset)
			for _, s := range p.records()[offset-p.from:] {
				if ok {
					c, ok = impl.AppendLog(c, s)
				}
			}
			want, _ := impl.AllOf(g)
			if l, is := impl.AllOf(c); ok && (!slices.Equal(l, want) || !is) {
				t.Fatalf("%v, %d: %v", g, offset, c)
			}
		}
	}
}

// refuseLog asks for the zero answer of each function at a log that is not good.
func refuseLog(t *testing.T, g impl.Log) {
	t.Helper()
	if impl.GoodLog(g) {
		t.Errorf("taken: %v", g)
	}
	for _, s := range []string{"", "a", longRecord(20), longRecord(21)} {
		if x, ok := impl.AppendLog(g, s); !isZeroLog(x) || ok {
			t.Errorf("AppendLog(%v, %q): %v %v", g, s, x, ok)
		}
	}
	for _, n := range []int{g.Begin, g.Begin + 1, 0, 1, 5, 6, 17, -1, math.MinInt, math.MaxInt} {
		if s, ok := impl.ReadAt(g, n); s != "" || ok {
			t.Errorf("ReadAt(%v, %d): %q %v", g, n, s, ok)
		}
		if x, ok := impl.CutFrom(g, n); !isZeroLog(x) || ok {
			t.Errorf("CutFrom(%v, %d): %v %v", g, n, x, ok)
		}
		if x, ok := impl.DropBefore(g, n); !isZeroLog(x) || ok {
			t.Errorf("DropBefore(%v, %d): %v %v", g, n, x, ok)
		}
		if x, left, ok := impl.TearEnd(g, n); !isZeroLog(x) || left != 0 || ok {
			t.Errorf("TearEnd(%v, %d): %v %d %v", g, n, x, left, ok)
		}
	}
	if e, ok := impl.EndOf(g); e != 0 || ok {
		t.Errorf("EndOf(%v): %d %v", g, e, ok)
	}
	if l, ok := impl.AllOf(g); len(l) != 0 || ok {
		t.Errorf("AllOf(%v): %q %v", g, l, ok)
	}
}

func TestLogsRefuse(t *testing.T) {
	for _, g := range badLogs() {
		refuseLog(t, g)
	}
}

// Promise 19: whatever a function of this chapter is given, it answers, and all beside false is zero.
func TestLogsAnswerAtAnyArguments(t *testing.T) {
	ints := append(noNumbers(), 0, 1, 2, 3, -1, 20, 60, 61, 999, 1000, 1001, 100000, 100001)
	texts := append(badBytes(), "", "\x00", "\x02a", "\x00\x00\x00\x00", strings.Repeat("\x00", 61), longRecord(100000))
	for _, s := range texts {
		for _, a := range ints {
			p, left, ok := impl.RecoverPiece(a, s)
			if good := a >= 0 && a <= 1000 && len(s) <= 60; ok != good || ok && len(p.Bytes)+left != len(s) || !ok && (!isZeroPiece(p) || left != 0) {
				t.Errorf("RecoverPiece(%d, %q): %v %d %v", a, s, p, left, ok)
			}
			for _, b := range ints {
				for _, index := range [][]int{nil, {0}, {0, 3}, {a, b}} {
					one := impl.Piece{From: a, Bytes: s, Index: index}
					for _, g := range []impl.Log{{Pieces: []impl.Piece{one}, Begin: b}, {Pieces: []impl.Piece{pieceOf(0, "a"), one}, Begin: b}, {Pieces: []impl.Piece{one, pieceOf(b)}, Begin: a}} {
						if impl.GoodLog(g) != plainGoodLog(g) {
							t.Errorf("GoodLog(%v)", g)
						}
						if !impl.GoodLog(g) {
							continue
						}
						end, _ := impl.EndOf(g)
						for _, n := range ints {
							within := n >= g.Begin && n <= end
							if x, ok := impl.CutFrom(g, n); ok != within || !ok && !isZeroLog(x) {
								t.Errorf("CutFrom(%v, %d): %v %v", g, n, x, ok)
							}
							if x, ok := impl.DropBefore(g, n); ok && !within || !ok && !isZeroLog(x) || ok != impl.GoodLog(x) {
								t.Errorf("DropBefore(%v, %d): %v %v", g, n, x, ok)
							}
							if s, ok := impl.ReadAt(g, n); ok != (within && n < end) || !ok && s != "" {
								t.Errorf("ReadAt(%v, %d): %q %v", g, n, s, ok)
							}
							if x, left, ok := impl.TearEnd(g, n); ok && (n < 0 || n > 60) || !ok && (!isZeroLog(x) || left != 0) {
								t.Errorf("TearEnd(%v, %d): %v %d %v", g, n, x, left, ok)
							}
						}
					}
				}
			}
		}
	}
}

// logWays are all that make a log of a log; at fullerLog each does something.
func logWays() map[string]func(impl.Log) impl.Log {
	return map[string]func(impl.Log) impl.Log{
		"append":         func(g impl.Log) impl.Log { x, _ := impl.AppendLog(g, "new"); return x },
		"append a piece": func(g impl.Log) impl.Log { x, _ := impl.AppendLog(g, longRecord(20)); return x },
		"cut at begin":   func(g impl.Log) impl.Log { x, _ := impl.CutFrom(g, g.Begin); return x },
		"cut within":     func(g impl.Log) impl.Log { x, _ := impl.CutFrom(g, g.Begin+20); return x },
		"cut at a piece": func(g impl.Log) impl.Log { x, _ := impl.CutFrom(g, 34); return x },
		"cut at end":     func(g impl.Log) impl.Log { e, _ := impl.EndOf(g); x, _ := impl.CutFrom(g, e); return x },
		"drop at begin":  func(g impl.Log) impl.Log { x, _ := impl.DropBefore(g, g.Begin); return x },
		"drop within":    func(g impl.Log) impl.Log { x, _ := impl.DropBefore(g, g.Begin+20); return x },
		"drop at end":    func(g impl.Log) impl.Log { e, _ := impl.EndOf(g); x, _ := impl.DropBefore(g, e); return x },
		"tear nothing":   func(g impl.Log) impl.Log { x, _, _ := impl.TearEnd(g, 0); return x },
		"tear some":      func(g impl.Log) impl.Log { x, _, _ := impl.TearEnd(g, 8); return x },
		"tear all":       func(g impl.Log) impl.Log { x, _, _ := impl.TearEnd(g, 45); return x },
	}
}

// fullerLog has 15 records of 2 bytes in each piece, so that one of 20 does not fit there.
func fullerLog() impl.Log {
	return logOf(4, 6, rows(3, 15)...)
}

// roomyLog is fullerLog with much behind its lists in their memory, which is no part of it, though it could be.
func roomyLog() impl.Log {
	g := fullerLog()
	other := impl.Piece{From: 99, Bytes: "\xff", Index: []int{8, 8}}
	g.Pieces = append(g.Pieces, pieceOf(49, "no"), other, other)[:3]
	for i, p := range g.Pieces {
		g.Pieces[i].Index = append(p.Index, 45, 77, -1, 5)[:len(p.Index)]
	}
	return g
}

// sameMemory holds two logs against each other, with what lies behind their lists.
func sameMemory(a impl.Log, b impl.Log) bool {
	return a.Begin == b.Begin && slices.EqualFunc(a.Pieces[:cap(a.Pieces)], b.Pieces[:cap(b.Pieces)], func(x, y impl.Piece) bool {
		return samePiece(x, y) && slices.Equal(x.Index[:cap(x.Index)], y.Index[:cap(y.Index)])
	})
}

// Promise 19: nothing is written into an argument, nor into what lies behind it in its memory.
func TestLogsWriteIntoNoArgument(t *testing.T) {
	g, plain := roomyLog(), fullerLog()
	check := func(name string) {
		t.Helper()
		if !sameMemory(g, roomyLog()) {
			t.Fatalf("%s has written: %v", name, g.Pieces[:cap(g.Pieces)])
		}
	}
	for name, way := range logWays() {
		if x := way(g); !sameLog(x, way(plain)) || isZeroLog(x) {
			t.Errorf("%s: %v, not %v", name, x, way(plain))
		}
		check(name)
	}
	for offset := range 60 {
		s, ok := impl.ReadAt(g, offset)
		if want, is := impl.ReadAt(plain, offset); s != want || ok != is {
			t.Error(offset, s, ok)
		}
	}
	if l, ok := impl.AllOf(g); len(l) != 43 || !ok || !impl.GoodLog(g) {
		t.Error(l, ok)
	}
	if e, ok := impl.EndOf(g); e != 49 || !ok {
		t.Error(e, ok)
	}
	check("telling")
	// With what lies behind it, or less, it is not good: that is refused, and changes nothing.
	refuseLog(t, impl.Log{Pieces: g.Pieces[:5], Begin: 6})
	refuseLog(t, impl.Log{Pieces: g.Pieces[:0], Begin: 6})
	refuseLog(t, impl.Log{Pieces: g.Pieces[1:], Begin: 6})
	check("refusing")
	for _, n := range manyNumbers() {
		impl.CutFrom(g, n)
		impl.DropBefore(g, n)
		impl.TearEnd(g, n)
		impl.ReadAt(g, n)
	}
	impl.AppendLog(g, longRecord(21))
	check("any number")
}

// manyNumbers are those at and round all offsets of a small log, and far ones.
func manyNumbers() []int {
	return append(rising(-3, 1, 70), noNumbers()...)
}

// spoilLog writes over all of a log's memory.
func spoilLog(g impl.Log) {
	for _, p := range g.Pieces[:cap(g.Pieces)] {
		spoil(p.Index, 77)
	}
	spoil(g.Pieces, impl.Piece{From: 77, Bytes: "\xff", Index: []int{77}})
}

func TestLogsAnswerWithNewMemory(t *testing.T) {
	for name, way := range logWays() {
		g := roomyLog()
		want := way(fullerLog())
		x := way(g)
		// What went, and what lay behind the argument, is not handed out behind the answer.
		for _, p := range x.Pieces[len(x.Pieces):cap(x.Pieces)] {
			if !isZeroPiece(p) {
				t.Errorf("%s hands out %v", name, p)
			}
		}
		for i, p := range x.Pieces {
			if slices.ContainsFunc(p.Index[len(p.Index):cap(p.Index)], func(n int) bool { return n != 0 }) {
				t.Errorf("%s hands out %v", name, p.Index[:cap(p.Index)])
			}
			// No two lists of one answer share memory: one is written over, the others stay.
			y := way(g)
			spoil(y.Pieces[i].Index, 77)
			for k := range y.Pieces {
				if k != i && !samePiece(y.Pieces[k], want.Pieces[k]) {
					t.Errorf("%s: %d and %d share memory", name, i, k)
				}
			}
		}
		spoilLog(x)
		if !sameMemory(g, roomyLog()) {
			t.Errorf("%s has shared its argument's memory: %v", name, g)
		}
		if again := way(g); !sameLog(again, want) {
			t.Errorf("%s: %v, not %v", name, again, want)
		}
	}
	for range 2 {
		fresh := impl.NewLog()
		if !sameLog(fresh, logOf(0, 0, nil)) {
			t.Error(fresh)
		}
		spoilLog(fresh)
		p, left, ok := impl.RecoverPiece(7, "\x02a\x00\x00\x00\x04b")
		if !samePiece(p, pieceOf(7, "a", "", "", "")) || left != 2 || !ok {
			t.Error(p, left, ok)
		}
		spoil(p.Index, 77)
		g := fullerLog()
		l, ok := impl.AllOf(g)
		if len(l) != 43 || !ok {
			t.Error(l, ok)
		}
		spoil(l, "z")
		if again, ok := impl.AllOf(g); again[0] != "ac" || len(again) != 43 || !ok {
			t.Error(again, ok)
		}
	}
}
