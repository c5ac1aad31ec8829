package tests

import (
	"encoding/binary"
	"math"
	"math/rand"
	"slices"
	"strings"
	"testing"

	"loop.example/g00522/impl"
)

const maxMeasure = 1000000000

// every is so many samples from an At on, each a step behind the one ahead, with Values that go up and down.
func every(from int, step int, many int) []impl.Sample {
	var out []impl.Sample
	for i := range many {
		out = append(out, impl.Sample{At: from + i*step, Value: (i%5 - 2) * 77 * i})
	}
	return out
}

// steepest has the greatest differences that good samples can have.
func steepest() []impl.Sample {
	var out []impl.Sample
	for i := range impl.MaxSamples {
		x := impl.Sample{At: i, Value: maxMeasure}
		if i >= impl.MaxSamples/2 {
			x.At = impl.MaxTime - impl.MaxSamples + 1 + i
		}
		if i%2 == 1 {
			x.Value = -maxMeasure
		}
		out = append(out, x)
	}
	return out
}

func anySamples(r *rand.Rand) []impl.Sample {
	var out []impl.Sample
	at := r.Intn(3) * r.Intn(1000)
	for range r.Intn(impl.MaxSamples + 1) {
		out = append(out, impl.Sample{At: at, Value: r.Intn(1<<(1+r.Intn(30))) * (1 - 2*r.Intn(2)) % (maxMeasure + 1)})
		at += 1 + r.Intn(1<<r.Intn(24))
	}
	return out
}

func goodSamples() [][]impl.Sample {
	out := [][]impl.Sample{
		nil, {}, {{}}, {{At: 7, Value: -3}},
		{{At: impl.MaxTime, Value: maxMeasure}}, {{At: 0, Value: -maxMeasure}},
		{{At: 0, Value: 1}, {At: 1, Value: 1}},
		{{At: 0, Value: -maxMeasure}, {At: impl.MaxTime, Value: maxMeasure}},
		{{At: 0, Value: maxMeasure}, {At: impl.MaxTime, Value: -maxMeasure}},
		{{At: impl.MaxTime - 1, Value: 0}, {At: impl.MaxTime, Value: 0}},
		{{At: 10, Value: 5}, {At: 20, Value: 5}, {At: 30, Value: 5}},
		{{At: 0, Value: 0}, {At: 1, Value: maxMeasure}, {At: impl.MaxTime, Value: -maxMeasure}},
		{{At: 0, Value: 9}, {At: impl.MaxTime - 1, Value: 8}, {At: impl.MaxTime, Value: 7}},
		every(0, 1, impl.MaxSamples), every(5, 60, impl.MaxSamples-1), every(impl.MaxTime-39*7, 7, impl.MaxSamples),
		steepest(),
	}
	r := rand.New(rand.NewSource(2))
	for range 300 {
		out = append(out, anySamples(r))
	}
	return out
}

func badSamples() [][]impl.Sample {
	out := [][]impl.Sample{
		{{At: -1}}, {{At: impl.MaxTime + 1}}, {{Value: maxMeasure + 1}}, {{Value: -maxMeasure - 1}},
		{{At: math.MinInt}}, {{At: math.MaxInt}}, {{Value: math.MaxInt}}, {{Value: math.MinInt}},
		{{At: 5}, {At: 5}}, {{At: 5, Value: 1}, {At: 5, Value: 2}}, {{At: 5}, {At: 4}}, {{At: 1}, {At: 0}},
		{{At: 1}, {At: 2}, {At: 2}}, {{At: 1}, {At: 3}, {At: 2}}, {{At: 2}, {At: 3}, {At: 1}},
		{{At: -1}, {At: 0}}, {{At: -2}, {At: -1}}, {{At: impl.MaxTime}, {At: impl.MaxTime + 1}},
		{{At: math.MinInt}, {At: math.MaxInt}},
		{{At: 1}, {At: 2, Value: maxMeasure + 1}}, {{At: 1, Value: -maxMeasure - 1}, {At: 2}},
		every(0, 1, impl.MaxSamples+1), every(0, 1, 2*impl.MaxSamples), every(0, 1, 5000),
		every(0, 0, impl.MaxSamples), make([]impl.Sample, impl.MaxSamples+1),
	}
	for _, i := range []int{0, 1, 20, 38, 39} {
		l := every(1, 10, impl.MaxSamples)
		l[i].Value = maxMeasure + 1
		out = append(out, l)
		l = every(0, 10, impl.MaxSamples)
		l[i].At -= 10
		out = append(out, l)
	}
	return out
}

// chunkOf writes numbers as a chunk does, whatever they are.
func chunkOf(l ...int) string {
	var out []byte
	for _, n := range l {
		out = binary.AppendVarint(out, int64(n))
	}
	return string(out)
}

// plainChunk is the text of samples by the words of the document, told apart from the program.
func plainChunk(l []impl.Sample) string {
	out := chunkOf(len(l))
	for i, x := range l {
		switch i {
		case 0:
			out += chunkOf(x.At, x.Value)
		case 1:
			out += chunkOf(x.At-2*l[0].At, x.Value-l[0].Value)
		default:
			out += chunkOf(x.At-2*l[i-1].At+l[i-2].At, x.Value-l[i-1].Value)
		}
	}
	return out
}

// badChunks are texts with no good samples.
func badChunks() []string {
	out := []string{
		"", "\x01", "\x03", "\x80", "\xff", "\x80\x00", "\x80\x01", "\x00\x00", "\x00\x80", "\x01\x00\x00",
		"\x02", "\x02\x00", "\x02\x00\x80", "\x02\x80\x01", "\x02\x00\x00\x00", "\x02\x00\x00\x00\x00",
		"\x02\x80\x00\x00", "\x02\x00\x80\x00", "\x82\x00\x00\x00",
		"\x04\x00\x00", "\x04\x00\x00\x00", "\x04\x02\x00\x02\x00\x00",
		chunkOf(-1), chunkOf(-1, 5, 5), chunkOf(impl.MaxValue), chunkOf(math.MaxInt), chunkOf(math.MinInt),
		chunkOf(impl.MaxValue, 1, 1), chunkOf(1<<40, 1, 1), chunkOf(math.MaxInt, 1, 1),
		chunkOf(1, -1, 0), chunkOf(1, impl.MaxTime+1, 0), chunkOf(1, 0, maxMeasure+1), chunkOf(1, 0, -maxMeasure-1),
		chunkOf(1, impl.MaxValue, 0), chunkOf(1, 0, impl.MaxValue), chunkOf(1, -impl.MaxValue, -impl.MaxValue),
		chunkOf(1, impl.MaxValue+1, 0), chunkOf(1, 0, impl.MaxValue+1), chunkOf(1, math.MaxInt, math.MinInt),
		chunkOf(2, 5, 1, -5, 1), chunkOf(2, 5, 1, -6, 1), chunkOf(2, 5, 1, -10, 1), chunkOf(2, 0, 0, 0, 0),
		chunkOf(2, 1, 1, impl.MaxTime-1, 0), chunkOf(2, impl.MaxTime, 0, 1, 0), chunkOf(2, 1, maxMeasure, 1, 1), chunkOf(2, 1, -maxMeasure, 1, -1),
		chunkOf(2, impl.MaxValue, 0, impl.MaxValue, 0), chunkOf(2, 1, impl.MaxValue, 1, impl.MaxValue), chunkOf(2, 1, -impl.MaxValue, 1, -impl.MaxValue),
		chunkOf(3, 1, 0, 0, 0, -1, 0), chunkOf(3, 5, 0, 0, 0, -6, 0), chunkOf(3, 1, 1, 1, 1, impl.MaxTime, 1),
		chunkOf(3, 1, impl.MaxValue, 1, -impl.MaxValue, 1, 0), chunkOf(3, impl.MaxValue, 0, -impl.MaxValue, 0, 1, 0),
		strings.Repeat("\x00", 600), strings.Repeat("\x02", 81), strings.Repeat("\x50", 80), strings.Repeat("\x50", 82), strings.Repeat("\x52", 83), strings.Repeat("\x80", 9000), strings.Repeat("\xff", 9000),
		strings.Repeat("\x00", 9000), "\x02\x00\x00" + strings.Repeat("\x00", 9000),
	}
	for _, l := range badSamples() {
		out = append(out, plainChunk(l))
	}
	return out
}

func TestChunksHaveTheirLimits(t *testing.T) {
	if impl.MaxSamples != 40 || impl.MaxTime != 1000000000 {
		t.Error(impl.MaxSamples, impl.MaxTime)
	}
}

func TestGoodSamplesTellsAsSaid(t *testing.T) {
	for _, l := range goodSamples() {
		if !impl.GoodSamples(l) {
			t.Errorf("refused: %v", l)
		}
	}
	for _, l := range badSamples() {
		if impl.GoodSamples(l) {
			t.Errorf("taken: %v", l)
		}
	}
}

func TestDeltasAndSumsTellAsSaid(t *testing.T) {
	const most = impl.MaxValue
	for _, c := range []struct{ sums, deltas []int }{
		{nil, nil}, {[]int{}, []int{}}, {[]int{0}, []int{0}}, {[]int{-7}, []int{-7}},
		{[]int{3, 5, 4}, []int{3, 2, -1}}, {[]int{4, 4, 4}, []int{4, 0, 0}},
		{[]int{most}, []int{most}}, {[]int{-most}, []int{-most}},
		{[]int{0, most}, []int{0, most}}, {[]int{0, -most}, []int{0, -most}},
		{[]int{most, 0, most}, []int{most, -most, most}}, {[]int{-most, 0, -most}, []int{-most, most, -most}},
		{[]int{most, most, most - 1}, []int{most, 0, -1}}, {[]int{1, 1 - most, 1}, []int{1, -most, most}},
		{[]int{-1, most - 1, -1}, []int{-1, most, -most}},
	} {
		if l, ok := impl.DeltasOf(c.sums); !slices.Equal(l, c.deltas) || !ok {
			t.Errorf("DeltasOf(%v): %v %v", c.sums, l, ok)
		}
		if l, ok := impl.SumsOf(c.deltas); !slices.Equal(l, c.sums) || !ok {
			t.Errorf("SumsOf(%v): %v %v", c.deltas, l, ok)
		}
	}
}

func TestDeltasAndSumsComeBack(t *testing.T) {
	r := rand.New(rand.NewSource(3))
	for range 2000 {
		l := make([]int, r.Intn(impl.MaxSamples+1))
		for i := range l {
			l[i] = r.Intn(impl.MaxValue/40+1) * (1 - 2*r.Intn(2))
		}
		deltas, ok := impl.DeltasOf(l)
		back, is := impl.SumsOf(deltas)
		if !ok || !is || !slices.Equal(back, l) {
			t.Fatalf("%v: %v %v, back %v %v", l, deltas, ok, back, is)
		}
		sums, ok := impl.SumsOf(l)
		back, is = impl.DeltasOf(sums)
		if !ok || !is || !slices.Equal(back, l) {
			t.Fatalf("%v: %v %v, back %v %v", l, sums, ok, back, is)
		}
	}
}

func TestDeltasOfRefuses(t *testing.T) {
	const most = impl.MaxValue
	lists := [][]int{
		{-1, most}, {1, -most}, {most, -1}, {-most, 1}, {most, -most}, {-most, most},
		{0, 0, 1, -most}, {5, most, -1, 0}, repeated(0, 41), repeated(1, 42), repeated(0, 5000),
	}
	for _, n := range noNumbers() {
		lists = append(lists, []int{n}, []int{n, n}, []int{1, n}, []int{n, 1}, append(repeated(1, 39), n))
	}
	for _, l := range lists {
		if out, ok := impl.DeltasOf(l); len(out) != 0 || ok {
			t.Errorf("DeltasOf(%v): %v %v", l, out, ok)
		}
	}
	for _, l := range [][]int{repeated(0, 40), repeated(most, 40), repeated(-most, 40)} {
		if out, ok := impl.DeltasOf(l); len(out) != 40 || out[0] != l[0] || !slices.Equal(out[1:], repeated(0, 39)) || !ok {
			t.Errorf("DeltasOf(%v): %v %v", l, out, ok)
		}
	}
}

func TestSumsOfRefuses(t *testing.T) {
	const most = impl.MaxValue
	lists := [][]int{
		{most, 1}, {1, most}, {-most, -1}, {-1, -most}, {most, most}, {-most, -most},
		{most, 1, -1}, {-most, -1, 1}, {most, 1, -most, -1}, {0, 1, most, -5},
		repeated(0, 41), repeated(1, 42), repeated(0, 5000), repeated(most, 40),
	}
	for _, n := range noNumbers() {
		lists = append(lists, []int{n}, []int{n, n}, []int{1, n}, []int{n, 1}, []int{-1, n}, append(repeated(1, 39), n))
	}
	lists = append(lists, []int{1, most + 1}, []int{-1, most + 1}, []int{-2, most + 1, 1}, []int{1, -most - 1})
	for _, l := range lists {
		if out, ok := impl.SumsOf(l); len(out) != 0 || ok {
			t.Errorf("SumsOf(%v): %v %v", l, out, ok)
		}
	}
	if out, ok := impl.SumsOf(repeated(most/40, 40)); len(out) != 40 || out[0] != most/40 || out[39] != most || !ok {
		t.Error(out, ok)
	}
	if out, ok := impl.SumsOf(repeated(-most/40, 40)); len(out) != 40 || out[39] != -most || !ok {
		t.Error(out, ok)
	}
}

func TestEncodeChunkTellsAsSaid(t *testing.T) {
	for _, c := range []struct {
		l    []impl.Sample
		want string
	}{
		{nil, "\x00"},
		{[]impl.Sample{{}}, "\x02\x00\x00"},
		{[]impl.Sample{{At: 10, Value: -5}}, "\x02\x14\x09"},
		{[]impl.Sample{{At: 10, Value: 5}, {At: 12, Value: 4}}, "\x04\x14\x0a\x0f\x01"},
		{[]impl.Sample{{At: 10, Value: 5}, {At: 20, Value: 5}, {At: 30, Value: 5}}, "\x06\x14\x0a\x00\x00\x00\x00"},
		{[]impl.Sample{{At: 10, Value: 5}, {At: 20, Value: 69}, {At: 31, Value: 68}}, "\x06\x14\x0a\x00\x80\x01\x02\x01"},
		{[]impl.Sample{{At: impl.MaxTime, Value: maxMeasure}}, "\x02\x80\xa8\xd6\xb9\x07\x80\xa8\xd6\xb9\x07"},
		{[]impl.Sample{{At: 0, Value: -maxMeasure}, {At: impl.MaxTime, Value: maxMeasure}}, "\x04\x00\xff\xa7\xd6\xb9\x07\x80\xa8\xd6\xb9\x07\x80\xd0\xac\xf3\x0e"},
	} {
		if s, ok := impl.EncodeChunk(c.l); s != c.want || !ok {
			t.Errorf("EncodeChunk(%v): %x %v", c.l, s, ok)
		}
		if n, ok := impl.ChunkSize(c.l); n != len(c.want) || !ok {
			t.Errorf("ChunkSize(%v): %d %v", c.l, n, ok)
		}
		if l, ok := impl.DecodeChunk(c.want); !slices.Equal(l, c.l) || !ok {
			t.Errorf("DecodeChunk(%x): %v %v", c.want, l, ok)
		}
	}
}

// Promise 2: samples come back from their bytes.
func TestSamplesComeBackFromTheirBytes(t *testing.T) {
	for _, l := range goodSamples() {
		s, ok := impl.EncodeChunk(l)
		if s != plainChunk(l) || !ok {
			t.Fatalf("EncodeChunk(%v): %x %v", l, s, ok)
		}
		if n, is := impl.ChunkSize(l); n != len(s) || !is {
			t.Fatalf("ChunkSize(%v): %d %v", l, n, is)
		}
		if back, is := impl.DecodeChunk(s); !slices.Equal(back, l) || !is {
			t.Fatalf("DecodeChunk(%x): %v %v", s, back, is)
		}
	}
}

func TestEncodeChunkRefuses(t *testing.T) {
	for _, l := range badSamples() {
		if s, ok := impl.EncodeChunk(l); s != "" || ok {
			t.Errorf("EncodeChunk(%v): %x %v", l, s, ok)
		}
		if n, ok := impl.ChunkSize(l); n != 0 || ok {
			t.Errorf("ChunkSize(%v): %d %v", l, n, ok)
		}
	}
}

func TestDecodeChunkRefuses(t *testing.T) {
	for _, s := range badChunks() {
		if l, ok := impl.DecodeChunk(s); len(l) != 0 || ok {
			t.Errorf("DecodeChunk(%x): %v %v", s, l, ok)
		}
	}
}

// A chunk that is cut short anywhere, or has more behind it, is the text of no samples.
func TestDecodeChunkReadsWholeTextsAlone(t *testing.T) {
	for _, l := range goodSamples() {
		s, _ := impl.EncodeChunk(l)
		for k := range len(s) {
			if out, ok := impl.DecodeChunk(s[:k]); len(out) != 0 || ok {
				t.Fatalf("%x, %d bytes of it: %v %v", s, k, out, ok)
			}
		}
		for _, more := range []string{"\x00", "\x01", "\x02", "\x80", "\xff", "\x00\x00", "\x02\x02", s} {
			if out, ok := impl.DecodeChunk(s + more); len(out) != 0 || ok {
				t.Fatalf("%x and %x: %v %v", s, more, out, ok)
			}
		}
	}
}

// plainRead reads a text by trying it: its numbers, what they add up to, and whether that has this text.
func plainRead(s string) ([]impl.Sample, bool) {
	var l []int
	for left := []byte(s); len(left) > 0; {
		n, k := binary.Varint(left)
		if k <= 0 {
			return nil, false
		}
		l = append(l, int(n))
		left = left[k:]
	}
	if len(l) == 0 || l[0] < 0 || l[0] > impl.MaxSamples || len(l) != 1+2*l[0] {
		return nil, false
	}
	var out []impl.Sample
	at, step, value := 0, 0, 0
	for i := 1; i < len(l); i += 2 {
		step += l[i]
		at += step
		value += l[i+1]
		if step < 0 || i > 1 && step == 0 || at < 0 || at > impl.MaxTime || value < -maxMeasure || value > maxMeasure {
			return nil, false
		}
		out = append(out, impl.Sample{At: at, Value: value})
	}
	return out, plainChunk(out) == s
}

// A text is read just if it is EncodeChunk of what is read.
func TestDecodeChunkHasOneFormAlone(t *testing.T) {
	texts := textsOf("\x00\x01\x02\x04\x06\x80", 7)
	r := rand.New(rand.NewSource(4))
	for _, l := range goodSamples() {
		s := []byte(plainChunk(l))
		for range 20 {
			spoilt := slices.Clone(s)
			spoilt[r.Intn(len(s))] ^= 1 << r.Intn(8)
			texts = append(texts, string(spoilt))
		}
	}
	good := 0
	for _, s := range texts {
		want, is := plainRead(s)
		if !is {
			want = nil
		} else {
			good++
		}
		if l, ok := impl.DecodeChunk(s); ok != is || !slices.Equal(l, want) {
			t.Fatalf("%x: %v %v, not %v %v", s, l, ok, want, is)
		}
	}
	if good < 1000 {
		t.Error("too few texts have samples:", good)
	}
}

func TestAppendChunkTellsAsSaid(t *testing.T) {
	for _, l := range goodSamples() {
		s := "\x00"
		for i, x := range l {
			next, ok := impl.AppendChunk(s, x)
			if next != plainChunk(l[:i+1]) || !ok {
				t.Fatalf("%v behind %v: %x %v", x, l[:i], next, ok)
			}
			s = next
		}
	}
}

func TestAppendChunkRefuses(t *testing.T) {
	three := plainChunk([]impl.Sample{{At: 10, Value: 5}, {At: 20, Value: 5}, {At: 30, Value: 5}})
	for _, x := range []impl.Sample{
		{At: 30, Value: 5}, {At: 30, Value: 6}, {At: 29}, {At: 0}, {At: -1}, {At: impl.MaxTime + 1},
		{At: 40, Value: maxMeasure + 1}, {At: 40, Value: -maxMeasure - 1},
		{At: math.MaxInt, Value: 1}, {At: math.MinInt, Value: 1}, {At: 40, Value: math.MaxInt}, {At: 40, Value: math.MinInt},
	} {
		if s, ok := impl.AppendChunk(three, x); s != "" || ok {
			t.Errorf("%v: %x %v", x, s, ok)
		}
	}
	for _, x := range []impl.Sample{{At: -1}, {At: impl.MaxTime + 1}, {Value: maxMeasure + 1}, {Value: -maxMeasure - 1}} {
		if s, ok := impl.AppendChunk("\x00", x); s != "" || ok {
			t.Errorf("%v alone: %x %v", x, s, ok)
		}
	}
	for _, s := range badChunks() {
		for _, x := range []impl.Sample{{}, {At: 100, Value: 1}, {At: impl.MaxTime}} {
			if out, ok := impl.AppendChunk(s, x); out != "" || ok {
				t.Errorf("%v behind %x: %x %v", x, s, out, ok)
			}
		}
	}
}

func TestAppendChunkStopsAtMaxSamples(t *testing.T) {
	l := every(0, 10, impl.MaxSamples)
	if s, ok := impl.AppendChunk(plainChunk(l[:39]), l[39]); s != plainChunk(l) || !ok {
		t.Errorf("%x %v", s, ok)
	}
	if s, ok := impl.AppendChunk(plainChunk(l), impl.Sample{At: 5000}); s != "" || ok {
		t.Errorf("%x %v", s, ok)
	}
}

func TestRangeOfTellsAsSaid(t *testing.T) {
	l := []impl.Sample{{At: 10, Value: 1}, {At: 20, Value: 2}, {At: 30, Value: 3}, {At: 40, Value: 4}}
	s := plainChunk(l)
	for _, c := range []struct{ from, to, first, behind int }{
		{20, 40, 1, 3}, {10, 41, 0, 4}, {0, impl.MaxTime + 1, 0, 4}, {math.MinInt, math.MaxInt, 0, 4},
		{10, 40, 0, 3}, {11, 40, 1, 3}, {10, 11, 0, 1}, {40, 41, 3, 4}, {19, 21, 1, 2}, {20, 21, 1, 2}, {20, 30, 1, 2},
		{20, 20, 0, 0}, {21, 30, 0, 0}, {21, 29, 0, 0}, {19, 20, 0, 0}, {0, 10, 0, 0}, {41, 99, 0, 0}, {-5, 0, 0, 0},
		{40, 20, 0, 0}, {30, 29, 0, 0}, {41, 10, 0, 0}, {math.MaxInt, math.MinInt, 0, 0}, {math.MinInt, math.MinInt, 0, 0}, {math.MaxInt, math.MaxInt, 0, 0},
	} {
		if out, ok := impl.RangeOf(s, c.from, c.to); !slices.Equal(out, l[c.first:c.behind]) || !ok {
			t.Errorf("from %d to %d: %v %v", c.from, c.to, out, ok)
		}
		if out, ok := impl.RangeOf("\x00", c.from, c.to); len(out) != 0 || !ok {
			t.Errorf("of none, from %d to %d: %v %v", c.from, c.to, out, ok)
		}
	}
	ends := plainChunk([]impl.Sample{{At: 0, Value: 8}, {At: impl.MaxTime, Value: 9}})
	if out, ok := impl.RangeOf(ends, 0, impl.MaxTime); len(out) != 1 || out[0].Value != 8 || !ok {
		t.Error(out, ok)
	}
	if out, ok := impl.RangeOf(ends, 1, impl.MaxTime+1); len(out) != 1 || out[0].Value != 9 || !ok {
		t.Error(out, ok)
	}
}

// Two ranges that meet have each sample between their ends just once.
func TestRangesThatMeetHaveAllSamples(t *testing.T) {
	l := every(3, 4, 12)
	s := plainChunk(l)
	for mid := -1; mid < 60; mid++ {
		front, ok := impl.RangeOf(s, 0, mid)
		behind, is := impl.RangeOf(s, mid, 60)
		if !ok || !is || !slices.Equal(append(front, behind...), l) {
			t.Errorf("at %d: %v %v", mid, front, behind)
		}
	}
}

func TestRangeOfRefuses(t *testing.T) {
	for _, s := range badChunks() {
		for _, c := range [][2]int{{0, impl.MaxTime}, {5, 5}, {9, 3}, {math.MinInt, math.MaxInt}} {
			if out, ok := impl.RangeOf(s, c[0], c[1]); len(out) != 0 || ok {
				t.Errorf("%x from %d to %d: %v %v", s, c[0], c[1], out, ok)
			}
		}
	}
}

func TestJoinChunksTellsAsSaid(t *testing.T) {
	for _, l := range goodSamples() {
		for k := range len(l) + 1 {
			if s, ok := impl.JoinChunks(plainChunk(l[:k]), plainChunk(l[k:])); s != plainChunk(l) || !ok {
				t.Fatalf("%v and %v: %x %v", l[:k], l[k:], s, ok)
			}
		}
	}
}

func TestJoinChunksRefuses(t *testing.T) {
	front := []impl.Sample{{At: 10, Value: 1}, {At: 20, Value: 2}}
	for _, behind := range [][]impl.Sample{
		{{At: 20, Value: 2}}, {{At: 20, Value: 3}}, {{At: 19}}, {{At: 0}}, {{At: 10, Value: 1}, {At: 20, Value: 2}},
		{{At: 5}, {At: 30}}, {{At: 15}, {At: 30}}, {{At: 20}, {At: 21}}, every(0, 1, 5),
	} {
		if s, ok := impl.JoinChunks(plainChunk(front), plainChunk(behind)); s != "" || ok {
			t.Errorf("%v: %x %v", behind, s, ok)
		}
	}
	if s, ok := impl.JoinChunks(plainChunk(front), plainChunk([]impl.Sample{{At: 21}})); s != plainChunk([]impl.Sample{{At: 10, Value: 1}, {At: 20, Value: 2}, {At: 21}}) || !ok {
		t.Errorf("%x %v", s, ok)
	}
	for _, c := range [][2]int{{40, 1}, {1, 40}, {21, 20}, {40, 40}} {
		a, b := every(0, 1, c[0]), every(1000, 1, c[1])
		if s, ok := impl.JoinChunks(plainChunk(a), plainChunk(b)); s != "" || ok {
			t.Errorf("%d and %d samples: %x %v", c[0], c[1], s, ok)
		}
	}
	for _, s := range badChunks() {
		for _, good := range []string{"\x00", "\x02\x02\x04", plainChunk([]impl.Sample{{At: impl.MaxTime}})} {
			if out, ok := impl.JoinChunks(s, good); out != "" || ok {
				t.Errorf("%x and %x: %x %v", s, good, out, ok)
			}
			if out, ok := impl.JoinChunks(good, s); out != "" || ok {
				t.Errorf("%x and %x: %x %v", good, s, out, ok)
			}
		}
		if out, ok := impl.JoinChunks(s, s); out != "" || ok {
			t.Errorf("%x twice: %x %v", s, out, ok)
		}
	}
}

// Promise 19: whatever a function of this chapter is given, it answers, and all beside false is zero.
func TestChunksAnswerAtAnyArguments(t *testing.T) {
	ints := append(noNumbers(), 0, 1, -1, 39, 40, 41, maxMeasure, -maxMeasure, maxMeasure+1, impl.MaxValue, -impl.MaxValue)
	texts := append(textsOf("\x00\x01\x02\x04\x7f\x80\xff", 4), badChunks()...)
	for _, a := range ints {
		for _, b := range ints {
			l := []impl.Sample{{At: a, Value: b}, {At: b, Value: a}}
			s, ok := impl.EncodeChunk(l)
			n, is := impl.ChunkSize(l)
			if ok != is || ok != impl.GoodSamples(l) || !ok && (s != "" || n != 0) {
				t.Errorf("%v: %x %v, %d %v", l, s, ok, n, is)
			}
			deltas, ok := impl.DeltasOf([]int{a, b, a})
			sums, is := impl.SumsOf([]int{a, b, a})
			if !ok && len(deltas) != 0 || !is && len(sums) != 0 {
				t.Errorf("%d %d: %v %v, %v %v", a, b, deltas, ok, sums, is)
			}
		}
	}
	for _, s := range texts {
		if l, ok := impl.DecodeChunk(s); !ok && len(l) != 0 || ok && !impl.GoodSamples(l) {
			t.Fatalf("DecodeChunk(%x): %v", s, l)
		}
		for _, n := range ints {
			if out, ok := impl.AppendChunk(s, impl.Sample{At: n, Value: -n}); !ok && out != "" {
				t.Fatalf("AppendChunk(%x, %d): %x", s, n, out)
			}
			if l, ok := impl.RangeOf(s, n, -n); !ok && len(l) != 0 {
				t.Fatalf("RangeOf(%x, %d, %d): %v", s, n, -n, l)
			}
		}
		if out, ok := impl.JoinChunks(s, "\x02\x02\x02"); !ok && out != "" {
			t.Fatalf("JoinChunks(%x, ..): %x", s, out)
		}
	}
}

// Promise 19: nothing is written into an argument, nor into what lies behind it in its memory.
func TestChunksWriteIntoNoArgument(t *testing.T) {
	room := []impl.Sample{{At: 10, Value: 5}, {At: 20, Value: 6}, {At: 30, Value: 7}, {At: 1, Value: 2}}
	numbers := []int{3, 5, 4, 88, 99}
	for _, value := range []int{6, maxMeasure + 1} {
		room[1].Value = value
		numbers[1] = value
		if value > maxMeasure {
			numbers[1] = impl.MaxValue + 1
		}
		wasRoom, wasNumbers := slices.Clone(room), slices.Clone(numbers)
		good := value <= maxMeasure
		if impl.GoodSamples(room[:3]) != good {
			t.Error("GoodSamples reads behind its list")
		}
		if s, ok := impl.EncodeChunk(room[:3]); ok != good || good && s != plainChunk(room[:3]) {
			t.Errorf("EncodeChunk reads behind its list: %x", s)
		}
		if n, ok := impl.ChunkSize(room[:3]); ok != good || good && n != len(plainChunk(room[:3])) {
			t.Errorf("ChunkSize reads behind its list: %d", n)
		}
		if l, ok := impl.DeltasOf(numbers[:3]); ok != good || good && len(l) != 3 {
			t.Errorf("DeltasOf reads behind its list: %v", l)
		}
		if l, ok := impl.SumsOf(numbers[:3]); ok != good || good && len(l) != 3 {
			t.Errorf("SumsOf reads behind its list: %v", l)
		}
		if !slices.Equal(room, wasRoom) || !slices.Equal(numbers, wasNumbers) {
			t.Errorf("written into: %v %v", room, numbers)
		}
	}
}

func TestChunksAnswerWithNewMemory(t *testing.T) {
	numbers := []int{3, 0, 0}
	deltas, _ := impl.DeltasOf(numbers)
	sums, _ := impl.SumsOf([]int{3, 0, 0})
	deltas[0], sums[0] = 77, 78
	again, _ := impl.DeltasOf(numbers)
	sumsAgain, _ := impl.SumsOf(numbers)
	if !slices.Equal(numbers, []int{3, 0, 0}) || !slices.Equal(again, []int{3, -3, 0}) || !slices.Equal(sumsAgain, []int{3, 3, 3}) {
		t.Error(numbers, again, sumsAgain)
	}
	want := []impl.Sample{{At: 10, Value: 5}, {At: 20, Value: 6}}
	s := plainChunk(want)
	first, _ := impl.DecodeChunk(s)
	part, _ := impl.RangeOf(s, 0, 100)
	first[0].At, part[1].Value = 99, 99
	_ = append(first[:1], impl.Sample{At: 98})
	second, _ := impl.DecodeChunk(s)
	third, _ := impl.RangeOf(s, 0, 100)
	if !slices.Equal(second, want) || !slices.Equal(third, want) {
		t.Error(second, third)
	}
}
