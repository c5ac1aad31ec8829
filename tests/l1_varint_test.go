package tests

import (
	"encoding/binary"
	"math"
	"slices"
	"strconv"
	"strings"
	"testing"

	"loop.example/g00522/impl"
)

const maxZigZag = 2 * impl.MaxValue

// numbers are good numbers: all small ones, those round each power of 2, and the greatest.
func numbers() []int {
	var out []int
	for n := -20000; n <= 20000; n++ {
		out = append(out, n)
	}
	for k := 14; k < 40; k++ {
		for d := -2; d <= 2; d++ {
			n := 1<<k + d
			if n <= impl.MaxValue {
				out = append(out, n, -n)
			}
		}
	}
	for d := range 3 {
		out = append(out, impl.MaxValue-d, d-impl.MaxValue)
	}
	return out
}

// noNumbers are beyond the good numbers.
func noNumbers() []int {
	return []int{
		impl.MaxValue + 1, -impl.MaxValue - 1,
		maxZigZag, maxZigZag + 1,
		math.MaxInt, math.MaxInt - 1, math.MinInt, math.MinInt + 1,
		1 << 41, 1 << 62, -1 << 62,
	}
}

// unsigned writes digits to 128, of numbers beyond the good ones too.
func unsigned(z uint64) string {
	return string(binary.AppendUvarint(nil, z))
}

func TestNumbersHaveTheirLimits(t *testing.T) {
	if impl.MaxValue != 1000000000000 || impl.MaxBytes != 600 {
		t.Error(impl.MaxValue, impl.MaxBytes)
	}
}

func TestZigZagTellsAsSaid(t *testing.T) {
	for _, c := range []struct{ n, want int }{
		{0, 0}, {-1, 1}, {1, 2}, {-2, 3}, {2, 4}, {-3, 5},
		{impl.MaxValue, 2000000000000}, {-impl.MaxValue, 1999999999999},
	} {
		if z, ok := impl.ZigZag(c.n); z != c.want || !ok {
			t.Errorf("ZigZag(%d): %d %v", c.n, z, ok)
		}
		if n, ok := impl.UnZigZag(c.want); n != c.n || !ok {
			t.Errorf("UnZigZag(%d): %d %v", c.want, n, ok)
		}
	}
}

func TestZigZagComesBack(t *testing.T) {
	for _, n := range numbers() {
		z, ok := impl.ZigZag(n)
		back, is := impl.UnZigZag(z)
		if !ok || !is || back != n {
			t.Fatalf("%d: %d %v, back %d %v", n, z, ok, back, is)
		}
	}
	for z := range 40001 {
		n, ok := impl.UnZigZag(z)
		again, is := impl.ZigZag(n)
		if !ok || !is || again != z {
			t.Fatalf("%d: %d %v, again %d %v", z, n, ok, again, is)
		}
	}
}

func TestZigZagRefuses(t *testing.T) {
	for _, n := range noNumbers() {
		if z, ok := impl.ZigZag(n); z != 0 || ok {
			t.Errorf("ZigZag(%d): %d %v", n, z, ok)
		}
	}
	for _, z := range []int{-1, -2, maxZigZag + 1, maxZigZag + 2, math.MaxInt, math.MinInt} {
		if n, ok := impl.UnZigZag(z); n != 0 || ok {
			t.Errorf("UnZigZag(%d): %d %v", z, n, ok)
		}
	}
}

func TestPutVarintTellsAsSaid(t *testing.T) {
	for _, c := range []struct {
		n    int
		want string
	}{
		{0, "\x00"}, {-1, "\x01"}, {1, "\x02"}, {63, "\x7e"}, {-64, "\x7f"},
		{64, "\x80\x01"}, {-65, "\x81\x01"}, {300, "\xd8\x04"},
		{8191, "\xfe\x7f"}, {-8192, "\xff\x7f"}, {8192, "\x80\x80\x01"},
		{impl.MaxValue, "\x80\xc0\xa8\xca\x9a\x3a"},
		{-impl.MaxValue, "\xff\xbf\xa8\xca\x9a\x3a"},
	} {
		if s, ok := impl.PutVarint(c.n); s != c.want || !ok {
			t.Errorf("PutVarint(%d): %x %v", c.n, s, ok)
		}
	}
}

func TestPutVarintComesBack(t *testing.T) {
	for _, n := range numbers() {
		s, ok := impl.PutVarint(n)
		if !ok || s != string(binary.AppendVarint(nil, int64(n))) {
			t.Fatalf("PutVarint(%d): %x %v", n, s, ok)
		}
		if k, is := impl.LengthOf(n); k != len(s) || !is {
			t.Fatalf("LengthOf(%d): %d %v", n, k, is)
		}
		if back, end, is := impl.GetVarint(s, 0); back != n || end != len(s) || !is {
			t.Fatalf("GetVarint(%x, 0): %d %d %v", s, back, end, is)
		}
	}
}

func TestPutVarintRefuses(t *testing.T) {
	for _, n := range noNumbers() {
		if s, ok := impl.PutVarint(n); s != "" || ok {
			t.Errorf("PutVarint(%d): %x %v", n, s, ok)
		}
		if k, ok := impl.LengthOf(n); k != 0 || ok {
			t.Errorf("LengthOf(%d): %d %v", n, k, ok)
		}
	}
}

func TestLengthOfTellsAsSaid(t *testing.T) {
	for _, c := range []struct{ n, want int }{
		{0, 1}, {63, 1}, {-64, 1}, {64, 2}, {-65, 2},
		{8191, 2}, {-8192, 2}, {8192, 3}, {-8193, 3},
		{1<<20 - 1, 3}, {1 << 20, 4}, {-1 << 20, 3}, {-1<<20 - 1, 4},
		{1<<27 - 1, 4}, {1 << 27, 5}, {1<<34 - 1, 5}, {1 << 34, 6},
		{impl.MaxValue, 6}, {-impl.MaxValue, 6},
	} {
		if k, ok := impl.LengthOf(c.n); k != c.want || !ok {
			t.Errorf("LengthOf(%d): %d %v", c.n, k, ok)
		}
	}
}

func TestGetVarintReadsAtItsPlace(t *testing.T) {
	for _, n := range []int{0, -1, 63, 64, -65, 8192, 1 << 34, impl.MaxValue, -impl.MaxValue} {
		s, _ := impl.PutVarint(n)
		for _, ahead := range []string{"", "\x00", "\x80", "\xff\xff\xff", strings.Repeat("\x80", 700)} {
			for _, behind := range []string{"", "\x00", "\x80", "\xff\xff\xff", strings.Repeat("\x01", 700)} {
				got, end, ok := impl.GetVarint(ahead+s+behind, len(ahead))
				if got != n || end != len(ahead)+len(s) || !ok {
					t.Errorf("%d behind %x ahead of %x: %d %d %v", n, ahead, behind, got, end, ok)
				}
			}
		}
	}
}

// A text is read just if it is PutVarint of what is read.
func TestGetVarintHasOneFormAlone(t *testing.T) {
	good := map[string]int{}
	for n := -8192; n <= 8191; n++ {
		s, _ := impl.PutVarint(n)
		good[s] = n
	}
	if len(good) != 16384 {
		t.Fatal(len(good))
	}
	for a := range 256 {
		one := string([]byte{byte(a)})
		n, end, ok := impl.GetVarint(one, 0)
		if want, is := good[one]; ok != is || n != want || ok && end != 1 || !ok && end != 0 {
			t.Fatalf("%x: %d %d %v", one, n, end, ok)
		}
		for b := range 256 {
			two := one + string([]byte{byte(b)})
			if a < 128 {
				again, end, is := impl.GetVarint(two, 0)
				if again != n || end != 1 || !is {
					t.Fatalf("%x: %d %d %v", two, again, end, is)
				}
				continue
			}
			n, end, ok := impl.GetVarint(two, 0)
			if want, is := good[two]; ok != is || n != want || ok && end != 2 || !ok && end != 0 {
				t.Fatalf("%x: %d %d %v", two, n, end, ok)
			}
		}
	}
}

func TestGetVarintRefusesTexts(t *testing.T) {
	bad := []string{
		"", "\x80", "\xff", "\x80\x80", "\xff\xff\xff\xff\xff",
		"\x80\x00", "\xff\x00", "\x81\x00", "\x80\x80\x00", "\xff\xff\x00",
		"\x80\x80\x80\x80\x80\x00", "\x80\xc0\xa8\xca\x9a\x00",
		"\x80\xc0\xa8\xca\x9a\xba\x00", "\x80\x80\x80\x80\x80\x80\x01",
		"\x81\xc0\xa8\xca\x9a\x3a", "\xff\xff\xff\xff\xff\x7f",
		unsigned(maxZigZag + 1), unsigned(1 << 41), unsigned(1<<42 - 1), unsigned(1 << 42),
		unsigned(1 << 63), unsigned(math.MaxUint64),
		strings.Repeat("\x80", 600) + "\x01", strings.Repeat("\xff", 700),
	}
	for _, s := range bad {
		if n, end, ok := impl.GetVarint(s, 0); n != 0 || end != 0 || ok {
			t.Errorf("GetVarint(%x, 0): %d %d %v", s, n, end, ok)
		}
		if n, end, ok := impl.GetVarint("\x02"+s, 1); n != 0 || end != 0 || ok {
			t.Errorf("GetVarint(02%x, 1): %d %d %v", s, n, end, ok)
		}
	}
}

func TestGetVarintRefusesATextCutShort(t *testing.T) {
	for _, n := range []int{64, 8192, 1 << 20, 1 << 27, 1 << 34, impl.MaxValue, -impl.MaxValue} {
		s, _ := impl.PutVarint(n)
		for k := range len(s) {
			if got, end, ok := impl.GetVarint(s[:k], 0); got != 0 || end != 0 || ok {
				t.Errorf("%x, %d bytes of it: %d %d %v", s, k, got, end, ok)
			}
		}
	}
}

func TestGetVarintRefusesPlaces(t *testing.T) {
	for _, s := range []string{"", "\x02", "\x02\x04\x06"} {
		for _, at := range []int{-1, -2, len(s), len(s) + 1, math.MaxInt, math.MinInt} {
			if n, end, ok := impl.GetVarint(s, at); n != 0 || end != 0 || ok {
				t.Errorf("GetVarint(%x, %d): %d %d %v", s, at, n, end, ok)
			}
		}
	}
}

// Behind the text that is handed in lies more of the text that it is a piece of.
func TestGetVarintDoesNotReadBehindItsText(t *testing.T) {
	whole := "\x80\x01\x80\x01"
	for _, k := range []int{1, 3} {
		if n, end, ok := impl.GetVarint(whole[:k], k-1); n != 0 || end != 0 || ok {
			t.Errorf("%d bytes: %d %d %v", k, n, end, ok)
		}
		if l, ok := impl.GetAll(whole[:k]); len(l) != 0 || ok {
			t.Errorf("%d bytes: %v %v", k, l, ok)
		}
	}
}

func repeated(n int, many int) []int {
	return slices.Repeat([]int{n}, many)
}

func TestPutAllComesBack(t *testing.T) {
	all := numbers()
	lists := [][]int{
		nil, {}, {0}, {1, -1, 300}, {0, 0, 0}, {impl.MaxValue, -impl.MaxValue},
		all[:60], all[len(all)-60:],
		repeated(0, 60), repeated(impl.MaxValue, 60), repeated(-impl.MaxValue, 60), repeated(64, 59),
	}
	for _, l := range lists {
		want := ""
		for _, n := range l {
			s, _ := impl.PutVarint(n)
			want += s
		}
		s, ok := impl.PutAll(l)
		if s != want || !ok {
			t.Errorf("PutAll(%v): %x %v", l, s, ok)
		}
		if back, is := impl.GetAll(want); !slices.Equal(back, l) || !is {
			t.Errorf("GetAll(%x): %v %v", want, back, is)
		}
	}
}

func TestPutAllRefuses(t *testing.T) {
	for _, l := range [][]int{repeated(0, 61), repeated(1, 62), repeated(impl.MaxValue, 100), repeated(0, 1000)} {
		if s, ok := impl.PutAll(l); s != "" || ok {
			t.Errorf("PutAll of %d numbers: %x %v", len(l), s, ok)
		}
	}
	for _, n := range noNumbers() {
		for _, l := range [][]int{{n}, {1, n}, {n, 1}, append(repeated(1, 59), n)} {
			if s, ok := impl.PutAll(l); s != "" || ok {
				t.Errorf("PutAll(%v): %x %v", l, s, ok)
			}
		}
	}
}

func TestGetAllRefuses(t *testing.T) {
	long, _ := impl.PutVarint(impl.MaxValue)
	bad := []string{
		"\x80", "\x80\x00", "\x02\x80", "\x02\x80\x00", "\x80\x00\x02", "\x00\x81",
		strings.Repeat("\x00", 61), strings.Repeat("\x01", 62), strings.Repeat(long, 61),
		strings.Repeat("\x00", 60) + "\x80", strings.Repeat("\x00", 60) + "\x80\x00",
		strings.Repeat(long, 60) + long[:5], strings.Repeat(long, 59) + long[:5],
		strings.Repeat(long, 100), strings.Repeat("\x00", impl.MaxBytes),
		strings.Repeat("\x80", impl.MaxBytes), strings.Repeat("\x00", impl.MaxBytes+1),
		strings.Repeat(long, 100) + "\x00", strings.Repeat("\xff", 5000),
		unsigned(maxZigZag + 1), "\x02" + unsigned(maxZigZag+1),
	}
	for _, s := range bad {
		if l, ok := impl.GetAll(s); len(l) != 0 || ok {
			t.Errorf("GetAll(%x): %v %v", s, l, ok)
		}
	}
}

// Two lists of numbers never have one text, and a text that is read has no other list.
func TestGetAllHasOneFormAlone(t *testing.T) {
	for a := range 256 {
		for b := range 256 {
			for _, c := range []byte{0, 1, 2, 127, 128, 129, 255} {
				s := string([]byte{byte(a), byte(b), c})
				l, ok := impl.GetAll(s)
				if !ok && len(l) != 0 {
					t.Fatalf("%x: %v beside false", s, l)
				}
				if !ok {
					continue
				}
				if again, is := impl.PutAll(l); again != s || !is {
					t.Fatalf("%x: %v, again %x %v", s, l, again, is)
				}
			}
		}
	}
}

func TestGammaTellsAsSaid(t *testing.T) {
	for _, c := range []struct {
		n    int
		want string
	}{
		{1, "1"}, {2, "010"}, {3, "011"}, {4, "00100"}, {7, "00111"}, {8, "0001000"}, {9, "0001001"},
		{999999, strings.Repeat("0", 19) + "11110100001000111111"},
		{1000000, strings.Repeat("0", 19) + "11110100001001000000"},
	} {
		if s, ok := impl.GammaBits(c.n); s != c.want || !ok {
			t.Errorf("GammaBits(%d): %s %v", c.n, s, ok)
		}
		if n, k, ok := impl.ReadGamma(c.want); n != c.n || k != len(c.want) || !ok {
			t.Errorf("ReadGamma(%s): %d %d %v", c.want, n, k, ok)
		}
	}
}

func TestGammaComesBack(t *testing.T) {
	for n := 1; n <= 1000000; n++ {
		s, ok := impl.GammaBits(n)
		back, k, is := impl.ReadGamma(s)
		if !ok || !is || back != n || k != len(s) || len(s)%2 != 1 {
			t.Fatalf("%d: %s %v, back %d %d %v", n, s, ok, back, k, is)
		}
		if n <= 5000 || n >= 995000 {
			digits := strconv.FormatInt(int64(n), 2)
			if s != strings.Repeat("0", len(digits)-1)+digits {
				t.Fatalf("%d: %s", n, s)
			}
		}
	}
}

func TestGammaRefusesNumbers(t *testing.T) {
	for _, n := range append(noNumbers(), 0, -1, -2, 1000001, 1<<20, -1000000) {
		if s, ok := impl.GammaBits(n); s != "" || ok {
			t.Errorf("GammaBits(%d): %s %v", n, s, ok)
		}
	}
}

func TestReadGammaReadsFromTheFront(t *testing.T) {
	for _, n := range []int{1, 2, 3, 9, 1023, 1024, 999999, 1000000} {
		s, _ := impl.GammaBits(n)
		for b := range 256 {
			behind := string([]byte{byte(b)})
			for _, text := range []string{s + behind, s + behind + s, s + strings.Repeat(behind, impl.MaxBytes-len(s))} {
				if got, k, ok := impl.ReadGamma(text); got != n || k != len(s) || !ok {
					t.Fatalf("%q: %d %d %v", text, got, k, ok)
				}
			}
		}
		for k := range len(s) {
			if got, many, ok := impl.ReadGamma(s[:k]); got != 0 || many != 0 || ok {
				t.Errorf("%s, %d bytes of it: %d %d %v", s, k, got, many, ok)
			}
		}
	}
}

func TestReadGammaRefuses(t *testing.T) {
	zeros := func(k int) string { return strings.Repeat("0", k) }
	bad := []string{
		"", "0", "00", "01", "001", "0010", " 1", "2", "a", "-1", "+1", "\x00", "\x01",
		"020", "0+1", "0-1", "0a1", "01a", "012", "01/", "01:", "0 1", "00 00", "0012", "00120", "0011x",
		"00+11", "00-11", "001_1", "0000b10000",
		zeros(19) + "11110100001001000001", zeros(19) + "11111111111111111111",
		zeros(20) + "1" + zeros(20), zeros(63) + "1" + zeros(63), zeros(64) + "1" + zeros(63) + "1",
		zeros(299) + "1" + zeros(299), zeros(300) + "1" + zeros(299),
		zeros(impl.MaxBytes), zeros(impl.MaxBytes + 1), zeros(64) + "1" + zeros(100) + "1",
		"1" + zeros(impl.MaxBytes), "1" + strings.Repeat("1", impl.MaxBytes), "010" + strings.Repeat("x", 598),
	}
	for _, s := range bad {
		if n, k, ok := impl.ReadGamma(s); n != 0 || k != 0 || ok {
			t.Errorf("ReadGamma(%q): %d %d %v", s, n, k, ok)
		}
	}
}

func TestReadGammaTakesUpToMaxBytes(t *testing.T) {
	if n, k, ok := impl.ReadGamma("1" + strings.Repeat("x", impl.MaxBytes-1)); n != 1 || k != 1 || !ok {
		t.Error(n, k, ok)
	}
	if n, k, ok := impl.ReadGamma("1" + strings.Repeat("x", impl.MaxBytes)); n != 0 || k != 0 || ok {
		t.Error(n, k, ok)
	}
}

// textsOf is every text of at most so many bytes, of these letters alone.
func textsOf(letters string, long int) []string {
	out := []string{""}
	from := 0
	for range long {
		upto := len(out)
		for _, s := range out[from:upto] {
			for i := range len(letters) {
				out = append(out, s+letters[i:i+1])
			}
		}
		from = upto
	}
	return out
}

func TestReadGammaAgreesWithGammaBits(t *testing.T) {
	for _, s := range textsOf("01x", 9) {
		want, long := 0, 0
		for n := 1; n < 32; n++ {
			if bits, _ := impl.GammaBits(n); strings.HasPrefix(s, bits) {
				want, long = n, len(bits)
			}
		}
		if n, k, ok := impl.ReadGamma(s); n != want || k != long || ok != (want > 0) {
			t.Fatalf("%s: %d %d %v", s, n, k, ok)
		}
	}
}

// Promise 19: whatever a function of this chapter is given, it answers, and all beside false is zero.
func TestNumbersAnswerAtAnyArguments(t *testing.T) {
	ints := append(noNumbers(), 0, 1, -1, 60, 61, 127, 128, 255, 256, 600, 601, impl.MaxValue, -impl.MaxValue, 1000000, 1000001)
	texts := append(textsOf("\x00\x01\x7f\x80\xff01", 4),
		strings.Repeat("\xff", 10000), strings.Repeat("0", 10000), strings.Repeat("\x00", 10000), strings.Repeat("1", 10000))
	for _, n := range ints {
		z, ok := impl.ZigZag(n)
		u, ok2 := impl.UnZigZag(n)
		k, ok3 := impl.LengthOf(n)
		if !ok && z != 0 || !ok2 && u != 0 || !ok3 && k != 0 {
			t.Errorf("%d: %d %d %d", n, z, u, k)
		}
		s, ok := impl.PutVarint(n)
		a, ok2 := impl.PutAll([]int{n, n})
		g, ok3 := impl.GammaBits(n)
		if !ok && s != "" || !ok2 && a != "" || !ok3 && g != "" {
			t.Errorf("%d: %x %x %s", n, s, a, g)
		}
	}
	for _, s := range texts {
		for _, at := range append(ints, 2, 3, 4, len(s)-1, len(s), len(s)+1) {
			if n, end, ok := impl.GetVarint(s, at); !ok && (n != 0 || end != 0) || ok && (end <= at || end > len(s)) {
				t.Fatalf("GetVarint(%x, %d): %d %d %v", s, at, n, end, ok)
			}
		}
		if l, ok := impl.GetAll(s); !ok && len(l) != 0 {
			t.Fatalf("GetAll(%x): %v", s, l)
		}
		if n, k, ok := impl.ReadGamma(s); !ok && (n != 0 || k != 0) {
			t.Fatalf("ReadGamma(%q): %d %d", s, n, k)
		}
	}
}

// Promise 19: nothing is written into an argument, nor into what lies behind it in its memory.
func TestNumbersWriteIntoNoArgument(t *testing.T) {
	room := []int{5, -6, 7, 88, 99}
	was := slices.Clone(room)
	if s, ok := impl.PutAll(room[:3]); s != "\x0a\x0b\x0e" || !ok {
		t.Errorf("%x %v", s, ok)
	}
	if !slices.Equal(room, was) {
		t.Errorf("PutAll wrote into its list: %v", room)
	}
	room[1] = impl.MaxValue + 1
	was = slices.Clone(room)
	if s, ok := impl.PutAll(room[:3]); s != "" || ok {
		t.Errorf("%x %v", s, ok)
	}
	if !slices.Equal(room, was) {
		t.Errorf("PutAll wrote into a list that it refused: %v", room)
	}
}

func TestNumbersAnswerWithNewMemory(t *testing.T) {
	first, _ := impl.GetAll("\x02\x04\x06")
	second, _ := impl.GetAll("\x02\x04\x06")
	first[0] = 77
	first = append(first, 88)
	third, _ := impl.GetAll("\x02\x04\x06")
	want := []int{1, 2, 3}
	if !slices.Equal(second, want) || !slices.Equal(third, want) || len(first) != 4 {
		t.Error(first, second, third)
	}
}
