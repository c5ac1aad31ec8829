package tests

import (
	"maps"
	"math"
	"math/rand"
	"regexp"
	"slices"
	"sort"
	"strings"
	"testing"

	"loop.example/g00522/impl"
)

const maxTokens = 40

// labels are those of names and values, told in turn.
func labels(words ...string) []impl.Label {
	var out []impl.Label
	for i := 0; i < len(words); i += 2 {
		out = append(out, impl.Label{Name: words[i], Value: words[i+1]})
	}
	return out
}

// plainLabels writes labels as LabelsText does, whatever they are.
func plainLabels(l []impl.Label) string {
	out := "{"
	for i, x := range l {
		if i > 0 {
			out += ","
		}
		out += x.Name + "=" + x.Value
	}
	return out + "}"
}

func anyWord(r *rand.Rand, letters string) string {
	out := ""
	for range 1 + r.Intn(8) {
		k := r.Intn(len(letters))
		out += letters[k : k+1]
	}
	return out
}

func anyLabels(r *rand.Rand, letters string) []impl.Label {
	var out []impl.Label
	for range r.Intn(impl.MaxLabels + 1) {
		name := anyWord(r, letters)
		if !slices.ContainsFunc(out, func(x impl.Label) bool { return x.Name == name }) {
			out = append(out, impl.Label{Name: name, Value: anyWord(r, letters+"0123456789")})
		}
	}
	sort.Slice(out, func(i, j int) bool { return out[i].Name < out[j].Name })
	return out
}

func goodLabels() [][]impl.Label {
	out := [][]impl.Label{
		nil, {}, labels("a", "a"), labels("a", "0"), labels("z", "9"), labels("z", "z"),
		labels("abcdefgh", "a1b2c3d4"), labels("zzzzzzzz", "99999999"), labels("a", "00000000"), labels("abcdefgh", "0"),
		labels("a", "a", "aa", "a", "ab", "a", "b", "a"), labels("a", "same", "b", "same"), labels("az", "1", "b", "1"),
		labels("aaaaaaa", "1", "aaaaaaaa", "1"), labels("app", "a", "host", "web1"),
		labels("a", "1", "b", "2", "c", "3", "d", "4", "e", "5"),
		labels("a", "1", "b", "2", "c", "3", "d", "4", "e", "5", "f", "6"),
		labels("abcdefgh", "12345678", "bcdefghi", "12345678", "cdefghij", "12345678", "defghijk", "12345678", "efghijkl", "12345678", "fghijklm", "12345678"),
	}
	r := rand.New(rand.NewSource(31))
	for range 300 {
		out = append(out, anyLabels(r, "abcdefghijklmnopqrstuvwxyz"), anyLabels(r, "az"))
	}
	return out
}

func badLabels() [][]impl.Label {
	return [][]impl.Label{
		labels("", ""), labels("", "a"), labels("a", ""), labels("abcdefghi", "a"), labels("a", "abcdefghi"), labels("a", "123456789"),
		labels("a", "1", "a", "1"), labels("a", "1", "a", "2"), labels("b", "1", "a", "2"), labels("aa", "1", "a", "1"), labels("b", "1", "az", "1"),
		labels("a", "1", "b", "2", "b", "3"), labels("a", "1", "c", "2", "b", "3"), labels("b", "1", "c", "2", "a", "3"), labels("", "1", "a", "1"),
		labels("a1", "1"), labels("1", "1"), labels("a", "1,b"), labels("a,b", "2"), labels("a=1", "2"), labels("a", "1}"), labels("{a", "1"),
		labels("A", "1"), labels("aB", "1"), labels("a", "A"), labels("a", "aB"), labels("a ", "1"), labels("a", " 1"),
		labels("é", "1"), labels("a", "é"), labels("a", "\xc3"), labels("\xff", "1"), labels("a", "1\x00"), labels("a", "٣"), labels("ａ", "1"),
		labels("a", "1", "b", "2", "c", "3", "d", "4", "e", "5", "f", "6", "g", "7"),
		labels("a", "1", "b", "2", "c", "3", "d", "4", "e", "5", "f", ""),
		labels("a", "1", "b", "2", "c", "3", "d", "4", "e", "5", "e", "6"),
		make([]impl.Label, 1), make([]impl.Label, 6), make([]impl.Label, 7), make([]impl.Label, 5000),
		labels(strings.Repeat("a", 5000), "a"), labels("a", strings.Repeat("a", 5000)), labels("a", "éééé"), labels("éééé", "a"), labels("a", "ééééééééé"),
	}
}

func badLabelTexts() []string {
	out := []string{
		"", "{", "}", "}{", "{{}", "{}}", "{{}}", "{}{}", " {}", "{} ", "{}\x00", "{ }", "{,}", "{=}", "{=,=}", "[]", "()",
		"a=1", "{a=1", "a=1}", "{a=1}}", "{{a=1}", "{{a=1}}", "{a=1} ", " {a=1}", "{a=1}{b=2}", "{a=1}x", "{a=1}\n", "{a=1}{}", "{}{a=1}",
		"{a}", "{a=}", "{=1}", "{a1}", "{a==1}", "{a=1=}", "{a=1=2}", "{=a=1}", "{a:1}", "{a=1,}", "{,a=1}", "{a=1,,b=2}", "{a=1,b}", "{a=1,b=}", "{a=1,=2}", "{a,b=2}",
		"{a=1 ,b=2}", "{a=1, b=2}", "{a = 1}", "{a=1;b=2}", "{a=\"1\"}", "{a=1b=2}", "{a=1\n,b=2}",
	}
	for _, l := range badLabels() {
		out = append(out, plainLabels(l))
	}
	for _, l := range [][]impl.Label{labels("a", "1"), labels("app", "a", "host", "web1")} {
		s := plainLabels(l)
		for k := range len(s) {
			out = append(out, s[:k], s[k+1:])
		}
	}
	return append(out, strings.Repeat("{", 600), strings.Repeat("}", 601), "{"+strings.Repeat("a=1,", 5000)+"}", "{"+strings.Repeat(",", 9000)+"}", "{"+strings.Repeat("a", 9000)+"}", "{a="+strings.Repeat("1", 600)+"}")
}

func TestRingHasItsLimits(t *testing.T) {
	if impl.MaxLabels != 6 || impl.RingSize != 1009 || impl.MaxOwners != 8 {
		t.Error(impl.MaxLabels, impl.RingSize, impl.MaxOwners)
	}
}

func TestGoodLabelsTellsAsSaid(t *testing.T) {
	for _, l := range goodLabels() {
		if !impl.GoodLabels(l) {
			t.Errorf("refused: %q", l)
		}
	}
	for _, l := range badLabels() {
		if impl.GoodLabels(l) {
			t.Errorf("taken: %q", l)
		}
	}
}

func TestLabelsHaveTheirBytesAlone(t *testing.T) {
	for b := range 256 {
		letter := b >= 'a' && b <= 'z'
		digit := b >= '0' && b <= '9'
		c := string([]byte{byte(b)})
		for _, word := range []string{c, c + "a", "a" + c, "aaa" + c + "aaaa", "aaaaaaa" + c, c + c, "a" + c + "\x80"} {
			broken := strings.HasSuffix(word, "\x80")
			if impl.GoodLabels(labels(word, "1")) != (letter && !broken) {
				t.Errorf("Name %q", word)
			}
			if impl.GoodLabels(labels("a", word)) != ((letter || digit) && !broken) {
				t.Errorf("Value %q", word)
			}
		}
	}
}

func TestLabelsHaveTheirLengths(t *testing.T) {
	for long := range 20 {
		good := long >= 1 && long <= 8
		if word := strings.Repeat("a", long); impl.GoodLabels(labels(word, "a")) != good || impl.GoodLabels(labels("a", word)) != good {
			t.Error(long, "letters")
		}
		if impl.GoodLabels(labels("a", strings.Repeat("7", long))) != good {
			t.Error(long, "digits")
		}
	}
}

func TestLabelsTextTellsAsSaid(t *testing.T) {
	for _, c := range []struct {
		l    []impl.Label
		want string
	}{
		{nil, "{}"}, {[]impl.Label{}, "{}"}, {labels("a", "1"), "{a=1}"}, {labels("a", "a"), "{a=a}"},
		{labels("app", "a", "host", "web1"), "{app=a,host=web1}"}, {labels("a", "2", "b", "1"), "{a=2,b=1}"}, {labels("abcdefgh", "00000000"), "{abcdefgh=00000000}"},
		{labels("a", "1", "b", "2", "c", "3", "d", "4", "e", "5", "f", "6"), "{a=1,b=2,c=3,d=4,e=5,f=6}"},
	} {
		if s, ok := impl.LabelsText(c.l); s != c.want || !ok {
			t.Errorf("%q: %q %v", c.l, s, ok)
		}
		if l, ok := impl.ReadLabels(c.want); !slices.Equal(l, c.l) || !ok {
			t.Errorf("%q: %q %v", c.want, l, ok)
		}
	}
}

func TestLabelsComeBackFromTheirText(t *testing.T) {
	for _, l := range goodLabels() {
		s, ok := impl.LabelsText(l)
		if s != plainLabels(l) || !ok {
			t.Fatalf("%q: %q %v", l, s, ok)
		}
		if back, is := impl.ReadLabels(s); !slices.Equal(back, l) || !is {
			t.Fatalf("%q: %q %v", s, back, is)
		}
	}
}

func TestLabelsTextRefuses(t *testing.T) {
	// The last two would have the text of other labels, which are good.
	for _, l := range append(badLabels(), labels("a", "1,b=2"), labels("a=1,b", "2")) {
		if s, ok := impl.LabelsText(l); s != "" || ok || impl.GoodLabels(l) {
			t.Errorf("%q: %q %v", l, s, ok)
		}
	}
}

func TestReadLabelsRefuses(t *testing.T) {
	for _, s := range badLabelTexts() {
		if l, ok := impl.ReadLabels(s); len(l) != 0 || ok {
			t.Errorf("%q: %q %v", s, l, ok)
		}
	}
}

var oneLabel = regexp.MustCompile(`([a-z]{1,8})=([a-z0-9]{1,8})`)
var manyLabels = regexp.MustCompile(`^\{(` + oneLabel.String() + `(,` + oneLabel.String() + `){0,5})?\}$`)

// plainReadLabels reads by the words of the document, told apart from the program.
func plainReadLabels(s string) ([]impl.Label, bool) {
	if !manyLabels.MatchString(s) {
		return nil, false
	}
	var out []impl.Label
	for _, m := range oneLabel.FindAllStringSubmatch(s, -1) {
		if len(out) > 0 && m[1] <= out[len(out)-1].Name {
			return nil, false
		}
		out = append(out, impl.Label{Name: m[1], Value: m[2]})
	}
	return out, true
}

// A text is read just if it is LabelsText of what is read.
func TestReadLabelsHasOneFormAlone(t *testing.T) {
	const marks = "{},=az09AZ/:`@[ \x00\x80\xff"
	var texts []string
	for _, s := range textsOf("{},=a1", 5) {
		texts = append(texts, s, "{"+s+"}", "{a="+s+"}", "{a=1"+s+"}", "{a=1,"+s+"}")
	}
	r := rand.New(rand.NewSource(32))
	for _, l := range goodLabels() {
		s := plainLabels(l)
		for range 20 {
			k, j := r.Intn(len(s)), r.Intn(len(marks))
			c := marks[j : j+1]
			texts = append(texts, s, s[:k]+c+s[k:], s[:k]+c+s[k+1:], s[:k]+s[k+1:])
		}
	}
	good := 0
	for _, s := range texts {
		want, is := plainReadLabels(s)
		if is {
			good++
		}
		if l, ok := impl.ReadLabels(s); ok != is || !slices.Equal(l, want) {
			t.Fatalf("%q: %q %v, not %q %v", s, l, ok, want, is)
		}
	}
	if good < 1000 {
		t.Error("too few texts have labels:", good)
	}
}

func TestMergeLabelsTellsAsSaid(t *testing.T) {
	six := labels("a", "1", "b", "2", "c", "3", "d", "4", "e", "5", "f", "6")
	for _, c := range []struct{ a, b, want []impl.Label }{
		{nil, nil, nil}, {[]impl.Label{}, nil, nil}, {labels("a", "1"), nil, labels("a", "1")}, {nil, labels("a", "1"), labels("a", "1")},
		{labels("a", "1"), labels("a", "2"), labels("a", "2")}, {labels("a", "2"), labels("a", "1"), labels("a", "1")},
		{labels("a", "1"), labels("b", "2"), labels("a", "1", "b", "2")}, {labels("b", "2"), labels("a", "1"), labels("a", "1", "b", "2")},
		{labels("a", "1", "c", "3"), labels("b", "2", "c", "4", "d", "5"), labels("a", "1", "b", "2", "c", "4", "d", "5")},
		{labels("app", "a", "host", "web1"), labels("host", "b"), labels("app", "a", "host", "b")},
		{labels("a", "same"), labels("b", "same"), labels("a", "same", "b", "same")},
		{six, nil, six}, {nil, six, six}, {six, six, six}, {six[:3], six[3:], six}, {six[3:], six[:3], six}, {six[:4], six[2:], six}, {six, labels("f", "x"), append(slices.Clone(six[:5]), labels("f", "x")...)},
		{labels("a", "1", "b", "1", "c", "1", "d", "1", "e", "1", "f", "1"), six, six},
	} {
		if l, ok := impl.MergeLabels(c.a, c.b); !slices.Equal(l, c.want) || !ok {
			t.Errorf("%q and %q: %q %v", c.a, c.b, l, ok)
		}
	}
}

func TestMergeLabelsHoldsAllOfBoth(t *testing.T) {
	r := rand.New(rand.NewSource(33))
	refused := 0
	for range 3000 {
		a, b := anyLabels(r, "abc"), anyLabels(r, "abc")
		all := map[string]string{}
		for _, x := range slices.Concat(a, b) {
			all[x.Name] = x.Value
		}
		var want []impl.Label
		for _, name := range slices.Sorted(maps.Keys(all)) {
			want = append(want, impl.Label{Name: name, Value: all[name]})
		}
		good := len(want) <= impl.MaxLabels
		if !good {
			want = nil
			refused++
		}
		// Asked more than once: a map that tells its order would be seen.
		for range 3 {
			if l, ok := impl.MergeLabels(a, b); !slices.Equal(l, want) || ok != good {
				t.Fatalf("%q and %q: %q %v", a, b, l, ok)
			}
		}
	}
	if refused < 100 || refused > 2900 {
		t.Error("too few of one kind:", refused)
	}
}

func TestMergeLabelsRefuses(t *testing.T) {
	six := labels("a", "1", "b", "2", "c", "3", "d", "4", "e", "5", "f", "6")
	for _, c := range [][2][]impl.Label{
		{six, labels("g", "7")}, {labels("g", "7"), six}, {six, labels("f", "x", "g", "7")}, {six[:4], labels("e", "5", "f", "6", "g", "7")}, {six, labels("aa", "1", "bb", "2", "cc", "3", "dd", "4", "ee", "5", "ff", "6")},
	} {
		if l, ok := impl.MergeLabels(c[0], c[1]); len(l) != 0 || ok {
			t.Errorf("%q and %q: %q %v", c[0], c[1], l, ok)
		}
	}
	for _, bad := range badLabels() {
		for _, good := range [][]impl.Label{nil, labels("a", "1"), six} {
			if l, ok := impl.MergeLabels(bad, good); len(l) != 0 || ok {
				t.Errorf("%q and %q: %q %v", bad, good, l, ok)
			}
			if l, ok := impl.MergeLabels(good, bad); len(l) != 0 || ok {
				t.Errorf("%q and %q: %q %v", good, bad, l, ok)
			}
		}
		if l, ok := impl.MergeLabels(bad, bad); len(l) != 0 || ok {
			t.Errorf("%q twice: %q %v", bad, l, ok)
		}
	}
}

func TestHashTextTellsAsSaid(t *testing.T) {
	for _, c := range []struct {
		s    string
		want int
	}{
		{"", 7}, {"a", 314}, {"b", 315}, {"ab", 751}, {"ba", 781}, {"host", 989}, {"{app=a,host=web1}", 203},
		{"\x00", 217}, {"\x00\x00", 673}, {"\x7f", 344}, {"\x80", 345}, {"\xff", 472}, {"\xc3", 412}, {"é", 833}, {"\xff\xfe", 760}, {"日本", 247},
		{strings.Repeat("\x00", 600), 713}, {strings.Repeat("a", 600), 328}, {strings.Repeat("\xff", 600), 273},
	} {
		if h, ok := impl.HashText(c.s); h != c.want || !ok {
			t.Errorf("%q: %d %v", c.s, h, ok)
		}
	}
}

func TestHashTextGoesOnByteByByte(t *testing.T) {
	r := rand.New(rand.NewSource(34))
	s, want := "", 7
	for range impl.MaxBytes {
		b := r.Intn(256)
		s += string([]byte{byte(b)})
		want = (want*31 + b) % 1009
		if h, ok := impl.HashText(s); h != want || !ok {
			t.Fatalf("%q: %d %v", s, h, ok)
		}
	}
	for _, long := range []int{601, 602, 1200, 9000} {
		for _, c := range []string{"a", "\x00", "\xff"} {
			if h, ok := impl.HashText(strings.Repeat(c, long)); h != 0 || ok {
				t.Errorf("%d of %q: %d %v", long, c, h, ok)
			}
		}
	}
	// The limit is one of bytes: 300 of these are taken, 301 are not.
	if _, ok := impl.HashText(strings.Repeat("é", 300)); !ok {
		t.Error("600 bytes refused")
	}
	if h, ok := impl.HashText(strings.Repeat("é", 301)); h != 0 || ok {
		t.Error("602 bytes taken", h)
	}
}

// ring is that of places and owners, told in turn.
func ring(l ...int) []impl.Token {
	var out []impl.Token
	for i := 0; i < len(l); i += 2 {
		out = append(out, impl.Token{At: l[i], Owner: l[i+1]})
	}
	return out
}

// evenRing is so many tokens, a step between them, of all owners in turn.
func evenRing(from int, step int, many int) []impl.Token {
	var out []impl.Token
	for i := range many {
		out = append(out, impl.Token{At: from + i*step, Owner: i % impl.MaxOwners})
	}
	return out
}

// places are so many, rising, of those in which a ring may have tokens.
func places(r *rand.Rand, many int) []int {
	out := r.Perm(impl.RingSize)[:many]
	sort.Ints(out)
	return out
}

func anyRing(r *rand.Rand, owners int) []impl.Token {
	var out []impl.Token
	for _, at := range places(r, r.Intn(maxTokens+1)) {
		out = append(out, impl.Token{At: at, Owner: r.Intn(owners)})
	}
	return out
}

func goodRings() [][]impl.Token {
	out := [][]impl.Token{
		nil, {}, {{}}, ring(0, 7), ring(1008, 0), ring(1008, 7), ring(0, 0, 1, 0), ring(1007, 3, 1008, 3), ring(0, 5, 1008, 5),
		ring(100, 1, 300, 2, 500, 1), ring(0, 1, 1, 2, 1007, 3, 1008, 4),
		evenRing(0, 1, maxTokens), evenRing(969, 1, maxTokens), evenRing(0, 25, maxTokens), evenRing(33, 25, maxTokens), evenRing(7, 20, maxTokens-1),
	}
	r := rand.New(rand.NewSource(35))
	for i := range 120 {
		out = append(out, anyRing(r, 1+i%impl.MaxOwners))
	}
	return out
}

func badRings() [][]impl.Token {
	out := [][]impl.Token{
		ring(-1, 0), ring(1009, 0), ring(1010, 0), ring(5, -1), ring(5, 8), ring(5, 9), ring(math.MinInt, 0), ring(math.MaxInt, 0), ring(5, math.MinInt), ring(5, math.MaxInt),
		ring(5, 1, 5, 1), ring(5, 1, 5, 2), ring(5, 1, 4, 1), ring(1, 0, 0, 0), ring(1, 1, 2, 2, 2, 3), ring(1, 1, 3, 2, 2, 3), ring(2, 1, 3, 2, 1, 3),
		ring(-1, 1, 5, 1), ring(5, 1, 1009, 1), ring(5, 1, 6, 8), ring(5, -1, 6, 0), ring(math.MinInt, 0, math.MaxInt, 0), ring(1008, 1, 0, 1),
		evenRing(0, 1, maxTokens+1), evenRing(0, 25, maxTokens+1), evenRing(0, 1, 1009), evenRing(0, 1, 5000), evenRing(0, 0, maxTokens), make([]impl.Token, 2), make([]impl.Token, 41),
	}
	for _, i := range []int{0, 1, 20, 38, 39} {
		l := evenRing(10, 10, maxTokens)
		l[i].Owner = impl.MaxOwners
		out = append(out, l)
		l = evenRing(0, 10, maxTokens)
		l[i].At -= 10
		out = append(out, l)
	}
	return out
}

func TestGoodRingTellsAsSaid(t *testing.T) {
	for _, r := range goodRings() {
		if !impl.GoodRing(r) {
			t.Errorf("refused: %v", r)
		}
	}
	for _, r := range badRings() {
		if impl.GoodRing(r) {
			t.Errorf("taken: %v", r)
		}
	}
}

// walk tells the unlike owners as they are met from a hash on, place by place, once round.
func walk(r []impl.Token, hash int) []int {
	at := map[int]int{}
	for _, x := range r {
		at[x.At] = x.Owner
	}
	var out []int
	for i := range impl.RingSize {
		if owner, ok := at[(hash+i)%impl.RingSize]; ok && !slices.Contains(out, owner) {
			out = append(out, owner)
		}
	}
	return out
}

func TestOwnerOfTellsAsSaid(t *testing.T) {
	r := ring(100, 1, 300, 2, 500, 3)
	for _, c := range []struct{ hash, want int }{
		{0, 1}, {99, 1}, {100, 1}, {101, 2}, {200, 2}, {299, 2}, {300, 2}, {301, 3}, {499, 3}, {500, 3}, {501, 1}, {1008, 1},
	} {
		if o, ok := impl.OwnerOf(r, c.hash); o != c.want || !ok {
			t.Errorf("%d: %d %v", c.hash, o, ok)
		}
	}
	r = ring(0, 4, 1008, 5)
	for _, c := range []struct{ hash, want int }{{0, 4}, {1, 5}, {1007, 5}, {1008, 5}} {
		if o, ok := impl.OwnerOf(r, c.hash); o != c.want || !ok {
			t.Errorf("%d: %d %v", c.hash, o, ok)
		}
	}
	for _, hash := range []int{0, 6, 7, 8, 1008} {
		if o, ok := impl.OwnerOf(ring(7, 0), hash); o != 0 || !ok {
			t.Errorf("of one, %d: %d %v", hash, o, ok)
		}
	}
}

func TestOwnersOfTellsAsSaid(t *testing.T) {
	r := ring(100, 1, 200, 1, 300, 2, 400, 0, 500, 1)
	for _, c := range []struct {
		hash int
		want []int
	}{
		{0, []int{1, 2, 0}}, {100, []int{1, 2, 0}}, {101, []int{1, 2, 0}}, {200, []int{1, 2, 0}}, {201, []int{2, 0, 1}}, {300, []int{2, 0, 1}},
		{301, []int{0, 1, 2}}, {400, []int{0, 1, 2}}, {401, []int{1, 2, 0}}, {500, []int{1, 2, 0}}, {501, []int{1, 2, 0}}, {1008, []int{1, 2, 0}},
	} {
		for many := 1; many <= 3; many++ {
			if l, ok := impl.OwnersOf(r, c.hash, many); !slices.Equal(l, c.want[:many]) || !ok {
				t.Errorf("%d from %d: %v %v", many, c.hash, l, ok)
			}
		}
		for many := 4; many <= 9; many++ {
			if l, ok := impl.OwnersOf(r, c.hash, many); len(l) != 0 || ok {
				t.Errorf("%d from %d: %v %v", many, c.hash, l, ok)
			}
		}
	}
	all := evenRing(0, 25, maxTokens)
	if l, ok := impl.OwnersOf(all, 51, impl.MaxOwners); !slices.Equal(l, []int{3, 4, 5, 6, 7, 0, 1, 2}) || !ok {
		t.Error(l, ok)
	}
	if l, ok := impl.OwnersOf(all, 0, impl.MaxOwners+1); len(l) != 0 || ok {
		t.Error(l, ok)
	}
}

func TestOwnersAreMetRoundTheRing(t *testing.T) {
	for _, r := range goodRings() {
		for hash := 0; hash < impl.RingSize; hash += 1 + hash%3 {
			want := walk(r, hash)
			o, ok := impl.OwnerOf(r, hash)
			if len(want) == 0 && (o != 0 || ok) || len(want) > 0 && (o != want[0] || !ok) {
				t.Fatalf("%v, %d: %d %v", r, hash, o, ok)
			}
			for many := 1; many <= impl.MaxOwners; many++ {
				l, ok := impl.OwnersOf(r, hash, many)
				if good := many <= len(want); ok != good || good && !slices.Equal(l, want[:many]) || !good && len(l) != 0 {
					t.Fatalf("%v, %d from %d: %v %v", r, many, hash, l, ok)
				}
			}
		}
	}
}

func TestOwnersRefuse(t *testing.T) {
	hashes := []int{-1, impl.RingSize, impl.RingSize + 1, -impl.RingSize, math.MinInt, math.MaxInt}
	for _, r := range goodRings() {
		for _, hash := range hashes {
			if o, ok := impl.OwnerOf(r, hash); o != 0 || ok {
				t.Errorf("%v, %d: %d %v", r, hash, o, ok)
			}
			if l, ok := impl.OwnersOf(r, hash, 1); len(l) != 0 || ok {
				t.Errorf("%v, %d: %v %v", r, hash, l, ok)
			}
		}
		for _, many := range []int{0, -1, 9, 40, math.MinInt, math.MaxInt} {
			if l, ok := impl.OwnersOf(r, 5, many); len(l) != 0 || ok {
				t.Errorf("%v, %d of them: %v %v", r, many, l, ok)
			}
		}
	}
	for _, r := range append(badRings(), nil, []impl.Token{}) {
		for _, hash := range append(hashes, 0, 5, 1008) {
			if o, ok := impl.OwnerOf(r, hash); o != 0 || ok {
				t.Errorf("%v, %d: %d %v", r, hash, o, ok)
			}
			for _, many := range []int{0, 1, 2, 8} {
				if l, ok := impl.OwnersOf(r, hash, many); len(l) != 0 || ok {
					t.Errorf("%v, %d from %d: %v %v", r, many, hash, l, ok)
				}
			}
		}
	}
}

func TestAddOwnerTellsAsSaid(t *testing.T) {
	two := ring(100, 1, 500, 1)
	for _, c := range []struct {
		r     []impl.Token
		owner int
		at    []int
		want  []impl.Token
	}{
		{nil, 0, []int{0}, ring(0, 0)}, {nil, 7, []int{1008}, ring(1008, 7)}, {[]impl.Token{}, 1, []int{100, 500}, two},
		{nil, 3, []int{0, 1, 2, 3, 4, 5, 6, 1008}, ring(0, 3, 1, 3, 2, 3, 3, 3, 4, 3, 5, 3, 6, 3, 1008, 3)},
		{two, 2, []int{300}, ring(100, 1, 300, 2, 500, 1)}, {two, 0, []int{0, 1008}, ring(0, 0, 100, 1, 500, 1, 1008, 0)},
		{two, 2, []int{99, 101, 499, 501}, ring(99, 2, 100, 1, 101, 2, 499, 2, 500, 1, 501, 2)},
		{two, 2, []int{1, 2}, ring(1, 2, 2, 2, 100, 1, 500, 1)}, {two, 2, []int{600, 700}, ring(100, 1, 500, 1, 600, 2, 700, 2)},
	} {
		if r, ok := impl.AddOwner(c.r, c.owner, c.at); !slices.Equal(r, c.want) || !ok {
			t.Errorf("%v with %d at %v: %v %v", c.r, c.owner, c.at, r, ok)
		}
	}
}

func TestAddOwnerRefuses(t *testing.T) {
	two := ring(100, 1, 500, 1)
	for _, c := range []struct {
		owner int
		at    []int
	}{
		{2, nil}, {2, []int{}}, {2, []int{1, 2, 3, 4, 5, 6, 7, 8, 9}}, {2, repeated(7, 5000)},
		{2, []int{100}}, {2, []int{500}}, {2, []int{100, 500}}, {2, []int{99, 100, 101}}, {2, []int{5, 500}},
		{2, []int{7, 7}}, {2, []int{7, 8, 8}}, {2, []int{8, 7}}, {2, []int{7, 9, 8}}, {2, []int{600, 3}},
		{2, []int{-1}}, {2, []int{-1, 5}}, {2, []int{1009}}, {2, []int{5, 1009}}, {2, []int{math.MinInt}}, {2, []int{math.MaxInt}}, {2, []int{math.MinInt, math.MaxInt}}, {2, []int{math.MaxInt, math.MinInt}},
		{1, []int{300}}, {1, []int{100}}, {1, nil}, {-1, []int{300}}, {8, []int{300}}, {math.MinInt, []int{300}}, {math.MaxInt, []int{300}}, {-1, nil},
	} {
		if r, ok := impl.AddOwner(two, c.owner, c.at); len(r) != 0 || ok {
			t.Errorf("%d at %v: %v %v", c.owner, c.at, r, ok)
		}
	}
	for _, bad := range badRings() {
		for owner := range impl.MaxOwners {
			if r, ok := impl.AddOwner(bad, owner, []int{700}); len(r) != 0 || ok {
				t.Errorf("%v with %d: %v %v", bad, owner, r, ok)
			}
		}
	}
	for _, owner := range []int{-1, 8, math.MinInt, math.MaxInt} {
		if r, ok := impl.AddOwner(nil, owner, []int{5}); len(r) != 0 || ok {
			t.Errorf("%d alone: %v %v", owner, r, ok)
		}
	}
}

func TestAddOwnerCountsItsPlaces(t *testing.T) {
	for many := range 20 {
		var at []int
		for i := range many {
			at = append(at, 3*i)
		}
		if r, ok := impl.AddOwner(nil, 1, at); ok != (many >= 1 && many <= 8) || ok && len(r) != many || !ok && len(r) != 0 {
			t.Errorf("%d places: %v %v", many, r, ok)
		}
	}
}

func TestAddOwnerStopsAtForty(t *testing.T) {
	var r []impl.Token
	for i := range 39 {
		r = append(r, impl.Token{At: 2 * i, Owner: i % 7})
	}
	full, ok := impl.AddOwner(r, 7, []int{501})
	if len(full) != 40 || !ok {
		t.Error(full, ok)
	}
	if out, ok := impl.AddOwner(r, 7, []int{501, 502}); len(out) != 0 || ok {
		t.Error(out, ok)
	}
	if out, ok := impl.AddOwner(r[:32], 7, []int{501, 502, 503, 504, 505, 506, 507, 508}); len(out) != 40 || !ok {
		t.Error(out, ok)
	}
	if out, ok := impl.AddOwner(r[:33], 7, []int{501, 502, 503, 504, 505, 506, 507, 508}); len(out) != 0 || ok {
		t.Error(out, ok)
	}
	full[39].Owner = 0
	if out, ok := impl.AddOwner(full, 7, []int{700}); len(out) != 0 || ok {
		t.Error(out, ok)
	}
}

func TestDropOwnerTellsAsSaid(t *testing.T) {
	r := ring(0, 1, 100, 2, 200, 1, 300, 3, 1008, 1)
	for _, c := range []struct {
		owner int
		want  []impl.Token
	}{
		{1, ring(100, 2, 300, 3)}, {2, ring(0, 1, 200, 1, 300, 3, 1008, 1)}, {3, ring(0, 1, 100, 2, 200, 1, 1008, 1)},
	} {
		if out, ok := impl.DropOwner(r, c.owner); !slices.Equal(out, c.want) || !ok {
			t.Errorf("without %d: %v %v", c.owner, out, ok)
		}
	}
	for _, one := range [][]impl.Token{ring(5, 0), ring(5, 0, 6, 0), ring(0, 0, 1008, 0)} {
		if out, ok := impl.DropOwner(one, 0); len(out) != 0 || !ok {
			t.Errorf("%v: %v %v", one, out, ok)
		}
	}
}

func TestDropOwnerRefuses(t *testing.T) {
	for _, owner := range []int{0, 4, 7, 8, -1, math.MinInt, math.MaxInt} {
		for _, r := range [][]impl.Token{nil, {}, ring(0, 1, 100, 2), evenRing(1, 10, 40)[1:4]} {
			if out, ok := impl.DropOwner(r, owner); len(out) != 0 || ok {
				t.Errorf("%v without %d: %v %v", r, owner, out, ok)
			}
		}
		for _, r := range badRings() {
			if out, ok := impl.DropOwner(r, owner); len(out) != 0 || ok {
				t.Errorf("%v without %d: %v %v", r, owner, out, ok)
			}
		}
	}
}

// Promise 3: where an owner comes nothing goes but to it, and what went to it comes back when it leaves.
func TestNothingGoesButToWhoComes(t *testing.T) {
	r := rand.New(rand.NewSource(36))
	came, went, stayed := 0, 0, 0
	for range 600 {
		before := anyRing(r, 1+r.Intn(impl.MaxOwners))
		owner := r.Intn(impl.MaxOwners)
		before = slices.DeleteFunc(before, func(x impl.Token) bool { return x.Owner == owner })
		at := places(r, 1+r.Intn(8))
		after, ok := impl.AddOwner(before, owner, at)
		taken := slices.ContainsFunc(before, func(x impl.Token) bool { return slices.Contains(at, x.At) })
		if good := !taken && len(before)+len(at) <= maxTokens; ok != good {
			t.Fatalf("%v with %d at %v: %v %v", before, owner, at, after, ok)
		}
		if !ok {
			continue
		}
		came++
		if len(after) != len(before)+len(at) || !impl.GoodRing(after) {
			t.Fatalf("%v with %d at %v: %v", before, owner, at, after)
		}
		for hash := range impl.RingSize {
			now, ok := impl.OwnerOf(after, hash)
			was, is := impl.OwnerOf(before, hash)
			if !ok || is != (len(before) > 0) || now != owner && (now != was || !is) {
				t.Fatalf("%v with %d at %v: %d was %d's, is %d's", before, owner, at, hash, was, now)
			}
			if now == owner {
				went++
			} else {
				stayed++
			}
		}
		if back, ok := impl.DropOwner(after, owner); !slices.Equal(back, before) || !ok {
			t.Fatalf("%v without %d: %v %v", after, owner, back, ok)
		}
	}
	if came < 300 || went < 10000 || stayed < 10000 {
		t.Error("too few of one kind:", came, went, stayed)
	}
}

// Just what lies ahead of a place of who comes, behind the token ahead of that, goes to it.
func TestWhoComesHasWhatLiesAheadOfIt(t *testing.T) {
	before := ring(100, 1, 300, 2, 500, 1)
	after, ok := impl.AddOwner(before, 5, []int{50, 400})
	if !ok {
		t.Fatal(after)
	}
	for hash := range impl.RingSize {
		now, _ := impl.OwnerOf(after, hash)
		if (now == 5) != (hash <= 50 || hash > 500 || hash > 300 && hash <= 400) {
			t.Errorf("%d: %d", hash, now)
		}
	}
}

// Where an owner leaves only what was its goes, whoever has it then.
func TestNothingGoesButFromWhoLeaves(t *testing.T) {
	for _, r := range goodRings() {
		for owner := range impl.MaxOwners {
			left, ok := impl.DropOwner(r, owner)
			if has := slices.ContainsFunc(r, func(x impl.Token) bool { return x.Owner == owner }); ok != has {
				t.Fatalf("%v without %d: %v", r, owner, ok)
			}
			if !ok || len(left) == 0 {
				continue
			}
			for hash := range impl.RingSize {
				was, _ := impl.OwnerOf(r, hash)
				now, is := impl.OwnerOf(left, hash)
				if !is || now == owner || was != owner && now != was {
					t.Fatalf("%v without %d: %d was %d's, is %d's", r, owner, hash, was, now)
				}
			}
		}
	}
}

// Promise 19: whatever a function of this chapter is given, it answers, and all beside false is zero.
func TestRingAnswersAtAnyArguments(t *testing.T) {
	ints := append(noNumbers(), 0, 1, -1, 7, 8, 9, 40, 41, 1008, 1009)
	for _, s := range append(textsOf("{},=a1\x80\xff", 4), badLabelTexts()...) {
		if l, ok := impl.ReadLabels(s); !ok && len(l) != 0 || ok && !impl.GoodLabels(l) {
			t.Fatalf("ReadLabels(%q): %q", s, l)
		}
		if h, ok := impl.HashText(s); ok != (len(s) <= 600) || h < 0 || h >= 1009 || !ok && h != 0 {
			t.Fatalf("HashText(%q): %d %v", s, h, ok)
		}
		for _, l := range [][]impl.Label{labels(s, "1"), labels("a", s), labels(s, s, "b", "1")} {
			text, ok := impl.LabelsText(l)
			if ok != impl.GoodLabels(l) || !ok && text != "" {
				t.Fatalf("LabelsText(%q): %q %v", l, text, ok)
			}
			if out, is := impl.MergeLabels(l, labels("c", "1")); is != ok || !is && len(out) != 0 {
				t.Fatalf("MergeLabels(%q, ..): %q %v", l, out, is)
			}
		}
	}
	for _, a := range ints {
		for _, b := range ints {
			r := []impl.Token{{At: a, Owner: b}, {At: b, Owner: a}}
			good := impl.GoodRing(r)
			if o, ok := impl.OwnerOf(r, a); ok && !good || !ok && o != 0 {
				t.Errorf("OwnerOf(%v, %d): %d %v", r, a, o, ok)
			}
			if l, ok := impl.OwnersOf(r, a, b); ok && !good || !ok && len(l) != 0 {
				t.Errorf("OwnersOf(%v, %d, %d): %v %v", r, a, b, l, ok)
			}
			if l, ok := impl.OwnersOf(ring(5, 3, 6, 4), a, b); ok && (len(l) != b || b > 2) || !ok && len(l) != 0 {
				t.Errorf("OwnersOf(.., %d, %d): %v %v", a, b, l, ok)
			}
			if l, ok := impl.AddOwner(r, b, []int{a, b}); ok && !good || !ok && len(l) != 0 {
				t.Errorf("AddOwner(%v, %d, %v): %v %v", r, b, []int{a, b}, l, ok)
			}
			if l, ok := impl.AddOwner(ring(5, 3, 6, 4), a, []int{b}); ok && !impl.GoodRing(l) || !ok && len(l) != 0 {
				t.Errorf("AddOwner(.., %d, %d): %v %v", a, b, l, ok)
			}
			if l, ok := impl.DropOwner(r, a); ok && !good || !ok && len(l) != 0 {
				t.Errorf("DropOwner(%v, %d): %v %v", r, a, l, ok)
			}
		}
	}
}

// Promise 19: nothing is written into an argument, nor into what lies behind it in its memory.
func TestRingWritesIntoNoArgument(t *testing.T) {
	names := labels("b", "2", "d", "4", "a", "9", "", "")
	more := labels("c", "3", "e", "5", "a", "8")
	tokens := ring(100, 1, 300, 2, 500, 1, 7, 7, -1, 99)
	at := []int{200, 600, 3, 4}
	wasNames, wasMore, wasTokens, wasAt := slices.Clone(names), slices.Clone(more), slices.Clone(tokens), slices.Clone(at)
	if s, ok := impl.LabelsText(names[:2]); s != "{b=2,d=4}" || !ok || !impl.GoodLabels(names[:2]) {
		t.Error(s, ok)
	}
	if l, ok := impl.MergeLabels(names[:2], more[:2]); !slices.Equal(l, labels("b", "2", "c", "3", "d", "4", "e", "5")) || !ok {
		t.Error(l, ok)
	}
	if l, ok := impl.AddOwner(tokens[:3], 4, at[:2]); !slices.Equal(l, ring(100, 1, 200, 4, 300, 2, 500, 1, 600, 4)) || !ok {
		t.Error(l, ok)
	}
	if l, ok := impl.DropOwner(tokens[:3], 1); !slices.Equal(l, ring(300, 2)) || !ok {
		t.Error(l, ok)
	}
	if l, ok := impl.OwnersOf(tokens[:3], 501, 2); !slices.Equal(l, []int{1, 2}) || !ok || !impl.GoodRing(tokens[:3]) {
		t.Error(l, ok)
	}
	if o, ok := impl.OwnerOf(tokens[:3], 501); o != 1 || !ok {
		t.Error(o, ok)
	}
	if l, ok := impl.OwnersOf(tokens[:3], 5, 3); len(l) != 0 || ok {
		t.Error(l, ok)
	}
	impl.GoodLabels(names)
	impl.LabelsText(names)
	impl.MergeLabels(names, more)
	impl.MergeLabels(more, names[:2])
	impl.GoodRing(tokens)
	impl.AddOwner(tokens, 4, at)
	impl.AddOwner(tokens[:3], 4, at)
	impl.AddOwner(tokens[:3], 4, []int{100})
	impl.AddOwner(tokens[:3], 9, at[:2])
	impl.DropOwner(tokens, 1)
	impl.DropOwner(tokens[:3], 7)
	if !slices.Equal(names, wasNames) || !slices.Equal(more, wasMore) || !slices.Equal(tokens, wasTokens) || !slices.Equal(at, wasAt) {
		t.Error("written into:", names, more, tokens, at)
	}
}

func TestRingAnswersWithNewMemory(t *testing.T) {
	l := labels("b", "2", "d", "4")
	for _, empty := range [][]impl.Label{nil, {}} {
		front, _ := impl.MergeLabels(l, empty)
		behind, _ := impl.MergeLabels(empty, l)
		front[0].Value, behind[1].Name = "x", "x"
	}
	read, _ := impl.ReadLabels("{b=2,d=4}")
	read[0].Name = "x"
	again, _ := impl.ReadLabels("{b=2,d=4}")
	if want := labels("b", "2", "d", "4"); !slices.Equal(l, want) || !slices.Equal(again, want) {
		t.Error(l, again)
	}
	r, at := ring(100, 1, 300, 2), []int{700}
	added, _ := impl.AddOwner(r, 3, at)
	dropped, _ := impl.DropOwner(r, 2)
	owners, _ := impl.OwnersOf(r, 0, 2)
	added[0].Owner, added[2].At, dropped[0].At, owners[0] = 9, 9, 9, 9
	_ = append(added[:1], impl.Token{At: 98})
	_ = append(dropped, impl.Token{At: 98})
	if !slices.Equal(r, ring(100, 1, 300, 2)) || at[0] != 700 {
		t.Error(r, at)
	}
}
