package tests

import (
	"math"
	"math/rand"
	"slices"
	"strings"
	"testing"

	"loop.example/g00522/impl"
)

func foNone() impl.Part               { return impl.Part{Kind: impl.FoNone} }
func foEmpty() impl.Part              { return impl.Part{Kind: impl.FoEmpty} }
func foLetter(s string) impl.Part     { return impl.Part{Kind: impl.FoLetter, Text: s} }
func foAny() impl.Part                { return impl.Part{Kind: impl.FoAny} }
func foThen(a int, b int) impl.Part   { return impl.Part{Kind: impl.FoThen, A: a, B: b} }
func foEither(a int, b int) impl.Part { return impl.Part{Kind: impl.FoEither, A: a, B: b} }
func foMany(a int) impl.Part          { return impl.Part{Kind: impl.FoMany, A: a} }
func foNot(a int) impl.Part           { return impl.Part{Kind: impl.FoNot, A: a} }
func form(l ...impl.Part) []impl.Part { return l }

// chainForm is a letter under so many parts, each FoMany or FoNot of the one ahead.
func chainForm(parts int) []impl.Part {
	f := form(foLetter("a"))
	for i := 1; i < parts; i++ {
		if i%2 == 0 {
			f = append(f, foNot(i-1))
		} else {
			f = append(f, foMany(i-1))
		}
	}
	return f[:parts]
}

func anyLeaf(r *rand.Rand) impl.Part {
	return form(foNone(), foEmpty(), foAny(), foLetter("a"), foLetter("b"), foLetter("a"), foLetter("b"), foLetter("c"), foLetter("z"))[r.Intn(9)]
}

// anyForm puts parts that no part names yet under a new one, whichever they are: so its parts stand in any order in which a form's can.
func anyForm(r *rand.Rand, parts int) []impl.Part {
	var f []impl.Part
	var free []int
	take := func() int {
		i := r.Intn(len(free))
		part := free[i]
		free = slices.Delete(free, i, i+1)
		return part
	}
	for at := range parts {
		behind := parts - at - 1
		switch kind := r.Intn(8); {
		case len(free) == 0 || kind < 3 && len(free) <= behind:
			f = append(f, anyLeaf(r))
		case len(free)-1 > behind || kind < 6 && len(free) > 1:
			two := []func(int, int) impl.Part{foThen, foEither}[r.Intn(2)]
			f = append(f, two(take(), take()))
		case kind%2 == 0:
			f = append(f, foMany(take()))
		default:
			f = append(f, foNot(take()))
		}
		free = append(free, at)
	}
	return f
}

func goodForms() [][]impl.Part {
	a, b := foLetter("a"), foLetter("b")
	out := [][]impl.Part{
		form(foNone()), form(foEmpty()), form(foLetter("a")), form(foLetter("m")), form(foLetter("z")), form(foAny()),
		form(a, foMany(0)), form(a, foNot(0)), form(a, b, foThen(0, 1)), form(a, b, foThen(1, 0)), form(a, b, foEither(0, 1)), form(a, b, foEither(1, 0)),
		form(a, b, foMany(0), foThen(2, 1)), form(a, b, foMany(1), foThen(0, 2)), form(a, foNot(0), foNot(1)), form(foEmpty(), foMany(0)), form(foNone(), foMany(0)), form(a, foMany(0), foMany(1)),
		form(a, a, b, b, foEither(2, 0), foThen(3, 1), foThen(5, 4)), form(foNone(), a, foThen(0, 1)), form(foNone(), a, foThen(1, 0)), form(foNone(), a, foEither(0, 1)), form(foEmpty(), a, foThen(1, 0)),
	}
	for parts := 1; parts <= impl.MaxForm; parts++ {
		out = append(out, chainForm(parts))
	}
	r := rand.New(rand.NewSource(51))
	for i := range 400 {
		out = append(out, anyForm(r, 1+i%impl.MaxForm), anyForm(r, 1+i%8))
	}
	return out
}

// badParts are wrong wherever they stand, were there ten parts ahead of them.
func badParts() []impl.Part {
	var out []impl.Part
	for _, kind := range append(noNumbers(), 0, 9, -1, 10, 100) {
		out = append(out, impl.Part{Kind: kind}, impl.Part{Kind: kind, Text: "a"}, impl.Part{Kind: kind, A: 1, B: 2})
	}
	for _, s := range []string{"", "aa", "ab", "A", "Z", "1", "0", "`", "{", "!", "%", ".", "*", " ", "\x00", "\x80", "\xff", "\xe1", "é", "a ", " a", "a\x00", "aaaaaaaaaaaa"} {
		out = append(out, foLetter(s))
	}
	for _, x := range form(foNone(), foEmpty(), foAny(), foLetter("a")) {
		for _, n := range []int{1, -1, math.MinInt, math.MaxInt} {
			withA, withB := x, x
			withA.A, withB.B = n, n
			out = append(out, withA, withB)
		}
		if x.Kind != impl.FoLetter {
			x.Text = "a"
			out = append(out, x)
			x.Text = "\x00"
			out = append(out, x)
		}
	}
	for _, x := range form(foThen(0, 1), foEither(0, 1), foMany(0), foNot(0)) {
		x.Text = "a"
		out = append(out, x)
	}
	for _, n := range []int{1, -1, math.MinInt, math.MaxInt} {
		out = append(out, impl.Part{Kind: impl.FoMany, B: n}, impl.Part{Kind: impl.FoNot, B: n})
	}
	for _, n := range append(noNumbers(), -1, -2, 24, 25, math.MaxInt32, math.MaxInt32+1) {
		out = append(out, foThen(0, n), foThen(n, 0), foThen(n, n), foEither(0, n), foEither(n, 0), foEither(n, n), foMany(n), foNot(n))
	}
	return out
}

func badForms() [][]impl.Part {
	a, b := foLetter("a"), foLetter("b")
	out := [][]impl.Part{
		nil, {}, chainForm(25), chainForm(26), chainForm(5000), make([]impl.Part, 1), make([]impl.Part, 24), make([]impl.Part, 5000),
		// A part that names itself, or one behind it.
		form(foMany(0)), form(foNot(0)), form(foThen(0, 0)), form(foEither(0, 0)), form(a, foMany(1)), form(a, foNot(1)), form(a, b, foThen(0, 2)), form(a, b, foThen(2, 1)), form(a, b, foEither(2, 1)), form(a, b, foEither(0, 2)),
		form(foMany(1), a), form(foNot(1), a), form(foMany(1), foMany(0)), form(foThen(1, 2), a, b), form(a, foMany(2), foMany(1)), form(a, foNot(2), foNot(1)), form(a, foThen(0, 2), b), form(a, foEither(2, 0), b, foMany(1)),
		// One that no part names.
		form(a, b), form(a, a), form(foNone(), foNone()), form(a, b, foMany(0)), form(a, b, foMany(1)), form(a, b, foNot(0)), form(a, b, b, foThen(0, 1)), form(a, b, b, foThen(1, 2)), form(a, foMany(0), b), form(a, b, foThen(0, 1), b), form(a, foNot(0), foMany(0)),
		// One that two name, or one names twice.
		form(a, foMany(0), foThen(0, 1)), form(a, foMany(0), foEither(1, 0)), form(a, b, foThen(0, 1), foThen(1, 2)), form(a, foMany(0), foMany(0), foThen(1, 2)), form(a, foNot(0), foNot(0), foEither(2, 1)),
		form(a, foThen(0, 0)), form(a, foEither(0, 0)), form(a, b, foThen(0, 0)), form(a, b, foThen(1, 1)), form(a, b, foEither(1, 1)), form(a, foMany(0), foThen(1, 1)), form(a, foThen(0, 0), foMany(1)),
	}
	for _, wrong := range badParts() {
		for _, at := range []int{0, 1, 5, 23} {
			f := chainForm(at)
			out = append(out, append(slices.Clone(f), wrong))
			if at < 23 {
				out = append(out, append(f, wrong, foMany(at)))
			}
		}
		out = append(out, form(wrong, a, foThen(0, 1)), form(a, wrong, foEither(0, 1)), form(a, b, wrong))
	}
	return out
}

func TestFormsHaveTheirLimits(t *testing.T) {
	if impl.MaxForm != 24 {
		t.Error(impl.MaxForm)
	}
	kinds := []int{impl.FoNone, impl.FoEmpty, impl.FoLetter, impl.FoAny, impl.FoThen, impl.FoEither, impl.FoMany, impl.FoNot}
	if !slices.Equal(kinds, []int{1, 2, 3, 4, 5, 6, 7, 8}) {
		t.Error(kinds)
	}
}

func TestGoodFormTellsAsSaid(t *testing.T) {
	for _, f := range goodForms() {
		if !impl.GoodForm(f) {
			t.Errorf("refused: %v", f)
		}
	}
	for _, f := range badForms() {
		if impl.GoodForm(f) {
			t.Errorf("taken: %v", f)
		}
	}
	for parts := range 60 {
		if impl.GoodForm(chainForm(parts)) != (parts >= 1 && parts <= 24) {
			t.Error(parts, "parts")
		}
	}
}

func isPlainPart(x impl.Part) bool {
	switch x.Kind {
	case impl.FoNone, impl.FoEmpty, impl.FoAny:
		return x.Text == "" && x.A == 0 && x.B == 0
	case impl.FoLetter:
		return len(x.Text) == 1 && strings.Contains("abcdefghijklmnopqrstuvwxyz", x.Text) && x.A == 0 && x.B == 0
	case impl.FoThen, impl.FoEither:
		return x.Text == ""
	case impl.FoMany, impl.FoNot:
		return x.Text == "" && x.B == 0
	}
	return false
}

// walkForm goes down from a part and writes down each one that it comes by; false where a part is named that is not ahead.
func walkForm(f []impl.Part, part int, met []int) ([]int, bool) {
	x := f[part]
	var named []int
	switch x.Kind {
	case impl.FoThen, impl.FoEither:
		named = []int{x.A, x.B}
	case impl.FoMany, impl.FoNot:
		named = []int{x.A}
	}
	ok := true
	for _, n := range named {
		if n < 0 || n >= part {
			return nil, false
		}
		if met, ok = walkForm(f, n, met); !ok {
			return nil, false
		}
	}
	return append(met, part), true
}

// A form is good just if one comes by each part once, down from the last.
func TestGoodFormIsATree(t *testing.T) {
	r := rand.New(rand.NewSource(52))
	good := 0
	for range 300000 {
		f := make([]impl.Part, 1+r.Intn(4))
		for i := range f {
			f[i] = form(foNone(), foEmpty(), foLetter("a"), foAny(), foThen(0, 0), foEither(0, 0), foMany(0), foNot(0), impl.Part{}, impl.Part{Kind: 9})[r.Intn(10)]
			if f[i].Kind > 4 {
				f[i].A = r.Intn(i+3) - 1
			}
			if f[i].Kind > 4 && f[i].Kind < 7 {
				f[i].B = r.Intn(i+3) - 1
			}
			switch r.Intn(80) {
			case 0:
				f[i].Text = string("abAz"[r.Intn(4)])
			case 1:
				f[i].A++
			case 2:
				f[i].B++
			}
		}
		want := true
		for _, x := range f {
			want = want && isPlainPart(x)
		}
		if met, ok := walkForm(f, len(f)-1, nil); !ok || !slices.Equal(slices.Sorted(slices.Values(met)), rising(0, 1, len(f))) {
			want = false
		}
		if impl.GoodForm(f) != want {
			t.Fatalf("%v: %v", f, !want)
		}
		if want {
			good++
		}
	}
	if good < 10000 {
		t.Error("too few are good:", good)
	}
}

// plainFormText is the text by what the parts name, down from the last.
func plainFormText(f []impl.Part, part int) string {
	x := f[part]
	switch x.Kind {
	case impl.FoNone:
		return "!"
	case impl.FoEmpty:
		return "%"
	case impl.FoLetter:
		return x.Text
	case impl.FoAny:
		return "."
	case impl.FoThen:
		return "(" + plainFormText(f, x.A) + plainFormText(f, x.B) + ")"
	case impl.FoEither:
		return "[" + plainFormText(f, x.A) + "|" + plainFormText(f, x.B) + "]"
	case impl.FoMany:
		return plainFormText(f, x.A) + "*"
	}
	return plainFormText(f, x.A) + "^"
}

// partsIn counts by a form's text: each part has just one byte that is neither `)`, `|` nor `]`.
func partsIn(text string) int {
	return len(strings.NewReplacer(")", "", "|", "", "]", "").Replace(text))
}

// firstForm is where the form ends that a text begins with.
func firstForm(text string) int {
	open, end := 0, 0
	for end == 0 || open > 0 {
		switch text[end] {
		case '(', '[':
			open++
		case ')', ']':
			open--
		}
		end++
	}
	for end < len(text) && (text[end] == '*' || text[end] == '^') {
		end++
	}
	return end
}

// splitForm takes a form's text apart: its last byte, or its only one, tells the kind.
func splitForm(text string) (kind byte, a string, b string) {
	last := len(text) - 1
	kind = text[last]
	switch kind {
	case '*', '^':
		return kind, text[:last], ""
	case ')', ']':
		end := 1 + firstForm(text[1:])
		return kind, text[1:end], strings.TrimPrefix(text[end:last], "|")
	}
	return kind, "", ""
}

// plainFits asks by the form's text, cut by cut; what it found once it keeps in known.
func plainFits(text string, s string, known map[[2]string]bool) bool {
	key := [2]string{text, s}
	if is, ok := known[key]; ok {
		return is
	}
	is := false
	switch kind, a, b := splitForm(text); kind {
	case '!':
	case '%':
		is = s == ""
	case '.':
		is = len(s) == 1
	case '^':
		is = !plainFits(a, s, known)
	case ']':
		is = plainFits(a, s, known) || plainFits(b, s, known)
	case ')':
		for i := range len(s) + 1 {
			is = is || plainFits(a, s[:i], known) && plainFits(b, s[i:], known)
		}
	case '*':
		is = s == ""
		for i := 1; i <= len(s); i++ {
			is = is || plainFits(a, s[:i], known) && plainFits(text, s[i:], known)
		}
	default:
		is = s == text
	}
	known[key] = is
	return is
}

func plainThen(a string, b string) string {
	switch {
	case a == "!" || b == "!":
		return "!"
	case a == "%":
		return b
	case b == "%":
		return a
	}
	return "(" + a + b + ")"
}

func plainEither(a string, b string) string {
	switch {
	case a == "!":
		return b
	case b == "!":
		return a
	}
	return "[" + a + "|" + b + "]"
}

// plainLeft is the text of what is left of the form with a text.
func plainLeft(text string, letter string) string {
	switch kind, a, b := splitForm(text); kind {
	case '!', '%':
		return "!"
	case '.':
		return "%"
	case '^':
		return plainLeft(a, letter) + "^"
	case '*':
		return plainThen(plainLeft(a, letter), text)
	case ']':
		return plainEither(plainLeft(a, letter), plainLeft(b, letter))
	case ')':
		left := plainThen(plainLeft(a, letter), b)
		if plainFits(a, "", map[[2]string]bool{}) {
			left = plainEither(left, plainLeft(b, letter))
		}
		return left
	}
	if text == letter {
		return "%"
	}
	return "!"
}

// readGood reads a text that must be a form's.
func readGood(t *testing.T, text string) []impl.Part {
	t.Helper()
	f, at, ok := impl.ReadForm(text)
	if !ok || at != 0 || !impl.GoodForm(f) {
		t.Fatalf("%q: %v %d %v", text, f, at, ok)
	}
	return f
}

func TestReadFormTellsAsSaid(t *testing.T) {
	a, b := foLetter("a"), foLetter("b")
	for _, c := range []struct {
		s    string
		want []impl.Part
	}{
		{"!", form(foNone())}, {"%", form(foEmpty())}, {"a", form(a)}, {"z", form(foLetter("z"))}, {".", form(foAny())},
		{"a*", form(a, foMany(0))}, {"a^", form(a, foNot(0))}, {"a*^", form(a, foMany(0), foNot(1))}, {"a^*", form(a, foNot(0), foMany(1))}, {"a**", form(a, foMany(0), foMany(1))}, {"a^^", form(a, foNot(0), foNot(1))},
		{"(ab)", form(a, b, foThen(0, 1))}, {"(ba)", form(b, a, foThen(0, 1))}, {"[a|b]", form(a, b, foEither(0, 1))}, {"(!%)", form(foNone(), foEmpty(), foThen(0, 1))}, {"[!|.]", form(foNone(), foAny(), foEither(0, 1))},
		{"(a*b)", form(a, foMany(0), b, foThen(1, 2))}, {"(ab*)", form(a, b, foMany(1), foThen(0, 2))}, {"(ab)*", form(a, b, foThen(0, 1), foMany(2))},
		{"((ab)[b|a])", form(a, b, foThen(0, 1), b, a, foEither(3, 4), foThen(2, 5))}, {"[a|(ab)^]", form(a, a, b, foThen(1, 2), foNot(3), foEither(0, 4))},
	} {
		if f, at, ok := impl.ReadForm(c.s); !slices.Equal(f, c.want) || at != 0 || !ok {
			t.Errorf("%q: %v %d %v", c.s, f, at, ok)
		}
		if s, ok := impl.FormText(c.want); s != c.s || !ok {
			t.Errorf("%v: %q %v", c.want, s, ok)
		}
	}
}

func TestReadFormTellsTheFirstFault(t *testing.T) {
	for _, c := range []struct {
		s  string
		at int
	}{
		{"", 0}, {"*", 0}, {"^", 0}, {")", 0}, {"]", 0}, {"|", 0}, {"A", 0}, {"1", 0}, {" ", 0}, {"\x00", 0}, {"\xff", 0}, {"é", 0}, {"`", 0}, {"{", 0}, {" a", 0},
		{"(", 1}, {"[", 1}, {"(a", 2}, {"[a", 2}, {"(a*", 3}, {"(ab", 3}, {"(ab*", 4}, {"[a|", 3}, {"[a|b", 4}, {"[a|b^", 5}, {"((ab)", 5}, {"((ab)c", 6},
		{"aa", 1}, {"a!", 1}, {"a.", 1}, {"a(", 1}, {"a[", 1}, {"a)", 1}, {"a]", 1}, {"a|", 1}, {"a*a", 2}, {"a ", 1}, {"(ab)(ab)", 4}, {"(ab)c", 4}, {"(ab))", 4}, {"[a|b]]", 5}, {"[a|b]|", 5}, {"a\x00", 1},
		{"()", 1}, {"(a)", 2}, {"(a*)", 3}, {"(abc)", 3}, {"(ab]", 3}, {"(ab|", 3}, {"(a|b)", 2}, {"(*a)", 1}, {"(^a)", 1}, {"(a]", 2},
		{"[]", 1}, {"[|", 1}, {"[a]", 2}, {"[ab]", 2}, {"[a||", 3}, {"[a|]", 3}, {"[a|b)", 4}, {"[a|b|", 4}, {"[a|bc]", 4}, {"[a)", 2}, {"[a|*", 3}, {"[a*^*b", 5}, {"((ab)(ab)(ab))", 9}, {"[(ab)|[a|b)]", 10},
		// Beyond a fault the rest is not looked at, nor how many parts there are.
		{strings.Repeat("a", 120), 1}, {"(" + strings.Repeat("a", 119), 3}, {"a" + strings.Repeat("*", 118) + "a", 119}, {"A" + strings.Repeat("(", 100), 0},
	} {
		if f, at, ok := impl.ReadForm(c.s); len(f) != 0 || at != c.at || ok {
			t.Errorf("%q: %v %d %v", c.s, f, at, ok)
		}
	}
}

func TestReadFormHasItsLimits(t *testing.T) {
	stars := func(many int) string { return "a" + strings.Repeat("*", many) }
	for many := range 20 {
		f := readGood(t, stars(many))
		if len(f) != many+1 {
			t.Error(many, f)
		}
	}
	for _, c := range []struct {
		s  string
		at int
	}{
		{stars(24), 25}, {stars(25), 26}, {stars(118), 119}, {stars(119), 120}, {stars(120), 120}, {stars(121), 120}, {stars(5000), 120},
		{strings.Repeat("A", 120), 0}, {strings.Repeat("A", 121), 120}, {strings.Repeat("a", 121), 120}, {strings.Repeat(")", 5000), 120}, {"((((a" + strings.Repeat("*", 116), 120},
		{strings.Repeat("(", 59), 59}, {strings.Repeat("(", 60), 60}, {strings.Repeat("(", 61), 61}, {strings.Repeat("(", 62), 61}, {strings.Repeat("(", 120), 61}, {strings.Repeat("(", 121), 120}, {strings.Repeat("[", 60), 60}, {strings.Repeat("[", 61), 61}, {strings.Repeat("[", 62), 61}, {strings.Repeat("[", 120), 61},
		{strings.Repeat("(", 60) + "a", 61}, {strings.Repeat("(", 60) + "ab", 62}, {strings.Repeat("(", 60) + "ab)", 63}, {strings.Repeat("(", 60) + "A", 60}, {strings.Repeat("(", 61) + "a", 61}, {strings.Repeat("(", 61) + "A", 61}, {strings.Repeat("[(", 31), 61}, {strings.Repeat("([", 30) + "a|", 62}, {strings.Repeat("([", 30) + "[", 61},
		// Brackets that are closed again are not open within another.
		{"((ab)" + strings.Repeat("(", 59), 64}, {"((ab)" + strings.Repeat("(", 60), 65}, {"((ab)" + strings.Repeat("(", 61), 65}, {"((ab)" + strings.Repeat("[", 60) + "a", 65}, {"(a" + strings.Repeat("(", 60), 62}, {"(a" + strings.Repeat("(", 60) + "a", 62}, {"[a|" + strings.Repeat("(", 61), 63}, {"(((ab)(ab))" + strings.Repeat("[", 60) + "a", 71},
		{strings.Repeat("(ab)", 30), 4}, {strings.Repeat("(a", 40) + "a" + strings.Repeat(")", 39), 120}, {strings.Repeat("(a", 38) + "a" + strings.Repeat(")", 38), 115}, {strings.Repeat("[a|", 29) + "a" + strings.Repeat("]", 29), 117}, {strings.Repeat("[a|", 29) + "a" + strings.Repeat("]", 30), 117},
	} {
		if f, at, ok := impl.ReadForm(c.s); len(f) != 0 || at != c.at || ok {
			t.Errorf("%q (%d): %v %d %v", c.s, len(c.s), f, at, ok)
		}
	}
	for _, s := range []string{stars(23), strings.Repeat("(a", 11) + "a" + strings.Repeat(")", 11), strings.Repeat("(", 11) + "b*" + strings.Repeat("a)", 11), strings.Repeat("[a|", 11) + "a" + strings.Repeat("]", 11) + "^"} {
		if f := readGood(t, s); len(f) != partsIn(s) || len(f) < 23 {
			t.Errorf("%q: %v", s, f)
		}
	}
	for _, s := range []string{strings.Repeat("(a", 12) + "a" + strings.Repeat(")", 12), strings.Repeat("(", 11) + "b*" + strings.Repeat("a)", 11) + "*", strings.Repeat("[a|", 12) + "a" + strings.Repeat("]", 12)} {
		if f, at, ok := impl.ReadForm(s); len(f) != 0 || at != len(s) || ok {
			t.Errorf("%q: %v %d %v", s, f, at, ok)
		}
	}
}

// plainReadForm keeps what must still come, the next one last, by its bytes: F stands for a form, $ for the end. It tells the place, and whether all is read.
func plainReadForm(s string) (int, bool) {
	if len(s) > 120 {
		return 120, false
	}
	due, whole := "$F", false
	for i := range len(s) {
		c, next, rest := s[i], due[len(due)-1], due[:len(due)-1]
		switch {
		case whole && (c == '*' || c == '^'):
		case c == next && strings.IndexByte(")]|", c) >= 0:
			due, whole = rest, c != '|'
		case next != 'F':
			return i, false
		case c == '(':
			due, whole = rest+")FF", false
		case c == '[':
			due, whole = rest+"]F|F", false
		case strings.IndexByte("!%.abcdefghijklmnopqrstuvwxyz", c) >= 0:
			due, whole = rest, true
		default:
			return i, false
		}
		if strings.Count(due, ")")+strings.Count(due, "]") > 60 {
			return i + 1, false
		}
	}
	return len(s), due == "$" && partsIn(s) <= 24
}

func checkRead(t *testing.T, s string) bool {
	t.Helper()
	wantAt, want := plainReadForm(s)
	f, at, ok := impl.ReadForm(s)
	if ok != want || !ok && (at != wantAt || len(f) != 0) {
		t.Fatalf("%q: %v %d %v, not %d %v", s, f, at, ok, wantAt, want)
	}
	if !ok {
		return false
	}
	met, _ := walkForm(f, len(f)-1, nil)
	if at != 0 || !impl.GoodForm(f) || plainFormText(f, len(f)-1) != s || !slices.Equal(met, rising(0, 1, len(f))) {
		t.Fatalf("%q: %v %d", s, f, at)
	}
	if back, ok := impl.FormText(f); back != s || !ok {
		t.Fatalf("%q: %v, back %q %v", s, f, back, ok)
	}
	return true
}

func TestReadFormReadsJustTheTexts(t *testing.T) {
	read := 0
	for _, s := range textsOf("a%!.*^()[]|$", 5) {
		if checkRead(t, s) {
			read++
		}
	}
	r := rand.New(rand.NewSource(53))
	for _, f := range goodForms() {
		whole := plainFormText(f, len(f)-1)
		if !checkRead(t, whole) {
			t.Fatalf("%q", whole)
		}
		for i := range len(whole) {
			checkRead(t, whole[:i])
			checkRead(t, whole[:i]+whole[i+1:])
			for range 4 {
				c := string("az%!.*^()[]|A1 \xff$F"[r.Intn(18)])
				checkRead(t, whole[:i]+c+whole[i+1:])
				checkRead(t, whole[:i]+c+whole[i:])
			}
		}
	}
	for range 2000 {
		s := ""
		for range 1 + r.Intn(130) {
			// Mostly a byte that can stand there is put on: so the texts come far, and deep.
			next := s + string("(((([[[a|*)]"[r.Intn(12)])
			if at, _ := plainReadForm(next); at == len(next) || r.Intn(50) == 0 {
				s = next
			}
			checkRead(t, s)
		}
	}
	if read < 200 {
		t.Error("too few are read:", read)
	}
}

func TestFormTextTellsAsSaid(t *testing.T) {
	for _, f := range goodForms() {
		s, ok := impl.FormText(f)
		if s != plainFormText(f, len(f)-1) || !ok {
			t.Errorf("%v: %q %v", f, s, ok)
		}
		if back := readGood(t, s); len(back) != len(f) {
			t.Errorf("%v: %q, back %v", f, s, back)
		}
	}
}

func TestHasEmptyTellsAsSaid(t *testing.T) {
	for text, want := range map[string]bool{
		"!": false, "%": true, "a": false, ".": false, "a*": true, "!*": true, "%*": true, "a**": true, "a^": true, "%^": false, "!^": true, "a*^": false, "a^^": false, "%^^": true,
		"(%%)": true, "(%a)": false, "(a%)": false, "(a*b*)": true, "(a*b)": false, "(!%)": false, "[%|a]": true, "[a|%]": true, "[a|b]": false, "[!|%]": true, "[%|%]": true, "([a|%]%)": true, "(a^b^)": true,
	} {
		if is, ok := impl.HasEmpty(readGood(t, text)); is != want || !ok {
			t.Errorf("%q: %v %v", text, is, ok)
		}
	}
	for _, f := range goodForms() {
		is, ok := impl.HasEmpty(f)
		fits, _ := impl.FitsForm(f, "")
		if !ok || is != fits || is != plainFits(plainFormText(f, len(f)-1), "", map[[2]string]bool{}) {
			t.Errorf("%v: %v %v, fits %v", f, is, ok, fits)
		}
	}
}

func TestFitsFormTellsAsSaid(t *testing.T) {
	for _, c := range []struct {
		text string
		fit  string
		not  string
	}{
		{"!", "", ",a,aa"}, {"%", ",", "a,aa"}, {"a", "a", ",b,aa,ab"}, {".", "a,b,z", ",aa"}, {"z", "z", ",a,zz"},
		{"a*", ",a,aa,aaaaaaaaaaaa", "b,ab,ba,aaaaaaaaaaab,baaaaaaaaaaa"}, {".*", ",a,abcdefghijkl,zzzzzzzzzzzz", ""}, {"!*", ",", "a,b"}, {"%*", ",", "a,b"}, {"a**", ",a,aa", "b,ab"}, {"[%|a]*", ",a,aa,aaa", "b,aab"},
		{"a^", ",b,aa,ab,zzzzzzzzzzzz", "a"}, {"a^^", "a", ",b,aa"}, {"!^", ",a,ab", ""}, {"%^", "a,ab", ","}, {".^", ",aa,aaa", "a,z"}, {".*^", "", ",a,ab"}, {"a*^", "b,ab,aab", ",a,aa"}, {"a^*", ",b,aa,ab", "a"},
		{"(ab)", "ab", ",a,b,ba,aba,abab"}, {"(a!)", "", ",a,aa"}, {"(!a)", "", ",a,aa"}, {"(%a)", "a", ",aa"}, {"(a%)", "a", ",aa"}, {"(a*a*)", ",a,aa", "b,ab"}, {"(a*b)", "b,ab,aab", ",a,ba,bb"}, {"(.*b)", "b,ab,bb,abab,aaaaaaaaaaab", ",a,ba,aaaaaaaaaaaa"},
		{"[a|b]", "a,b", ",ab,aa,c"}, {"[!|b]", "b", ",a"}, {"[a|!]", "a", ",b"}, {"[a|%]", ",a", "aa,b"}, {"(ab)*", ",ab,abab,abababababab", "a,b,aba,ba,abababababaa"},
		{"((.*(ab))^(ba))", "ba,aba,bba", ",a,b,ab,abba"}, {"((a*b)*a*)", ",a,b,ab,ba,abba", "c,abc"}, {"([a|%]([a|%][a|%]))", ",a,aa,aaa", "aaaa,b"},
	} {
		f := readGood(t, c.text)
		for _, s := range strings.Split(c.fit, ",") {
			if is, ok := impl.FitsForm(f, s); c.fit != "" && !is || !ok {
				t.Errorf("%q does not fit %q", s, c.text)
			}
		}
		for _, s := range strings.Split(c.not, ",") {
			if is, ok := impl.FitsForm(f, s); c.not != "" && is || !ok {
				t.Errorf("%q fits %q", s, c.text)
			}
		}
	}
}

// anyText mostly has letters that forms here have.
func anyText(r *rand.Rand, long int) string {
	var s strings.Builder
	for range long {
		s.WriteByte("aaaaabbbbcz"[r.Intn(11)])
	}
	return s.String()
}

func TestFitsFormTellsWhatFits(t *testing.T) {
	r := rand.New(rand.NewSource(54))
	short := textsOf("abc", 4)
	fit, not := 0, 0
	for _, f := range goodForms() {
		text := plainFormText(f, len(f)-1)
		known := map[[2]string]bool{}
		texts := short
		for long := range 13 {
			texts = append(texts[:len(texts):len(texts)], anyText(r, long), strings.Repeat("a", long), strings.Repeat("ab", 6)[:long])
		}
		for _, s := range texts {
			is, ok := impl.FitsForm(f, s)
			if is != plainFits(text, s, known) || !ok {
				t.Fatalf("%q, %q: %v %v", text, s, is, ok)
			}
			if is {
				fit++
			} else {
				not++
			}
		}
	}
	if fit < 10000 || not < 10000 {
		t.Error("too few of one kind:", fit, not)
	}
}

func badTexts() []string {
	out := []string{"A", "Z", "1", " ", "`", "{", "\x00", "\x80", "\xff", "é", "a ", " a", "aAa", "ab1", "aaaaaaaaaaa1", "1aaaaaaaaaaa", "aaaaaaaaaaaa1", "(ab)", "*", "a*", "\xe1"}
	for _, long := range []int{13, 14, 24, 65, 5000} {
		out = append(out, strings.Repeat("a", long), strings.Repeat("z", long))
	}
	return out
}

func TestTextsAreAtMostTwelveLetters(t *testing.T) {
	for _, text := range []string{".*", "!^", "a*", "!", "%"} {
		f := readGood(t, text)
		for long := range 40 {
			for _, c := range "amz" {
				s := strings.Repeat(string(c), long)
				fit := long <= 12 && (text == ".*" || text == "!^" || text == "a*" && (c == 'a' || long == 0) || text == "%" && long == 0)
				if is, ok := impl.FitsForm(f, s); is != fit || ok != (long <= 12) {
					t.Errorf("%q, %q: %v %v", text, s, is, ok)
				}
			}
		}
		for _, s := range badTexts() {
			if is, ok := impl.FitsForm(f, s); is || ok {
				t.Errorf("%q, %q: %v %v", text, s, is, ok)
			}
		}
	}
}

func TestWordsOfTellsAsSaid(t *testing.T) {
	for _, c := range []struct {
		text string
		long int
		want string
	}{
		{"!", 3, ""}, {"%", 0, ","}, {"%", 3, ","}, {"a", 0, ""}, {"a", 1, "a"}, {"a", 3, "a"}, {"c", 3, ""}, {".", 0, ""}, {".", 1, "a,b"}, {".", 3, "a,b"},
		{".*", 0, ","}, {".*", 1, ",a,b"}, {".*", 2, ",a,b,aa,ab,ba,bb"}, {".*", 3, ",a,b,aa,ab,ba,bb,aaa,aab,aba,abb,baa,bab,bba,bbb"}, {"a^", 2, ",b,aa,ab,ba,bb"},
		{"(ab)*", 3, ",ab"}, {"(ab)*", 1, ","}, {"[b|(ab)]", 2, "b,ab"}, {"[(ba)|[b|(aa)]]", 3, "b,aa,ba"}, {"(.*a)", 2, "a,aa,ba"}, {"[c|a]", 3, "a"}, {"(.(.(..)))", 3, ""},
	} {
		got, ok := impl.WordsOf(readGood(t, c.text), c.long)
		if s := strings.Join(got, ","); s != strings.TrimSuffix(c.want, ",") && s != c.want || (len(got) == 0) != (c.want == "") || !ok {
			t.Errorf("%q, %d: %q %v", c.text, c.long, got, ok)
		}
	}
	for _, f := range goodForms() {
		for long := range 4 {
			var want []string
			for _, s := range textsOf("ab", long) {
				if is, _ := impl.FitsForm(f, s); is {
					want = append(want, s)
				}
			}
			if got, ok := impl.WordsOf(f, long); !slices.Equal(got, want) || !ok {
				t.Errorf("%v, %d: %q %v, not %q", f, long, got, ok, want)
			}
		}
		for _, long := range append(noNumbers(), -1, 4, 5, 12, 64) {
			if got, ok := impl.WordsOf(f, long); len(got) != 0 || ok {
				t.Errorf("%v, %d: %q %v", f, long, got, ok)
			}
		}
	}
}

func TestLeftOfTellsAsSaid(t *testing.T) {
	for _, c := range []struct {
		text string
		by   byte
		want string
	}{
		{"!", 'a', "!"}, {"%", 'a', "!"}, {"a", 'a', "%"}, {"a", 'b', "!"}, {"z", 'z', "%"}, {"z", 'a', "!"}, {".", 'a', "%"}, {".", 'z', "%"},
		{"a*", 'a', "a*"}, {"a*", 'b', "!"}, {"%*", 'a', "!"}, {"!*", 'a', "!"}, {".*", 'q', ".*"}, {"a**", 'a', "(a*a**)"}, {"(ab)*", 'a', "(b(ab)*)"}, {"(ab)*", 'b', "!"}, {"[%|a]*", 'a', "[%|a]*"}, {"(a*b*)*", 'b', "(b*(a*b*)*)"},
		{"a^", 'a', "%^"}, {"a^", 'b', "!^"}, {"a^^", 'a', "%^^"}, {"a^^", 'b', "!^^"}, {"!^", 'a', "!^"}, {"%^", 'a', "!^"}, {"a*^", 'a', "a*^"}, {"a^*", 'a', "(%^a^*)"},
		// Nothing then anything is nothing; empty then anything is that.
		{"(ab)", 'a', "b"}, {"(ab)", 'b', "!"}, {"(a!)", 'a', "!"}, {"(a%)", 'a', "%"}, {"((ab)%)", 'a', "b"}, {"((ab)!)", 'a', "!"}, {"(!a)", 'a', "!"}, {"(%a)", 'a', "%"}, {"(%a)", 'b', "!"}, {"(%%)", 'a', "!"}, {"(%!)", 'a', "!"}, {"(!%)", 'a', "!"}, {"(a(bc))", 'a', "(bc)"}, {"((ab)c)", 'a', "(bc)"},
		{"(a*a)", 'a', "[(a*a)|%]"}, {"(a*b)", 'a', "(a*b)"}, {"(a*b)", 'b', "%"}, {"(a*b)", 'c', "!"}, {"(a*b*)", 'a', "(a*b*)"}, {"(a*b*)", 'b', "b*"}, {"(a*.)", 'a', "[(a*.)|%]"}, {"([a|%](ab))", 'a', "[(ab)|b]"}, {"(a*!)", 'a', "!"}, {"(a*%)", 'a', "a*"}, {"(a^a)", 'a', "[(%^a)|%]"}, {"(a^b)", 'a', "(%^b)"},
		{"[a|b]", 'a', "%"}, {"[a|b]", 'b', "%"}, {"[a|b]", 'c', "!"}, {"[a|a]", 'a', "[%|%]"}, {"[(ab)|(ac)]", 'a', "[b|c]"}, {"[!|a]", 'a', "%"}, {"[a|!]", 'a', "%"}, {"[!|!]", 'a', "!"}, {"[a*|b]", 'a', "a*"}, {"[b|a*]", 'a', "a*"}, {"[!|(ab)]", 'a', "b"}, {"[(a!)|(ab)]", 'a', "b"},
		// What is not made but taken over stays as it is, and so does all that is not named.
		{"(a(%b))", 'a', "(%b)"}, {"(a(!b))", 'a', "(!b)"}, {"(a[!|b])", 'a', "[!|b]"}, {"((ab)(c%))", 'a', "(b(c%))"}, {"(a%*)", 'a', "%*"}, {"(a!*)", 'a', "!*"}, {"(a!^)", 'a', "!^"}, {"[(a%)|(a%)]", 'a', "[%|%]"}, {"((ab)!*)", 'a', "(b!*)"}, {"((a%)*(!b))", 'a', "((a%)*(!b))"}, {"[a|b]^", 'a', "%^"}, {"(a^!^)", 'b', "[(!^!^)|!^]"},
	} {
		f, ok := impl.LeftOf(readGood(t, c.text), c.by)
		if s, _ := impl.FormText(f); s != c.want || !ok {
			t.Errorf("%q by %c: %v %q %v", c.text, c.by, f, s, ok)
		}
	}
}

// checkLeft holds what is left against the texts; it tells whether there is such a form.
func checkLeft(t *testing.T, f []impl.Part, letter byte) bool {
	t.Helper()
	text := plainFormText(f, len(f)-1)
	want := plainLeft(text, string(rune(letter)))
	left, ok := impl.LeftOf(f, letter)
	if ok != (partsIn(want) <= 24) {
		t.Fatalf("%q by %c: %v %v, of %d parts", text, letter, left, ok, partsIn(want))
	}
	if !ok {
		if len(left) != 0 {
			t.Fatalf("%q by %c: %v beside false", text, letter, left)
		}
		return false
	}
	met, _ := walkForm(left, len(left)-1, nil)
	if !impl.GoodForm(left) || plainFormText(left, len(left)-1) != want || !slices.Equal(met, rising(0, 1, len(left))) {
		t.Fatalf("%q by %c: %v, not %q", text, letter, left, want)
	}
	return true
}

func TestLeftOfMakesItsPartsInOrder(t *testing.T) {
	left, none := 0, 0
	for _, f := range goodForms() {
		for _, letter := range []byte("abcz") {
			if checkLeft(t, f, letter) {
				left++
			} else {
				none++
			}
		}
	}
	if left < 1000 || none < 20 {
		t.Error("too few of one kind:", left, none)
	}
	// B's parts stand ahead of A's here, and must not in what is left.
	f := form(foLetter("c"), foLetter("b"), foLetter("a"), foThen(2, 1), foThen(3, 0), foMany(4))
	want := form(foLetter("b"), foLetter("c"), foThen(0, 1), foLetter("a"), foLetter("b"), foThen(3, 4), foLetter("c"), foThen(5, 6), foMany(7), foThen(2, 8))
	if left, ok := impl.LeftOf(f, 'a'); !slices.Equal(left, want) || !ok {
		t.Error(left, ok)
	}
}

func TestLeftOfStopsAtMaxForm(t *testing.T) {
	// Behind `a` there are the rest of these letters, and all of it again: so the parts are about twice as many.
	row := func(letters string) string {
		return strings.Repeat("(", len(letters)-1) + letters[:1] + strings.Join(strings.Split(letters[1:], ""), ")") + ")*"
	}
	for _, c := range []struct {
		text  string
		parts int
	}{
		{row("abc"), 10}, {row("abcdef"), 22}, {row("abcdefg"), 26}, {row("abcdefghijkl"), 46}, {"(" + row("abcdef") + "z)", 24}, {"(" + row("abcdef") + "%)", 22}, {"((" + row("abcdef") + "z)z)", 26}, {"((" + row("abcdef") + "z)*z)", 36},
		{row("abcdef") + "^", 23}, {row("abcdef") + "^^", 24}, {row("abcdef") + "^^^", 25}, {"[" + row("abcdef") + "|z^]", 25}, {"[" + row("abcdef") + "|z]", 22}, {"[" + row("abcdef") + "|a]", 24}, {"[" + row("abcdef") + "|[a|a]]", 26},
		// On the way these have more than MaxForm parts, and in the end one.
		{"(" + row("abcdefghij") + "!)", 1}, {"[(" + row("abcdefgh") + "!)|%]", 1}, {"(!" + row("abcdefghij") + ")", 1},
	} {
		f := readGood(t, c.text)
		left, ok := impl.LeftOf(f, 'a')
		if ok != (c.parts <= 24) || ok && len(left) != c.parts || !ok && len(left) != 0 {
			t.Errorf("%q: %d %v, not %d", c.text, len(left), ok, c.parts)
		}
		if checkLeft(t, f, 'a') != ok {
			t.Error(c.text)
		}
		if none, ok := impl.LeftOf(f, 'y'); !ok || c.text[0] == '(' && !strings.ContainsAny(c.text, "^|") && len(none) != 1 {
			t.Errorf("%q by y: %v %v", c.text, none, ok)
		}
	}
}

func TestLeftOfTakesLettersAlone(t *testing.T) {
	for _, text := range []string{".", "!", "a", "z*", ".^", "(a*.)"} {
		f := readGood(t, text)
		for c := range 256 {
			left, ok := impl.LeftOf(f, byte(c))
			if ok != (c >= 'a' && c <= 'z') || ok != (len(left) > 0) {
				t.Errorf("%q by %d: %v %v", text, c, left, ok)
			}
		}
	}
}

// Promise 5: a text fits a form just if it fits, without its first letter, what is left of the form by that letter.
func TestTextFitsAFormIfItsRestFitsWhatIsLeft(t *testing.T) {
	r := rand.New(rand.NewSource(55))
	short := textsOf("abz", 4)[1:]
	fit, not, deep := 0, 0, 0
	for _, f := range goodForms() {
		texts := short
		for long := 1; long <= 12; long++ {
			texts = append(texts[:len(texts):len(texts)], anyText(r, long), anyText(r, long))
		}
		for _, s := range texts {
			whole, ok := impl.FitsForm(f, s)
			if !ok {
				t.Fatal(f, s)
			}
			left := f
			for i := range len(s) {
				if left, ok = impl.LeftOf(left, s[i]); !ok {
					break
				}
				if is, ok := impl.FitsForm(left, s[i+1:]); is != whole || !ok {
					t.Fatalf("%v, %q: %v, but %v, %q: %v", f, s, whole, left, s[i+1:], is)
				}
				if whole {
					fit++
				} else {
					not++
				}
			}
			if !ok {
				continue
			}
			deep++
			if is, ok := impl.HasEmpty(left); is != whole || !ok {
				t.Fatalf("%v, %q: %v, but at its end %v: %v", f, s, whole, left, is)
			}
		}
	}
	if fit < 10000 || not < 10000 || deep < 10000 {
		t.Error("too few of one kind:", fit, not, deep)
	}
}

func TestNotFormTellsAsSaid(t *testing.T) {
	for _, f := range goodForms() {
		n, ok := impl.NotForm(f)
		if len(f) == 24 {
			if len(n) != 0 || ok {
				t.Errorf("%v: %v %v", f, n, ok)
			}
			continue
		}
		if !slices.Equal(n, append(slices.Clone(f), foNot(len(f)-1))) || !ok || !impl.GoodForm(n) {
			t.Errorf("%v: %v %v", f, n, ok)
		}
		for _, s := range []string{"", "a", "b", "ab", "ba", "aab", "zzz", "abababababab"} {
			is, _ := impl.FitsForm(f, s)
			if not, ok := impl.FitsForm(n, s); not == is || !ok {
				t.Errorf("%v, %q: %v, and not: %v", f, s, is, not)
			}
		}
	}
	f := form(foLetter("a"))
	for parts := 1; parts < 24; parts++ {
		n, ok := impl.NotForm(f)
		if !ok || len(n) != parts+1 {
			t.Fatal(parts, n, ok)
		}
		f = n
	}
	if n, ok := impl.NotForm(f); len(n) != 0 || ok || len(f) != 24 {
		t.Error(n, ok)
	}
}

// refuseForm asks for the zero answer of each function at a form that is not good.
func refuseForm(t *testing.T, f []impl.Part) {
	t.Helper()
	if is, ok := impl.HasEmpty(f); is || ok {
		t.Errorf("HasEmpty(%v): %v %v", f, is, ok)
	}
	if left, ok := impl.LeftOf(f, 'a'); len(left) != 0 || ok {
		t.Errorf("LeftOf(%v): %v %v", f, left, ok)
	}
	if is, ok := impl.FitsForm(f, "a"); is || ok {
		t.Errorf("FitsForm(%v, a): %v %v", f, is, ok)
	}
	if is, ok := impl.FitsForm(f, ""); is || ok {
		t.Errorf("FitsForm(%v, no text): %v %v", f, is, ok)
	}
	if l, ok := impl.WordsOf(f, 3); len(l) != 0 || ok {
		t.Errorf("WordsOf(%v): %v %v", f, l, ok)
	}
	if s, ok := impl.FormText(f); s != "" || ok {
		t.Errorf("FormText(%v): %q %v", f, s, ok)
	}
	if n, ok := impl.NotForm(f); len(n) != 0 || ok {
		t.Errorf("NotForm(%v): %v %v", f, n, ok)
	}
}

func TestFormsRefuse(t *testing.T) {
	for _, f := range badForms() {
		refuseForm(t, f)
	}
}

// Promise 19: whatever a function of this chapter is given, it answers, and all beside false is zero.
func TestFormsAnswerAtAnyArguments(t *testing.T) {
	ints := append(noNumbers(), 0, 1, 2, 3, -1, 23, 24)
	for _, kind := range append(noNumbers(), rising(-1, 1, 12)...) {
		for _, a := range ints {
			for _, b := range ints {
				for _, s := range []string{"", "a", "aa", "\xff"} {
					x := impl.Part{Kind: kind, Text: s, A: a, B: b}
					for _, f := range [][]impl.Part{{x}, {foLetter("a"), x}, {foLetter("a"), foAny(), x}, {x, foMany(0)}, {foEmpty(), x, foThen(0, 1)}} {
						if !impl.GoodForm(f) {
							refuseForm(t, f)
							continue
						}
						text, ok := impl.FormText(f)
						if text != plainFormText(f, len(f)-1) || !ok {
							t.Errorf("FormText(%v): %q %v", f, text, ok)
						}
						checkLeft(t, f, 'a')
					}
				}
			}
		}
	}
	f := form(foAny(), foMany(0))
	for _, s := range textsOf("azA1\x00\x80\xff", 3) {
		want := strings.Trim(s, "az") == "" && !strings.ContainsAny(s, "A1\x00") && !strings.Contains(s, "\x80") && !strings.Contains(s, "\xff")
		if is, ok := impl.FitsForm(f, s); is != want || ok != want {
			t.Errorf("FitsForm(.., %q): %v %v", s, is, ok)
		}
		checkRead(t, s)
	}
	for _, long := range []int{119, 120, 121, 1000, 100000} {
		for _, c := range []string{"a", "(", "[", "*", "|", "\x00", "\xff", "(a", "[a|", "!^", "()"} {
			checkRead(t, strings.Repeat(c, long)[:long])
		}
	}
}

// Promise 19: nothing is written into an argument, nor into what lies behind it in its memory.
func TestFormsWriteIntoNoArgument(t *testing.T) {
	f := form(foLetter("b"), foLetter("a"), foMany(1), foThen(2, 0), foMany(3), impl.Part{Kind: 99}, foNot(-1), foAny())
	was := slices.Clone(f)
	if left, ok := impl.LeftOf(f[:5], 'a'); len(left) != 10 || !ok || !impl.GoodForm(f[:5]) {
		t.Error(left, ok)
	}
	if is, ok := impl.HasEmpty(f[:5]); !is || !ok {
		t.Error(is, ok)
	}
	if is, ok := impl.FitsForm(f[:5], "aabbab"); !is || !ok {
		t.Error(is, ok)
	}
	if l, ok := impl.WordsOf(f[:5], 2); !slices.Equal(l, []string{"", "b", "ab", "bb"}) || !ok {
		t.Error(l, ok)
	}
	if s, ok := impl.FormText(f[:5]); s != "(a*b)*" || !ok {
		t.Error(s, ok)
	}
	if n, ok := impl.NotForm(f[:5]); !slices.Equal(n, append(slices.Clone(was[:5]), foNot(4))) || !ok {
		t.Error(n, ok)
	}
	refuseForm(t, f)
	refuseForm(t, f[:0])
	refuseForm(t, f[:2])
	impl.GoodForm(f)
	if !slices.Equal(f, was) {
		t.Error("written into:", f)
	}
}

func TestFormsAnswerWithNewMemory(t *testing.T) {
	f := append(make([]impl.Part, 0, 40), foLetter("a"), foMany(0), foLetter("b"), foThen(1, 2))
	was := slices.Clone(f)
	for range 3 {
		left, ok := impl.LeftOf(f, 'a')
		if s, _ := impl.FormText(left); s != "(a*b)" || !ok {
			t.Error(left, ok)
		}
		spoil(left, foNone())
		n, ok := impl.NotForm(f)
		if len(n) != 5 || !ok {
			t.Error(n, ok)
		}
		spoil(n, foNone())
		read, _, ok := impl.ReadForm("(a*b)")
		if !slices.Equal(read, was) || !ok {
			t.Error(read, ok)
		}
		spoil(read, foNone())
		words, ok := impl.WordsOf(f, 2)
		if !slices.Equal(words, []string{"b", "ab"}) || !ok {
			t.Error(words, ok)
		}
		spoil(words, "z")
		if !slices.Equal(f, was) {
			t.Error("written into:", f)
		}
	}
	spoil(f[4:], foNone())
	if n, ok := impl.NotForm(f); len(n) != 5 || !ok || f[:5][4] != foNone() {
		t.Error(n, ok, f[:5])
	}
}
