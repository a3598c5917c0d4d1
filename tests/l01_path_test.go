package tests

import (
	"math/rand"
	"regexp"
	"slices"
	"strings"
	"testing"

	"loop.example/g00705/impl"
)

// The patterns say the same as the document's words by another means than the program's.
var (
	plainPattern = regexp.MustCompile(`\A[a-z0-9-]{1,16}(/[a-z0-9-]{1,16}){0,7}\z`)
	globPattern  = regexp.MustCompile(`\A(([a-z0-9-]{1,16}|\+)/){0,7}([a-z0-9-]{1,16}|\+|\*)\z`)
)

func wantPath(text string) bool { return len(text) <= 120 && plainPattern.MatchString(text) }

func wantGlob(text string) bool { return len(text) <= 120 && globPattern.MatchString(text) }

// wantMatch asks a pattern made of the glob; `/*` at its end may fit nothing, with its slash.
func wantMatch(glob string, path string) bool {
	if !wantGlob(glob) || !wantPath(path) {
		return false
	}
	if glob == "*" {
		return true
	}
	head, open := strings.CutSuffix(glob, "/*")
	text := strings.ReplaceAll(head, "+", "[^/]+")
	if open {
		text += "(/.*)?"
	}
	return regexp.MustCompile(`\A` + text + `\z`).MatchString(path)
}

// shapeOf writes a glob as its ranks, so that comparing texts compares them place by place.
func shapeOf(glob string) string {
	shape := ""
	for _, seg := range strings.Split(glob, "/") {
		switch seg {
		case "*":
			shape += "1"
		case "+":
			shape += "2"
		default:
			shape += "3"
		}
	}
	return shape
}

func wantCovers(a string, b string) bool {
	if !wantGlob(a) || !wantGlob(b) {
		return false
	}
	wide, narrow := strings.Split(a, "/"), strings.Split(b, "/")
	for len(wide) > 0 {
		if wide[0] == "*" {
			return true
		}
		if len(narrow) == 0 || narrow[0] == "*" {
			return false
		}
		if wide[0] != "+" && wide[0] != narrow[0] {
			return false
		}
		wide, narrow = wide[1:], narrow[1:]
	}
	return len(narrow) == 0
}

// chains are all lists of 1 to most of the given segments, joined.
func chains(segs []string, most int) []string {
	all := slices.Clone(segs)
	last := segs
	for range most - 1 {
		var longer []string
		for _, head := range last {
			for _, seg := range segs {
				longer = append(longer, head+"/"+seg)
			}
		}
		all = append(all, longer...)
		last = longer
	}
	return all
}

func smallPaths() []string { return chains([]string{"a", "b"}, 4) }

func smallGlobs() []string {
	globs := []string{"*"}
	for _, head := range chains([]string{"a", "b", "+"}, 3) {
		globs = append(globs, head, head+"/*")
	}
	return globs
}

// fullPath has 8 segments and n bytes, for n in 112 .. 135.
func fullPath(n int) string {
	segs := make([]string, 8)
	left := n - 7
	for i := range segs {
		size := min(16, left-(7-i))
		segs[i] = strings.Repeat("x", size)
		left -= size
	}
	return strings.Join(segs, "/")
}

func textOf(segs []string) string { return strings.Join(segs, "/") }

func TestPathLimits(t *testing.T) {
	if impl.MaxPath != 120 || impl.MaxSegs != 8 || impl.MaxList != 200 {
		t.Error("limits")
	}
}

func TestPathOkEdges(t *testing.T) {
	sixteen := strings.Repeat("k", 16)
	cases := []struct {
		text string
		path bool
		glob bool
	}{
		{"a", true, true},
		{"0", true, true},
		{"-", true, true},
		{"--/-9", true, true},
		{"az09-", true, true},
		{sixteen, true, true},
		{sixteen + "k", false, false},
		{"a/" + sixteen, true, true},
		{"a/" + sixteen + "k", false, false},
		{"1/2/3/4/5/6/7/8", true, true},
		{"1/2/3/4/5/6/7/8/9", false, false},
		{"+/+/+/+/+/+/+/*", false, true},
		{"+/+/+/+/+/+/+/+/*", false, false},
		{fullPath(119), true, true},
		{fullPath(120), true, true},
		{fullPath(121), false, false},
		{fullPath(135), false, false},
		{"+", false, true},
		{"*", false, true},
		{"+/*", false, true},
		{"*/+", false, false},
		{"*/*", false, false},
		{"*/a", false, false},
		{"a/+/b", false, true},
		{"a+", false, false},
		{"+a", false, false},
		{"a*", false, false},
		{"++", false, false},
		{"**", false, false},
		{"+*", false, false},
		{"a/**", false, false},
		{"", false, false},
		{"/", false, false},
		{"//", false, false},
		{"/a", false, false},
		{"a/", false, false},
		{"a//b", false, false},
		{"+/", false, false},
		{"*/", false, false},
		{"/*", false, false},
		{"A", false, false},
		{"a b", false, false},
		{"a_b", false, false},
		{"a.b", false, false},
		{"a\n", false, false},
		{"\x00", false, false},
		{"\u00e4", false, false},
		{"\xff", false, false},
		{strings.Repeat("a/", 50000) + "a", false, false},
		{strings.Repeat("a", 100000), false, false},
	}
	for _, c := range cases {
		if impl.PathOk(c.text) != c.path {
			t.Errorf("PathOk(%.40q) is not %v", c.text, c.path)
		}
		if impl.GlobOk(c.text) != c.glob {
			t.Errorf("GlobOk(%.40q) is not %v", c.text, c.glob)
		}
	}
}

func TestPathOkEachByte(t *testing.T) {
	for c := range 256 {
		one := string([]byte{byte(c)})
		for _, text := range []string{one, "a" + one, one + "a", "a" + one + "b", "a/" + one, one + "/a"} {
			if impl.PathOk(text) != wantPath(text) {
				t.Errorf("PathOk(%q) is not %v", text, wantPath(text))
			}
			if impl.GlobOk(text) != wantGlob(text) {
				t.Errorf("GlobOk(%q) is not %v", text, wantGlob(text))
			}
		}
	}
}

func TestPathOkLengths(t *testing.T) {
	for size := range 20 {
		for place := range 8 {
			segs := strings.Split("a/b/c/d/e/f/g/h", "/")
			segs[place] = strings.Repeat("s", size)
			text := textOf(segs)
			if want := 1 <= size && size <= 16; impl.PathOk(text) != want || impl.GlobOk(text) != want {
				t.Errorf("segment of %d bytes at place %d: not %v", size, place, want)
			}
		}
	}
	for n := 112; n <= 135; n++ {
		text := fullPath(n)
		if len(text) != n {
			t.Fatalf("fullPath(%d) has %d bytes", n, len(text))
		}
		glob := text[:strings.LastIndex(text, "/")+1] + "*"
		if impl.PathOk(text) != (n <= 120) || impl.GlobOk(text) != (n <= 120) || impl.GlobOk(glob) != (len(glob) <= 120) {
			t.Errorf("path of %d bytes", n)
		}
	}
}

func TestWildcardsAtEachPlace(t *testing.T) {
	for count := 1; count <= 8; count++ {
		for place := range count {
			segs := strings.Split("a/b/c/d/e/f/g/h", "/")[:count]
			segs[place] = "+"
			if text := textOf(segs); !impl.GlobOk(text) || impl.PathOk(text) {
				t.Errorf("%q", text)
			}
			segs[place] = "*"
			if text := textOf(segs); impl.GlobOk(text) != (place == count-1) || impl.PathOk(text) {
				t.Errorf("%q", text)
			}
		}
	}
}

func TestSplitPath(t *testing.T) {
	for _, text := range append(smallGlobs(), "1/2/3/4/5/6/7/8", fullPath(120), "-/+/*") {
		segs, ok := impl.SplitPath(text)
		if !ok || !slices.Equal(segs, strings.Split(text, "/")) {
			t.Errorf("SplitPath(%q) = %q, %v", text, segs, ok)
		}
	}
	for _, text := range []string{"", "/", "a/", "*/a", "a//b", "A", "1/2/3/4/5/6/7/8/9", fullPath(121)} {
		segs, ok := impl.SplitPath(text)
		if ok || len(segs) != 0 {
			t.Errorf("SplitPath(%q) = %q, %v", text, segs, ok)
		}
	}
}

func TestSplitPathIsNew(t *testing.T) {
	first, _ := impl.SplitPath("a/b/+")
	first[0], first[2] = "x", "y"
	second, _ := impl.SplitPath("a/b/+")
	if textOf(second) != "a/b/+" {
		t.Errorf("a second answer is %q", second)
	}
}

func TestJoinPath(t *testing.T) {
	for _, text := range append(smallGlobs(), "1/2/3/4/5/6/7/8", fullPath(120)) {
		segs := strings.Split(text, "/")
		got, ok := impl.JoinPath(segs)
		if !ok || got != text {
			t.Errorf("JoinPath(%q) = %q, %v", segs, got, ok)
		}
		if textOf(segs) != text {
			t.Errorf("JoinPath changed its list to %q", segs)
		}
	}
	wrong := [][]string{
		nil,
		{},
		{""},
		{"a", ""},
		{"", "a"},
		{"a/b"},
		{"a", "b/c"},
		{"a/*"},
		{"/"},
		{"*", "a"},
		{"*", "*"},
		{"a+"},
		{"**"},
		{"A"},
		{strings.Repeat("s", 17)},
		strings.Split("1/2/3/4/5/6/7/8/9", "/"),
		strings.Split(fullPath(121), "/"),
		make([]string, 100000),
	}
	for _, segs := range wrong {
		got, ok := impl.JoinPath(segs)
		if ok || got != "" {
			t.Errorf("JoinPath(%.60q) = %q, %v", segs, got, ok)
		}
	}
}

func TestUnderPath(t *testing.T) {
	paths := smallPaths()
	for _, prefix := range paths {
		for _, path := range paths {
			want := prefix == path || strings.HasPrefix(path, prefix+"/")
			if impl.UnderPath(prefix, path) != want {
				t.Errorf("UnderPath(%q, %q) is not %v", prefix, path, want)
			}
		}
	}
	if !impl.UnderPath("1/2/3/4/5/6/7/8", "1/2/3/4/5/6/7/8") || !impl.UnderPath("1", "1/2/3/4/5/6/7/8") || !impl.UnderPath(fullPath(120), fullPath(120)) {
		t.Error("at the limits")
	}
	wrong := [][2]string{
		{"a", "ab"}, {"a/b", "a/bc"}, {"a/b", "a"}, {"b", "a/b"},
		{"", ""}, {"", "a"}, {"a", ""}, {"a/", "a/b"}, {"a", "a/"}, {"a", "a//b"},
		{"+", "a"}, {"+", "+"}, {"*", "*"}, {"a/*", "a/b"}, {"a", "a/+"}, {"a", "a/*"},
		{"A", "A"}, {fullPath(121), fullPath(121)}, {"1", "1/2/3/4/5/6/7/8/9"},
	}
	for _, w := range wrong {
		if impl.UnderPath(w[0], w[1]) {
			t.Errorf("UnderPath(%q, %q)", w[0], w[1])
		}
	}
}

func TestMatchGlob(t *testing.T) {
	for _, glob := range smallGlobs() {
		for _, path := range smallPaths() {
			if want := wantMatch(glob, path); impl.MatchGlob(glob, path) != want {
				t.Errorf("MatchGlob(%q, %q) is not %v", glob, path, want)
			}
		}
	}
}

func TestMatchGlobEdges(t *testing.T) {
	cases := []struct {
		glob string
		path string
		want bool
	}{
		{"a", "a", true},
		{"a/*", "a", true},
		{"a/*", "a/b", true},
		{"a/*", "a/b/c/d/e/f/g/h", true},
		{"a/*", "ab", false},
		{"a/*", "b", false},
		{"*", "a", true},
		{"*", "a/b/c/d/e/f/g/h", true},
		{"+", "a", true},
		{"+", "a/b", false},
		{"+/*", "a", true},
		{"+/*", "a/b/c", true},
		{"+/+/*", "a", false},
		{"+/+/*", "a/b", true},
		{"a/+/c", "a/b/c", true},
		{"a/+/c", "a/c", false},
		{"a/+/c", "a/b/d", false},
		{"a/b/c", "a/b", false},
		{"a/b", "a/b/c", false},
		{"1/2/3/4/5/6/7/*", "1/2/3/4/5/6/7", true},
		{"1/2/3/4/5/6/7/*", "1/2/3/4/5/6/7/8", true},
		{"+/+/+/+/+/+/+/+", "1/2/3/4/5/6/7/8", true},
		{"+/+/+/+/+/+/+/+", "1/2/3/4/5/6/7", false},
		{fullPath(120), fullPath(120), true},
		{fullPath(121), fullPath(121), false},
		{"", "", false},
		{"", "a", false},
		{"*", "", false},
		{"*", "a/", false},
		{"*", "+", false},
		{"*", "*", false},
		{"+", "+", false},
		{"a/+", "a/+", false},
		{"a/*", "a/*", false},
		{"*/a", "b/a", false},
		{"a/**", "a/b", false},
		{"A", "A", false},
		{"*", "1/2/3/4/5/6/7/8/9", false},
		{"1/2/3/4/5/6/7/8/*", "1/2/3/4/5/6/7/8", false},
	}
	for _, c := range cases {
		if impl.MatchGlob(c.glob, c.path) != c.want {
			t.Errorf("MatchGlob(%q, %q) is not %v", c.glob, c.path, c.want)
		}
	}
}

func TestCompareGlob(t *testing.T) {
	globs := smallGlobs()
	for _, a := range globs {
		for _, b := range globs {
			if want := strings.Compare(shapeOf(a), shapeOf(b)); impl.CompareGlob(a, b) != want {
				t.Errorf("CompareGlob(%q, %q) is not %d", a, b, want)
			}
		}
	}
}

func TestCompareGlobEdges(t *testing.T) {
	cases := []struct {
		a    string
		b    string
		want int
	}{
		{"a", "b", 0},
		{"a/b", "c/d", 0},
		{"a", "+", 1},
		{"+", "*", 1},
		{"a", "*", 1},
		{"a/*", "a", 1},
		{"a/+", "a", 1},
		{"a/b", "a", 1},
		{"*", "+/a/a/a/a/a/a/a", -1},
		{"a/+", "a/+/*", -1},
		{"a/+/b", "a/b", -1},
		{"+/b", "a/+", -1},
		{"1/2/3/4/5/6/7/8", "1/2/3/4/5/6/7/+", 1},
		{"1/2/3/4/5/6/7/*", "1/2/3/4/5/6/7/+", -1},
		{"1/2/3/4/5/6/7", "1/2/3/4/5/6/7/*", -1},
		{fullPath(120), "1/2/3/4/5/6/7/8", 0},
	}
	for _, c := range cases {
		if impl.CompareGlob(c.a, c.b) != c.want || impl.CompareGlob(c.b, c.a) != -c.want {
			t.Errorf("CompareGlob(%q, %q) is not %d", c.a, c.b, c.want)
		}
	}
	for _, wrong := range []string{"", "/", "a/", "*/a", "A", "**", "1/2/3/4/5/6/7/8/9", fullPath(121)} {
		if impl.CompareGlob(wrong, "a") != -2 || impl.CompareGlob("a", wrong) != -2 || impl.CompareGlob(wrong, wrong) != -2 {
			t.Errorf("CompareGlob with %q is not -2", wrong)
		}
	}
}

// One order: each is as good as itself, what is greater one way is less the other, and greater passes on.
func TestCompareGlobIsAnOrder(t *testing.T) {
	globs := smallGlobs()
	for _, a := range globs {
		if impl.CompareGlob(a, a) != 0 {
			t.Errorf("CompareGlob(%q, %q) is not 0", a, a)
		}
		for _, b := range globs {
			there := impl.CompareGlob(a, b)
			if there < -1 || there > 1 || impl.CompareGlob(b, a) != -there {
				t.Errorf("%q and %q", a, b)
			}
			if there < 0 {
				continue
			}
			for _, c := range globs {
				if on := impl.CompareGlob(b, c); on >= 0 && impl.CompareGlob(a, c) != max(there, on) {
					t.Fatalf("%q, %q and %q", a, b, c)
				}
			}
		}
	}
}

func TestParentPath(t *testing.T) {
	cases := []struct{ path, want string }{
		{"a/b", "a"},
		{"a/b/c", "a/b"},
		{"-/-", "-"},
		{"1/2/3/4/5/6/7/8", "1/2/3/4/5/6/7"},
		{fullPath(120), strings.TrimSuffix(fullPath(120), "/x")},
	}
	for _, c := range cases {
		got, ok := impl.ParentPath(c.path)
		if !ok || got != c.want {
			t.Errorf("ParentPath(%q) = %q, %v", c.path, got, ok)
		}
	}
	for _, wrong := range []string{"a", "", "/", "a/", "/a", "a//b", "a/+", "a/*", "+/a", "A/b", "1/2/3/4/5/6/7/8/9", fullPath(121)} {
		got, ok := impl.ParentPath(wrong)
		if ok || got != "" {
			t.Errorf("ParentPath(%q) = %q, %v", wrong, got, ok)
		}
	}
}

func TestMatchAll(t *testing.T) {
	globs := append(smallGlobs(), "", "*/a", "A", "a/", "a")
	for _, path := range append(smallPaths(), "", "a/", "+", "*") {
		var want []int
		for place, glob := range globs {
			if wantMatch(glob, path) {
				want = append(want, place)
			}
		}
		if got := impl.MatchAll(globs, path); !slices.Equal(got, want) {
			t.Errorf("MatchAll(.., %q) = %v, not %v", path, got, want)
		}
	}
	if len(impl.MatchAll(nil, "a")) != 0 {
		t.Error("no globs")
	}
}

func TestMatchAllLimit(t *testing.T) {
	globs := make([]string, 201)
	for place := range globs {
		globs[place] = "*"
	}
	got := impl.MatchAll(globs[:200], "a/b")
	if len(got) != 200 || got[0] != 0 || got[199] != 199 || !slices.IsSorted(got) {
		t.Errorf("200 globs: %v", got)
	}
	if got := impl.MatchAll(globs, "a/b"); len(got) != 0 {
		t.Errorf("201 globs: %v", got)
	}
}

func TestCovers(t *testing.T) {
	globs := smallGlobs()
	for _, a := range globs {
		for _, b := range globs {
			if want := wantCovers(a, b); impl.Covers(a, b) != want {
				t.Errorf("Covers(%q, %q) is not %v", a, b, want)
			}
		}
	}
}

func TestCoversEdges(t *testing.T) {
	cases := []struct {
		a    string
		b    string
		want bool
	}{
		{"a/*", "a", true},
		{"a/*", "a/*", true},
		{"a/*", "a/b/c/+/*", true},
		{"*", "*", true},
		{"*", "+/*", true},
		{"+/*", "*", false},
		{"+", "*", false},
		{"+", "+", true},
		{"a", "+", false},
		{"a/+", "a", false},
		{"a", "a/*", false},
		{"a", "a/b", false},
		{"a/b", "a", false},
		{"a/+/*", "a/+", true},
		{"a/+/*", "a", false},
		{"+/+/+/+/+/+/+/*", "1/2/3/4/5/6/7/8", true},
		{"+/+/+/+/+/+/+/*", "1/2/3/4/5/6/7", true},
		{"+/+/+/+/+/+/+/*", "1/2/3/4/5/6/*", false},
		{"", "", false},
		{"*", "", false},
		{"", "*", false},
		{"*", "a/", false},
		{"*", "*/a", false},
		{"*/a", "b/a", false},
		{"A", "A", false},
		{"*", "1/2/3/4/5/6/7/8/9", false},
		{"*", fullPath(120), true},
		{"*", fullPath(121), false},
	}
	for _, c := range cases {
		if impl.Covers(c.a, c.b) != c.want {
			t.Errorf("Covers(%q, %q) is not %v", c.a, c.b, c.want)
		}
	}
}

// Promise 1: a glob that covers another fits what it fits; and it covers itself, and what the other covers.
func TestCoveringGlobFitsAll(t *testing.T) {
	globs, paths := smallGlobs(), smallPaths()
	for _, a := range globs {
		if !impl.Covers(a, a) {
			t.Errorf("%q does not cover itself", a)
		}
		for _, b := range globs {
			if !impl.Covers(a, b) {
				continue
			}
			for _, path := range paths {
				if impl.MatchGlob(b, path) && !impl.MatchGlob(a, path) {
					t.Fatalf("%q covers %q, but does not fit %q", a, b, path)
				}
			}
			for _, c := range globs {
				if impl.Covers(b, c) && !impl.Covers(a, c) {
					t.Fatalf("%q covers %q, but not %q", a, b, c)
				}
			}
		}
	}
}

func TestPathIsCoveredByWhatFitsIt(t *testing.T) {
	for _, glob := range smallGlobs() {
		for _, path := range smallPaths() {
			if impl.Covers(glob, path) != impl.MatchGlob(glob, path) {
				t.Errorf("%q and %q", glob, path)
			}
		}
	}
}

// randomText leans towards texts that are nearly in order, up to one segment too many.
func randomText(r *rand.Rand) string {
	pool := []string{"a", "b", "+", "+", "*", "", "c-9", "A", "++", "a*", strings.Repeat("k", 16), strings.Repeat("k", 17)}
	segs := make([]string, 1+r.Intn(9))
	for place := range segs {
		segs[place] = pool[r.Intn(3)]
		if r.Intn(12) == 0 {
			segs[place] = pool[r.Intn(len(pool))]
		}
	}
	if r.Intn(3) == 0 {
		segs[len(segs)-1] = "*"
	}
	return textOf(segs)
}

func TestPathsAtRandom(t *testing.T) {
	r := rand.New(rand.NewSource(1))
	for range 20000 {
		a, b := randomText(r), randomText(r)
		path := strings.NewReplacer("+", "b", "*", "a").Replace(b)
		if impl.PathOk(a) != wantPath(a) || impl.GlobOk(a) != wantGlob(a) {
			t.Fatalf("%q is told wrong", a)
		}
		if impl.MatchGlob(a, path) != wantMatch(a, path) {
			t.Fatalf("MatchGlob(%q, %q)", a, path)
		}
		if impl.Covers(a, b) != wantCovers(a, b) {
			t.Fatalf("Covers(%q, %q)", a, b)
		}
		want := -2
		if wantGlob(a) && wantGlob(b) {
			want = strings.Compare(shapeOf(a), shapeOf(b))
		}
		if impl.CompareGlob(a, b) != want {
			t.Fatalf("CompareGlob(%q, %q) is not %d", a, b, want)
		}
		segs, ok := impl.SplitPath(a)
		if joined, joins := impl.JoinPath(segs); ok != wantGlob(a) || joins != ok || ok && joined != a {
			t.Fatalf("SplitPath(%q) and JoinPath", a)
		}
	}
}
