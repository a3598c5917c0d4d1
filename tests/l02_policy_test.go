package tests

import (
	"fmt"
	"math"
	"math/rand"
	"reflect"
	"regexp"
	"slices"
	"strings"
	"testing"

	"loop.example/g00705/impl"
)

var (
	namePattern = regexp.MustCompile(`\A[a-z0-9]{1,12}\z`)
	capsPattern = regexp.MustCompile(`\A(-|r?w?l?d?s?n?)\z`)
)

func wantCapsOk(caps int) bool { return caps >= 0 && caps < 64 }

func wantPolicy(p impl.Policy) bool {
	if !namePattern.MatchString(p.Name) || len(p.Rules) > 20 {
		return false
	}
	for i, rule := range p.Rules {
		if !wantGlob(rule.Glob) || !wantCapsOk(rule.Caps) {
			return false
		}
		if i > 0 && strings.Compare(p.Rules[i-1].Glob, rule.Glob) != -1 {
			return false
		}
	}
	return true
}

// wantRule sorts the fitting rules by shape, then by text, and takes the first.
func wantRule(p impl.Policy, path string) (impl.Rule, bool) {
	var fitting []impl.Rule
	for _, rule := range p.Rules {
		if wantMatch(rule.Glob, path) {
			fitting = append(fitting, rule)
		}
	}
	if !wantPolicy(p) || len(fitting) == 0 {
		return impl.Rule{}, false
	}
	slices.SortFunc(fitting, func(x, y impl.Rule) int {
		if order := strings.Compare(shapeOf(y.Glob), shapeOf(x.Glob)); order != 0 {
			return order
		}
		return strings.Compare(x.Glob, y.Glob)
	})
	return fitting[0], true
}

func wantCaps(ps []impl.Policy, path string) int {
	if len(ps) > 10 || !wantPath(path) {
		return -1
	}
	had := [6]bool{}
	for _, p := range ps {
		if !wantPolicy(p) {
			return -1
		}
		rule, _ := wantRule(p, path)
		for bit := range had {
			had[bit] = had[bit] || rule.Caps>>bit%2 == 1
		}
	}
	if had[5] {
		return 32
	}
	sum := 0
	for bit, is := range had {
		if is {
			sum += 1 << bit
		}
	}
	return sum
}

func ruleOf(glob string, caps int) impl.Rule { return impl.Rule{Glob: glob, Caps: caps} }

func policyOf(name string, rules ...impl.Rule) impl.Policy {
	return impl.Policy{Name: name, Rules: rules}
}

// manyRules are n rules whose Globs ascend: k100, k101, ..
func manyRules(from int, n int, caps int) []impl.Rule {
	var rules []impl.Rule
	for i := range n {
		rules = append(rules, ruleOf(fmt.Sprintf("k%d", 100+from+i), caps))
	}
	return rules
}

func manyPolicies(n int) []impl.Policy {
	var ps []impl.Policy
	for i := range n {
		ps = append(ps, policyOf(fmt.Sprintf("p%d", i), ruleOf("kv/*", 1<<(i%5))))
	}
	return ps
}

func manyPaths(n int) []string { return slices.Repeat([]string{"kv/a"}, n) }

func clonePolicy(p impl.Policy) impl.Policy {
	return impl.Policy{Name: p.Name, Rules: slices.Clone(p.Rules)}
}

func clonePolicies(ps []impl.Policy) []impl.Policy {
	var all []impl.Policy
	for _, p := range ps {
		all = append(all, clonePolicy(p))
	}
	return all
}

func samePolicy(a impl.Policy, b impl.Policy) bool {
	return a.Name == b.Name && slices.Equal(a.Rules, b.Rules)
}

// randomPolicy is in order: some small globs, sorted, denials seldom.
func randomPolicy(r *rand.Rand, most int) impl.Policy {
	globs := smallGlobs()
	r.Shuffle(len(globs), func(i, j int) { globs[i], globs[j] = globs[j], globs[i] })
	globs = globs[:r.Intn(most+1)]
	slices.Sort(globs)
	p := impl.Policy{Name: fmt.Sprintf("p%d", r.Intn(1000))}
	for _, glob := range globs {
		caps := r.Intn(32)
		if r.Intn(6) == 0 {
			caps += 32
		}
		p.Rules = append(p.Rules, ruleOf(glob, caps))
	}
	return p
}

// wrongPolicies are each out of order by one thing alone.
func wrongPolicies() []impl.Policy {
	return []impl.Policy{
		{},
		policyOf(""),
		policyOf("", ruleOf("a", 1)),
		policyOf("abcdefghijklm"),
		policyOf("Dev", ruleOf("a", 1)),
		policyOf("a-b", ruleOf("a", 1)),
		policyOf("a/b", ruleOf("a", 1)),
		policyOf("a b", ruleOf("a", 1)),
		policyOf("dev\n", ruleOf("a", 1)),
		policyOf("\u00e4"),
		policyOf(strings.Repeat("a", 100000)),
		policyOf("dev", ruleOf("", 1)),
		policyOf("dev", ruleOf("a/", 1)),
		policyOf("dev", ruleOf("*/a", 1)),
		policyOf("dev", ruleOf(fullPath(121), 1)),
		policyOf("dev", ruleOf("a", -1)),
		policyOf("dev", ruleOf("a", 64)),
		policyOf("dev", ruleOf("a", math.MinInt)),
		policyOf("dev", ruleOf("a", math.MaxInt)),
		policyOf("dev", ruleOf("a", 1), ruleOf("b", 64)),
		policyOf("dev", ruleOf("a", -1), ruleOf("b", 1)),
		policyOf("dev", ruleOf("b", 1), ruleOf("a", 1)),
		policyOf("dev", ruleOf("a", 1), ruleOf("a", 1)),
		policyOf("dev", ruleOf("a", 1), ruleOf("a", 2)),
		policyOf("dev", ruleOf("a", 1), ruleOf("c", 1), ruleOf("b", 1)),
		policyOf("dev", ruleOf("a", 1), ruleOf("b", 1), ruleOf("b", 1)),
		policyOf("dev", ruleOf("a", 1), ruleOf("a/+", 1), ruleOf("a/*", 1)),
		policyOf("dev", ruleOf("ab", 1), ruleOf("a", 1)),
		policyOf("dev", manyRules(0, 21, 1)...),
		policyOf("dev", make([]impl.Rule, 100000)...),
	}
}

func TestPolicyLimits(t *testing.T) {
	if impl.MaxRules != 20 || impl.MaxPolicies != 10 {
		t.Error("limits")
	}
	powers := []int{impl.CapRead, impl.CapWrite, impl.CapList, impl.CapDelete, impl.CapSudo, impl.CapDeny}
	if !slices.Equal(powers, []int{1, 2, 4, 8, 16, 32}) {
		t.Errorf("powers are %v", powers)
	}
}

func TestPolicyOk(t *testing.T) {
	right := []impl.Policy{
		policyOf("dev"),
		policyOf("0"),
		policyOf("abcdefghijkl"),
		policyOf("az09", []impl.Rule{}...),
		policyOf("dev", ruleOf("a", 0)),
		policyOf("dev", ruleOf("a", 63)),
		policyOf("dev", ruleOf(fullPath(120), 1)),
		policyOf("dev", ruleOf("*", 1), ruleOf("+", 2), ruleOf("-", 3), ruleOf("0", 4), ruleOf("a", 5)),
		policyOf("dev", ruleOf("a", 1), ruleOf("a-", 1), ruleOf("a/*", 1), ruleOf("a/+", 1), ruleOf("ab", 1)),
		policyOf("dev", manyRules(0, 20, 63)...),
	}
	for _, p := range right {
		if !impl.PolicyOk(p) {
			t.Errorf("%.60v is refused", p)
		}
	}
	for _, p := range wrongPolicies() {
		if impl.PolicyOk(p) {
			t.Errorf("%.60v is taken", p)
		}
	}
}

func TestPolicyNames(t *testing.T) {
	for c := range 256 {
		one := string([]byte{byte(c)})
		for _, name := range []string{one, "a" + one, one + "a", "a" + one + "b"} {
			if impl.PolicyOk(policyOf(name)) != namePattern.MatchString(name) {
				t.Errorf("name %q", name)
			}
		}
	}
	for n := range 20 {
		if impl.PolicyOk(policyOf(strings.Repeat("z", n))) != (n >= 1 && n <= 12) {
			t.Errorf("a name of %d bytes", n)
		}
	}
}

func TestPolicyCapsAndOrder(t *testing.T) {
	for caps := -70; caps <= 140; caps++ {
		if impl.PolicyOk(policyOf("dev", ruleOf("a", caps))) != wantCapsOk(caps) {
			t.Errorf("caps %d", caps)
		}
	}
	for _, a := range smallGlobs() {
		for _, b := range smallGlobs() {
			if impl.PolicyOk(policyOf("dev", ruleOf(a, 1), ruleOf(b, 1))) != (a < b) {
				t.Errorf("%q ahead of %q", a, b)
			}
		}
	}
}

func TestRuleForPairs(t *testing.T) {
	globs := smallGlobs()
	slices.Sort(globs)
	for i, a := range globs {
		for _, b := range globs[i+1:] {
			p := policyOf("dev", ruleOf(a, 1), ruleOf(b, 2))
			for _, path := range []string{"a", "b", "a/b", "b/a", "a/b/a", "a/a/a/b"} {
				got, ok := impl.RuleFor(p, path)
				want, wantOk := wantRule(p, path)
				if got != want || ok != wantOk {
					t.Fatalf("RuleFor(%v, %q) = %v, %v, not %v", p, path, got, ok, want)
				}
			}
		}
	}
}

func TestRuleForEdges(t *testing.T) {
	p := policyOf("dev",
		ruleOf("*", 1), ruleOf("+/b", 2), ruleOf("a", 0), ruleOf("a/*", 4), ruleOf("a/+", 8), ruleOf("a/+/c", 7), ruleOf("a/b/+", 16), ruleOf("a/b/c", 32))
	cases := []struct {
		path string
		want impl.Rule
	}{
		{"z", ruleOf("*", 1)},
		{"z/b", ruleOf("+/b", 2)},
		{"z/c", ruleOf("*", 1)},
		// A star ranks above the end of a glob, also where it fits nothing.
		{"a", ruleOf("a/*", 4)},
		{"a/b", ruleOf("a/+", 8)},
		{"a/x", ruleOf("a/+", 8)},
		{"a/x/y", ruleOf("a/*", 4)},
		{"a/x/c", ruleOf("a/+/c", 7)},
		{"a/b/x", ruleOf("a/b/+", 16)},
		{"a/b/c", ruleOf("a/b/c", 32)},
		{"a/b/c/d", ruleOf("a/*", 4)},
	}
	for _, c := range cases {
		if got, ok := impl.RuleFor(p, c.path); !ok || got != c.want {
			t.Errorf("RuleFor(%q) = %v, %v, not %v", c.path, got, ok, c.want)
		}
	}
	alike := policyOf("dev", ruleOf("a/+/c", 1), ruleOf("a/+/d", 2), ruleOf("b/+/c", 3))
	for path, want := range map[string]int{"a/x/c": 1, "a/x/d": 2, "b/x/c": 3} {
		if got, ok := impl.RuleFor(alike, path); !ok || got.Caps != want {
			t.Errorf("of one rank: RuleFor(%q) = %v, %v", path, got, ok)
		}
	}
	full := policyOf("dev", manyRules(0, 20, 5)...)
	if got, ok := impl.RuleFor(full, "k119"); !ok || got != ruleOf("k119", 5) {
		t.Errorf("the last of 20 rules: %v, %v", got, ok)
	}
}

func TestRuleForWrong(t *testing.T) {
	p := policyOf("dev", ruleOf("*", 63))
	for _, path := range []string{"", "*", "+", "a/", "/a", "A", "a b", "1/2/3/4/5/6/7/8/9", fullPath(121)} {
		if got, ok := impl.RuleFor(p, path); ok || got != (impl.Rule{}) {
			t.Errorf("RuleFor at %q = %v, %v", path, got, ok)
		}
	}
	for _, p := range wrongPolicies() {
		for _, path := range []string{"a", "b", "k100"} {
			if got, ok := impl.RuleFor(p, path); ok || got != (impl.Rule{}) {
				t.Errorf("RuleFor of %.60v = %v, %v", p, got, ok)
			}
		}
	}
	for _, p := range []impl.Policy{policyOf("dev"), policyOf("dev", ruleOf("b", 1)), policyOf("dev", ruleOf("a/+", 1))} {
		if got, ok := impl.RuleFor(p, "a"); ok || got != (impl.Rule{}) {
			t.Errorf("RuleFor of %v = %v, %v", p, got, ok)
		}
	}
}

func TestCapsOfEdges(t *testing.T) {
	cases := []struct {
		ps   []impl.Policy
		path string
		want int
	}{
		{nil, "a", 0},
		{[]impl.Policy{}, "a", 0},
		{nil, "", -1},
		{nil, "*", -1},
		{nil, fullPath(120), 0},
		{nil, fullPath(121), -1},
		{[]impl.Policy{policyOf("x")}, "a", 0},
		{[]impl.Policy{policyOf("x", ruleOf("b", 63))}, "a", 0},
		{[]impl.Policy{policyOf("x", ruleOf("a", 0))}, "a", 0},
		{[]impl.Policy{policyOf("x", ruleOf("a", 31))}, "a", 31},
		{[]impl.Policy{policyOf("x", ruleOf("a", 32))}, "a", 32},
		{[]impl.Policy{policyOf("x", ruleOf("a", 63))}, "a", 32},
		{[]impl.Policy{policyOf("x", ruleOf("a", 33))}, "a", 32},
		{[]impl.Policy{policyOf("x", ruleOf("a", 1)), policyOf("y", ruleOf("*", 6))}, "a", 7},
		{[]impl.Policy{policyOf("x", ruleOf("a", 3)), policyOf("y", ruleOf("*", 6))}, "a", 7},
		{[]impl.Policy{policyOf("x", ruleOf("a", 1)), policyOf("x", ruleOf("a", 1))}, "a", 1},
		{[]impl.Policy{policyOf("x", ruleOf("a", 31)), policyOf("y", ruleOf("*", 32))}, "a", 32},
		{[]impl.Policy{policyOf("y", ruleOf("*", 48)), policyOf("x", ruleOf("a", 31))}, "a", 32},
		{[]impl.Policy{policyOf("x", ruleOf("*", 32), ruleOf("a", 1))}, "a", 1},
		{[]impl.Policy{policyOf("x", ruleOf("*", 31), ruleOf("a", 0))}, "a", 0},
		{[]impl.Policy{policyOf("x", ruleOf("*", 1), ruleOf("a", 2))}, "a", 2},
		{manyPolicies(10), "kv/a", 31},
		{manyPolicies(11), "kv/a", -1},
		{manyPolicies(11), "db", -1},
		{make([]impl.Policy, 100000), "db", -1},
	}
	for _, c := range cases {
		if got := impl.CapsOf(c.ps, c.path); got != c.want {
			t.Errorf("CapsOf(%.80v, %q) = %d, not %d", c.ps, c.path, got, c.want)
		}
	}
}

func TestCapsOfWrongPolicies(t *testing.T) {
	good := policyOf("dev", ruleOf("*", 3))
	for _, wrong := range wrongPolicies() {
		for _, ps := range [][]impl.Policy{{wrong}, {good, wrong}, {wrong, good}, {good, wrong, good}} {
			for _, path := range []string{"a", "zz", ""} {
				if got := impl.CapsOf(ps, path); got != -1 {
					t.Errorf("CapsOf with %.60v at %q = %d", wrong, path, got)
				}
			}
			if impl.Allowed(ps, "a", impl.CapRead) {
				t.Errorf("Allowed with %.60v", wrong)
			}
		}
	}
}

func TestCapsAtRandom(t *testing.T) {
	r := rand.New(rand.NewSource(2))
	paths := smallPaths()
	for range 400 {
		var ps []impl.Policy
		for range r.Intn(5) {
			ps = append(ps, randomPolicy(r, 8))
		}
		kept := clonePolicies(ps)
		path := paths[r.Intn(len(paths))]
		want := wantCaps(ps, path)
		if got := impl.CapsOf(ps, path); got != want {
			t.Fatalf("CapsOf(%v, %q) = %d, not %d", ps, path, got, want)
		}
		for power := -2; power <= 66; power++ {
			single := power == 1 || power == 2 || power == 4 || power == 8 || power == 16
			may := single && want/power%2 == 1
			if impl.Allowed(ps, path, power) != may {
				t.Fatalf("Allowed(%v, %q, %d) is not %v", ps, path, power, may)
			}
		}
		if len(ps) > 0 {
			got, ok := impl.RuleFor(ps[0], path)
			rule, ruleOk := wantRule(ps[0], path)
			if got != rule || ok != ruleOk {
				t.Fatalf("RuleFor(%v, %q) = %v, %v", ps[0], path, got, ok)
			}
		}
		if !reflect.DeepEqual(ps, kept) {
			t.Fatal("the policies were changed")
		}
	}
}

func TestOnePolicyMore(t *testing.T) {
	r := rand.New(rand.NewSource(3))
	paths := smallPaths()
	for range 2000 {
		ps := []impl.Policy{randomPolicy(r, 8), randomPolicy(r, 8)}
		more := append(slices.Clone(ps), randomPolicy(r, 8))
		path := paths[r.Intn(len(paths))]
		before, behind := impl.CapsOf(ps, path), impl.CapsOf(more, path)
		if before == impl.CapDeny && behind != impl.CapDeny {
			t.Fatalf("a denial was outvoted: %v at %q", more, path)
		}
		if behind != impl.CapDeny && before&^behind != 0 {
			t.Fatalf("a bit was taken away: %v at %q", more, path)
		}
		slices.Reverse(more)
		if impl.CapsOf(more, path) != behind {
			t.Fatalf("the order of policies is seen: %v at %q", more, path)
		}
	}
}

func TestAllowedEdges(t *testing.T) {
	all := []impl.Policy{policyOf("x", ruleOf("a", 31), ruleOf("b", 63), ruleOf("c", 0))}
	for _, want := range []int{1, 2, 4, 8, 16} {
		if !impl.Allowed(all, "a", want) {
			t.Errorf("%d is not allowed", want)
		}
		for _, path := range []string{"b", "c", "d", "", "*", "a/", fullPath(121)} {
			if impl.Allowed(all, path, want) {
				t.Errorf("%d is allowed at %q", want, path)
			}
		}
		if impl.Allowed(nil, "a", want) || impl.Allowed(manyPolicies(11), "kv/a", want) {
			t.Errorf("%d is allowed by nobody, or by too many", want)
		}
		if !impl.Allowed(manyPolicies(10), "kv/a", want) {
			t.Errorf("%d is not allowed by 10 policies", want)
		}
	}
	for _, want := range []int{0, -1, 3, 5, 31, 32, 33, 63, 64, 128, math.MinInt, math.MaxInt} {
		for _, path := range []string{"a", "b", "c", "d", ""} {
			if impl.Allowed(all, path, want) {
				t.Errorf("%d is allowed at %q", want, path)
			}
		}
	}
}

// wantMerge sums bit by bit in a map, and sorts its keys.
func wantMerge(a impl.Policy, b impl.Policy) (impl.Policy, bool) {
	caps := map[string]int{}
	for _, rule := range slices.Concat(a.Rules, b.Rules) {
		caps[rule.Glob] |= rule.Caps
	}
	merged := impl.Policy{Name: a.Name}
	for glob, sum := range caps {
		merged.Rules = append(merged.Rules, ruleOf(glob, sum))
	}
	slices.SortFunc(merged.Rules, func(x, y impl.Rule) int { return strings.Compare(x.Glob, y.Glob) })
	if !wantPolicy(a) || !wantPolicy(b) || !wantPolicy(merged) {
		return impl.Policy{}, false
	}
	return merged, true
}

func checkMerge(t *testing.T, a impl.Policy, b impl.Policy) {
	t.Helper()
	keptA, keptB := clonePolicy(a), clonePolicy(b)
	got, ok := impl.MergePolicy(a, b)
	want, wantOk := wantMerge(a, b)
	if ok != wantOk || !samePolicy(got, want) {
		t.Errorf("MergePolicy(%.80v, %.80v) = %v, %v", a, b, got, ok)
	}
	for i := range got.Rules {
		got.Rules[i] = ruleOf("spoiled", -1)
	}
	if !samePolicy(a, keptA) || !samePolicy(b, keptB) {
		t.Errorf("MergePolicy shares or changes %.80v or %.80v", keptA, keptB)
	}
}

func TestMergePolicyEdges(t *testing.T) {
	half := policyOf("half", manyRules(0, 10, 3)...)
	full := policyOf("full", manyRules(0, 20, 3)...)
	pairs := [][2]impl.Policy{
		{policyOf("x"), policyOf("y")},
		{policyOf("x"), policyOf("y", ruleOf("a", 1))},
		{policyOf("x", ruleOf("a", 1)), policyOf("y")},
		{policyOf("x", ruleOf("a", 1)), policyOf("y", ruleOf("a", 2))},
		{policyOf("x", ruleOf("a", 3)), policyOf("y", ruleOf("a", 33))},
		{policyOf("x", ruleOf("a", 0)), policyOf("y", ruleOf("a", 0))},
		{policyOf("x", ruleOf("b", 1)), policyOf("y", ruleOf("a", 2), ruleOf("c", 4))},
		{policyOf("x", ruleOf("a", 1), ruleOf("c", 2)), policyOf("y", ruleOf("b", 4), ruleOf("c", 8))},
		{half, policyOf("y", manyRules(10, 10, 4)...)},
		{half, policyOf("y", manyRules(10, 11, 4)...)},
		{half, policyOf("y", manyRules(9, 11, 4)...)},
		{policyOf("y", manyRules(9, 11, 4)...), half},
		{full, full},
		{full, policyOf("y", manyRules(0, 20, 60)...)},
		{full, policyOf("y")},
		{full, policyOf("y", ruleOf("k119", 32))},
		{full, policyOf("y", ruleOf("k120", 32))},
		{policyOf("y", ruleOf("k120", 32)), full},
		{full, policyOf("y", manyRules(20, 20, 1)...)},
	}
	for _, pair := range pairs {
		checkMerge(t, pair[0], pair[1])
	}
	if got, ok := impl.MergePolicy(half, policyOf("y", manyRules(10, 10, 4)...)); !ok || len(got.Rules) != 20 {
		t.Errorf("20 rules in all: %v, %v", got, ok)
	}
	if got, ok := impl.MergePolicy(half, policyOf("y", manyRules(10, 11, 4)...)); ok || got.Name != "" || len(got.Rules) != 0 {
		t.Errorf("21 rules in all: %v, %v", got, ok)
	}
}

func TestMergePolicyWrong(t *testing.T) {
	good := policyOf("good", ruleOf("a", 1), ruleOf("b", 2))
	for _, wrong := range wrongPolicies() {
		for _, pair := range [][2]impl.Policy{{good, wrong}, {wrong, good}, {wrong, wrong}, {policyOf("none"), wrong}, {wrong, policyOf("none")}} {
			got, ok := impl.MergePolicy(pair[0], pair[1])
			if ok || got.Name != "" || len(got.Rules) != 0 {
				t.Errorf("MergePolicy with %.60v = %v, %v", wrong, got, ok)
			}
		}
	}
}

func TestMergePolicyAtRandom(t *testing.T) {
	r := rand.New(rand.NewSource(4))
	for range 2000 {
		checkMerge(t, randomPolicy(r, 14), randomPolicy(r, 14))
	}
}

func TestMergeIsNew(t *testing.T) {
	a, b := policyOf("x", ruleOf("a", 1), ruleOf("b", 2)), policyOf("y")
	first, _ := impl.MergePolicy(a, b)
	second, _ := impl.MergePolicy(b, a)
	first.Rules[0], second.Rules[1] = ruleOf("z", 9), ruleOf("z", 9)
	first.Rules = append(first.Rules[:1], ruleOf("q", 1))
	if !samePolicy(a, policyOf("x", ruleOf("a", 1), ruleOf("b", 2))) {
		t.Errorf("the argument is %v", a)
	}
	wide := policyOf("w", make([]impl.Rule, 1, 50)...)
	wide.Rules[0] = ruleOf("a", 1)
	got, _ := impl.MergePolicy(wide, policyOf("y", ruleOf("b", 1)))
	got.Rules[0].Caps = 9
	if wide.Rules[:2][1] != (impl.Rule{}) || wide.Rules[0] != ruleOf("a", 1) {
		t.Error("the room behind an argument was written")
	}
}

func TestCapsText(t *testing.T) {
	letters := []string{"r", "w", "l", "d", "s", "n"}
	for caps := -70; caps <= 200; caps++ {
		want := ""
		if caps == 0 {
			want = "-"
		}
		for bit, letter := range letters {
			if wantCapsOk(caps) && caps>>bit%2 == 1 {
				want += letter
			}
		}
		if got := impl.CapsText(caps); got != want {
			t.Errorf("CapsText(%d) = %q, not %q", caps, got, want)
		}
		got, ok := impl.ParseCaps(impl.CapsText(caps))
		if wantCapsOk(caps) != ok || ok && got != caps {
			t.Errorf("ParseCaps of CapsText(%d) = %d, %v", caps, got, ok)
		}
	}
	for _, caps := range []int{math.MinInt, math.MinInt + 1, math.MaxInt, 1 << 32, 1<<32 + 1} {
		if got := impl.CapsText(caps); got != "" {
			t.Errorf("CapsText(%d) = %q", caps, got)
		}
	}
}

func checkParseCaps(t *testing.T, text string) {
	t.Helper()
	want := 0
	wantOk := text != "" && capsPattern.MatchString(text)
	if wantOk {
		for bit, letter := range "rwldsn" {
			if strings.ContainsRune(text, letter) {
				want += 1 << bit
			}
		}
	}
	if got, ok := impl.ParseCaps(text); got != want || ok != wantOk {
		t.Errorf("ParseCaps(%.40q) = %d, %v, not %d, %v", text, got, ok, want, wantOk)
	}
}

func TestParseCaps(t *testing.T) {
	alphabet := strings.Split("rwldsn-R x", "")
	texts := []string{""}
	for range 4 {
		for _, text := range texts {
			checkParseCaps(t, text)
		}
		var longer []string
		for _, text := range texts {
			for _, letter := range alphabet {
				longer = append(longer, text+letter)
			}
		}
		texts = longer
	}
	wrong := []string{
		"rwldsn", "rwldsnn", "rrwldsn", "rwldns", "nsdlwr", "rwldsn-", "-rwldsn", "RWLDSN", "rwldsn\n", " rwldsn", "rwldsn ",
		"\x00", "r\x00", "\u00e4", "\xff", "0", "1", "63", "-0", "-1", "--", strings.Repeat("r", 100000),
	}
	for _, text := range wrong {
		checkParseCaps(t, text)
	}
}

func TestPolicyText(t *testing.T) {
	cases := []struct {
		p    impl.Policy
		want string
	}{
		{policyOf("x"), ""},
		{policyOf("x", ruleOf("a", 0)), "a -\n"},
		{policyOf("x", ruleOf("a", 63)), "a rwldsn\n"},
		{policyOf("x", ruleOf("kv/*", 3), ruleOf("kv/a", 32)), "kv/* rw\nkv/a n\n"},
		{policyOf("x", ruleOf("*", 1), ruleOf("+/-", 20)), "* r\n+/- ls\n"},
		{policyOf("x", ruleOf(fullPath(120), 8)), fullPath(120) + " d\n"},
	}
	for _, c := range cases {
		kept := clonePolicy(c.p)
		if got, ok := impl.PolicyText(c.p); !ok || got != c.want || !samePolicy(c.p, kept) {
			t.Errorf("PolicyText(%v) = %q, %v", c.p, got, ok)
		}
	}
	for _, p := range wrongPolicies() {
		if got, ok := impl.PolicyText(p); ok || got != "" {
			t.Errorf("PolicyText(%.60v) = %q, %v", p, got, ok)
		}
	}
}

// wantParse reads lines by another means: all of them first, then each by a pattern.
func wantParse(name string, text string) (impl.Policy, bool) {
	p := impl.Policy{Name: name}
	if text != "" {
		body, whole := strings.CutSuffix(text, "\n")
		if !whole {
			return impl.Policy{}, false
		}
		for _, line := range strings.Split(body, "\n") {
			words := strings.Split(line, " ")
			if len(words) != 2 || words[1] == "" || !capsPattern.MatchString(words[1]) {
				return impl.Policy{}, false
			}
			caps := 0
			for bit, letter := range "rwldsn" {
				if strings.ContainsRune(words[1], letter) {
					caps += 1 << bit
				}
			}
			p.Rules = append(p.Rules, ruleOf(words[0], caps))
		}
	}
	if !wantPolicy(p) {
		return impl.Policy{}, false
	}
	return p, true
}

func checkParsePolicy(t *testing.T, name string, text string) {
	t.Helper()
	got, ok := impl.ParsePolicy(name, text)
	want, wantOk := wantParse(name, text)
	if ok != wantOk || !samePolicy(got, want) {
		t.Errorf("ParsePolicy(%.20q, %.60q) = %.80v, %v", name, text, got, ok)
	}
}

func TestParsePolicyEdges(t *testing.T) {
	lines := func(n int) string {
		text := ""
		for i := range n {
			text += fmt.Sprintf("k%d r\n", 100+i)
		}
		return text
	}
	texts := []string{
		"", "\n", "\n\n", " ", " \n", "a", "a\n", "a ", "a \n", "a r", "a r\n", "a r\n\n", "\na r\n", "a r\r\n", "a  r\n", " a r\n", "a r \n", "a\tr\n",
		"a -\n", "a --\n", "a -r\n", "a r-\n", "a rr\n", "a wr\n", "a rwldsn\n", "a rwldns\n", "a R\n", "a x\n", "a 1\n", "a 0\n", " r\n", "r\n", "-\n",
		"a r\nb w", "a r\nb w\n", "b r\na w\n", "a r\na r\n", "a r\na w\n", "a r\nb\n", "a r\nb w\nb w\n", "a r b w\n", "a r\n b w\n",
		"* r\n", "*/a r\n", "a/ r\n", "A r\n", "a/+ r\na/* r\n", "a/* r\na/+ r\n", "+ n\n", "ab r\na r\n", "a r\nab r\n",
		fullPath(120) + " r\n", fullPath(121) + " r\n", "a r\x00\n", "a r\n\x00", "\x00", "\xff\n",
		lines(1), lines(19), lines(20), lines(21), lines(22), lines(20) + "\n", lines(20) + "x", strings.Repeat("a r\n", 50000), strings.Repeat("a", 100000), strings.Repeat("\n", 100000), strings.Repeat(" ", 100000),
	}
	for _, text := range texts {
		for _, name := range []string{"dev", "0", "abcdefghijkl", "", "abcdefghijklm", "Dev", "a-b", "dev\n"} {
			checkParsePolicy(t, name, text)
		}
	}
	if p, ok := impl.ParsePolicy("dev", ""); !ok || p.Name != "dev" || len(p.Rules) != 0 {
		t.Errorf("a policy without rules: %v, %v", p, ok)
	}
	if p, ok := impl.ParsePolicy("dev", lines(20)); !ok || len(p.Rules) != 20 {
		t.Errorf("20 lines: %v, %v", p, ok)
	}
	if p, ok := impl.ParsePolicy("dev", lines(21)); ok || p.Name != "" || len(p.Rules) != 0 {
		t.Errorf("21 lines: %v, %v", p, ok)
	}
}

func TestPolicyTextsAreReadAsWritten(t *testing.T) {
	r := rand.New(rand.NewSource(5))
	for range 2000 {
		p := randomPolicy(r, 20)
		text, ok := impl.PolicyText(p)
		back, backOk := impl.ParsePolicy(p.Name, text)
		if !ok || !backOk || !samePolicy(back, p) {
			t.Fatalf("%v was written as %q and read as %v", p, text, back)
		}
	}
}

func TestParsePolicyOfBentTexts(t *testing.T) {
	r := rand.New(rand.NewSource(6))
	pool := "ab+*/ \nrwldsn-A\x00"
	for range 20000 {
		p := randomPolicy(r, 4)
		text, _ := impl.PolicyText(p)
		at := r.Intn(len(text) + 1)
		one := string(pool[r.Intn(len(pool))])
		end := min(len(text), at+r.Intn(3))
		text = text[:at] + strings.Repeat(one, r.Intn(2)) + text[end:]
		checkParsePolicy(t, p.Name, text)
		if got, ok := impl.ParsePolicy(p.Name, text); ok {
			if again, _ := impl.PolicyText(got); again != text {
				t.Fatalf("%q is read as %v, whose text is %q", text, got, again)
			}
		}
	}
}

func TestParsePolicyIsNew(t *testing.T) {
	first, _ := impl.ParsePolicy("dev", "a r\nb w\n")
	first.Rules[0] = ruleOf("z", 9)
	second, _ := impl.ParsePolicy("dev", "a r\nb w\n")
	if !samePolicy(second, policyOf("dev", ruleOf("a", 1), ruleOf("b", 2))) {
		t.Errorf("a second answer is %v", second)
	}
}

func TestWeakerEdges(t *testing.T) {
	one := func(caps int) []impl.Policy {
		return []impl.Policy{policyOf("x", ruleOf("kv/*", caps))}
	}
	cases := []struct {
		a     []impl.Policy
		b     []impl.Policy
		paths []string
		want  bool
	}{
		{nil, nil, nil, true},
		{one(3), nil, nil, true},
		{nil, nil, []string{"kv/a"}, true},
		{nil, one(1), []string{"kv/a"}, true},
		{one(1), nil, []string{"kv/a"}, false},
		{one(0), nil, []string{"kv/a"}, true},
		{one(32), nil, []string{"kv/a"}, true},
		{one(63), one(0), []string{"kv/a"}, true},
		{one(32), one(32), []string{"kv/a"}, true},
		{one(1), one(32), []string{"kv/a"}, false},
		{one(1), one(33), []string{"kv/a"}, false},
		{one(0), one(32), []string{"kv/a"}, true},
		{one(3), one(7), []string{"kv/a"}, true},
		{one(7), one(3), []string{"kv/a"}, false},
		{one(31), one(31), []string{"kv/a"}, true},
		{one(1), one(2), []string{"kv/a"}, false},
		{one(1), nil, []string{"db", "db/x"}, true},
		{one(1), nil, []string{"db", "kv"}, false},
		{one(1), nil, []string{"kv", "db"}, false},
		{one(1), one(1), manyPaths(200), true},
		{one(1), one(1), manyPaths(201), false},
		{nil, nil, make([]string, 100000), false},
		{one(1), one(1), append(manyPaths(199), "+"), false},
		{one(2), one(1), append(slices.Repeat([]string{"db"}, 199), "kv/z"), false},
		{nil, nil, []string{""}, false},
		{nil, nil, []string{"a", "*"}, false},
		{nil, nil, []string{"a/", "a"}, false},
		{manyPolicies(10), manyPolicies(10), []string{"kv/a"}, true},
		{manyPolicies(11), manyPolicies(10), []string{"kv/a"}, false},
		{manyPolicies(10), manyPolicies(11), []string{"kv/a"}, false},
		{nil, manyPolicies(11), []string{"db"}, false},
		{manyPolicies(11), manyPolicies(11), nil, true},
	}
	for i, c := range cases {
		if impl.Weaker(c.a, c.b, c.paths) != c.want {
			t.Errorf("case %d: Weaker(%.60v, %.60v, %.40v) is not %v", i, c.a, c.b, c.paths, c.want)
		}
	}
	for _, wrong := range wrongPolicies() {
		if impl.Weaker([]impl.Policy{wrong}, one(31), []string{"kv/a"}) || impl.Weaker(nil, []impl.Policy{wrong}, []string{"kv/a"}) {
			t.Errorf("Weaker with %.60v", wrong)
		}
	}
}

func TestWeakerAtRandom(t *testing.T) {
	r := rand.New(rand.NewSource(7))
	all := smallPaths()
	yes := 0
	for range 300 {
		a, b := []impl.Policy{randomPolicy(r, 3)}, []impl.Policy{randomPolicy(r, 6), randomPolicy(r, 6)}
		paths := make([]string, 1+r.Intn(3))
		want := true
		for i := range paths {
			paths[i] = all[r.Intn(len(all))]
			less, more := wantCaps(a, paths[i]), wantCaps(b, paths[i])
			for bit := range 5 {
				if less>>bit%2 == 1 && more>>bit%2 == 0 {
					want = false
				}
			}
		}
		kept := slices.Clone(paths)
		if impl.Weaker(a, b, paths) != want {
			t.Fatalf("Weaker(%v, %v, %v) is not %v", a, b, paths, want)
		}
		if want {
			yes++
		}
		if !slices.Equal(paths, kept) {
			t.Fatal("the paths were changed")
		}
	}
	if yes < 20 || yes > 280 {
		t.Errorf("%d of 300 are weaker: the inputs lean to one side", yes)
	}
}
