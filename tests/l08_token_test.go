package tests

import (
	"fmt"
	"maps"
	"math"
	"math/rand"
	"reflect"
	"slices"
	"strings"
	"testing"

	"loop.example/g00705/impl"
)

const (
	topTokens = 120
	topNames  = 6
	topUses   = 1000
)

// codes of the document, written out.
const (
	codeDone = 0
	codeBad  = 1
	codeNone = 2
	codeOver = 3
	codeMore = 4
	codeFull = 5
)

// tokenOf is a token that never ends, its names set apart by blanks.
func tokenOf(id int, parent int, names string) impl.Token {
	return impl.Token{Id: id, Parent: parent, Names: strings.Fields(names)}
}

func lasting(t impl.Token, made int, ends int, limit int) impl.Token {
	t.Made, t.Ends, t.Limit = made, ends, limit
	return t
}

func usedUp(t impl.Token, uses int) impl.Token {
	t.Uses = uses
	return t
}

func forestOf(tokens ...impl.Token) impl.Forest { return impl.Forest{Tokens: tokens} }

func cloneToken(t impl.Token) impl.Token {
	t.Names = slices.Clone(t.Names)
	return t
}

func cloneForest(f impl.Forest) impl.Forest {
	var all []impl.Token
	for _, t := range f.Tokens {
		all = append(all, cloneToken(t))
	}
	return impl.Forest{Tokens: all}
}

func sameToken(a impl.Token, b impl.Token) bool {
	return a.Id == b.Id && a.Parent == b.Parent && slices.Equal(a.Names, b.Names) &&
		a.Made == b.Made && a.Ends == b.Ends && a.Limit == b.Limit && a.Uses == b.Uses
}

func sameForest(a impl.Forest, b impl.Forest) bool {
	return slices.EqualFunc(a.Tokens, b.Tokens, sameToken)
}

// spoilTexts goes into the room behind the list too.
func spoilTexts(list []string, with string) {
	whole := list[:cap(list)]
	for i := range whole {
		whole[i] = with
	}
}

func spoilForest(f impl.Forest) {
	whole := f.Tokens[:cap(f.Tokens)]
	for i := range whole {
		spoilTexts(whole[i].Names, "spoiled")
		whole[i] = impl.Token{Id: -7, Parent: -7, Made: -7, Ends: -7, Limit: -7, Uses: -7}
	}
}

// roomyNames has room behind the names, so that whatever is written there is seen.
func roomyNames(names []string) []string {
	room := slices.Repeat([]string{"room"}, len(names)+3)
	copy(room, names)
	return room[:len(names)]
}

func roomyForest(f impl.Forest) impl.Forest {
	room := slices.Repeat([]impl.Token{{Id: 90, Parent: 165, Names: []string{"room"}}}, len(f.Tokens)+3)
	for i, t := range f.Tokens {
		t.Names = roomyNames(t.Names)
		room[i] = t
	}
	return impl.Forest{Tokens: room[:len(f.Tokens)]}
}

// wholeForest is the forest with all the room behind its lists.
func wholeForest(f impl.Forest) []impl.Token {
	whole := slices.Clone(f.Tokens[:cap(f.Tokens)])
	for i, t := range whole {
		whole[i].Names = t.Names[:cap(t.Names)]
	}
	return whole
}

func roomyPolicies(ps []impl.Policy) []impl.Policy {
	room := slices.Repeat([]impl.Policy{policyOf("room")}, len(ps)+3)
	for i, p := range ps {
		rules := slices.Repeat([]impl.Rule{ruleOf("room", 9)}, len(p.Rules)+3)
		copy(rules, p.Rules)
		room[i] = policyOf(p.Name, rules[:len(p.Rules)]...)
	}
	return room[:len(ps)]
}

func wholePolicies(ps []impl.Policy) []impl.Policy {
	whole := slices.Clone(ps[:cap(ps)])
	for i, p := range whole {
		whole[i].Rules = p.Rules[:cap(p.Rules)]
	}
	return whole
}

func spoilRules(rules []impl.Rule, with int) {
	whole := rules[:cap(rules)]
	for i := range whole {
		whole[i] = ruleOf("spoiled", with)
	}
}

func spoilPolicies(ps []impl.Policy) {
	whole := ps[:cap(ps)]
	for i := range whole {
		spoilRules(whole[i].Rules, -7)
		whole[i] = policyOf("spoiled")
	}
}

func tokensById(f impl.Forest) map[int]impl.Token {
	byId := map[int]impl.Token{}
	for _, t := range f.Tokens {
		byId[t.Id] = t
	}
	return byId
}

func tokenIds(f impl.Forest) []int {
	var ids []int
	for _, t := range f.Tokens {
		ids = append(ids, t.Id)
	}
	return ids
}

// wantAlone is what a token must be by itself.
func wantAlone(t impl.Token) bool {
	sorted := slices.Compact(slices.Sorted(slices.Values(t.Names)))
	if len(t.Names) >= 7 || !slices.Equal(sorted, t.Names) {
		return false
	}
	for _, name := range t.Names {
		if !namePattern.MatchString(name) {
			return false
		}
	}
	if outside(t.Id, 1, 1000000000) || outside(t.Made, 0, 1000000000) || outside(t.Uses, 0, 1000) || outside(t.Parent, 0, t.Id-1) {
		return false
	}
	for _, end := range []int{t.Ends, t.Limit} {
		if end != 0 && outside(end, t.Made+1, 1000000000) {
			return false
		}
	}
	return t.Limit == 0 || t.Ends != 0 && t.Ends <= t.Limit
}

// wantForest holds the Ids against what a table of the tokens, laid out again, would be.
func wantForest(f impl.Forest) bool {
	byId := tokensById(f)
	if len(f.Tokens) >= 121 || !slices.Equal(slices.Sorted(maps.Keys(byId)), tokenIds(f)) {
		return false
	}
	for _, t := range f.Tokens {
		if _, there := byId[t.Parent]; !wantAlone(t) || !there && t.Parent != 0 {
			return false
		}
	}
	return true
}

// wantFound is asked of a forest of any kind.
func wantFound(f impl.Forest, id int) (impl.Token, bool) {
	token, there := tokensById(f)[id]
	if !wantForest(f) || !there {
		return impl.Token{}, false
	}
	return token, true
}

// wantLine is a token's Id and the Ids above it, in a forest that is in order.
func wantLine(byId map[int]impl.Token, id int) []int {
	var line []int
	for ; id != 0; id = byId[id].Parent {
		line = append(line, id)
	}
	return line
}

// wantWithout leaves out whoever has one of these in the line above it.
func wantWithout(f impl.Forest, these ...int) (impl.Forest, []int) {
	byId := tokensById(f)
	var left impl.Forest
	var went []int
	for _, t := range f.Tokens {
		goes := slices.ContainsFunc(wantLine(byId, t.Id), func(id int) bool { return slices.Contains(these, id) })
		if goes {
			went = append(went, t.Id)
		} else {
			left.Tokens = append(left.Tokens, t)
		}
	}
	return left, went
}

func wantBelow(f impl.Forest, id int) []int {
	if _, there := wantFound(f, id); !there {
		return nil
	}
	_, below := wantWithout(f, id)
	return below
}

func wantOver(t impl.Token, now int) bool { return t.Ends != 0 && now >= t.Ends }

func wantMake(f impl.Forest, t impl.Token) (impl.Forest, int) {
	if !wantForest(f) || !wantAlone(t) || slices.ContainsFunc(f.Tokens, func(other impl.Token) bool { return other.Id >= t.Id }) {
		return f, codeBad
	}
	if t.Parent != 0 {
		parent, there := tokensById(f)[t.Parent]
		if !there {
			return f, codeNone
		}
		if wantOver(parent, t.Made) {
			return f, codeOver
		}
		for _, name := range t.Names {
			if !slices.Contains(parent.Names, name) {
				return f, codeMore
			}
		}
	}
	if len(f.Tokens) == 120 {
		return f, codeFull
	}
	return impl.Forest{Tokens: append(slices.Clone(f.Tokens), t)}, codeDone
}

// wantLiving is the code of what a token can't be asked for at now.
func wantLiving(f impl.Forest, id int, now int) (impl.Token, int) {
	token, there := tokensById(f)[id]
	if !wantForest(f) || outside(now, 0, 1000000000) {
		return token, codeBad
	}
	if !there {
		return token, codeNone
	}
	if wantOver(token, now) || token.Made > now {
		return token, codeOver
	}
	return token, codeDone
}

func withToken(f impl.Forest, token impl.Token) impl.Forest {
	f = cloneForest(f)
	f.Tokens[slices.Index(tokenIds(f), token.Id)] = token
	return f
}

func wantRenew(f impl.Forest, id int, now int, by int) (impl.Forest, int) {
	token, code := wantLiving(f, id, now)
	if outside(by, 1, 1000000000) {
		code = codeBad
	}
	if code != codeDone {
		return f, code
	}
	token.Ends = now + by
	if token.Limit != 0 && token.Limit < token.Ends {
		token.Ends = token.Limit
	}
	if token.Ends >= 1000000001 {
		return f, codeMore
	}
	return withToken(f, token), codeDone
}

func wantUse(f impl.Forest, id int, now int) (impl.Forest, int) {
	token, code := wantLiving(f, id, now)
	if code != codeDone || token.Uses == 0 {
		return f, code
	}
	if token.Uses == 1 {
		left, _ := wantWithout(f, id)
		return left, codeDone
	}
	token.Uses--
	return withToken(f, token), codeDone
}

func wantRevoke(f impl.Forest, id int) (impl.Forest, []int) {
	if _, there := wantFound(f, id); !there {
		return f, nil
	}
	return wantWithout(f, id)
}

func wantLeftAlone(f impl.Forest, id int) (impl.Forest, bool) {
	if _, there := wantFound(f, id); !there {
		return f, false
	}
	var left impl.Forest
	for _, t := range f.Tokens {
		if t.Parent == id {
			t.Parent = 0
		}
		if t.Id != id {
			left.Tokens = append(left.Tokens, t)
		}
	}
	return left, true
}

func wantSweep(f impl.Forest, now int) (impl.Forest, []int) {
	if !wantForest(f) {
		return f, nil
	}
	var over []int
	for _, t := range f.Tokens {
		if wantOver(t, now) {
			over = append(over, t.Id)
		}
	}
	return wantWithout(f, over...)
}

func wantDepth(f impl.Forest, id int) int {
	if _, there := wantFound(f, id); !there {
		return -1
	}
	return len(wantLine(tokensById(f), id)) - 1
}

func wantPowers(f impl.Forest, id int, ps []impl.Policy) ([]impl.Policy, bool) {
	token, there := wantFound(f, id)
	var names []string
	for _, p := range ps {
		names = append(names, p.Name)
	}
	sorted := slices.Compact(slices.Sorted(slices.Values(names)))
	wrong := func(p impl.Policy) bool { return !wantPolicy(p) }
	if !there || len(ps) >= 201 || !slices.Equal(sorted, names) || slices.ContainsFunc(ps, wrong) {
		return nil, false
	}
	foreign := func(p impl.Policy) bool { return !slices.Contains(token.Names, p.Name) }
	return slices.DeleteFunc(slices.Clone(ps), foreign), true
}

// namesApart marks each list of names in a way of its own, and looks for a mark that another has overwritten.
func namesApart(f impl.Forest) bool {
	mark := func(i int) string { return fmt.Sprint("mark", i) }
	for i, t := range f.Tokens {
		spoilTexts(t.Names, mark(i))
	}
	for i, t := range f.Tokens {
		if slices.ContainsFunc(t.Names[:cap(t.Names)], func(name string) bool { return name != mark(i) }) {
			return false
		}
	}
	return true
}

// checkGrown holds a forest and the numbers that are answered against those that are wanted, and asks whose memory they are.
func checkGrown(t *testing.T, what string, f impl.Forest, do func(f impl.Forest) (impl.Forest, []int), want impl.Forest, wantNums []int) (impl.Forest, []int) {
	t.Helper()
	want, wantNums = cloneForest(want), slices.Clone(wantNums)
	given, kept := roomyForest(f), roomyForest(f)
	got, nums := do(given)
	if !sameForest(got, want) || !slices.Equal(nums, wantNums) {
		t.Errorf("%s of %s = %s, %s, not %s, %s", what, brief(f), brief(got), brief(nums), brief(want), brief(wantNums))
	}
	if !reflect.DeepEqual(wholeForest(given), wholeForest(kept)) {
		t.Errorf("%s of %s writes into what it was given", what, brief(f))
	}
	answer, told := cloneForest(got), slices.Clone(nums)
	spoilForest(given)
	if !sameForest(got, answer) || !slices.Equal(nums, told) {
		t.Errorf("%s of %s shares what it was given", what, brief(f))
	}
	if !namesApart(got) {
		t.Errorf("%s of %s: its lists share memory", what, brief(f))
	}
	return answer, told
}

// oneNum turns a code into a list, so that one check serves all.
func oneNum(f impl.Forest, code int) (impl.Forest, []int) { return f, []int{code} }

func checkMake(t *testing.T, f impl.Forest, token impl.Token) (impl.Forest, int) {
	t.Helper()
	given, kept := token, token
	given.Names, kept.Names = roomyNames(token.Names), roomyNames(token.Names)
	want, code := oneNum(wantMake(f, token))
	var answer impl.Forest
	grow := func(f impl.Forest) (impl.Forest, []int) {
		made, code := impl.MakeToken(f, given)
		if !sameToken(given, kept) || !slices.Equal(given.Names[:cap(given.Names)], kept.Names[:cap(kept.Names)]) {
			t.Errorf("MakeToken writes into %v", token)
		}
		answer = cloneForest(made)
		spoilTexts(given.Names, "spoiled")
		if !sameForest(made, answer) {
			t.Errorf("MakeToken shares the Names of %v", token)
		}
		return made, []int{code}
	}
	got, codes := checkGrown(t, fmt.Sprintf("MakeToken of %s", brief(token)), f, grow, want, code)
	return got, codes[0]
}

func checkRenew(t *testing.T, f impl.Forest, id int, now int, by int) (impl.Forest, int) {
	t.Helper()
	want, code := oneNum(wantRenew(f, id, now, by))
	renew := func(f impl.Forest) (impl.Forest, []int) { return oneNum(impl.RenewToken(f, id, now, by)) }
	got, codes := checkGrown(t, fmt.Sprintf("RenewToken %d at %d by %d", id, now, by), f, renew, want, code)
	return got, codes[0]
}

func checkUse(t *testing.T, f impl.Forest, id int, now int) (impl.Forest, int) {
	t.Helper()
	want, code := oneNum(wantUse(f, id, now))
	use := func(f impl.Forest) (impl.Forest, []int) { return oneNum(impl.UseToken(f, id, now)) }
	got, codes := checkGrown(t, fmt.Sprintf("UseToken %d at %d", id, now), f, use, want, code)
	return got, codes[0]
}

func checkRevoke(t *testing.T, f impl.Forest, id int) (impl.Forest, []int) {
	t.Helper()
	want, ids := wantRevoke(f, id)
	revoke := func(f impl.Forest) (impl.Forest, []int) { return impl.RevokeToken(f, id) }
	return checkGrown(t, fmt.Sprintf("RevokeToken %d", id), f, revoke, want, ids)
}

func checkAlone(t *testing.T, f impl.Forest, id int) (impl.Forest, bool) {
	t.Helper()
	flag := func(f impl.Forest, ok bool) (impl.Forest, []int) {
		if ok {
			return f, []int{1}
		}
		return f, nil
	}
	want, flags := flag(wantLeftAlone(f, id))
	alone := func(f impl.Forest) (impl.Forest, []int) { return flag(impl.RevokeAlone(f, id)) }
	got, ok := checkGrown(t, fmt.Sprintf("RevokeAlone %d", id), f, alone, want, flags)
	return got, len(ok) == 1
}

func checkSweep(t *testing.T, f impl.Forest, now int) (impl.Forest, []int) {
	t.Helper()
	want, ids := wantSweep(f, now)
	sweep := func(f impl.Forest) (impl.Forest, []int) { return impl.SweepTokens(f, now) }
	return checkGrown(t, fmt.Sprintf("SweepTokens at %d", now), f, sweep, want, ids)
}

func checkPowers(t *testing.T, f impl.Forest, id int, ps []impl.Policy) ([]impl.Policy, bool) {
	t.Helper()
	want, wantOk := wantPowers(f, id, ps)
	given, kept := roomyForest(f), roomyForest(f)
	givenPs, keptPs := roomyPolicies(ps), roomyPolicies(ps)
	got, ok := impl.PowersOf(given, id, givenPs)
	if ok != wantOk || !slices.EqualFunc(got, want, samePolicy) {
		t.Errorf("PowersOf(%s, %d, %s) = %s, %v, not %s, %v", brief(f), id, brief(ps), brief(got), ok, brief(want), wantOk)
	}
	if !reflect.DeepEqual(wholeForest(given), wholeForest(kept)) || !reflect.DeepEqual(wholePolicies(givenPs), wholePolicies(keptPs)) {
		t.Errorf("PowersOf(%s, %d) writes into what it was given", brief(f), id)
	}
	answer := clonePolicies(got)
	spoilForest(given)
	spoilPolicies(givenPs)
	if !slices.EqualFunc(got, answer, samePolicy) {
		t.Errorf("PowersOf(%s, %d) shares what it was given", brief(f), id)
	}
	for i := range got {
		spoilRules(got[i].Rules, i)
	}
	for i := range got {
		if slices.ContainsFunc(got[i].Rules, func(rule impl.Rule) bool { return rule.Caps != i }) {
			t.Errorf("PowersOf(%s, %d): its lists share memory", brief(f), id)
		}
	}
	return answer, ok
}

func checkFind(t *testing.T, f impl.Forest, id int) {
	t.Helper()
	want, wantOk := wantFound(f, id)
	given, kept := roomyForest(f), roomyForest(f)
	got, ok := impl.FindToken(given, id)
	if ok != wantOk || !sameToken(got, want) {
		t.Errorf("FindToken(%s, %d) = %v, %v, not %v, %v", brief(f), id, got, ok, want, wantOk)
	}
	if !reflect.DeepEqual(wholeForest(given), wholeForest(kept)) {
		t.Errorf("FindToken(%s, %d) writes into what it was given", brief(f), id)
	}
	spoilForest(given)
	if !sameToken(got, want) {
		t.Errorf("FindToken(%s, %d) shares what it was given", brief(f), id)
	}
}

// checkToldOf asks all that is only told of a forest.
func checkToldOf(t *testing.T, f impl.Forest, ids []int) {
	t.Helper()
	given, kept := roomyForest(f), roomyForest(f)
	if got := impl.ForestOk(given); got != wantForest(f) {
		t.Errorf("ForestOk(%s) = %v", brief(f), got)
	}
	for _, id := range ids {
		if got := impl.Below(given, id); !slices.Equal(got, wantBelow(f, id)) {
			t.Errorf("Below(%s, %d) = %v, not %v", brief(f), id, got, wantBelow(f, id))
		}
		if got := impl.Depth(given, id); got != wantDepth(f, id) {
			t.Errorf("Depth(%s, %d) = %d, not %d", brief(f), id, got, wantDepth(f, id))
		}
	}
	if !reflect.DeepEqual(wholeForest(given), wholeForest(kept)) {
		t.Errorf("%s is changed by a question", brief(f))
	}
	for _, id := range ids {
		checkFind(t, f, id)
		checkPowers(t, f, id, []impl.Policy{policyOf("a", ruleOf("kv/*", 3)), policyOf("b"), policyOf("c", manyRules(0, 20, 1)...)})
	}
}

// checkChanged asks all that changes a token of the forest.
func checkChanged(t *testing.T, f impl.Forest, ids []int, times []int) {
	t.Helper()
	for _, id := range ids {
		checkRevoke(t, f, id)
		checkAlone(t, f, id)
		for _, now := range times {
			checkUse(t, f, id, now)
			for _, by := range []int{1, 7} {
				checkRenew(t, f, id, now, by)
			}
			checkMake(t, f, lasting(tokenOf(topId, id, "a"), now, 0, 0))
		}
	}
	for _, now := range times {
		checkSweep(t, f, now)
	}
}

// chainOf has each token below the one ahead of it, their Ids 3, 6, ..
func chainOf(n int) impl.Forest {
	var f impl.Forest
	for i := range n {
		f.Tokens = append(f.Tokens, tokenOf(3*i+3, 3*i, "a b"))
	}
	return f
}

// rowOf has tokens that are all uppermost.
func rowOf(n int) impl.Forest {
	f := chainOf(n)
	for i := range f.Tokens {
		f.Tokens[i].Parent = 0
	}
	return f
}

// starOf has all the others below the first.
func starOf(n int) impl.Forest {
	f := chainOf(n)
	for i := range f.Tokens[1:] {
		f.Tokens[i+1].Parent = 3
	}
	return f
}

// wood is two trees: 2 (with 3, and 3 with 5 and 8) and 6 below 1; 7 and 9 below 4.
func wood() impl.Forest {
	return forestOf(
		tokenOf(1, 0, "a b c"),
		lasting(tokenOf(2, 1, "a b"), 2, 10, 20),
		usedUp(tokenOf(3, 2, "a"), 1),
		lasting(tokenOf(4, 0, "a"), 5, 15, 0),
		tokenOf(5, 3, ""),
		lasting(usedUp(tokenOf(6, 1, "c"), 2), 1, 6, 6),
		lasting(tokenOf(7, 4, "a"), 5, 6, 0),
		lasting(usedUp(tokenOf(8, 3, "a"), topUses), 0, topTime, topTime),
		tokenOf(9, 4, ""),
	)
}

func goodForests() []impl.Forest {
	six := tokenOf(4, 0, "0 09 a ab abcdefghij09 b")
	return []impl.Forest{
		{}, {Tokens: []impl.Token{}}, {Tokens: make([]impl.Token, 0, 130)},
		forestOf(tokenOf(1, 0, "")), forestOf(tokenOf(topId, 0, "a")), forestOf(impl.Token{Id: 1, Names: []string{}}), forestOf(six),
		forestOf(lasting(tokenOf(1, 0, "a"), topTime, 0, 0)), forestOf(lasting(tokenOf(1, 0, "a"), topTime-1, topTime, topTime)),
		forestOf(lasting(tokenOf(1, 0, "a"), 0, topTime, topTime)), forestOf(lasting(tokenOf(1, 0, "a"), 0, 1, 1)), forestOf(lasting(tokenOf(1, 0, "a"), 0, 1, topTime)),
		forestOf(lasting(tokenOf(1, 0, "a"), 4, 5, 5)), forestOf(lasting(tokenOf(1, 0, "a"), 4, 5, 6)), forestOf(lasting(tokenOf(1, 0, "a"), 4, 6, 0)),
		forestOf(usedUp(tokenOf(1, 0, "a"), 1)), forestOf(usedUp(tokenOf(1, 0, "a"), 2)), forestOf(usedUp(tokenOf(1, 0, "a"), topUses)),
		// What MakeToken would refuse may stand in a forest: names that the parent has not, a parent that is over.
		forestOf(tokenOf(1, 0, "a"), tokenOf(2, 1, "b")), forestOf(lasting(tokenOf(1, 0, "a"), 0, 5, 0), lasting(tokenOf(2, 1, "a"), 5, 0, 0), lasting(tokenOf(3, 1, "a"), 6, 9, 9)),
		forestOf(lasting(tokenOf(1, 0, "a"), 5, 0, 0), lasting(tokenOf(2, 1, "a"), 2, 4, 0)),
		forestOf(tokenOf(topId-1, 0, ""), tokenOf(topId, topId-1, "")),
		wood(),
	}
}

func fullForests() []impl.Forest {
	return []impl.Forest{chainOf(topTokens - 1), chainOf(topTokens), rowOf(topTokens), starOf(topTokens)}
}

func wrongTokens() []impl.Token {
	good := tokenOf(8, 0, "a b")
	var all []impl.Token
	for _, id := range []int{0, -1, topId + 1, math.MinInt, math.MaxInt} {
		all = append(all, tokenOf(id, 0, "a"))
	}
	for _, parent := range []int{-1, 8, 9, topId, math.MinInt, math.MaxInt} {
		all = append(all, tokenOf(8, parent, "a"))
	}
	for _, names := range []string{"b a", "a a", "a b b", "a c b", "a b c d e f g", "A", "a-", "kv/a", "abcdefghij012", "é", "a _", "a b c d e f f"} {
		all = append(all, tokenOf(8, 0, names))
	}
	for _, names := range [][]string{{""}, {"", "a"}, {"a", ""}, {"a "}, {" "}, {"a\n"}, {"\x00"}, slices.Repeat([]string{"a"}, 300)} {
		all = append(all, impl.Token{Id: 8, Names: names})
	}
	for _, made := range []int{-1, topTime + 1, math.MinInt, math.MaxInt} {
		all = append(all, lasting(good, made, 0, 0), lasting(good, made, 5, 5), lasting(good, made, topTime, topTime), lasting(good, made, made, 0), lasting(good, made, made+1, 0))
	}
	// Ends and Limit, with Made at 4.
	for _, ends := range []int{4, 3, 1, -1, -4, topTime + 1, math.MinInt, math.MaxInt} {
		all = append(all, lasting(good, 4, ends, 0), lasting(good, 4, ends, ends), lasting(good, 4, ends, topTime), lasting(good, 4, ends, 9))
	}
	for _, limit := range []int{1, 3, 4, 5, 9, -1, topTime, topTime + 1, math.MinInt, math.MaxInt} {
		all = append(all, lasting(good, 4, 0, limit))
	}
	for _, limit := range []int{1, 3, 4, 5, 7, 8, -1, topTime + 1, math.MinInt, math.MaxInt} {
		all = append(all, lasting(good, 4, 9, limit))
	}
	all = append(all, lasting(good, topTime, topTime, 0), lasting(good, topTime, topTime+1, 0), lasting(good, 0, 0, 1))
	for _, uses := range []int{-1, topUses + 1, math.MinInt, math.MaxInt} {
		all = append(all, usedUp(good, uses))
	}
	return all
}

func wrongForests() []impl.Forest {
	all := []impl.Forest{
		forestOf(tokenOf(2, 0, ""), tokenOf(1, 0, "")), forestOf(tokenOf(2, 0, ""), tokenOf(2, 0, "")), forestOf(tokenOf(1, 0, ""), tokenOf(3, 0, ""), tokenOf(2, 1, "")),
		forestOf(tokenOf(1, 0, ""), tokenOf(3, 1, ""), tokenOf(3, 1, "")), forestOf(tokenOf(1, 0, ""), tokenOf(1, 0, ""), tokenOf(2, 1, "")),
		forestOf(tokenOf(2, 1, "")), forestOf(tokenOf(1, 0, ""), tokenOf(5, 2, ""), tokenOf(7, 0, "")), forestOf(tokenOf(1, 0, ""), tokenOf(5, 4, "")), forestOf(tokenOf(1, 1, "")),
		forestOf(tokenOf(1, 2, ""), tokenOf(2, 0, "")), forestOf(tokenOf(1, 2, ""), tokenOf(2, 1, "")), forestOf(tokenOf(1, 0, ""), tokenOf(2, 3, ""), tokenOf(3, 1, "")),
		forestOf(tokenOf(2, 1, ""), tokenOf(1, 0, "")), forestOf(tokenOf(1, -1, "")), forestOf(tokenOf(1, 0, ""), tokenOf(2, -1, "")),
		chainOf(topTokens + 1), rowOf(topTokens + 1), starOf(topTokens + 1), rowOf(500),
	}
	for _, token := range wrongTokens() {
		all = append(all, forestOf(token))
	}
	first, last := wood(), wood()
	first.Tokens[0].Uses = -1
	last.Tokens[8].Made = -1
	return append(all, first, last)
}

func TestTokenLimits(t *testing.T) {
	if impl.MaxTokens != 120 || impl.MaxNames != 6 {
		t.Error("limits")
	}
	if impl.TokenDone != 0 || impl.TokenBad != 1 || impl.TokenNone != 2 || impl.TokenOver != 3 || impl.TokenMore != 4 || impl.TokenFull != 5 {
		t.Error("codes")
	}
}

func TestForestOk(t *testing.T) {
	for _, f := range append(goodForests(), fullForests()...) {
		if !impl.ForestOk(f) || !wantForest(f) {
			t.Errorf("ForestOk(%s) is false", brief(f))
		}
	}
	for _, f := range wrongForests() {
		if impl.ForestOk(f) || wantForest(f) {
			t.Errorf("ForestOk(%s) is true", brief(f))
		}
	}
	// The room behind the tokens is no part of them.
	if !impl.ForestOk(impl.Forest{Tokens: rowOf(topTokens + 1).Tokens[:topTokens]}) || !impl.ForestOk(impl.Forest{Tokens: make([]impl.Token, 0, 300)}) {
		t.Error("ForestOk counts the room behind the tokens")
	}
	if !impl.ForestOk(forestOf(impl.Token{Id: 1, Names: strings.Fields("a b c d e f g h")[:6]})) {
		t.Error("ForestOk counts the room behind the names")
	}
}

func TestForestsAtEveryEdge(t *testing.T) {
	for _, f := range goodForests() {
		checkToldOf(t, f, append(edgeIds(), tokenIds(f)...))
		checkChanged(t, f, append(edgeIds(), tokenIds(f)...), edgeTimes())
	}
	for _, f := range fullForests() {
		ids := []int{0, 1, 3, 6, 180, 357, 360, 363}
		checkToldOf(t, f, ids)
		checkChanged(t, f, ids, []int{-1, 0, topTime})
	}
}

func TestForestsThatAreNone(t *testing.T) {
	for _, f := range wrongForests() {
		asked := []int{1, 2, 8}
		for _, token := range f.Tokens[:min(3, len(f.Tokens))] {
			asked = append(asked, token.Id)
		}
		checkToldOf(t, f, asked)
		for _, id := range asked {
			if token, ok := impl.FindToken(f, id); ok || !sameToken(token, impl.Token{}) {
				t.Errorf("FindToken(%s, %d) = %v, %v", brief(f), id, token, ok)
			}
			if below := impl.Below(f, id); len(below) != 0 || impl.Depth(f, id) != -1 {
				t.Errorf("asked of %s: below %d are %v", brief(f), id, below)
			}
			if ps, ok := impl.PowersOf(f, id, nil); ok || len(ps) != 0 {
				t.Errorf("PowersOf(%s, %d) = %v, %v", brief(f), id, ps, ok)
			}
			if got, code := checkRenew(t, f, id, 5, 5); code != codeBad || !sameForest(got, f) {
				t.Errorf("RenewToken(%s, %d) = %s, %d", brief(f), id, brief(got), code)
			}
			if got, code := checkUse(t, f, id, 5); code != codeBad || !sameForest(got, f) {
				t.Errorf("UseToken(%s, %d) = %s, %d", brief(f), id, brief(got), code)
			}
			if got, gone := checkRevoke(t, f, id); len(gone) != 0 || !sameForest(got, f) {
				t.Errorf("RevokeToken(%s, %d) = %s, %v", brief(f), id, brief(got), gone)
			}
			if got, ok := checkAlone(t, f, id); ok || !sameForest(got, f) {
				t.Errorf("RevokeAlone(%s, %d) = %s, %v", brief(f), id, brief(got), ok)
			}
		}
		if got, code := checkMake(t, f, tokenOf(topId, 0, "")); code != codeBad || !sameForest(got, f) {
			t.Errorf("MakeToken(%s) = %s, %d", brief(f), brief(got), code)
		}
		if got, gone := checkSweep(t, f, topTime); len(gone) != 0 || !sameForest(got, f) {
			t.Errorf("SweepTokens(%s) = %s, %v", brief(f), brief(got), gone)
		}
	}
}

func TestAnEmptyForest(t *testing.T) {
	for _, f := range []impl.Forest{{}, {Tokens: []impl.Token{}}, {Tokens: make([]impl.Token, 0, 9)}} {
		for _, id := range edgeIds() {
			if _, ok := impl.FindToken(f, id); ok || len(impl.Below(f, id)) != 0 || impl.Depth(f, id) != -1 {
				t.Errorf("an empty forest has %d", id)
			}
			if ps, ok := impl.PowersOf(f, id, []impl.Policy{policyOf("a")}); ok || len(ps) != 0 {
				t.Errorf("PowersOf %d: %v, %v", id, ps, ok)
			}
			if got, code := impl.RenewToken(f, id, 0, 1); code != codeNone || len(got.Tokens) != 0 {
				t.Errorf("RenewToken %d: %v, %d", id, got, code)
			}
			if got, code := impl.UseToken(f, id, 0); code != codeNone || len(got.Tokens) != 0 {
				t.Errorf("UseToken %d: %v, %d", id, got, code)
			}
			if got, gone := impl.RevokeToken(f, id); len(gone) != 0 || len(got.Tokens) != 0 {
				t.Errorf("RevokeToken %d: %v, %v", id, got, gone)
			}
			if got, ok := impl.RevokeAlone(f, id); ok || len(got.Tokens) != 0 {
				t.Errorf("RevokeAlone %d: %v, %v", id, got, ok)
			}
		}
		if got, gone := impl.SweepTokens(f, topTime); len(gone) != 0 || len(got.Tokens) != 0 {
			t.Errorf("SweepTokens: %v, %v", got, gone)
		}
		if got, code := impl.MakeToken(f, tokenOf(1, 0, "a")); code != codeDone || !sameForest(got, forestOf(tokenOf(1, 0, "a"))) {
			t.Errorf("MakeToken: %v, %d", got, code)
		}
	}
}

func TestBelowAndDepth(t *testing.T) {
	f := wood()
	below := map[int][]int{1: {1, 2, 3, 5, 6, 8}, 2: {2, 3, 5, 8}, 3: {3, 5, 8}, 4: {4, 7, 9}, 5: {5}, 6: {6}, 7: {7}, 8: {8}, 9: {9}, 0: nil, 10: nil, -1: nil}
	depth := map[int]int{1: 0, 2: 1, 3: 2, 4: 0, 5: 3, 6: 1, 7: 1, 8: 3, 9: 1, 0: -1, 10: -1, -1: -1}
	for id, want := range below {
		if got := impl.Below(f, id); !slices.Equal(got, want) {
			t.Errorf("Below %d = %v, not %v", id, got, want)
		}
		if got := impl.Depth(f, id); got != depth[id] {
			t.Errorf("Depth %d = %d, not %d", id, got, depth[id])
		}
		got, ok := impl.FindToken(f, id)
		if ok != (want != nil) || ok && !sameToken(got, f.Tokens[id-1]) {
			t.Errorf("FindToken %d = %v, %v", id, got, ok)
		}
	}
	chain := chainOf(topTokens)
	for i := range topTokens {
		id := 3*i + 3
		if got := impl.Below(chain, id); len(got) != topTokens-i || got[0] != id || got[len(got)-1] != 3*topTokens {
			t.Errorf("Below %d in a chain: %v", id, got)
		}
		if got := impl.Depth(chain, id); got != i {
			t.Errorf("Depth %d in a chain: %d", id, got)
		}
	}
	star := starOf(topTokens)
	if len(impl.Below(star, 3)) != topTokens || !slices.Equal(impl.Below(star, 3), tokenIds(star)) || len(impl.Below(star, 6)) != 1 || impl.Depth(star, 360) != 1 {
		t.Error("a star")
	}
}

func TestTokenVectors(t *testing.T) {
	var f impl.Forest
	check := func(step string, got impl.Forest, code int, wantCode int, want ...impl.Token) {
		t.Helper()
		if code != wantCode || !sameForest(got, forestOf(want...)) {
			t.Fatalf("%s: %v, %d, not %v, %d", step, got, code, want, wantCode)
		}
		f = got
	}
	one := tokenOf(1, 0, "a b")
	two := lasting(tokenOf(2, 1, "a"), 3, 10, 20)
	three := usedUp(tokenOf(3, 2, "a"), 2)
	do := func(token impl.Token) (impl.Forest, int) { return checkMake(t, f, token) }

	got, code := do(one)
	check("1 is made", got, code, codeDone, one)
	got, code = do(two)
	check("2 is made", got, code, codeDone, one, two)
	got, code = do(lasting(tokenOf(3, 2, "a"), 10, 0, 0))
	check("its parent is over", got, code, codeOver, one, two)
	got, code = do(three)
	check("3 is made", got, code, codeDone, one, two, three)
	got, code = do(tokenOf(3, 0, ""))
	check("3 is there", got, code, codeBad, one, two, three)
	got, code = do(tokenOf(4, 3, "b"))
	check("3 has no b", got, code, codeMore, one, two, three)
	got, code = checkUse(t, f, 3, 0)
	three.Uses = 1
	check("3 is used", got, code, codeDone, one, two, three)
	got, code = do(tokenOf(4, 3, "a"))
	four := tokenOf(4, 3, "a")
	check("4 is made", got, code, codeDone, one, two, three, four)
	got, code = checkRenew(t, f, 2, 9, 6)
	two.Ends = 15
	check("2 is renewed", got, code, codeDone, one, two, three, four)
	got, code = checkRenew(t, f, 2, 14, 60)
	two.Ends = 20
	check("2 is renewed to its Limit", got, code, codeDone, one, two, three, four)
	got, code = checkRenew(t, f, 2, 20, 1)
	check("2 is over", got, code, codeOver, one, two, three, four)
	got, code = checkUse(t, f, 3, 0)
	check("3 is used up, and 4 goes with it", got, code, codeDone, one, two)
	got, code = do(tokenOf(4, 2, ""))
	four = tokenOf(4, 2, "")
	check("4 is made anew", got, code, codeDone, one, two, four)
	got, gone := checkSweep(t, f, 19)
	check("nothing is over", got, len(gone), 0, one, two, four)
	got, gone = checkSweep(t, f, 20)
	check("2 and 4 are swept", got, len(gone), 2, one)
	if !slices.Equal(gone, []int{2, 4}) {
		t.Errorf("swept: %v", gone)
	}
}

func TestMakeTokenByItself(t *testing.T) {
	others := forestOf(tokenOf(2, 0, "a b"), tokenOf(5, 0, ""), tokenOf(7, 2, "a"))
	for _, token := range wrongTokens() {
		for _, f := range []impl.Forest{{}, others} {
			if got, code := checkMake(t, f, token); code != codeBad || !sameForest(got, f) {
				t.Errorf("MakeToken of %s = %s, %d", brief(token), brief(got), code)
			}
		}
	}
	for _, id := range []int{1, 2, 3, 5, 6, 7, 8, 9, topId} {
		want := codeDone
		if id < 8 {
			want = codeBad
		}
		if _, code := checkMake(t, others, tokenOf(id, 0, "a")); code != want {
			t.Errorf("MakeToken of %d: %d, not %d", id, code, want)
		}
	}
	// An uppermost token may have any names; one that has none may stand below anyone.
	for _, names := range []string{"", "z", "a b c d e f", "abcdefghij01"} {
		if _, code := checkMake(t, others, tokenOf(8, 0, names)); code != codeDone {
			t.Errorf("MakeToken with %s: %d", names, code)
		}
	}
	for _, f := range goodForests() {
		for _, token := range f.Tokens {
			token.Parent = 0
			if got, code := checkMake(t, impl.Forest{}, token); code != codeDone || !sameForest(got, forestOf(token)) {
				t.Errorf("MakeToken of %v = %v, %d", token, got, code)
			}
		}
	}
}

func TestMakeTokenNames(t *testing.T) {
	f := forestOf(tokenOf(1, 0, "b c e"), tokenOf(2, 0, ""))
	cases := []struct {
		parent int
		names  string
		want   int
	}{
		{1, "", codeDone}, {1, "b", codeDone}, {1, "c", codeDone}, {1, "e", codeDone}, {1, "b e", codeDone}, {1, "b c e", codeDone},
		{1, "a", codeMore}, {1, "d", codeMore}, {1, "f", codeMore}, {1, "a b", codeMore}, {1, "b f", codeMore}, {1, "b c d e", codeMore}, {1, "bc", codeMore}, {1, "b c e f", codeMore},
		{1, "e b", codeBad}, {1, "b b", codeBad}, {2, "", codeDone}, {2, "a", codeMore}, {0, "a", codeDone}, {0, "e b", codeBad},
	}
	for _, s := range cases {
		if _, code := checkMake(t, f, tokenOf(3, s.parent, s.names)); code != s.want {
			t.Errorf("below %d with %q: %d, not %d", s.parent, s.names, code, s.want)
		}
	}
	// The names are held against the Parent alone, not against those above it.
	mixed := forestOf(tokenOf(1, 0, "a"), tokenOf(2, 1, "b"))
	if _, code := checkMake(t, mixed, tokenOf(3, 2, "b")); code != codeDone {
		t.Errorf("the Parent's names: %d", code)
	}
	if _, code := checkMake(t, mixed, tokenOf(3, 2, "a")); code != codeMore {
		t.Errorf("the names above the Parent: %d", code)
	}
}

func TestMakeTokenBelowOneThatIsOver(t *testing.T) {
	f := forestOf(lasting(tokenOf(1, 0, "a"), 3, 10, 0), lasting(tokenOf(2, 1, "a"), 0, 0, 0), lasting(tokenOf(3, 0, "a"), 0, topTime, topTime))
	cases := []struct {
		parent int
		made   int
		want   int
	}{
		{1, 9, codeDone}, {1, 10, codeOver}, {1, 11, codeOver}, {1, 8, codeDone}, {1, 3, codeDone}, {1, topTime, codeOver},
		// A Parent that was made later is not over for that.
		{1, 2, codeDone}, {1, 0, codeDone},
		// What is over is the Parent's own time, not that of those above it.
		{2, 9, codeDone}, {2, 10, codeDone}, {2, topTime, codeDone},
		{3, topTime - 1, codeDone}, {3, topTime, codeOver}, {3, topTime + 1, codeBad}, {0, topTime, codeDone}, {4, 10, codeBad}, {1, -1, codeBad},
	}
	for _, s := range cases {
		if _, code := checkMake(t, f, lasting(tokenOf(4, s.parent, "a"), s.made, 0, 0)); code != s.want {
			t.Errorf("made at %d below %d: %d, not %d", s.made, s.parent, code, s.want)
		}
	}
	// A child may end behind its Parent.
	if _, code := checkMake(t, f, lasting(tokenOf(4, 1, "a"), 9, 99, 100)); code != codeDone {
		t.Errorf("a child that ends later: %d", code)
	}
}

// TestMakeTokenRefusals puts all faults together in all ways: the first counts.
func TestMakeTokenRefusals(t *testing.T) {
	wrong := []func(t *impl.Token){
		func(t *impl.Token) { t.Uses = topUses + 1 },
		func(t *impl.Token) { t.Names = []string{"z", "a"} },
		func(t *impl.Token) { t.Id = 400 },
		func(t *impl.Token) { t.Ends = t.Made },
		func(t *impl.Token) { t.Limit = 999 },
		func(t *impl.Token) { t.Names = strings.Fields("a b c d e f g") },
	}
	for mask := range 32 {
		has := func(code int) bool { return mask>>(code-1)%2 == 1 }
		f := forestOf(lasting(tokenOf(1, 0, "a"), 0, 10, 0))
		count := topTokens - 1
		if has(codeFull) {
			count = topTokens
		}
		for i := len(f.Tokens); i < count; i++ {
			f.Tokens = append(f.Tokens, tokenOf(400-count+i+1, 0, ""))
		}
		token := lasting(tokenOf(500, 1, "a"), 9, 0, 0)
		if has(codeNone) {
			token.Parent = 2
		}
		if has(codeOver) {
			token.Made = 10
		}
		if has(codeMore) {
			token.Names = []string{"a", "b"}
		}
		want := codeDone
		for code := codeFull; code >= codeBad; code-- {
			if has(code) {
				want = code
			}
		}
		for _, bend := range wrong {
			bent := cloneToken(token)
			if has(codeBad) {
				bend(&bent)
			}
			if got, code := checkMake(t, f, bent); code != want || (code != codeDone) != sameForest(got, f) {
				t.Errorf("faults %05b: %d, not %d", mask, code, want)
			}
		}
	}
}

func TestAForestThatIsFull(t *testing.T) {
	for _, f := range fullForests() {
		last := f.Tokens[len(f.Tokens)-1]
		token := tokenOf(last.Id+1, last.Id, "b")
		got, code := checkMake(t, f, token)
		if len(f.Tokens) == topTokens && (code != codeFull || !sameForest(got, f)) {
			t.Errorf("one more: %d", code)
		}
		if len(f.Tokens) < topTokens && (code != codeDone || !sameForest(got, forestOf(append(f.Tokens, token)...)) || !impl.ForestOk(got)) {
			t.Errorf("the last: %d", code)
		}
		// There is room again when one went.
		got, gone := checkRevoke(t, f, last.Id)
		if len(gone) != 1 {
			t.Fatalf("%v", gone)
		}
		if got, code = checkMake(t, got, tokenOf(last.Id+9, 0, "x")); code != codeDone || len(got.Tokens) != len(f.Tokens) {
			t.Errorf("behind a revoke: %d", code)
		}
	}
	var f impl.Forest
	for i := range topTokens + 3 {
		want := codeDone
		if i >= topTokens {
			want = codeFull
		}
		got, code := impl.MakeToken(f, tokenOf(i+1, i/2, ""))
		if code != want || len(got.Tokens) != min(i+1, topTokens) {
			t.Fatalf("token %d: %d", i, code)
		}
		f = got
	}
}

func TestRenewTokenEdges(t *testing.T) {
	f := forestOf(
		lasting(tokenOf(1, 0, "a"), 5, 10, 20),
		lasting(tokenOf(2, 1, "a"), 5, 10, 0),
		lasting(tokenOf(3, 2, "a"), 5, 0, 0),
		lasting(tokenOf(4, 0, "a"), 0, topTime, topTime),
		lasting(tokenOf(5, 0, "a"), 0, topTime, 0),
		lasting(tokenOf(6, 0, "a"), topTime, 0, 0),
		lasting(tokenOf(7, 0, "a"), 5, 6, 6),
	)
	cases := []struct {
		id, now, by int
		want        int
		ends        int
	}{
		// To its Limit, and beyond it.
		{1, 5, 1, codeDone, 6}, {1, 5, 5, codeDone, 10}, {1, 9, 1, codeDone, 10}, {1, 9, 10, codeDone, 19}, {1, 9, 11, codeDone, 20}, {1, 9, 12, codeDone, 20}, {1, 9, topTime, codeDone, 20}, {1, 5, topTime, codeDone, 20},
		{7, 5, 1, codeDone, 6}, {7, 5, 2, codeDone, 6}, {7, 6, 1, codeOver, 6},
		// Over at now, and at a now below Made.
		{1, 10, 1, codeOver, 10}, {1, 11, 1, codeOver, 10}, {1, 4, 1, codeOver, 10}, {1, 0, 1, codeOver, 10}, {2, 10, 9, codeOver, 10}, {2, 4, 9, codeOver, 10}, {3, 4, 9, codeOver, 0},
		{1, topTime, topTime, codeOver, 10}, {2, topTime, topTime, codeOver, 10}, {3, 0, topTime, codeOver, 0}, {4, topTime, 1, codeOver, topTime}, {6, topTime - 1, 1, codeOver, 0},
		// No Limit: any time up to MaxTime.
		{2, 9, 1, codeDone, 10}, {2, 9, topTime - 9, codeDone, topTime}, {2, 9, topTime - 8, codeMore, 10}, {2, 5, topTime, codeMore, 10},
		{3, 5, 1, codeDone, 6}, {3, 500, 7, codeDone, 507}, {3, topTime - 1, 1, codeDone, topTime}, {3, topTime, 1, codeMore, 0}, {3, topTime, topTime, codeMore, 0}, {3, 5, topTime - 5, codeDone, topTime}, {3, 5, topTime - 4, codeMore, 0},
		{4, 0, topTime, codeDone, topTime}, {4, topTime - 1, 1, codeDone, topTime}, {4, topTime - 1, 2, codeDone, topTime}, {4, topTime - 1, topTime, codeDone, topTime}, {4, 0, 1, codeDone, 1},
		{5, 0, topTime, codeDone, topTime}, {5, 1, topTime, codeMore, topTime}, {5, topTime - 1, 2, codeMore, topTime}, {6, topTime, 1, codeMore, 0},
		// What is bad counts ahead of all.
		{1, -1, 1, codeBad, 10}, {1, topTime + 1, 1, codeBad, 10}, {1, 7, 0, codeBad, 10}, {1, 7, -1, codeBad, 10}, {1, 7, topTime + 1, codeBad, 10}, {1, math.MaxInt, math.MaxInt, codeBad, 10}, {1, math.MinInt, 1, codeBad, 10}, {1, 7, math.MinInt, codeBad, 10},
		{2, 10, 0, codeBad, 10}, {2, 0, topTime + 1, codeBad, 10}, {3, topTime, topTime + 1, codeBad, 0},
	}
	for _, s := range cases {
		got, code := checkRenew(t, f, s.id, s.now, s.by)
		token, ok := impl.FindToken(got, s.id)
		if code != s.want || !ok || token.Ends != s.ends {
			t.Errorf("RenewToken %d at %d by %d: %d, Ends %d, not %d, %d", s.id, s.now, s.by, code, token.Ends, s.want, s.ends)
		}
		token.Ends = f.Tokens[s.id-1].Ends
		if !sameForest(withToken(got, token), f) {
			t.Errorf("RenewToken %d at %d by %d changes more than Ends: %v", s.id, s.now, s.by, got)
		}
	}
	for _, id := range []int{0, -1, 8, topId, topId + 1, math.MinInt, math.MaxInt} {
		if got, code := checkRenew(t, f, id, 5, 1); code != codeNone || !sameForest(got, f) {
			t.Errorf("RenewToken %d: %d", id, code)
		}
		if _, code := checkRenew(t, f, id, 5, 0); code != codeBad {
			t.Errorf("RenewToken %d by 0: %d", id, code)
		}
		if _, code := checkRenew(t, f, id, topTime, topTime); code != codeNone {
			t.Errorf("RenewToken %d beyond the end: %d", id, code)
		}
	}
}

func TestRenewTokenBelowOneThatIsOver(t *testing.T) {
	f := forestOf(lasting(tokenOf(1, 0, "a"), 0, 5, 0), lasting(tokenOf(2, 1, "a"), 0, 9, 30))
	got, code := checkRenew(t, f, 2, 6, 10)
	if token, _ := impl.FindToken(got, 2); code != codeDone || token.Ends != 16 {
		t.Errorf("a token whose Parent is over: %d, %v", code, token)
	}
	if _, code := checkUse(t, f, 2, 6); code != codeDone {
		t.Errorf("the use of a token whose Parent is over: %d", code)
	}
	if left, gone := checkSweep(t, got, 6); len(left.Tokens) != 0 || !slices.Equal(gone, []int{1, 2}) {
		t.Errorf("it is swept with its Parent: %v, %v", left, gone)
	}
}

func TestUseTokenEdges(t *testing.T) {
	f := wood()
	f.Tokens[4].Uses = 1
	cases := []struct {
		id, now int
		want    int
		gone    []int
	}{
		{1, 0, codeDone, nil}, {1, topTime, codeDone, nil}, {3, 0, codeDone, []int{3, 5, 8}}, {3, topTime, codeDone, []int{3, 5, 8}}, {5, 7, codeDone, []int{5}},
		{2, 2, codeDone, nil}, {2, 9, codeDone, nil}, {2, 10, codeOver, nil}, {2, 11, codeOver, nil}, {2, 1, codeOver, nil}, {2, 0, codeOver, nil},
		{6, 1, codeDone, nil}, {6, 5, codeDone, nil}, {6, 6, codeOver, nil}, {6, 0, codeOver, nil}, {8, 0, codeDone, nil}, {8, topTime - 1, codeDone, nil}, {8, topTime, codeOver, nil},
		{0, 0, codeNone, nil}, {10, 0, codeNone, nil}, {-1, 0, codeNone, nil}, {math.MinInt, 0, codeNone, nil}, {math.MaxInt, topTime, codeNone, nil},
		{3, -1, codeBad, nil}, {3, topTime + 1, codeBad, nil}, {3, math.MinInt, codeBad, nil}, {3, math.MaxInt, codeBad, nil}, {0, -1, codeBad, nil}, {2, -1, codeBad, nil}, {2, topTime + 1, codeBad, nil},
	}
	for _, s := range cases {
		got, code := checkUse(t, f, s.id, s.now)
		if code != s.want || len(got.Tokens) != len(f.Tokens)-len(s.gone) {
			t.Errorf("UseToken %d at %d: %d, not %d, %v", s.id, s.now, code, s.want, got)
		}
		for _, id := range s.gone {
			if _, there := impl.FindToken(got, id); there {
				t.Errorf("UseToken %d at %d: %d is there", s.id, s.now, id)
			}
		}
	}
}

func TestUsesRunDown(t *testing.T) {
	for _, uses := range []int{1, 2, 3, topUses} {
		f := forestOf(tokenOf(1, 0, "a"), usedUp(tokenOf(2, 1, "a"), uses), usedUp(tokenOf(3, 2, "a"), 5), tokenOf(4, 3, ""), tokenOf(5, 1, ""))
		for left := uses - 1; left > 0; left-- {
			got, code := impl.UseToken(f, 2, 0)
			want := cloneForest(f)
			want.Tokens[1].Uses = left
			if code != codeDone || !sameForest(got, want) {
				t.Fatalf("%d left: %d, %v", left, code, got)
			}
			f = got
		}
		// The last use takes with it whoever stands below.
		got, code := checkUse(t, f, 2, 0)
		if code != codeDone || !sameForest(got, forestOf(tokenOf(1, 0, "a"), tokenOf(5, 1, ""))) {
			t.Errorf("the last use: %d, %v", code, got)
		}
		if again, code := checkUse(t, got, 2, 0); code != codeNone || !sameForest(again, got) {
			t.Errorf("behind the last use: %d, %v", code, again)
		}
	}
	free := forestOf(tokenOf(1, 0, "a"))
	for range 1500 {
		got, code := impl.UseToken(free, 1, 3)
		if code != codeDone || !sameForest(got, forestOf(tokenOf(1, 0, "a"))) {
			t.Fatalf("a use of what may be used as often as one likes: %d, %v", code, got)
		}
		free = got
	}
	// The last use of the uppermost in a chain of them all.
	chain := chainOf(topTokens)
	chain.Tokens[0].Uses = 1
	if got, code := checkUse(t, chain, 3, 9); code != codeDone || len(got.Tokens) != 0 {
		t.Errorf("a chain: %d, %d left", code, len(got.Tokens))
	}
}

func TestRevokeTokenEdges(t *testing.T) {
	f := wood()
	cases := map[int][]int{
		1: {1, 2, 3, 5, 6, 8}, 2: {2, 3, 5, 8}, 3: {3, 5, 8}, 4: {4, 7, 9}, 5: {5}, 6: {6}, 8: {8}, 9: {9},
		0: nil, 10: nil, -1: nil, topId: nil, topId + 1: nil, math.MinInt: nil, math.MaxInt: nil,
	}
	for id, want := range cases {
		got, gone := checkRevoke(t, f, id)
		if !slices.Equal(gone, want) || len(got.Tokens) != len(f.Tokens)-len(want) || !impl.ForestOk(got) {
			t.Errorf("RevokeToken %d = %v, %v", id, got, gone)
		}
		if again, twice := checkRevoke(t, got, id); len(twice) != 0 || !sameForest(again, got) {
			t.Errorf("RevokeToken %d, twice: %v, %v", id, again, twice)
		}
	}
	chain := chainOf(topTokens)
	for _, places := range [][]int{{0}, {60, 59, 30, 0}, {119, 118, 117}, {119, 0}} {
		left := chain
		for _, place := range places {
			count := len(left.Tokens)
			got, gone := checkRevoke(t, left, 3*place+3)
			if len(gone) != count-place || !slices.Equal(tokenIds(got), tokenIds(chain)[:place]) {
				t.Errorf("RevokeToken at place %d: %v, %v", place, got, gone)
			}
			left = got
		}
	}
}

func TestRevokeAloneEdges(t *testing.T) {
	f := wood()
	parents := map[int]map[int]int{
		1: {2: 0, 3: 2, 4: 0, 5: 3, 6: 0, 7: 4, 8: 3, 9: 4}, 2: {1: 0, 3: 0, 4: 0, 5: 3, 6: 1, 7: 4, 8: 3, 9: 4},
		3: {1: 0, 2: 1, 4: 0, 5: 0, 6: 1, 7: 4, 8: 0, 9: 4}, 4: {1: 0, 2: 1, 3: 2, 5: 3, 6: 1, 7: 0, 8: 3, 9: 0}, 9: {1: 0, 2: 1, 3: 2, 4: 0, 5: 3, 6: 1, 7: 4, 8: 3},
	}
	for id, want := range parents {
		got, ok := checkAlone(t, f, id)
		if !ok || len(got.Tokens) != 8 || !impl.ForestOk(got) {
			t.Errorf("RevokeAlone %d = %v, %v", id, got, ok)
		}
		for _, token := range got.Tokens {
			if token.Parent != want[token.Id] {
				t.Errorf("RevokeAlone %d: %v, not below %d", id, token, want[token.Id])
			}
			token.Parent = f.Tokens[token.Id-1].Parent
			if !sameToken(token, f.Tokens[token.Id-1]) {
				t.Errorf("RevokeAlone %d changes %v", id, token)
			}
		}
		// Whoever stood below it stands alone now: nothing of what is above it takes it along.
		if id == 2 {
			if _, gone := checkRevoke(t, got, 1); !slices.Equal(gone, []int{1, 6}) {
				t.Errorf("behind RevokeAlone: %v", gone)
			}
		}
	}
	for _, id := range []int{0, 10, -1, topId, topId + 1, math.MinInt, math.MaxInt} {
		if got, ok := checkAlone(t, f, id); ok || !sameForest(got, f) {
			t.Errorf("RevokeAlone %d = %v, %v", id, got, ok)
		}
	}
	star := starOf(topTokens)
	if got, ok := checkAlone(t, star, 3); !ok || !sameForest(got, impl.Forest{Tokens: rowOf(topTokens).Tokens[1:]}) {
		t.Errorf("RevokeAlone in the middle of a star: %v", ok)
	}
}

func TestSweepTokensEdges(t *testing.T) {
	f := wood()
	cases := []struct {
		now  int
		gone []int
	}{
		{math.MinInt, nil}, {-1, nil}, {0, nil}, {5, nil}, {6, []int{6, 7}}, {7, []int{6, 7}}, {9, []int{6, 7}},
		{10, []int{2, 3, 5, 6, 7, 8}}, {14, []int{2, 3, 5, 6, 7, 8}}, {15, []int{2, 3, 4, 5, 6, 7, 8, 9}}, {topTime, []int{2, 3, 4, 5, 6, 7, 8, 9}}, {topTime + 1, []int{2, 3, 4, 5, 6, 7, 8, 9}}, {math.MaxInt, []int{2, 3, 4, 5, 6, 7, 8, 9}},
	}
	for _, s := range cases {
		got, gone := checkSweep(t, f, s.now)
		if !slices.Equal(gone, s.gone) || len(got.Tokens) != len(f.Tokens)-len(s.gone) {
			t.Errorf("SweepTokens at %d: %v, %v", s.now, got, gone)
		}
		if again, twice := checkSweep(t, got, s.now); len(twice) != 0 || !sameForest(again, got) {
			t.Errorf("SweepTokens at %d, twice: %v", s.now, twice)
		}
	}
	// The end of the uppermost is the end of all, whatever their own time.
	chain := chainOf(topTokens)
	for i := range chain.Tokens {
		chain.Tokens[i].Ends = topTime - i
	}
	chain.Tokens[0].Ends = 9
	if got, gone := checkSweep(t, chain, 9); len(got.Tokens) != 0 || !slices.Equal(gone, tokenIds(chain)) {
		t.Errorf("a chain: %d left, %v", len(got.Tokens), gone)
	}
	if got, gone := checkSweep(t, chain, 8); len(gone) != 0 || !sameForest(got, chain) {
		t.Errorf("a chain, in time: %v", gone)
	}
	// Those that went are told in order, not tree by tree.
	mixed := forestOf(lasting(tokenOf(1, 0, ""), 0, 5, 0), lasting(tokenOf(2, 0, ""), 0, 5, 0), tokenOf(3, 2, ""), tokenOf(4, 1, ""), lasting(tokenOf(5, 3, ""), 0, 2, 0), tokenOf(6, 0, ""), tokenOf(7, 4, ""))
	if _, gone := checkSweep(t, mixed, 5); !slices.Equal(gone, []int{1, 2, 3, 4, 5, 7}) {
		t.Errorf("two trees: %v", gone)
	}
}

// manyNamed are n policies whose Names ascend: aa, ab, ..
func manyNamed(n int) []impl.Policy {
	var ps []impl.Policy
	for i := range n {
		ps = append(ps, policyOf(string([]byte{'a' + byte(i/20), 'a' + byte(i%20)}), ruleOf("kv/*", i%64)))
	}
	return ps
}

func TestPowersOfEdges(t *testing.T) {
	f := forestOf(tokenOf(1, 0, "aa ab ac jt zz"), tokenOf(2, 1, "ab"), tokenOf(3, 1, ""))
	all := manyNamed(200)
	cases := []struct {
		id   int
		ps   []impl.Policy
		want []int
		ok   bool
	}{
		{1, nil, nil, true}, {1, all, []int{0, 1, 2, 199}, true}, {2, all, []int{1}, true}, {3, all, nil, true}, {1, all[2:], []int{2, 199}, true}, {2, all[2:], nil, true}, {1, all[199:], []int{199}, true},
		{0, all, nil, false}, {4, all, nil, false}, {-1, all, nil, false}, {4, nil, nil, false}, {topId + 1, all, nil, false},
		{1, manyNamed(201), nil, false}, {3, manyNamed(201), nil, false}, {1, manyNamed(400), nil, false},
		{1, []impl.Policy{all[1], all[0]}, nil, false}, {1, []impl.Policy{all[0], all[0]}, nil, false}, {1, []impl.Policy{all[0], all[9], all[9]}, nil, false}, {1, []impl.Policy{all[5], all[7], all[6]}, nil, false}, {3, []impl.Policy{all[1], all[0]}, nil, false},
		{1, []impl.Policy{policyOf("")}, nil, false}, {1, []impl.Policy{policyOf("A")}, nil, false}, {1, []impl.Policy{all[0], policyOf("b", ruleOf("kv/a", 64))}, nil, false}, {1, []impl.Policy{policyOf("aa", manyRules(0, 21, 1)...)}, nil, false},
	}
	for _, s := range cases {
		got, ok := checkPowers(t, f, s.id, s.ps)
		var want []impl.Policy
		for _, place := range s.want {
			want = append(want, all[place])
		}
		if ok != s.ok || !slices.EqualFunc(got, want, samePolicy) {
			t.Errorf("PowersOf %d of %d = %v, %v, not %v, %v", s.id, len(s.ps), got, ok, want, s.ok)
		}
	}
	for _, p := range wrongPolicies() {
		if got, ok := checkPowers(t, f, 1, []impl.Policy{p}); ok || len(got) != 0 {
			t.Errorf("PowersOf with %s = %v, %v", brief(p), got, ok)
		}
	}
	// Six names, all of them there.
	names := strings.Fields("aa bb cc dd ee ff")
	whole := forestOf(impl.Token{Id: 9, Names: names})
	if got, ok := checkPowers(t, whole, 9, all); !ok || len(got) != 6 || got[0].Name != "aa" || got[5].Name != "ff" {
		t.Errorf("six names: %v, %v", got, ok)
	}
}

// TestAllSmallForests asks about each list of up to three tokens, whether it is in order or not.
func TestAllSmallForests(t *testing.T) {
	var tokens []impl.Token
	for id := range 4 {
		for parent := range 4 {
			tokens = append(tokens, tokenOf(id, parent, "a"), lasting(tokenOf(id, parent, ""), 1, 2, 3))
		}
	}
	lists := [][]impl.Token{nil}
	good := 0
	for start := 0; start < len(lists); start++ {
		f := forestOf(lists[start]...)
		if got := impl.ForestOk(f); got != wantForest(f) {
			t.Fatalf("ForestOk(%v) = %v", f, got)
		}
		if wantForest(f) {
			good++
			checkToldOf(t, f, []int{0, 1, 2, 3, 4})
			checkChanged(t, f, []int{0, 1, 2, 3, 4}, []int{0, 1, 2, 3})
		}
		if len(f.Tokens) < 3 {
			for _, token := range tokens {
				lists = append(lists, append(slices.Clone(lists[start]), token))
			}
		}
	}
	// None; 3 Ids of two kinds; 3 pairs of four kinds, 2 Parents; 8 kinds of three, 6 choices of Parents.
	if want := 1 + 6 + 24 + 48; good != want {
		t.Errorf("%d good ones, not %d", good, want)
	}
}

// TestAllShapes asks about each tree of five tokens, and each choice of those that are over.
func TestAllShapes(t *testing.T) {
	for shape := range 120 {
		f := forestOf()
		rest := shape
		for i := range 5 {
			f.Tokens = append(f.Tokens, usedUp(tokenOf(i+1, rest%(i+1), "a"), 1))
			rest /= i + 1
		}
		for id := range 7 {
			checkRevoke(t, f, id)
			checkAlone(t, f, id)
			checkUse(t, f, id, 0)
			if !slices.Equal(impl.Below(f, id), wantBelow(f, id)) || impl.Depth(f, id) != wantDepth(f, id) {
				t.Errorf("%v: Below %d is %v, Depth %d", f, id, impl.Below(f, id), impl.Depth(f, id))
			}
		}
		for over := range 32 {
			for i := range 5 {
				f.Tokens[i].Ends = 4 + over>>i%2
			}
			checkSweep(t, f, 4)
		}
	}
}

// family writes down who stands below whom, without a forest: for each token all that are above it.
type family struct {
	forest impl.Forest
	above  map[int][]int
	names  map[int][]string
	limit  map[int]int
	freed  map[int]bool
	nextId int
	now    int
}

func (fam *family) addOne(t *testing.T, r *rand.Rand) {
	t.Helper()
	token := impl.Token{Id: fam.nextId, Made: fam.now}
	if ids := tokenIds(fam.forest); len(ids) > 0 && r.Intn(5) > 0 {
		token.Parent = ids[r.Intn(len(ids))]
	}
	for _, name := range []string{"a", "b", "c", "d"} {
		if r.Intn(3) == 0 {
			token.Names = append(token.Names, name)
		}
	}
	if r.Intn(2) == 0 {
		token.Ends = fam.now + 1 + r.Intn(30)
		if r.Intn(2) == 0 {
			token.Limit = token.Ends + r.Intn(20)
		}
	}
	if r.Intn(3) == 0 {
		token.Uses = 1 + r.Intn(3)
	}
	next, code := checkMake(t, fam.forest, token)
	if code == codeDone {
		fam.nextId += 1 + r.Intn(3)
		fam.names[token.Id], fam.limit[token.Id] = token.Names, token.Limit
		if token.Parent != 0 {
			fam.above[token.Id] = append(slices.Clone(fam.above[token.Parent]), token.Parent)
		}
	}
	fam.forest = next
}

// takeAway strikes out these and whoever has one of them above it.
func (fam *family) takeAway(these ...int) {
	for id := range fam.names {
		line := append(slices.Clone(fam.above[id]), id)
		if slices.ContainsFunc(line, func(id int) bool { return slices.Contains(these, id) }) {
			delete(fam.names, id)
			delete(fam.above, id)
			delete(fam.limit, id)
		}
	}
}

// setFree strikes out one, and what stood above those below it stands above them no more.
func (fam *family) setFree(id int) {
	for child, above := range fam.above {
		if place := slices.Index(above, id); place >= 0 {
			fam.above[child] = slices.Clone(above[place+1:])
		}
	}
	delete(fam.names, id)
	delete(fam.above, id)
	delete(fam.limit, id)
}

// holds asks promise 8 of the forest as it is.
func (fam *family) holds(t *testing.T, what string) {
	t.Helper()
	if !impl.ForestOk(fam.forest) {
		t.Fatalf("%s: %v is no forest", what, fam.forest)
	}
	if ids := slices.Sorted(maps.Keys(fam.names)); !slices.Equal(ids, tokenIds(fam.forest)) {
		t.Fatalf("%s: %v are there, not %v", what, tokenIds(fam.forest), ids)
	}
	for _, token := range fam.forest.Tokens {
		if token.Limit != fam.limit[token.Id] || token.Limit != 0 && (token.Ends == 0 || token.Ends > token.Limit) {
			t.Fatalf("%s: %v lives beyond its Limit", what, token)
		}
		if got := impl.Depth(fam.forest, token.Id); got != len(fam.above[token.Id]) {
			t.Fatalf("%s: %d has %v above it, not %d", what, token.Id, fam.above[token.Id], got)
		}
		for _, above := range fam.above[token.Id] {
			for _, name := range token.Names {
				if !slices.Contains(fam.names[above], name) {
					t.Fatalf("%s: %v has the name %s, which %d above it has not", what, token, name, above)
				}
			}
		}
	}
}

func (fam *family) step(t *testing.T, r *rand.Rand) string {
	t.Helper()
	id := 1 + r.Intn(fam.nextId)
	token, there := impl.FindToken(fam.forest, id)
	switch r.Intn(14) {
	case 0:
		next, gone := checkRevoke(t, fam.forest, id)
		if there != (len(gone) > 0) {
			t.Fatalf("RevokeToken %d: %v", id, gone)
		}
		fam.forest = next
		fam.takeAway(id)
		return "RevokeToken"
	case 1:
		next, ok := checkAlone(t, fam.forest, id)
		if ok != there {
			t.Fatalf("RevokeAlone %d: %v", id, ok)
		}
		fam.forest = next
		fam.setFree(id)
		return "RevokeAlone"
	case 2:
		fam.now += r.Intn(6)
		var over []int
		for _, token := range fam.forest.Tokens {
			if token.Ends != 0 && token.Ends <= fam.now {
				over = append(over, token.Id)
			}
		}
		fam.forest, _ = checkSweep(t, fam.forest, fam.now)
		fam.takeAway(over...)
		return "SweepTokens"
	case 3, 4, 5:
		next, code := checkUse(t, fam.forest, id, fam.now)
		if code == codeDone && token.Uses == 1 {
			fam.takeAway(id)
		}
		fam.forest = next
		return "UseToken"
	case 6, 7, 8:
		fam.forest, _ = checkRenew(t, fam.forest, id, fam.now, 1+r.Intn(40))
		return "RenewToken"
	}
	fam.addOne(t, r)
	return "MakeToken"
}

func TestWhoStandsBelowGoesToo(t *testing.T) {
	r := rand.New(rand.NewSource(81))
	for range 60 {
		fam := family{above: map[int][]int{}, names: map[int][]string{}, limit: map[int]int{}, nextId: 1}
		for range 80 {
			fam.holds(t, fam.step(t, r))
		}
		// Behind a revoke of all that are uppermost there is nobody left.
		for _, token := range fam.forest.Tokens {
			if token.Parent == 0 {
				fam.forest, _ = checkRevoke(t, fam.forest, token.Id)
				fam.takeAway(token.Id)
				fam.holds(t, "RevokeToken")
			}
		}
		if len(fam.forest.Tokens) != 0 {
			t.Fatalf("%v is left", fam.forest)
		}
	}
}

func TestNoRenewalPassesTheLimit(t *testing.T) {
	r := rand.New(rand.NewSource(82))
	for range 200 {
		made := r.Intn(50)
		ends := made + 1 + r.Intn(20)
		limit := ends + r.Intn(60)
		f := forestOf(tokenOf(1, 0, "a"), lasting(tokenOf(2, 1, "a"), made, ends, limit))
		for now := made; now <= limit+5; now += 1 + r.Intn(4) {
			before := f.Tokens[1].Ends
			next, code := checkRenew(t, f, 2, now, 1+r.Intn(30))
			if next.Tokens[1].Ends > limit || (code == codeDone) != (now < before) {
				t.Fatalf("at %d: %d, %v", now, code, next)
			}
			f = next
		}
		if left, gone := checkSweep(t, f, limit); len(left.Tokens) != 1 || !slices.Equal(gone, []int{2}) {
			t.Fatalf("at its Limit: %v, %v", left, gone)
		}
	}
}

func someForest(r *rand.Rand, n int) impl.Forest {
	var f impl.Forest
	id := 0
	for range n {
		token := impl.Token{Parent: 0, Made: r.Intn(10), Uses: r.Intn(3)}
		if id > 0 && r.Intn(4) > 0 {
			token.Parent = f.Tokens[r.Intn(len(f.Tokens))].Id
		}
		id += 1 + r.Intn(3)
		token.Id = id
		for _, name := range []string{"a", "b", "c"} {
			if r.Intn(2) == 0 {
				token.Names = append(token.Names, name)
			}
		}
		if r.Intn(2) == 0 {
			token.Ends = token.Made + 1 + r.Intn(6)
			token.Limit = r.Intn(2) * (token.Ends + r.Intn(6))
		}
		f.Tokens = append(f.Tokens, token)
	}
	return f
}

func TestForestsAtRandom(t *testing.T) {
	r := rand.New(rand.NewSource(83))
	for range 250 {
		f := someForest(r, r.Intn(14))
		if n := len(f.Tokens); n > 0 && r.Intn(3) == 0 {
			bent := &f.Tokens[r.Intn(n)]
			bent.Id, bent.Parent, bent.Ends, bent.Limit = bent.Id+r.Intn(3)-1, bent.Parent+r.Intn(3)-1, bent.Ends+r.Intn(3)-1, bent.Limit+r.Intn(3)-1
		}
		ids := []int{0, 1 + r.Intn(20), 1 + r.Intn(20), 1 + r.Intn(40)}
		checkToldOf(t, f, ids)
		checkChanged(t, f, ids, []int{-1, r.Intn(10), 10 + r.Intn(10)})
		for range 4 {
			token := impl.Token{Id: r.Intn(50), Parent: r.Intn(45) - 1, Made: r.Intn(20) - 1, Ends: r.Intn(2) * r.Intn(30), Limit: r.Intn(2) * r.Intn(40), Uses: r.Intn(5) - 1}
			if r.Intn(2) == 0 {
				token.Names = []string{"b", "c"}[r.Intn(2):]
			}
			checkMake(t, f, token)
		}
	}
}

func TestForestsKeepToThemselves(t *testing.T) {
	// Two forests that go on from one do not meet.
	base, _ := impl.MakeToken(forestOf(tokenOf(1, 0, "a b")), tokenOf(2, 1, "a"))
	one, _ := impl.MakeToken(base, tokenOf(3, 2, "a"))
	two, _ := impl.MakeToken(base, tokenOf(4, 1, "b"))
	third, _ := impl.MakeToken(one, tokenOf(5, 3, ""))
	fourth, _ := impl.RenewToken(one, 3, 0, 9)
	fifth, _ := impl.RevokeToken(one, 2)
	sixth, _ := impl.RevokeAlone(one, 2)
	forests := []impl.Forest{base, one, two, third, fourth, fifth, sixth}
	want := []impl.Forest{
		forestOf(tokenOf(1, 0, "a b"), tokenOf(2, 1, "a")),
		forestOf(tokenOf(1, 0, "a b"), tokenOf(2, 1, "a"), tokenOf(3, 2, "a")),
		forestOf(tokenOf(1, 0, "a b"), tokenOf(2, 1, "a"), tokenOf(4, 1, "b")),
		forestOf(tokenOf(1, 0, "a b"), tokenOf(2, 1, "a"), tokenOf(3, 2, "a"), tokenOf(5, 3, "")),
		forestOf(tokenOf(1, 0, "a b"), tokenOf(2, 1, "a"), lasting(tokenOf(3, 2, "a"), 0, 9, 0)),
		forestOf(tokenOf(1, 0, "a b")),
		forestOf(tokenOf(1, 0, "a b"), tokenOf(3, 0, "a")),
	}
	for i := range forests {
		for j := range forests {
			if !sameForest(forests[j], want[j]) {
				t.Errorf("forest %d: %v, not %v", j, forests[j], want[j])
			}
		}
		spoilForest(forests[i])
		forests[i], want[i] = impl.Forest{}, impl.Forest{}
	}
	// Nothing is kept from one call to another.
	impl.MakeToken(forestOf(tokenOf(1, 0, "a")), tokenOf(2, 1, "a"))
	impl.RevokeToken(wood(), 1)
	if got, code := impl.MakeToken(impl.Forest{}, tokenOf(2, 1, "a")); code != codeNone || len(got.Tokens) != 0 {
		t.Errorf("behind other calls: %v, %d", got, code)
	}
	// Two answers to one question are two.
	f := wood()
	a, aGone := impl.RevokeToken(f, 3)
	b, bGone := impl.RevokeToken(f, 3)
	found, _ := impl.FindToken(f, 1)
	below := impl.Below(f, 1)
	spoilForest(a)
	spoilNums(aGone)
	spoilTexts(found.Names, "spoiled")
	spoilNums(below)
	if got, gone := impl.RevokeToken(f, 3); !sameForest(got, b) || !slices.Equal(gone, bGone) || !sameForest(f, wood()) || !slices.Equal(impl.Below(f, 1), []int{1, 2, 3, 5, 6, 8}) {
		t.Error("two answers share memory")
	}
}
