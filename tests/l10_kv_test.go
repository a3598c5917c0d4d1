package tests

import (
	"bytes"
	"fmt"
	"maps"
	"math"
	"math/rand"
	"slices"
	"strings"
	"testing"

	"loop.example/g00705/impl"
)

const (
	kvDone  = 0
	kvBad   = 1
	kvNone  = 2
	kvGone  = 3
	kvDead  = 4
	kvStale = 5
	kvFull  = 6
)

func livingOf(text string, made int) impl.Version {
	return impl.Version{Data: []byte(text), Made: made}
}

func goneOf(text string, made int) impl.Version {
	return impl.Version{Data: []byte(text), Made: made, Gone: true}
}

func deadOf(made int) impl.Version { return impl.Version{Made: made, Dead: true} }

func entryOf(path string, first int, versions ...impl.Version) impl.Entry {
	return impl.Entry{Path: path, First: first, Versions: versions}
}

func storeOf(entries ...impl.Entry) impl.Store { return impl.Store{Entries: entries} }

// storeAt has an entry of one version at each of the paths.
func storeAt(paths ...string) impl.Store {
	var s impl.Store
	for i, path := range paths {
		s.Entries = append(s.Entries, entryOf(path, 1, livingOf(path, i)))
	}
	return s
}

// pastOf has so many versions with a text of their own each.
func pastOf(n int) []impl.Version {
	var past []impl.Version
	for i := range n {
		past = append(past, livingOf(fmt.Sprintf("text %d", i), i))
	}
	return past
}

func cloneStore(s impl.Store) impl.Store {
	var all impl.Store
	for _, e := range s.Entries {
		fresh := impl.Entry{Path: e.Path, First: e.First}
		for _, v := range e.Versions {
			v.Data = bytes.Clone(v.Data)
			fresh.Versions = append(fresh.Versions, v)
		}
		all.Entries = append(all.Entries, fresh)
	}
	return all
}

func sameVersion(a impl.Version, b impl.Version) bool {
	return bytes.Equal(a.Data, b.Data) && a.Made == b.Made && a.Gone == b.Gone && a.Dead == b.Dead
}

func sameStore(a impl.Store, b impl.Store) bool {
	return slices.EqualFunc(a.Entries, b.Entries, func(x impl.Entry, y impl.Entry) bool {
		return x.Path == y.Path && x.First == y.First && slices.EqualFunc(x.Versions, y.Versions, sameVersion)
	})
}

// roomyStore has room behind each of its lists, so that whatever is written there is seen.
func roomyStore(s impl.Store) impl.Store {
	entries := make([]impl.Entry, len(s.Entries)+3)
	for i, e := range s.Entries {
		versions := make([]impl.Version, len(e.Versions)+3)
		for j, v := range e.Versions {
			v.Data = append(bytes.Clone(v.Data), "room"...)[:len(v.Data)]
			versions[j] = v
		}
		entries[i] = impl.Entry{Path: e.Path, First: e.First, Versions: versions[:len(e.Versions)]}
	}
	return impl.Store{Entries: entries[:len(s.Entries)]}
}

// wholeStore is all that a store holds, with the room behind its lists, as a text.
func wholeStore(s impl.Store) string {
	var text strings.Builder
	for _, e := range s.Entries[:cap(s.Entries)] {
		fmt.Fprintf(&text, "%q %d %d:", e.Path, e.First, len(e.Versions))
		for _, v := range e.Versions[:cap(e.Versions)] {
			fmt.Fprintf(&text, " %d %x %d %v %v", len(v.Data), v.Data[:cap(v.Data)], v.Made, v.Gone, v.Dead)
		}
		text.WriteString("\n")
	}
	return text.String()
}

func spoilStore(s impl.Store) {
	whole := s.Entries[:cap(s.Entries)]
	for i := range whole {
		versions := whole[i].Versions[:cap(whole[i].Versions)]
		for j := range versions {
			spoilBytes(versions[j].Data)
			versions[j] = impl.Version{Data: []byte("spoiled"), Made: -7, Gone: !versions[j].Gone, Dead: !versions[j].Dead}
		}
		whole[i] = impl.Entry{Path: "spoiled", First: -7}
	}
}

// listsApart writes a mark of its own into each list of a store, two times over, and asks whether each has its own left.
func listsApart(s impl.Store) bool {
	var data [][]byte
	for _, e := range s.Entries {
		for _, v := range e.Versions {
			data = append(data, v.Data[:cap(v.Data)])
		}
	}
	for _, markOf := range []func(i int) byte{func(i int) byte { return byte(i % 250) }, func(i int) byte { return byte(i / 250) }} {
		for i, list := range data {
			copy(list, bytes.Repeat([]byte{markOf(i)}, len(list)))
		}
		for i, list := range data {
			if !bytes.Equal(list, bytes.Repeat([]byte{markOf(i)}, len(list))) {
				return false
			}
		}
	}
	for i, e := range s.Entries {
		whole := e.Versions[:cap(e.Versions)]
		copy(whole, slices.Repeat([]impl.Version{deadOf(i)}, len(whole)))
	}
	for i, e := range s.Entries {
		if slices.ContainsFunc(e.Versions[:cap(e.Versions)], func(v impl.Version) bool { return v.Made != i }) {
			return false
		}
	}
	return true
}

// pasts is a store as a table, from a path and a number to the version.
type pasts map[string]map[int]impl.Version

func pastsOf(s impl.Store) pasts {
	table := pasts{}
	for _, e := range s.Entries {
		if table[e.Path] == nil {
			table[e.Path] = map[int]impl.Version{}
		}
		for i, v := range e.Versions {
			table[e.Path][e.First+i] = v
		}
	}
	return table
}

// laidOut is the store that a table was made of, if it was in order.
func laidOut(table pasts) impl.Store {
	var s impl.Store
	for _, path := range slices.Sorted(maps.Keys(table)) {
		var e impl.Entry
		for i, number := range slices.Sorted(maps.Keys(table[path])) {
			if i == 0 {
				e = impl.Entry{Path: path, First: number}
			}
			e.Versions = append(e.Versions, table[path][number])
		}
		s.Entries = append(s.Entries, e)
	}
	return s
}

func wantVersion(v impl.Version) bool {
	if v.Dead && (v.Gone || string(v.Data) != "") {
		return false
	}
	return len(v.Data) < 301 && !outside(v.Made, 0, 1000000000)
}

func wantEntry(e impl.Entry) bool {
	if outside(e.First, 1, 1000000) || outside(len(e.Versions), 1, 8) {
		return false
	}
	return wantPath(e.Path) && !slices.ContainsFunc(e.Versions, func(v impl.Version) bool { return !wantVersion(v) })
}

func wantStore(s impl.Store) bool {
	if len(s.Entries) >= 61 || slices.ContainsFunc(s.Entries, func(e impl.Entry) bool { return !wantEntry(e) }) {
		return false
	}
	return sameStore(laidOut(pastsOf(s)), s)
}

func lastNumber(past map[int]impl.Version) int {
	last := 0
	for number := range past {
		last = max(last, number)
	}
	return last
}

func wantPutKv(s impl.Store, path string, data []byte, cas int, now int) (impl.Store, int, int) {
	if !wantStore(s) || !wantPath(path) || len(data) >= 301 || outside(now, 0, 1000000000) {
		return s, kvBad, 0
	}
	table := pastsOf(s)
	number := lastNumber(table[path]) + 1
	if cas > -1 && cas+1 != number {
		return s, kvStale, 0
	}
	if number == 1 {
		table[path] = map[int]impl.Version{}
	}
	table[path][number] = impl.Version{Data: data, Made: now}
	delete(table[path], number-8)
	_, beyond := table[path][number-7]
	if len(table) == 61 || beyond && number-7 > 1000000 {
		return s, kvFull, 0
	}
	return laidOut(table), kvDone, number
}

func wantGetKv(s impl.Store, path string, version int) ([]byte, int, int) {
	if !wantStore(s) {
		return nil, kvBad, 0
	}
	past := pastsOf(s)[path]
	if version == 0 {
		version = lastNumber(past)
	}
	found, there := past[version]
	code := kvDone
	if found.Gone {
		code = kvGone
	}
	if found.Dead {
		code = kvDead
	}
	if !there {
		code = kvNone
	}
	if code != kvDone {
		return nil, code, 0
	}
	return found.Data, kvDone, version
}

// wantChanged goes through the numbers of the entry, not through the list.
func wantChanged(s impl.Store, path string, list []int, change func(v impl.Version) impl.Version) (impl.Store, int) {
	if !wantStore(s) || len(list) >= 201 {
		return s, kvBad
	}
	table := pastsOf(s)
	if len(table[path]) == 0 {
		return s, kvNone
	}
	for number, v := range table[path] {
		if slices.Contains(list, number) {
			table[path][number] = change(v)
		}
	}
	return laidOut(table), kvDone
}

func wantTakeKv(s impl.Store, path string, list []int) (impl.Store, int) {
	return wantChanged(s, path, list, func(v impl.Version) impl.Version {
		if v.Dead {
			return v
		}
		return goneOf(string(v.Data), v.Made)
	})
}

func wantBringKv(s impl.Store, path string, list []int) (impl.Store, int) {
	return wantChanged(s, path, list, func(v impl.Version) impl.Version {
		if v.Dead {
			return v
		}
		return livingOf(string(v.Data), v.Made)
	})
}

func wantKillKv(s impl.Store, path string, list []int) (impl.Store, int) {
	return wantChanged(s, path, list, func(v impl.Version) impl.Version { return deadOf(v.Made) })
}

func wantDropKv(s impl.Store, path string) (impl.Store, int) {
	table := pastsOf(s)
	switch _, there := table[path]; {
	case !wantStore(s):
		return s, kvBad
	case !there:
		return s, kvNone
	}
	delete(table, path)
	return laidOut(table), kvDone
}

// wantStep asks the segments, one by one.
func wantStep(prefix string, path string) (string, bool) {
	above := 0
	segs := strings.Split(path, "/")
	if prefix != "" {
		for i, seg := range strings.Split(prefix, "/") {
			if i >= len(segs) || segs[i] != seg {
				return "", false
			}
			above++
		}
	}
	switch len(segs) - above {
	case 0:
		return "", false
	case 1:
		return segs[above], true
	}
	return segs[above] + "/", true
}

func wantListKv(s impl.Store, prefix string) ([]string, bool) {
	if !wantStore(s) || !wantPath(prefix) && prefix != "" {
		return nil, false
	}
	var told []string
	for _, e := range s.Entries {
		if step, below := wantStep(prefix, e.Path); below {
			told = append(told, step)
		}
	}
	slices.Sort(told)
	return slices.Compact(told), true
}

func wantKvText(s impl.Store) string {
	if !wantStore(s) {
		return ""
	}
	text := ""
	for _, e := range s.Entries {
		text += fmt.Sprintf("%s %d %d ", e.Path, e.First, len(e.Versions))
		for _, v := range e.Versions {
			mark := "v"
			if v.Gone {
				mark = "g"
			}
			if v.Dead {
				mark = "d"
			}
			text += mark
		}
		text += "\n"
	}
	return text
}

// storeAnswer is what a call that changes a store answers; those that answer no number have 0 as theirs.
type storeAnswer struct {
	store impl.Store
	code  int
	num   int
}

func storeNum(s impl.Store, code int, num int) storeAnswer {
	return storeAnswer{store: s, code: code, num: num}
}

func storeCode(s impl.Store, code int) storeAnswer { return storeAnswer{store: s, code: code} }

// checkStore holds an answer against the one that is wanted, and asks whose memory it is.
func checkStore(t *testing.T, what string, s impl.Store, do func(s impl.Store) storeAnswer, want storeAnswer) storeAnswer {
	t.Helper()
	wanted := cloneStore(want.store)
	given := roomyStore(s)
	before := wholeStore(given)
	got := do(given)
	if !sameStore(got.store, wanted) || got.code != want.code || got.num != want.num {
		t.Errorf("%s of %s = %s, %d, %d, not %s, %d, %d", what, brief(s), brief(got.store), got.code, got.num, brief(wanted), want.code, want.num)
	}
	if wholeStore(given) != before {
		t.Errorf("%s of %s writes into what it was given", what, brief(s))
	}
	answer := storeAnswer{store: cloneStore(got.store), code: got.code, num: got.num}
	spoilStore(given)
	if !sameStore(got.store, answer.store) {
		t.Errorf("%s of %s shares what it was given", what, brief(s))
	}
	spoilt := wholeStore(given)
	if !listsApart(got.store) {
		t.Errorf("%s of %s: two of its lists share memory", what, brief(s))
	}
	spoilStore(got.store)
	if wholeStore(given) != spoilt {
		t.Errorf("%s of %s has its room in what it was given", what, brief(s))
	}
	return answer
}

func checkPutKv(t *testing.T, s impl.Store, path string, data []byte, cas int, now int) (impl.Store, int, int) {
	t.Helper()
	what := fmt.Sprintf("PutKv %q, %s, %d at %d", path, brief(data), cas, now)
	room := append(bytes.Clone(data), "room"...)
	kept := bytes.Clone(room)
	put := func(s impl.Store) storeAnswer {
		got, code, num := impl.PutKv(s, path, room[:len(data)], cas, now)
		if !bytes.Equal(room, kept) {
			t.Errorf("%s writes into its data", what)
		}
		answer := cloneStore(got)
		spoilBytes(room)
		if !sameStore(got, answer) {
			t.Errorf("%s shares its data", what)
		}
		copy(room, kept)
		return storeNum(got, code, num)
	}
	got := checkStore(t, what, s, put, storeNum(wantPutKv(s, path, data, cas, now)))
	if !bytes.Equal(room, kept) {
		t.Errorf("%s has its room in the data that it was given", what)
	}
	return got.store, got.code, got.num
}

func checkGetKv(t *testing.T, s impl.Store, path string, version int) ([]byte, int, int) {
	t.Helper()
	what := fmt.Sprintf("GetKv %q, %d of %s", path, version, brief(s))
	wantData, wantCode, wantNum := wantGetKv(s, path, version)
	wantData = bytes.Clone(wantData)
	given := roomyStore(s)
	before := wholeStore(given)
	got, code, num := impl.GetKv(given, path, version)
	if !bytes.Equal(got, wantData) || code != wantCode || num != wantNum {
		t.Errorf("%s = %s, %d, %d, not %s, %d, %d", what, brief(got), code, num, brief(wantData), wantCode, wantNum)
	}
	answer := bytes.Clone(got)
	spoilBytes(got)
	if wholeStore(given) != before {
		t.Errorf("%s shares the store, or writes into it", what)
	}
	return answer, code, num
}

type changeKv func(s impl.Store, path string, list []int) (impl.Store, int)

func checkChangeKv(t *testing.T, name string, change changeKv, want changeKv, s impl.Store, path string, list []int) (impl.Store, int) {
	t.Helper()
	what := fmt.Sprintf("%s %q, %s", name, path, brief(list))
	room := append(slices.Clone(list), 1, 2, 3)
	kept := slices.Clone(room)
	do := func(s impl.Store) storeAnswer { return storeCode(change(s, path, room[:len(list)])) }
	got := checkStore(t, what, s, do, storeCode(want(s, path, list)))
	if !slices.Equal(room, kept) {
		t.Errorf("%s writes into its list: %s", what, brief(room))
	}
	return got.store, got.code
}

func checkTakeKv(t *testing.T, s impl.Store, path string, list ...int) (impl.Store, int) {
	t.Helper()
	return checkChangeKv(t, "TakeKv", impl.TakeKv, wantTakeKv, s, path, list)
}

func checkBringKv(t *testing.T, s impl.Store, path string, list ...int) (impl.Store, int) {
	t.Helper()
	return checkChangeKv(t, "BringKv", impl.BringKv, wantBringKv, s, path, list)
}

func checkKillKv(t *testing.T, s impl.Store, path string, list ...int) (impl.Store, int) {
	t.Helper()
	return checkChangeKv(t, "KillKv", impl.KillKv, wantKillKv, s, path, list)
}

func checkDropKv(t *testing.T, s impl.Store, path string) (impl.Store, int) {
	t.Helper()
	do := func(s impl.Store) storeAnswer { return storeCode(impl.DropKv(s, path)) }
	got := checkStore(t, fmt.Sprintf("DropKv %q", path), s, do, storeCode(wantDropKv(s, path)))
	return got.store, got.code
}

func checkListKv(t *testing.T, s impl.Store, prefix string) ([]string, bool) {
	t.Helper()
	want, wantOk := wantListKv(s, prefix)
	given := roomyStore(s)
	before := wholeStore(given)
	got, ok := impl.ListKv(given, prefix)
	if !slices.Equal(got, want) || ok != wantOk {
		t.Errorf("ListKv %q of %s = %s, %v, not %s, %v", prefix, brief(s), brief(got), ok, brief(want), wantOk)
	}
	answer := slices.Clone(got)
	spoilTexts(got, "spoiled")
	if wholeStore(given) != before {
		t.Errorf("ListKv %q of %s writes into what it was given", prefix, brief(s))
	}
	return answer, ok
}

// checkToldKv asks all that is only told of a store.
func checkToldKv(t *testing.T, s impl.Store, paths []string, numbers []int) {
	t.Helper()
	given := roomyStore(s)
	before := wholeStore(given)
	if got := impl.StoreOk(given); got != wantStore(s) {
		t.Errorf("StoreOk(%s) = %v", brief(s), got)
	}
	if got := impl.KvText(given); got != wantKvText(s) {
		t.Errorf("KvText(%s) = %q, not %q", brief(s), got, wantKvText(s))
	}
	if wholeStore(given) != before {
		t.Errorf("%s is changed by a question", brief(s))
	}
	for _, path := range paths {
		checkListKv(t, s, path)
		for _, number := range numbers {
			checkGetKv(t, s, path, number)
		}
	}
}

// checkChangedKv asks all that changes a store.
func checkChangedKv(t *testing.T, s impl.Store, paths []string, numbers []int) {
	t.Helper()
	for _, path := range paths {
		checkDropKv(t, s, path)
		for _, list := range append([][]int{nil, numbers}, slices.Collect(slices.Chunk(numbers, 1))...) {
			checkTakeKv(t, s, path, list...)
			checkBringKv(t, s, path, list...)
			checkKillKv(t, s, path, list...)
		}
		for _, number := range numbers {
			checkPutKv(t, s, path, []byte("new"), number, 5)
		}
	}
}

// numbersOf are the numbers of an entry's versions and those around them, with the edges of a number.
func numbersOf(e impl.Entry) []int {
	numbers := []int{math.MinInt, -1, 0, 1, 2, math.MaxInt}
	for i := -1; i <= len(e.Versions); i++ {
		numbers = append(numbers, e.First+i)
	}
	return numbers
}

// fullStore has so many entries; their pasts are of 1 to 8 versions of all three kinds.
func fullStore(n int) impl.Store {
	var s impl.Store
	for i := range n {
		e := entryOf(fmt.Sprintf("kv/p%d/e%d", i/20, 100+i), 1+i%3*499999)
		for j := range 1 + i%8 {
			v := []impl.Version{livingOf(fmt.Sprintf("%d.%d", i, j), i), goneOf("gone", j), deadOf(i + j)}[(i+j)%3]
			e.Versions = append(e.Versions, v)
		}
		s.Entries = append(s.Entries, e)
	}
	return s
}

// attic is a small store of many kinds.
func attic() impl.Store {
	return storeOf(
		entryOf("app", 1, livingOf("one", 0), goneOf("two", 3), deadOf(4), livingOf("four", 9)),
		entryOf("app-x", 3, goneOf("", topTime)),
		entryOf("app/db", 7, livingOf("", 0), deadOf(topTime)),
		entryOf("app/db/ro", 1, livingOf("ro", 8)),
		entryOf("app/db/rw", 999999, pastOf(8)...),
		entryOf("app0", topFirst, pastOf(3)...),
		entryOf("pki/ca", topFirst, pastOf(8)...),
	)
}

func atticPaths() []string {
	return []string{"app", "app-x", "app/db", "app/db/ro", "app/db/rw", "app0", "pki/ca", "pki", "ap", "app/d", "app/db/r", "app/db/ro/x", "zz", "", "*", "+", "app/*", "app/", "/app", "App", "app ", "app\x00", fullPath(121)}
}

func goodVersions() []impl.Version {
	return []impl.Version{
		{}, livingOf("x", 0), livingOf("x", 1), livingOf("x", topTime-1), livingOf("x", topTime), livingOf("\x00\xff\n", 4), livingOf("", topTime),
		livingOf(strings.Repeat("x", 299), 5), livingOf(strings.Repeat("x", 300), 5), goneOf(strings.Repeat("x", 300), 5), goneOf("", 0), goneOf("x", topTime),
		deadOf(0), deadOf(topTime), {Data: []byte{}, Dead: true}, {Data: make([]byte, 0, 400), Dead: true}, {Data: make([]byte, 0, 400), Gone: true},
	}
}

func wrongVersions() []impl.Version {
	all := []impl.Version{
		livingOf(strings.Repeat("x", 301), 5), goneOf(strings.Repeat("x", 301), 5), livingOf(strings.Repeat("x", 3000), 5),
		{Data: []byte("x"), Dead: true}, {Data: []byte{0}, Dead: true}, {Gone: true, Dead: true}, {Data: []byte("x"), Gone: true, Dead: true}, {Data: make([]byte, 301), Dead: true},
	}
	for _, made := range []int{math.MinInt, -topTime, -1, topTime + 1, math.MaxInt} {
		all = append(all, livingOf("x", made), goneOf("x", made), deadOf(made))
	}
	return all
}

func goodStores() []impl.Store {
	all := []impl.Store{{}, {Entries: []impl.Entry{}}, {Entries: make([]impl.Entry, 0, 99)}, attic(), storeAt("a", "b"), storeAt("a", "a-", "a/b", "a0", "aa"), storeAt("0", "a"), storeAt("-", "-/-", "0")}
	for _, v := range goodVersions() {
		all = append(all, storeOf(entryOf("a", 1, v)), storeOf(entryOf("a", 5, livingOf("y", 1), v, deadOf(2))))
	}
	for _, first := range []int{1, 2, topFirst - 1, topFirst} {
		for n := 1; n <= 8; n++ {
			all = append(all, storeOf(entryOf("a", first, pastOf(n)...)))
		}
	}
	for _, path := range []string{"-", "0", "abcdefghij-09876", "a/b/c/d/e/f/g/h", fullPath(120), fullPath(119)} {
		all = append(all, storeAt(path))
	}
	return all
}

func wrongStores() []impl.Store {
	all := []impl.Store{
		storeAt("b", "a"), storeAt("a", "a"), storeAt("a", "c", "b"), storeAt("a", "b", "b"), storeAt("a", "a", "b"), storeAt("a/b", "a"), storeAt("a/b", "a-b"), storeAt("a0", "a/b"),
		storeOf(entryOf("a", 1, livingOf("x", 1)), entryOf("a", 2, livingOf("y", 2))),
		fullStore(61), fullStore(62), fullStore(90),
		storeOf(entryOf("a", 1)), storeOf(entryOf("a", 1), entryOf("b", 1, livingOf("x", 1))), storeOf(impl.Entry{}), storeOf(impl.Entry{Path: "a", First: 1, Versions: make([]impl.Version, 0, 4)}),
		storeOf(entryOf("a", 1, pastOf(9)...)), storeOf(entryOf("a", topFirst, pastOf(9)...)), storeOf(entryOf("a", 1, pastOf(30)...)),
	}
	for _, v := range wrongVersions() {
		all = append(all, storeOf(entryOf("a", 1, v)), storeOf(entryOf("a", 1, v, livingOf("x", 1))), storeOf(entryOf("a", 1, livingOf("x", 1), v)), storeOf(entryOf("a", 1, append(pastOf(7), v)...)))
	}
	for _, first := range []int{math.MinInt, -1, 0, topFirst + 1, topFirst + 2, math.MaxInt} {
		all = append(all, storeOf(entryOf("a", first, livingOf("x", 1))), storeOf(entryOf("a", first, pastOf(8)...)))
	}
	for _, path := range []string{"", "*", "+", "a/*", "a/+", "+/a", "A", "a//b", "/a", "a/", "/", "abcdefghij-098765", "a/b/c/d/e/f/g/h/i", fullPath(121), "a b", "a\n", "é", "a_b", "\x00"} {
		all = append(all, storeAt(path))
	}
	first, last, middle := attic(), attic(), fullStore(60)
	first.Entries[0].Versions[0].Made = -1
	last.Entries[6].Versions[7].Dead = true
	middle.Entries[30].Path = "kv/p1/e130/*"
	return append(all, first, last, middle)
}

func TestStoreLimits(t *testing.T) {
	if impl.MaxValue != 300 || impl.MaxEntries != 60 || impl.MaxPast != 8 {
		t.Error("limits")
	}
	codes := []int{impl.KvDone, impl.KvBad, impl.KvNone, impl.KvGone, impl.KvDead, impl.KvStale, impl.KvFull}
	if !slices.Equal(codes, []int{0, 1, 2, 3, 4, 5, 6}) {
		t.Error("codes")
	}
}

func TestStoreOk(t *testing.T) {
	for _, s := range append(goodStores(), fullStore(59), fullStore(60)) {
		if !impl.StoreOk(s) || !wantStore(s) {
			t.Errorf("StoreOk(%s) is false", brief(s))
		}
	}
	for _, s := range wrongStores() {
		if impl.StoreOk(s) || wantStore(s) {
			t.Errorf("StoreOk(%s) is true", brief(s))
		}
	}
	// The room behind a list is no part of it.
	past := pastOf(20)
	past[0].Data = make([]byte, 600)[:300]
	if !impl.StoreOk(impl.Store{Entries: fullStore(90).Entries[:60]}) || !impl.StoreOk(storeOf(entryOf("a", 1, past[:8]...))) {
		t.Error("StoreOk counts the room behind a list")
	}
}

func TestStoresAtEveryEdge(t *testing.T) {
	for _, s := range goodStores() {
		paths := []string{"a", "b", "a/b", "", "*"}
		for _, e := range s.Entries {
			numbers := numbersOf(e)
			checkToldKv(t, s, []string{e.Path}, numbers)
			checkChangedKv(t, s, []string{e.Path}, numbers)
		}
		checkToldKv(t, s, paths, []int{-1, 0, 1, 2})
		checkChangedKv(t, s, paths, []int{-1, 0, 1, 2})
	}
	checkToldKv(t, attic(), atticPaths(), []int{-1, 0, 1, 7, topFirst})
	checkChangedKv(t, attic(), atticPaths(), []int{-1, 0, 1, 7, topFirst})
	for _, s := range []impl.Store{fullStore(59), fullStore(60)} {
		paths := []string{"", "kv", "kv/p0", "kv/p2", "kv/p3", "kv/p0/e100", "kv/p0/e107", "kv/p2/e158", "kv/p2/e159", "kv/p3/e160", "a", "zz"}
		checkToldKv(t, s, paths, []int{0, 1, 2})
		checkChangedKv(t, s, paths, []int{-1, 0, 1, 2})
	}
}

func TestStoresThatAreNone(t *testing.T) {
	for _, s := range wrongStores() {
		paths := []string{"a", "b", "*"}
		for _, e := range s.Entries[:min(2, len(s.Entries))] {
			paths = append(paths, e.Path)
		}
		if impl.KvText(s) != "" {
			t.Errorf("KvText(%s) = %q", brief(s), impl.KvText(s))
		}
		for _, path := range paths {
			if data, code, num := checkGetKv(t, s, path, 0); len(data) != 0 || code != kvBad || num != 0 {
				t.Errorf("GetKv %q of %s = %s, %d, %d", path, brief(s), brief(data), code, num)
			}
			if told, ok := checkListKv(t, s, path); ok || len(told) != 0 {
				t.Errorf("ListKv %q of %s = %s, %v", path, brief(s), brief(told), ok)
			}
			if got, code := checkDropKv(t, s, path); code != kvBad || !sameStore(got, s) {
				t.Errorf("DropKv %q of %s = %s, %d", path, brief(s), brief(got), code)
			}
			for _, cas := range []int{-1, 0, 1} {
				if got, code, num := checkPutKv(t, s, path, nil, cas, 5); code != kvBad || num != 0 || !sameStore(got, s) {
					t.Errorf("PutKv %q of %s = %s, %d, %d", path, brief(s), brief(got), code, num)
				}
			}
			for _, list := range [][]int{nil, {1}, {1, 2, 3}} {
				_, take := checkTakeKv(t, s, path, list...)
				_, bring := checkBringKv(t, s, path, list...)
				_, kill := checkKillKv(t, s, path, list...)
				if take != kvBad || bring != kvBad || kill != kvBad {
					t.Errorf("changes of %s: %d, %d, %d", brief(s), take, bring, kill)
				}
			}
		}
		if told, ok := checkListKv(t, s, ""); ok || len(told) != 0 {
			t.Errorf("ListKv of %s = %s, %v", brief(s), brief(told), ok)
		}
	}
}

func TestAnEmptyStore(t *testing.T) {
	for _, s := range []impl.Store{{}, {Entries: []impl.Entry{}}, {Entries: make([]impl.Entry, 0, 9)}} {
		for _, path := range []string{"a", "a/b", "", "*", "a/", "A"} {
			data, get, num := checkGetKv(t, s, path, 0)
			_, take := checkTakeKv(t, s, path, 1)
			_, bring := checkBringKv(t, s, path)
			_, kill := checkKillKv(t, s, path, 0, 1)
			_, drop := checkDropKv(t, s, path)
			if len(data) != 0 || num != 0 || get != kvNone || take != kvNone || bring != kvNone || kill != kvNone || drop != kvNone {
				t.Errorf("%q of an empty store: %d, %d, %d, %d, %d", path, get, take, bring, kill, drop)
			}
			told, ok := checkListKv(t, s, path)
			if len(told) != 0 || ok != (path == "a" || path == "a/b" || path == "") {
				t.Errorf("ListKv %q of an empty store: %v, %v", path, told, ok)
			}
		}
		if !impl.StoreOk(s) || impl.KvText(s) != "" {
			t.Error("asked of an empty store")
		}
		for _, cas := range []int{math.MinInt, -1, 0, 1, 2, math.MaxInt} {
			got, code, num := checkPutKv(t, s, "a", []byte("x"), cas, 4)
			fits := cas <= 0
			if fits && (code != kvDone || num != 1 || !sameStore(got, storeOf(entryOf("a", 1, livingOf("x", 4))))) {
				t.Errorf("the first put with cas %d: %v, %d, %d", cas, got, code, num)
			}
			if !fits && (code != kvStale || num != 0 || len(got.Entries) != 0) {
				t.Errorf("the first put with cas %d: %v, %d, %d", cas, got, code, num)
			}
		}
	}
}

// TestKvVectors goes through a life on paper.
func TestKvVectors(t *testing.T) {
	s := impl.Store{}
	step := func(next impl.Store, code int, wantCode int, text string) {
		t.Helper()
		if code != wantCode || impl.KvText(next) != text {
			t.Errorf("%d, %q, not %d, %q", code, impl.KvText(next), wantCode, text)
		}
		s = next
	}
	put := func(path string, data string, cas int, wantNum int, wantCode int, text string) {
		t.Helper()
		next, code, num := impl.PutKv(s, path, []byte(data), cas, 6)
		if num != wantNum {
			t.Errorf("number %d, not %d", num, wantNum)
		}
		step(next, code, wantCode, text)
	}
	put("kv/b", "one", 0, 1, kvDone, "kv/b 1 1 v\n")
	put("kv/b", "two", 0, 0, kvStale, "kv/b 1 1 v\n")
	put("kv/b", "two", 1, 2, kvDone, "kv/b 1 2 vv\n")
	put("kv", "", -1, 1, kvDone, "kv 1 1 v\nkv/b 1 2 vv\n")
	next, code := impl.TakeKv(s, "kv/b", []int{1, 7, 1})
	step(next, code, kvDone, "kv 1 1 v\nkv/b 1 2 gv\n")
	put("kv/b", "three", 2, 3, kvDone, "kv 1 1 v\nkv/b 1 3 gvv\n")
	next, code = impl.KillKv(s, "kv/b", []int{2})
	step(next, code, kvDone, "kv 1 1 v\nkv/b 1 3 gdv\n")
	next, code = impl.BringKv(s, "kv/b", []int{1, 2, 3})
	step(next, code, kvDone, "kv 1 1 v\nkv/b 1 3 vdv\n")
	for i := 4; i <= 8; i++ {
		put("kv/b", "more", i-1, i, kvDone, "kv 1 1 v\nkv/b 1 "+fmt.Sprint(i)+" vd"+strings.Repeat("v", i-2)+"\n")
	}
	put("kv/b", "nine", 8, 9, kvDone, "kv 1 1 v\nkv/b 2 8 dvvvvvvv\n")
	put("kv/b", "ten", -5, 10, kvDone, "kv 1 1 v\nkv/b 3 8 vvvvvvvv\n")
	if data, code, num := impl.GetKv(s, "kv/b", 3); string(data) != "three" || code != kvDone || num != 3 {
		t.Errorf("version 3: %q, %d, %d", data, code, num)
	}
	if data, code, num := impl.GetKv(s, "kv/b", 2); len(data) != 0 || code != kvNone || num != 0 {
		t.Errorf("version 2: %q, %d, %d", data, code, num)
	}
	next, code = impl.DropKv(s, "kv/b")
	step(next, code, kvDone, "kv 1 1 v\n")
	put("kv/b", "again", 10, 0, kvStale, "kv 1 1 v\n")
	put("kv/b", "again", 0, 1, kvDone, "kv 1 1 v\nkv/b 1 1 v\n")
}

func TestPutKvData(t *testing.T) {
	for _, s := range []impl.Store{{}, storeAt("a"), attic()} {
		for _, n := range []int{0, 1, 299, 300, 301, 302, 1000} {
			data := bytes.Repeat([]byte{200}, n)
			got, code, _ := checkPutKv(t, s, "a", data, -1, 5)
			if (code == kvDone) != (n <= 300) || code != kvDone && code != kvBad {
				t.Errorf("PutKv of %d bytes: %d", n, code)
			}
			if back, code, _ := checkGetKv(t, got, "a", 0); n <= 300 && (code != kvDone || !bytes.Equal(back, data)) {
				t.Errorf("%d bytes are got as %s, %d", n, brief(back), code)
			}
		}
	}
	for _, data := range [][]byte{nil, {}, make([]byte, 0, 50), {0}, {0, 10, 255, '/'}} {
		got, _, _ := checkPutKv(t, impl.Store{}, "a", data, 0, 5)
		if back, code, num := checkGetKv(t, got, "a", 1); code != kvDone || num != 1 || !bytes.Equal(back, data) {
			t.Errorf("%v is got as %v, %d, %d", data, back, code, num)
		}
	}
}

func TestPutKvTimesAndPaths(t *testing.T) {
	for _, now := range edgeTimes() {
		for _, s := range []impl.Store{{}, storeAt("a"), storeOf(entryOf("a", 1, livingOf("x", topTime)))} {
			got, code, _ := checkPutKv(t, s, "a", []byte("x"), -1, now)
			fits := now >= 0 && now <= topTime
			if fits && (code != kvDone || got.Entries[0].Versions[len(got.Entries[0].Versions)-1].Made != now) {
				t.Errorf("PutKv at %d = %v, %d", now, got, code)
			}
			if !fits && (code != kvBad || !sameStore(got, s)) {
				t.Errorf("PutKv at %d = %v, %d", now, got, code)
			}
		}
	}
	for _, path := range []string{"", "*", "+", "a/*", "a/+", "+/a", "A", "a//b", "/a", "a/", "/", "abcdefghij-098765", "a/b/c/d/e/f/g/h/i", fullPath(121), "a b", "a\n", "é", "a_b", "\x00", strings.Repeat("a/", 400) + "a"} {
		if got, code, num := checkPutKv(t, storeAt("a"), path, []byte("x"), -1, 5); code != kvBad || num != 0 || !sameStore(got, storeAt("a")) {
			t.Errorf("PutKv at %q = %v, %d, %d", path, got, code, num)
		}
	}
	for _, path := range []string{"-", "0", "a/b", "a-b", "a0", "abcdefghij-09876", "a/b/c/d/e/f/g/h", fullPath(120), "zz"} {
		got, code, num := checkPutKv(t, storeAt("a", "n"), path, []byte("x"), 0, 5)
		if code != kvDone || num != 1 || len(got.Entries) != 3 || !impl.StoreOk(got) {
			t.Errorf("PutKv at %q = %v, %d, %d", path, got, code, num)
		}
	}
}

func TestPutKvCas(t *testing.T) {
	for _, e := range attic().Entries {
		last := e.First + len(e.Versions) - 1
		for _, cas := range []int{0, 1, e.First - 1, e.First, last - 1, last, last + 1, last + 2, len(e.Versions), math.MaxInt} {
			got, code, num := checkPutKv(t, attic(), e.Path, []byte("x"), cas, 5)
			switch {
			case cas != last && (code != kvStale || num != 0 || !sameStore(got, attic())):
				t.Errorf("PutKv %q with %d behind %d = %v, %d, %d", e.Path, cas, last, got, code, num)
			case cas == last && e.Path == "pki/ca" && (code != kvFull || num != 0 || !sameStore(got, attic())):
				t.Errorf("PutKv %q with %d behind %d = %v, %d, %d", e.Path, cas, last, got, code, num)
			case cas == last && e.Path != "pki/ca" && (code != kvDone || num != last+1 || sameStore(got, attic())):
				t.Errorf("PutKv %q with %d behind %d = %v, %d, %d", e.Path, cas, last, got, code, num)
			}
		}
		for _, cas := range []int{-1, -2, -last, math.MinInt} {
			if _, code, num := checkPutKv(t, attic(), e.Path, []byte("x"), cas, 5); code == kvStale || code == kvDone && num != last+1 {
				t.Errorf("PutKv %q with %d = %d, %d", e.Path, cas, code, num)
			}
		}
	}
	// A current version that is Gone or Dead is the current one all the same.
	for _, v := range []impl.Version{goneOf("x", 1), deadOf(1)} {
		s := storeOf(entryOf("a", 1, livingOf("y", 0), v))
		_, stale, _ := checkPutKv(t, s, "a", nil, 1, 5)
		got, code, num := checkPutKv(t, s, "a", nil, 2, 5)
		if stale != kvStale || code != kvDone || num != 3 || !sameVersion(got.Entries[0].Versions[1], v) {
			t.Errorf("PutKv behind %v: %d, %v, %d, %d", v, stale, got, code, num)
		}
	}
}

func TestPutKvBehindAFullPast(t *testing.T) {
	s := impl.Store{}
	for i := 1; i <= 30; i++ {
		next, code, num := checkPutKv(t, s, "a", []byte{byte(i)}, i-1, i)
		first := max(1, i-7)
		if code != kvDone || num != i || next.Entries[0].First != first || len(next.Entries[0].Versions) != i-first+1 {
			t.Fatalf("put %d: %v, %d, %d", i, next, code, num)
		}
		for back := 1; back <= i; back++ {
			data, code, num := checkGetKv(t, next, "a", back)
			if back < first && (code != kvNone || len(data) != 0 || num != 0) || back >= first && (code != kvDone || !bytes.Equal(data, []byte{byte(back)}) || num != back) {
				t.Errorf("behind put %d, version %d: %v, %d, %d", i, back, data, code, num)
			}
		}
		s = next
	}
	// What is pushed out may be Gone or Dead; what stays is as it was.
	past := []impl.Version{goneOf("g", 1), deadOf(2), livingOf("v", 3), goneOf("g", 4), deadOf(5), livingOf("v", 6), livingOf("v", 7), goneOf("g", 8)}
	s = storeOf(entryOf("a", 4, past...))
	for i := range 8 {
		next, code, num := checkPutKv(t, s, "a", []byte("new"), 11+i, 9)
		if code != kvDone || num != 12+i || next.Entries[0].First != 5+i || !slices.EqualFunc(next.Entries[0].Versions[:7-i], past[i+1:], sameVersion) {
			t.Errorf("push %d: %v, %d, %d", i, next, code, num)
		}
		s = next
	}
}

func TestPutKvAtTheHighestFirst(t *testing.T) {
	for n := 1; n <= 8; n++ {
		for _, cas := range []int{-1, topFirst + n - 1} {
			s := storeOf(entryOf("a", topFirst, pastOf(n)...))
			got, code, num := checkPutKv(t, s, "a", []byte("x"), cas, 5)
			if n < 8 && (code != kvDone || num != topFirst+n || got.Entries[0].First != topFirst || !impl.StoreOk(got)) {
				t.Errorf("behind %d versions: %v, %d, %d", n, got, code, num)
			}
			if n == 8 && (code != kvFull || num != 0 || !sameStore(got, s)) {
				t.Errorf("behind %d versions: %v, %d, %d", n, got, code, num)
			}
		}
	}
	last := storeOf(entryOf("a", topFirst-1, pastOf(8)...))
	got, code, num := checkPutKv(t, last, "a", []byte("x"), topFirst+6, 5)
	if code != kvDone || num != topFirst+7 || got.Entries[0].First != topFirst {
		t.Errorf("to the highest First: %v, %d, %d", got, code, num)
	}
	if data, code, num := checkGetKv(t, got, "a", 0); string(data) != "x" || code != kvDone || num != 1000007 {
		t.Errorf("the highest version: %q, %d, %d", data, code, num)
	}
	for _, cas := range []int{-1, topFirst + 7} {
		if _, code, _ := checkPutKv(t, got, "a", nil, cas, 5); code != kvFull {
			t.Errorf("beyond it: %d", code)
		}
	}
	// Dropped, it begins again.
	got, _ = checkDropKv(t, got, "a")
	if _, code, num := checkPutKv(t, got, "a", nil, 0, 5); code != kvDone || num != 1 {
		t.Errorf("dropped and put: %d, %d", code, num)
	}
}

func TestPutKvIntoAFullStore(t *testing.T) {
	s := impl.Store{}
	for i := range 62 {
		path := fmt.Sprintf("p%d/x", (i*37)%62)
		next, code, num := checkPutKv(t, s, path, []byte(path), 0, i)
		if i < 60 && (code != kvDone || num != 1 || len(next.Entries) != i+1) || i >= 60 && (code != kvFull || num != 0 || !sameStore(next, s)) {
			t.Fatalf("entry %d: %d, %d", i, code, num)
		}
		s = next
	}
	for _, e := range s.Entries {
		if got, code, num := checkPutKv(t, s, e.Path, nil, 1, 5); code != kvDone || num != 2 || len(got.Entries) != 60 {
			t.Errorf("PutKv %q into a full store: %d, %d", e.Path, code, num)
		}
	}
	for _, path := range []string{"a", "p0", "p0/x/y", "zz"} {
		_, full, _ := checkPutKv(t, s, path, nil, 0, 5)
		_, any, _ := checkPutKv(t, s, path, nil, -1, 5)
		_, stale, _ := checkPutKv(t, s, path, nil, 1, 5)
		if full != kvFull || any != kvFull || stale != kvStale {
			t.Errorf("PutKv %q into a full store: %d, %d, %d", path, full, any, stale)
		}
	}
	less, _ := checkDropKv(t, s, s.Entries[30].Path)
	if _, code, num := checkPutKv(t, less, "a", nil, 0, 5); code != kvDone || num != 1 {
		t.Errorf("room for one: %d, %d", code, num)
	}
}

// TestRefusalsOfAPut puts the reasons together in all ways; the chapter's first counts.
func TestRefusalsOfAPut(t *testing.T) {
	stores := []impl.Store{{}, storeAt("b"), storeOf(entryOf("a", 1, livingOf("x", 1))), storeOf(entryOf("a", topFirst, pastOf(8)...)), fullStore(60), fullStore(61), storeAt("b", "a")}
	for _, s := range stores {
		for _, path := range []string{"a", "kv/p0/e100", "zz", "", "a/*"} {
			for _, n := range []int{0, 300, 301} {
				for _, now := range []int{-1, 0, topTime, topTime + 1} {
					for _, cas := range []int{-1, 0, 1, 2, topFirst + 7} {
						got, code, num := checkPutKv(t, s, path, make([]byte, n), cas, now)
						bad := !impl.StoreOk(s) || path == "" || path == "a/*" || n == 301 || now == -1 || now > topTime
						if bad != (code == kvBad) || code != kvDone && (num != 0 || !sameStore(got, s)) {
							t.Errorf("PutKv %q of %s, %d bytes, %d at %d = %d, %d", path, brief(s), n, cas, now, code, num)
						}
					}
				}
			}
		}
	}
}

func TestGetKvEdges(t *testing.T) {
	s := attic()
	cases := []struct {
		path    string
		version int
		data    string
		code    int
		num     int
	}{
		{"app", 0, "four", kvDone, 4}, {"app", 1, "one", kvDone, 1}, {"app", 2, "", kvGone, 0}, {"app", 3, "", kvDead, 0}, {"app", 4, "four", kvDone, 4}, {"app", 5, "", kvNone, 0}, {"app", -1, "", kvNone, 0}, {"app", math.MinInt, "", kvNone, 0}, {"app", math.MaxInt, "", kvNone, 0},
		{"app-x", 0, "", kvGone, 0}, {"app-x", 3, "", kvGone, 0}, {"app-x", 2, "", kvNone, 0}, {"app-x", 4, "", kvNone, 0}, {"app-x", 1, "", kvNone, 0},
		{"app/db", 0, "", kvDead, 0}, {"app/db", 7, "", kvDone, 7}, {"app/db", 8, "", kvDead, 0}, {"app/db", 6, "", kvNone, 0}, {"app/db", 9, "", kvNone, 0}, {"app/db", -7, "", kvNone, 0},
		{"app/db/rw", 0, "text 7", kvDone, 1000006}, {"app/db/rw", 999999, "text 0", kvDone, 999999}, {"app/db/rw", 999998, "", kvNone, 0}, {"app/db/rw", 1000007, "", kvNone, 0}, {"app/db/rw", 1, "", kvNone, 0},
		{"app0", 0, "text 2", kvDone, 1000002}, {"app0", 1000003, "", kvNone, 0}, {"pki/ca", 0, "text 7", kvDone, 1000007}, {"pki/ca", 1000000, "text 0", kvDone, 1000000}, {"pki/ca", 999999, "", kvNone, 0},
		{"pki", 0, "", kvNone, 0}, {"app/d", 0, "", kvNone, 0}, {"ap", 1, "", kvNone, 0}, {"", 0, "", kvNone, 0}, {"*", 0, "", kvNone, 0}, {"app/", 0, "", kvNone, 0}, {"APP", 0, "", kvNone, 0}, {"zz", -1, "", kvNone, 0}, {"-", 0, "", kvNone, 0},
	}
	for _, c := range cases {
		data, code, num := checkGetKv(t, s, c.path, c.version)
		if string(data) != c.data || code != c.code || num != c.num {
			t.Errorf("GetKv %q, %d = %q, %d, %d, not %q, %d, %d", c.path, c.version, data, code, num, c.data, c.code, c.num)
		}
	}
}

func TestTakeBringAndKillEdges(t *testing.T) {
	s := storeOf(entryOf("a", 3, livingOf("v", 1), goneOf("g", 2), deadOf(3)), entryOf("b", 3, livingOf("w", 4)))
	text := func(s impl.Store) string { return strings.Fields(impl.KvText(s))[3] }
	cases := []struct {
		list              []int
		take, bring, kill string
	}{
		{nil, "vgd", "vgd", "vgd"}, {[]int{3}, "ggd", "vgd", "dgd"}, {[]int{4}, "vgd", "vvd", "vdd"}, {[]int{5}, "vgd", "vgd", "vgd"},
		{[]int{3, 4, 5}, "ggd", "vvd", "ddd"}, {[]int{5, 4, 3}, "ggd", "vvd", "ddd"}, {[]int{3, 3}, "ggd", "vgd", "dgd"}, {[]int{4, 4, 4}, "vgd", "vvd", "vdd"}, {[]int{5, 5}, "vgd", "vgd", "vgd"},
		{[]int{0}, "vgd", "vgd", "vgd"}, {[]int{2}, "vgd", "vgd", "vgd"}, {[]int{6}, "vgd", "vgd", "vgd"}, {[]int{1}, "vgd", "vgd", "vgd"}, {[]int{-1, -3, 2, 6, 7, math.MinInt, math.MaxInt}, "vgd", "vgd", "vgd"}, {[]int{9, 3, -1, 4}, "ggd", "vvd", "ddd"},
		{slices.Repeat([]int{3}, 200), "ggd", "vgd", "dgd"}, {append(slices.Repeat([]int{9}, 199), 3), "ggd", "vgd", "dgd"},
	}
	for _, c := range cases {
		taken, take := checkTakeKv(t, s, "a", c.list...)
		brought, bring := checkBringKv(t, s, "a", c.list...)
		killed, kill := checkKillKv(t, s, "a", c.list...)
		if take != kvDone || bring != kvDone || kill != kvDone || text(taken) != c.take || text(brought) != c.bring || text(killed) != c.kill {
			t.Errorf("%s: %d %s, %d %s, %d %s", brief(c.list), take, text(taken), bring, text(brought), kill, text(killed))
		}
	}
	// One number more than MaxList, or no entry: the list is asked first.
	for _, n := range []int{201, 202, 1000} {
		for _, path := range []string{"a", "c", "", "*"} {
			list := slices.Repeat([]int{3}, n)
			taken, take := checkTakeKv(t, s, path, list...)
			brought, bring := checkBringKv(t, s, path, list...)
			killed, kill := checkKillKv(t, s, path, list...)
			if take != kvBad || bring != kvBad || kill != kvBad || !sameStore(taken, s) || !sameStore(brought, s) || !sameStore(killed, s) {
				t.Errorf("%q, %d numbers: %d, %d, %d", path, n, take, bring, kill)
			}
		}
	}
	for _, path := range []string{"c", "a/b", "", "*", "a/", "A", "-"} {
		for _, list := range [][]int{nil, {3}, slices.Repeat([]int{3}, 200)} {
			_, take := checkTakeKv(t, s, path, list...)
			_, bring := checkBringKv(t, s, path, list...)
			_, kill := checkKillKv(t, s, path, list...)
			if take != kvNone || bring != kvNone || kill != kvNone {
				t.Errorf("%q: %d, %d, %d", path, take, bring, kill)
			}
		}
	}
}

func TestTakenBroughtAndKilled(t *testing.T) {
	s := storeOf(entryOf("a", 1, livingOf("one", 4), livingOf("two", 5)))
	taken, _ := checkTakeKv(t, s, "a", 1)
	again, _ := checkTakeKv(t, taken, "a", 1)
	if !sameStore(taken, again) || !taken.Entries[0].Versions[0].Gone || string(taken.Entries[0].Versions[0].Data) != "one" {
		t.Errorf("taken twice: %v, %v", taken, again)
	}
	brought, _ := checkBringKv(t, again, "a", 1)
	if !sameStore(brought, s) {
		t.Errorf("brought back: %v", brought)
	}
	if more, _ := checkBringKv(t, brought, "a", 1, 2); !sameStore(more, s) {
		t.Errorf("brought back when it is not Gone: %v", more)
	}
	dead := storeOf(entryOf("a", 1, deadOf(4), livingOf("two", 5)))
	for _, from := range []impl.Store{s, taken} {
		killed, _ := checkKillKv(t, from, "a", 1)
		took, _ := checkTakeKv(t, killed, "a", 1)
		back, _ := checkBringKv(t, took, "a", 1)
		twice, _ := checkKillKv(t, back, "a", 1)
		if !sameStore(killed, dead) || !sameStore(took, dead) || !sameStore(back, dead) || !sameStore(twice, dead) {
			t.Errorf("killed: %v, %v, %v, %v", killed, took, back, twice)
		}
		if data, code, num := checkGetKv(t, back, "a", 1); len(data) != 0 || code != kvDead || num != 0 {
			t.Errorf("what was killed is %q, %d, %d", data, code, num)
		}
	}
	// All of them may go; the entry stays, and so does its number.
	all, _ := checkKillKv(t, s, "a", 1, 2)
	if _, code, num := checkPutKv(t, all, "a", nil, 2, 6); code != kvDone || num != 3 || impl.KvText(all) != "a 1 2 dd\n" {
		t.Errorf("behind killed ones: %d, %d", code, num)
	}
}

func TestDropKvEdges(t *testing.T) {
	s := attic()
	for i, e := range s.Entries {
		got, code := checkDropKv(t, s, e.Path)
		if code != kvDone || !sameStore(got, storeOf(slices.Delete(attic().Entries, i, i+1)...)) {
			t.Errorf("DropKv %q = %v, %d", e.Path, got, code)
		}
		again, twice := checkDropKv(t, got, e.Path)
		_, get, _ := checkGetKv(t, got, e.Path, 0)
		if twice != kvNone || get != kvNone || !sameStore(again, got) {
			t.Errorf("DropKv %q, twice: %d, %d", e.Path, twice, get)
		}
	}
	for _, path := range []string{"ap", "pki", "app/d", "app/db/ro/x", "zz", "-", "", "*", "+", "app/*", "app/", "/app", "APP", fullPath(121)} {
		if got, code := checkDropKv(t, s, path); code != kvNone || !sameStore(got, s) {
			t.Errorf("DropKv %q = %v, %d", path, got, code)
		}
	}
	full := fullStore(60)
	for _, e := range fullStore(60).Entries {
		next, code := checkDropKv(t, full, e.Path)
		if code != kvDone || len(next.Entries) != len(full.Entries)-1 {
			t.Fatalf("DropKv %q: %d", e.Path, code)
		}
		full = next
	}
}

func TestListKvEdges(t *testing.T) {
	s := attic()
	cases := []struct {
		prefix string
		told   []string
	}{
		{"", []string{"app", "app-x", "app/", "app0", "pki/"}}, {"app", []string{"db", "db/"}}, {"app/db", []string{"ro", "rw"}}, {"app/db/ro", nil}, {"app/db/ro/x", nil}, {"app/db/r", nil}, {"app/d", nil}, {"ap", nil}, {"app-x", nil}, {"app0", nil}, {"pki", []string{"ca"}}, {"pki/ca", nil}, {"pk", nil}, {"zz", nil}, {"db", nil}, {"ca", nil},
	}
	for _, c := range cases {
		if told, ok := checkListKv(t, s, c.prefix); !ok || !slices.Equal(told, c.told) {
			t.Errorf("ListKv %q = %q, %v, not %q", c.prefix, told, ok, c.told)
		}
	}
	for _, prefix := range []string{"/", "app/", "/app", "*", "+", "app/*", "app/+", "+/db", "App", "app//db", " ", "app ", "\x00", "é", fullPath(121), "a/b/c/d/e/f/g/h/i", "abcdefghij-098765"} {
		if told, ok := checkListKv(t, s, prefix); ok || len(told) != 0 {
			t.Errorf("ListKv %q = %q, %v", prefix, told, ok)
		}
	}
	// Gone and Dead versions are told too, since their entries stand.
	bare := storeOf(entryOf("a", 1, deadOf(1)), entryOf("b/c", 1, goneOf("x", 1)))
	if told, ok := checkListKv(t, bare, ""); !ok || !slices.Equal(told, []string{"a", "b/"}) {
		t.Errorf("of gone ones: %q, %v", told, ok)
	}
	// Each once, sorted as texts, also where there are many.
	full := fullStore(60)
	all, _ := checkListKv(t, full, "kv/p1")
	steps, _ := checkListKv(t, full, "kv")
	top, _ := checkListKv(t, full, "")
	if len(all) != 20 || all[0] != "e120" || all[19] != "e139" || !slices.IsSorted(all) || !slices.Equal(steps, []string{"p0/", "p1/", "p2/"}) || !slices.Equal(top, []string{"kv/"}) {
		t.Errorf("of a full store: %q, %q, %q", all, steps, top)
	}
	deep := storeAt("a/b/c/d/e/f/g/h", fullPath(120))
	for _, c := range [][2]string{{"a/b/c/d/e/f/g", "h"}, {"a/b/c/d/e/f", "g/"}, {"a", "b/"}, {strings.Repeat("x", 16), strings.Repeat("x", 16) + "/"}, {fullPath(120)[:118], "x"}} {
		if told, ok := checkListKv(t, deep, c[0]); !ok || len(told) != 1 || told[0] != c[1] {
			t.Errorf("ListKv %q = %q, %v", c[0], told, ok)
		}
	}
}

func TestKvText(t *testing.T) {
	cases := []struct {
		store impl.Store
		text  string
	}{
		{impl.Store{}, ""}, {storeAt("a"), "a 1 1 v\n"}, {storeAt("a", "b"), "a 1 1 v\nb 1 1 v\n"}, {storeOf(entryOf("a/b", 12, goneOf("x", 1))), "a/b 12 1 g\n"}, {storeOf(entryOf("0", topFirst, deadOf(1), livingOf("", 1))), "0 1000000 2 dv\n"},
		{attic(), "app 1 4 vgdv\napp-x 3 1 g\napp/db 7 2 vd\napp/db/ro 1 1 v\napp/db/rw 999999 8 vvvvvvvv\napp0 1000000 3 vvv\npki/ca 1000000 8 vvvvvvvv\n"},
	}
	for _, c := range cases {
		if got := impl.KvText(c.store); got != c.text {
			t.Errorf("KvText(%s) = %q, not %q", brief(c.store), got, c.text)
		}
	}
	for _, s := range append(goodStores(), fullStore(60)) {
		text := impl.KvText(s)
		if text != wantKvText(s) || strings.Count(text, "\n") != len(s.Entries) {
			t.Errorf("KvText(%s) = %q", brief(s), text)
		}
	}
}

// TestAllSmallPasts has all pasts of up to three versions, changed by all lists of up to two small numbers.
func TestAllSmallPasts(t *testing.T) {
	kinds := []impl.Version{livingOf("v", 1), goneOf("g", 2), deadOf(3), {Made: 4}}
	var pastsSoFar [][]impl.Version
	for i := range 4 + 16 + 64 {
		n, code := 1, i
		for size := 4; code >= size; size *= 4 {
			n, code = n+1, code-size
		}
		var past []impl.Version
		for range n {
			past, code = append(past, kinds[code%4]), code/4
		}
		pastsSoFar = append(pastsSoFar, past)
	}
	for _, past := range pastsSoFar {
		for first := 1; first <= 2; first++ {
			s := storeOf(entryOf("a", first, past...), entryOf("b", 1, livingOf("other", 1)))
			for x := range 6 {
				checkGetKv(t, s, "a", x)
				checkPutKv(t, s, "a", []byte("new"), x-1, 5)
				for y := range 6 {
					checkTakeKv(t, s, "a", x, y)
					checkBringKv(t, s, "a", x, y)
					checkKillKv(t, s, "a", x, y)
				}
			}
		}
	}
}

// TestAllSmallListings has all stores with some of eight paths, asked at all small paths.
func TestAllSmallListings(t *testing.T) {
	paths := []string{"a", "a-a", "a/a", "a/a/b", "a/b", "ab", "b/a", "b/a/a/b"}
	prefixes := append(smallPaths(), "", "a-a", "ab", "a-", "/", "a/", "*")
	for bits := range 1 << len(paths) {
		var some []string
		for i, path := range paths {
			if bits>>i&1 == 1 {
				some = append(some, path)
			}
		}
		s := storeAt(some...)
		for _, prefix := range prefixes {
			checkListKv(t, s, prefix)
		}
		for _, path := range paths {
			_, code, num := checkPutKv(t, s, path, []byte("x"), 0, 1)
			_, drop := checkDropKv(t, s, path)
			there := slices.Contains(some, path)
			if there != (code == kvStale) || there != (num == 0) || there != (drop == kvDone) {
				t.Errorf("%q of %v: %d, %d, %d", path, some, code, num, drop)
			}
		}
	}
}

// smallKvStep is one of nine small steps; the others follow from where a history stands.
func smallKvStep(t *testing.T, s impl.Store, which int, now int) impl.Store {
	t.Helper()
	data := []byte{byte(now)}
	switch which {
	case 0:
		s, _, _ = checkPutKv(t, s, "a", data, -1, now)
	case 1:
		s, _, _ = checkPutKv(t, s, "a/b", data, -1, now)
	case 2:
		s, _, _ = checkPutKv(t, s, "a", data, 1, now)
	case 3:
		s, _ = checkTakeKv(t, s, "a", 1)
	case 4:
		s, _ = checkTakeKv(t, s, "a", 2, 1)
	case 5:
		s, _ = checkBringKv(t, s, "a", 1)
	case 6:
		s, _ = checkKillKv(t, s, "a", 1)
	case 7:
		s, _ = checkKillKv(t, s, "a/b", 1, 2)
	default:
		s, _ = checkDropKv(t, s, "a")
	}
	return s
}

func TestAllSmallKvHistories(t *testing.T) {
	for history := range 9 * 9 * 9 * 9 {
		s := impl.Store{}
		rest := history
		for now := range 4 {
			s = smallKvStep(t, s, rest%9, now)
			rest /= 9
		}
		checkToldKv(t, s, []string{"", "a"}, []int{0, 1, 2})
	}
}

// told is one event in the life of a store: what was done to which version.
type told struct {
	what   string
	path   string
	number int
	data   string
}

// diary keeps what was done to a store, event by event, and no store beside it.
type diary struct {
	store  impl.Store
	events []told
	now    int
}

// lifeOf reads the events of a path behind its last drop: how many puts there were, and the events of one of its numbers.
func (d *diary) lifeOf(path string, number int) (int, []told) {
	puts := 0
	var own []told
	for _, e := range d.events {
		if e.path != path {
			continue
		}
		switch e.what {
		case "drop":
			puts, own = 0, nil
			continue
		case "put":
			puts++
		}
		if e.number == number {
			own = append(own, e)
		}
	}
	return puts, own
}

// expected is promise 10: what a version is got as, by what happened to it and nothing else.
func (d *diary) expected(path string, number int) (string, int) {
	puts, own := d.lifeOf(path, number)
	if number < 1 || number > puts || number <= puts-8 {
		return "", kvNone
	}
	data, code := own[0].data, kvDone
	for _, e := range own[1:] {
		switch e.what {
		case "kill":
			return "", kvDead
		case "take":
			code = kvGone
		case "bring":
			code = kvDone
		}
	}
	if code == kvGone {
		return "", kvGone
	}
	return data, kvDone
}

func (d *diary) step(t *testing.T, r *rand.Rand, paths []string) {
	t.Helper()
	path := paths[r.Intn(len(paths))]
	puts, _ := d.lifeOf(path, 0)
	d.now += r.Intn(3)
	if r.Intn(2) == 0 {
		d.put(t, r, path, puts)
		return
	}
	if r.Intn(20) == 0 {
		next, code := checkDropKv(t, d.store, path)
		if (code == kvDone) != (puts > 0) {
			t.Fatalf("DropKv %q behind %d puts: %d", path, puts, code)
		}
		d.store = next
		d.events = append(d.events, told{what: "drop", path: path})
		return
	}
	var list []int
	for range r.Intn(4) {
		list = append(list, puts-r.Intn(10)+1)
	}
	what := []string{"take", "bring", "kill", "take", "bring"}[r.Intn(5)]
	code := kvDone
	switch what {
	case "take":
		d.store, code = checkTakeKv(t, d.store, path, list...)
	case "bring":
		d.store, code = checkBringKv(t, d.store, path, list...)
	default:
		d.store, code = checkKillKv(t, d.store, path, list...)
	}
	if (code == kvDone) != (puts > 0) {
		t.Fatalf("%s %q behind %d puts: %d", what, path, puts, code)
	}
	for _, number := range list {
		// A number that is not there is passed over, so that nothing befalls it before it is put.
		if number >= 1 && number <= puts {
			d.events = append(d.events, told{what: what, path: path, number: number})
		}
	}
}

func (d *diary) put(t *testing.T, r *rand.Rand, path string, puts int) {
	t.Helper()
	cas := []int{-1, -9, puts, puts, puts + 1, puts - 1, 0}[r.Intn(7)]
	data := someBytes(r, r.Intn(6))
	next, code, num := checkPutKv(t, d.store, path, data, cas, d.now)
	if cas >= 0 && cas != puts {
		if code != kvStale || num != 0 || !sameStore(next, d.store) {
			t.Fatalf("PutKv %q with %d behind %d puts: %d, %d", path, cas, puts, code, num)
		}
		return
	}
	if code != kvDone || num != puts+1 {
		t.Fatalf("PutKv %q behind %d puts: %d, %d", path, puts, code, num)
	}
	d.store = next
	d.events = append(d.events, told{what: "put", path: path, number: num, data: string(data)})
}

func (d *diary) holds(t *testing.T, paths []string) {
	t.Helper()
	if !impl.StoreOk(d.store) {
		t.Fatalf("behind %v the store is %v", d.events, d.store)
	}
	for _, path := range paths {
		puts, _ := d.lifeOf(path, 0)
		for number := -1; number <= puts+1; number++ {
			asked := number
			if number == 0 {
				asked = puts
			}
			want, wantCode := d.expected(path, asked)
			data, code, num := impl.GetKv(d.store, path, number)
			if string(data) != want || code != wantCode || code == kvDone && num != asked || code != kvDone && num != 0 {
				t.Fatalf("GetKv %q, %d = %q, %d, %d, not %q, %d", path, number, data, code, num, want, wantCode)
			}
		}
	}
}

func TestWhatWasPutIsGot(t *testing.T) {
	r := rand.New(rand.NewSource(101))
	paths := []string{"a", "a/b", "b"}
	for range 60 {
		d := diary{}
		for range 90 {
			d.step(t, r, paths)
			d.holds(t, paths)
		}
	}
}

// TestWhatWasKilledNeverComesBack looks for the killed text in all that is ever answered.
func TestWhatWasKilledNeverComesBack(t *testing.T) {
	r := rand.New(rand.NewSource(102))
	for range 100 {
		s := impl.Store{}
		for i := range 8 {
			s, _, _ = checkPutKv(t, s, "a", fmt.Appendf(nil, "secret %d", i+1), -1, i)
		}
		victim := 1 + r.Intn(8)
		secret := fmt.Appendf(nil, "secret %d", victim)
		if r.Intn(2) == 0 {
			s, _ = checkTakeKv(t, s, "a", victim)
		}
		s, _ = checkKillKv(t, s, "a", victim)
		for range 30 {
			list := []int{victim, 1 + r.Intn(9)}
			switch r.Intn(5) {
			case 0:
				s, _ = checkTakeKv(t, s, "a", list...)
			case 1, 2:
				s, _ = checkBringKv(t, s, "a", list...)
			case 3:
				s, _ = checkKillKv(t, s, "a", list[1])
			default:
				s, _, _ = checkPutKv(t, s, "a", []byte("other"), -1, 50)
			}
			_, code, _ := impl.GetKv(s, "a", victim)
			if code != kvDead && code != kvNone {
				t.Fatalf("the killed version is %d", code)
			}
			for _, v := range s.Entries[0].Versions {
				if bytes.Equal(v.Data, secret) {
					t.Fatalf("the killed version is back: %v", s)
				}
			}
		}
	}
}

// TestKilledBytesAreNotInTheAnswer asks the room behind the lists of an answer, too.
func TestKilledBytesAreNotInTheAnswer(t *testing.T) {
	s := storeOf(entryOf("a", 1, livingOf("secret", 1), livingOf("open", 2)))
	killed, _ := impl.KillKv(s, "a", []int{1})
	pushed := storeOf(entryOf("a", 1, append([]impl.Version{livingOf("secret", 1)}, pastOf(7)...)...))
	put, _, _ := impl.PutKv(pushed, "a", []byte("new"), 8, 9)
	dropped, _ := impl.DropKv(storeOf(entryOf("a", 1, livingOf("secret", 1)), entryOf("b", 1, livingOf("open", 2))), "a")
	for _, got := range []impl.Store{killed, put, dropped} {
		if strings.Contains(wholeStore(got), fmt.Sprintf("%x", "secret")) {
			t.Errorf("%s is left in the memory of an answer", wholeStore(got))
		}
	}
}

func someStore(r *rand.Rand) impl.Store {
	paths := []string{"a", "a-b", "a/b", "a/b/c", "a0", "b", "b/a"}
	var s impl.Store
	for _, path := range paths {
		if r.Intn(2) == 0 {
			continue
		}
		e := entryOf(path, 1+r.Intn(4))
		if r.Intn(6) == 0 {
			e.First = topFirst - r.Intn(3)
		}
		for range 1 + r.Intn(8) {
			e.Versions = append(e.Versions, []impl.Version{livingOf(someText(r, r.Intn(5)), r.Intn(9)), goneOf(someText(r, r.Intn(5)), r.Intn(9)), deadOf(r.Intn(9))}[r.Intn(3)])
		}
		s.Entries = append(s.Entries, e)
	}
	return s
}

func bendStore(r *rand.Rand, s impl.Store) {
	e := &s.Entries[r.Intn(len(s.Entries))]
	v := &e.Versions[r.Intn(len(e.Versions))]
	switch r.Intn(6) {
	case 0:
		e.First += r.Intn(5) - 2
	case 1:
		e.Versions = append(e.Versions, pastOf(r.Intn(8))...)
	case 2:
		e.Path = []string{"a", "b", "", "a/*", "c"}[r.Intn(5)]
	case 3:
		v.Dead = !v.Dead
	case 4:
		v.Gone = !v.Gone
	default:
		v.Made = []int{-1, topTime + 1, topTime}[r.Intn(3)]
	}
}

func TestStoresAtRandom(t *testing.T) {
	r := rand.New(rand.NewSource(103))
	paths := []string{"a", "a-b", "a/b", "a/b/c", "a0", "b", "b/a", "c", "", "a/*"}
	for range 250 {
		s := someStore(r)
		if len(s.Entries) > 0 && r.Intn(3) == 0 {
			bendStore(r, s)
		}
		some := []string{paths[r.Intn(10)], paths[r.Intn(10)], paths[r.Intn(10)]}
		numbers := []int{r.Intn(4) - 1, r.Intn(14), r.Intn(14), topFirst + r.Intn(9)}
		checkToldKv(t, s, some, numbers)
		checkChangedKv(t, s, some, numbers)
	}
}

func TestStoresKeepToThemselves(t *testing.T) {
	// Stores that go on from one do not meet.
	base, _, _ := impl.PutKv(storeAt("a", "b"), "a", []byte("two"), 1, 7)
	first, _, _ := impl.PutKv(base, "a", []byte("three"), 2, 8)
	second, _, _ := impl.PutKv(base, "a", []byte("other"), 2, 8)
	third, _, _ := impl.PutKv(base, "c", []byte("c"), 0, 8)
	fourth, _ := impl.TakeKv(first, "a", []int{1, 2})
	fifth, _ := impl.BringKv(fourth, "a", []int{1})
	sixth, _ := impl.KillKv(fourth, "a", []int{2})
	seventh, _ := impl.DropKv(first, "a")
	refused, _, _ := impl.PutKv(first, "a", nil, 0, 8)
	bad, _ := impl.TakeKv(first, "zz", []int{1})
	stores := []impl.Store{base, first, second, third, fourth, fifth, sixth, seventh, refused, bad}
	var want []impl.Store
	for _, s := range stores {
		want = append(want, cloneStore(s))
	}
	for i := range stores {
		for j := range stores {
			if !sameStore(stores[j], want[j]) {
				t.Errorf("store %d: %v, not %v", j, stores[j], want[j])
			}
		}
		spoilStore(stores[i])
		stores[i], want[i] = impl.Store{}, impl.Store{}
	}
	// One slice of data that is put twice is two.
	data := []byte("same")
	one, _, _ := impl.PutKv(impl.Store{}, "a", data, 0, 1)
	two, _, _ := impl.PutKv(one, "a", data, 1, 1)
	spoilBytes(data)
	spoilStore(one)
	if got, _, _ := impl.GetKv(two, "a", 1); string(got) != "same" {
		t.Errorf("put twice: %q", got)
	}
	// A store whose versions share their bytes is answered with bytes of their own for each.
	shared := []byte("shared")
	versions := []impl.Version{{Data: shared}, {Data: shared}}
	lent := storeOf(impl.Entry{Path: "a", First: 1, Versions: versions}, impl.Entry{Path: "b", First: 1, Versions: versions})
	for _, do := range []func() impl.Store{
		func() impl.Store { s, _ := impl.TakeKv(lent, "a", nil); return s },
		func() impl.Store { s, _ := impl.BringKv(lent, "zz", nil); return s },
		func() impl.Store { s, _ := impl.KillKv(lent, "a", []int{7}); return s },
		func() impl.Store { s, _, _ := impl.PutKv(lent, "c", shared, 0, 1); return s },
		func() impl.Store { s, _, _ := impl.PutKv(lent, "", shared, 0, 1); return s },
		func() impl.Store { s, _ := impl.DropKv(lent, "zz"); return s },
	} {
		if !listsApart(do()) {
			t.Error("lists that were one are one still")
		}
	}
	// Two answers to one question are two.
	s := attic()
	a, _, _ := impl.GetKv(s, "app", 1)
	spoilBytes(a)
	l, _ := impl.ListKv(s, "")
	spoilTexts(l, "spoiled")
	if b, _, _ := impl.GetKv(s, "app", 1); string(b) != "one" || !sameStore(s, attic()) {
		t.Error("two answers share memory")
	}
	if again, _ := impl.ListKv(s, ""); !slices.Equal(again, []string{"app", "app-x", "app/", "app0", "pki/"}) {
		t.Errorf("told again: %q", again)
	}
	// Nothing is kept from one call to another.
	if got, code, num := impl.GetKv(impl.Store{}, "app", 0); len(got) != 0 || code != kvNone || num != 0 {
		t.Errorf("behind other calls: %q, %d, %d", got, code, num)
	}
}
