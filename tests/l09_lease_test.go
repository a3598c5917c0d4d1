package tests

import (
	"fmt"
	"maps"
	"math"
	"math/rand"
	"slices"
	"sort"
	"strings"
	"testing"

	"loop.example/g00705/impl"
)

const topLeases = 150

func leaseOf(id int, token int, path string, made int, ends int, limit int) impl.Lease {
	return impl.Lease{Id: id, Token: token, Path: path, Made: made, Ends: ends, Limit: limit}
}

func bookOf(leases ...impl.Lease) impl.Book { return impl.Book{Leases: leases} }

func cloneBook(b impl.Book) impl.Book { return impl.Book{Leases: slices.Clone(b.Leases)} }

func sameBook(a impl.Book, b impl.Book) bool { return slices.Equal(a.Leases, b.Leases) }

// spoilLeases goes into the room behind the list too.
func spoilLeases(leases []impl.Lease, with int) {
	whole := leases[:cap(leases)]
	for i := range whole {
		whole[i] = leaseOf(with, with, "spoiled", with, with, with)
	}
}

// roomyBook has room behind the leases, so that whatever is written there is seen.
func roomyBook(b impl.Book) impl.Book {
	room := slices.Repeat([]impl.Lease{leaseOf(90, 165, "room", 1, 2, 3)}, len(b.Leases)+3)
	copy(room, b.Leases)
	return impl.Book{Leases: room[:len(b.Leases)]}
}

func wholeBook(b impl.Book) []impl.Lease { return b.Leases[:cap(b.Leases)] }

func leasesById(b impl.Book) map[int]impl.Lease {
	byId := map[int]impl.Lease{}
	for _, l := range b.Leases {
		byId[l.Id] = l
	}
	return byId
}

// byRisingId lays a table out again.
func byRisingId(byId map[int]impl.Lease) []impl.Lease {
	var leases []impl.Lease
	for _, id := range slices.Sorted(maps.Keys(byId)) {
		leases = append(leases, byId[id])
	}
	return leases
}

func leaseIds(leases []impl.Lease) []int {
	var ids []int
	for _, l := range leases {
		ids = append(ids, l.Id)
	}
	return ids
}

func wantLease(l impl.Lease) bool {
	if outside(l.Id, 1, 1000000000) || outside(l.Token, 0, 1000000000) || outside(l.Made, 0, 1000000000) {
		return false
	}
	return wantPath(l.Path) && !outside(l.Limit, l.Made+1, 1000000000) && !outside(l.Ends, l.Made+1, l.Limit)
}

// wantBook holds the leases against what a table of them, laid out again, would be.
func wantBook(b impl.Book) bool {
	wrong := func(l impl.Lease) bool { return !wantLease(l) }
	return len(b.Leases) < 151 && !slices.ContainsFunc(b.Leases, wrong) && slices.Equal(byRisingId(leasesById(b)), b.Leases)
}

func wantFoundLease(b impl.Book, id int) (impl.Lease, bool) {
	lease, there := leasesById(b)[id]
	if !wantBook(b) || !there {
		return impl.Lease{}, false
	}
	return lease, true
}

// bookAnswer is what a call that changes a book answers; those that answer a flag have 1 or 0 as their number.
type bookAnswer struct {
	book impl.Book
	gone []impl.Lease
	num  int
}

func bookFlag(b impl.Book, ok bool) bookAnswer {
	if ok {
		return bookAnswer{book: b, num: 1}
	}
	return bookAnswer{book: b}
}

func bookNum(b impl.Book, num int) bookAnswer { return bookAnswer{book: b, num: num} }

func bookGone(b impl.Book, gone []impl.Lease) bookAnswer { return bookAnswer{book: b, gone: gone} }

func wantAdd(b impl.Book, l impl.Lease) (impl.Book, bool) {
	notLess := func(other impl.Lease) bool { return other.Id >= l.Id }
	if !wantBook(b) || !wantLease(l) || slices.ContainsFunc(b.Leases, notLess) || len(b.Leases) == 150 {
		return b, false
	}
	return impl.Book{Leases: append(slices.Clone(b.Leases), l)}, true
}

func wantRenewed(b impl.Book, id int, now int, by int) (impl.Book, int) {
	byId := leasesById(b)
	lease, there := byId[id]
	if !wantBook(b) || !there || outside(by, 1, 1000000000) || outside(now, lease.Made, lease.Ends-1) {
		return b, 0
	}
	lease.Ends = now + by
	if lease.Ends >= lease.Limit {
		lease.Ends = lease.Limit
	}
	byId[id] = lease
	return impl.Book{Leases: byRisingId(byId)}, lease.Ends
}

// wantParted is asked of any book.
func wantParted(b impl.Book, goes func(l impl.Lease) bool) (impl.Book, []impl.Lease) {
	if !wantBook(b) {
		return b, nil
	}
	left, gone := leasesById(b), leasesById(b)
	maps.DeleteFunc(left, func(id int, l impl.Lease) bool { return goes(l) })
	maps.DeleteFunc(gone, func(id int, l impl.Lease) bool { return !goes(l) })
	return impl.Book{Leases: byRisingId(left)}, byRisingId(gone)
}

func wantDrop(b impl.Book, id int) (impl.Book, bool) {
	left, gone := wantParted(b, func(l impl.Lease) bool { return l.Id == id })
	return left, len(gone) == 1
}

func wantDropOf(b impl.Book, tokens []int) (impl.Book, []impl.Lease) {
	if len(tokens) >= 201 {
		return b, nil
	}
	asked := map[int]bool{}
	for _, token := range tokens {
		asked[token] = true
	}
	return wantParted(b, func(l impl.Lease) bool { return asked[l.Token] })
}

// wantBelowPath asks the texts, with a slash behind each, so that no segment is cut.
func wantBelowPath(prefix string, path string) bool {
	return wantPath(prefix) && wantPath(path) && strings.HasPrefix(path+"/", prefix+"/")
}

func wantDropUnder(b impl.Book, prefix string) (impl.Book, []impl.Lease) {
	return wantParted(b, func(l impl.Lease) bool { return wantBelowPath(prefix, l.Path) })
}

// wantDropOver orders the leases by texts of one width.
func wantDropOver(b impl.Book, now int) (impl.Book, []impl.Lease) {
	left, gone := wantParted(b, func(l impl.Lease) bool { return l.Ends <= now })
	width := func(l impl.Lease) string { return fmt.Sprintf("%012d %012d", l.Ends, l.Id) }
	sort.Slice(gone, func(i, j int) bool { return width(gone[i]) < width(gone[j]) })
	return left, gone
}

func wantCountUnder(b impl.Book, prefix string) int {
	if !wantBook(b) || !wantPath(prefix) {
		return -1
	}
	count := 0
	for _, l := range b.Leases {
		if wantBelowPath(prefix, l.Path) {
			count++
		}
	}
	return count
}

func wantNextEnd(b impl.Book) int {
	if !wantBook(b) || len(b.Leases) == 0 {
		return -1
	}
	var ends []int
	for _, l := range b.Leases {
		ends = append(ends, l.Ends)
	}
	sort.Ints(ends)
	return ends[0]
}

// checkBook holds an answer against the one that is wanted, and asks whose memory it is.
func checkBook(t *testing.T, what string, b impl.Book, do func(b impl.Book) bookAnswer, want bookAnswer) bookAnswer {
	t.Helper()
	wantLeft, wantGone := cloneBook(want.book), slices.Clone(want.gone)
	given, kept := roomyBook(b), roomyBook(b)
	got := do(given)
	if !sameBook(got.book, wantLeft) || !slices.Equal(got.gone, wantGone) || got.num != want.num {
		t.Errorf("%s of %s = %s, %s, %d, not %s, %s, %d", what, brief(b), brief(got.book), brief(got.gone), got.num, brief(wantLeft), brief(wantGone), want.num)
	}
	if !slices.Equal(wholeBook(given), wholeBook(kept)) {
		t.Errorf("%s of %s writes into what it was given", what, brief(b))
	}
	answer := bookAnswer{book: cloneBook(got.book), gone: slices.Clone(got.gone), num: got.num}
	spoilLeases(given.Leases, -7)
	if !sameBook(got.book, answer.book) || !slices.Equal(got.gone, answer.gone) {
		t.Errorf("%s of %s shares what it was given", what, brief(b))
	}
	spoilLeases(got.book.Leases, -8)
	if !slices.Equal(got.gone, answer.gone) {
		t.Errorf("%s of %s: its lists share memory", what, brief(b))
	}
	spoilLeases(got.gone, -9)
	if slices.ContainsFunc(wholeBook(got.book), func(l impl.Lease) bool { return l.Id != -8 }) {
		t.Errorf("%s of %s: the room of its lists is one", what, brief(b))
	}
	return answer
}

func checkAdd(t *testing.T, b impl.Book, l impl.Lease) (impl.Book, bool) {
	t.Helper()
	add := func(b impl.Book) bookAnswer { return bookFlag(impl.AddLease(b, l)) }
	got := checkBook(t, fmt.Sprintf("AddLease %v", l), b, add, bookFlag(wantAdd(b, l)))
	return got.book, got.num == 1
}

func checkRenewed(t *testing.T, b impl.Book, id int, now int, by int) (impl.Book, int) {
	t.Helper()
	renew := func(b impl.Book) bookAnswer { return bookNum(impl.RenewLease(b, id, now, by)) }
	got := checkBook(t, fmt.Sprintf("RenewLease %d at %d by %d", id, now, by), b, renew, bookNum(wantRenewed(b, id, now, by)))
	return got.book, got.num
}

func checkDrop(t *testing.T, b impl.Book, id int) (impl.Book, bool) {
	t.Helper()
	drop := func(b impl.Book) bookAnswer { return bookFlag(impl.DropLease(b, id)) }
	got := checkBook(t, fmt.Sprintf("DropLease %d", id), b, drop, bookFlag(wantDrop(b, id)))
	return got.book, got.num == 1
}

func checkDropOf(t *testing.T, b impl.Book, tokens ...int) (impl.Book, []impl.Lease) {
	t.Helper()
	what := "DropOf " + brief(tokens)
	room := append(slices.Clone(tokens), 90, 90, 90)
	kept := slices.Clone(room)
	drop := func(b impl.Book) bookAnswer { return bookGone(impl.DropOf(b, room[:len(tokens)])) }
	got := checkBook(t, what, b, drop, bookGone(wantDropOf(b, tokens)))
	if !slices.Equal(room, kept) {
		t.Errorf("%s writes into its tokens: %v", what, room)
	}
	return got.book, got.gone
}

func checkDropUnder(t *testing.T, b impl.Book, prefix string) (impl.Book, []impl.Lease) {
	t.Helper()
	drop := func(b impl.Book) bookAnswer { return bookGone(impl.DropUnder(b, prefix)) }
	got := checkBook(t, fmt.Sprintf("DropUnder %q", prefix), b, drop, bookGone(wantDropUnder(b, prefix)))
	return got.book, got.gone
}

func checkDropOver(t *testing.T, b impl.Book, now int) (impl.Book, []impl.Lease) {
	t.Helper()
	drop := func(b impl.Book) bookAnswer { return bookGone(impl.DropOver(b, now)) }
	got := checkBook(t, fmt.Sprintf("DropOver at %d", now), b, drop, bookGone(wantDropOver(b, now)))
	return got.book, got.gone
}

// checkLeases asks all that is only told of a book.
func checkLeases(t *testing.T, b impl.Book, ids []int, prefixes []string) {
	t.Helper()
	given, kept := roomyBook(b), roomyBook(b)
	if got := impl.BookOk(given); got != wantBook(b) {
		t.Errorf("BookOk(%s) = %v", brief(b), got)
	}
	if got := impl.NextEnd(given); got != wantNextEnd(b) {
		t.Errorf("NextEnd(%s) = %d, not %d", brief(b), got, wantNextEnd(b))
	}
	for _, id := range ids {
		want, wantOk := wantFoundLease(b, id)
		if got, ok := impl.FindLease(given, id); got != want || ok != wantOk {
			t.Errorf("FindLease(%s, %d) = %v, %v, not %v, %v", brief(b), id, got, ok, want, wantOk)
		}
	}
	for _, prefix := range prefixes {
		if got := impl.CountUnder(given, prefix); got != wantCountUnder(b, prefix) {
			t.Errorf("CountUnder(%s, %q) = %d, not %d", brief(b), prefix, got, wantCountUnder(b, prefix))
		}
	}
	if !slices.Equal(wholeBook(given), wholeBook(kept)) {
		t.Errorf("%s is changed by a question", brief(b))
	}
}

// checkLent asks all that changes a book.
func checkLent(t *testing.T, b impl.Book, ids []int, prefixes []string, times []int) {
	t.Helper()
	for _, id := range ids {
		checkAdd(t, b, leaseOf(id, 3, "a/b", 1, 2, 3))
		checkDrop(t, b, id)
		checkDropOf(t, b, id)
		for _, now := range times {
			checkRenewed(t, b, id, now, 1)
			checkRenewed(t, b, id, now, 7)
		}
	}
	checkDropOf(t, b)
	checkDropOf(t, b, ids...)
	for _, prefix := range prefixes {
		checkDropUnder(t, b, prefix)
	}
	for _, now := range times {
		checkDropOver(t, b, now)
	}
}

// fullBook has so many leases, of 7 tokens and 5 paths, three of each Ends, which fall as the Ids rise.
func fullBook(n int) impl.Book {
	var b impl.Book
	for i := range n {
		ends := 1000 - i/3
		b.Leases = append(b.Leases, leaseOf(10*i+10, i%7, fmt.Sprintf("db/p%d", i%5), i%3, ends, ends+i%4))
	}
	return b
}

// shelf is a small book of many kinds.
func shelf() impl.Book {
	return bookOf(
		leaseOf(1, 7, "db/app", 0, 9, 20),
		leaseOf(2, 0, "db", 1, 5, 5),
		leaseOf(4, 8, "db/app/ro", 2, 9, 9),
		leaseOf(5, 7, "db/apps", 3, 6, 12),
		leaseOf(9, 0, "pki", 4, 5, 40),
		leaseOf(12, topId, "db/ap", 0, topTime, topTime),
		leaseOf(20, 9, "pki/db/app", 8, 9, 30),
	)
}

func shelfPrefixes() []string {
	return []string{"db", "db/app", "db/ap", "db/apps", "db/app/ro", "db/app/ro/x", "d", "pki", "pki/db", "app", "", "*", "db/*", "db/+", "+", "db/", "/db", "DB", "db app"}
}

func goodLeases() []impl.Lease {
	all := []impl.Lease{
		leaseOf(1, 0, "a", 0, 1, 1), leaseOf(topId, topId, "a", 0, 1, topTime), leaseOf(1, 1, "a", 0, topTime, topTime), leaseOf(5, 9, "a", topTime-1, topTime, topTime),
		leaseOf(1, 0, "a", 4, 5, 5), leaseOf(1, 0, "a", 4, 5, 6), leaseOf(1, 0, "a", 4, 6, 6), leaseOf(1, 0, "a", 4, 8, 9), leaseOf(1, 0, "a", topTime-2, topTime-1, topTime),
		leaseOf(7, 7, "a", 7, 8, 8), leaseOf(2, topId, "a", 1, 2, 3),
	}
	for _, path := range []string{"-", "0", "abcdefghij-09876", "a/b/c/d/e/f/g/h", fullPath(120), fullPath(119)} {
		all = append(all, leaseOf(3, 4, path, 5, 6, 7))
	}
	return all
}

func wrongLeases() []impl.Lease {
	var all []impl.Lease
	for _, id := range []int{0, -1, topId + 1, math.MinInt, math.MaxInt} {
		all = append(all, leaseOf(id, 4, "a", 5, 6, 7))
	}
	for _, token := range []int{-1, topId + 1, math.MinInt, math.MaxInt} {
		all = append(all, leaseOf(3, token, "a", 5, 6, 7))
	}
	for _, path := range []string{"", "*", "+", "a/*", "a/+", "+/a", "A", "a//b", "/a", "a/", "/", "abcdefghij-098765", "a/b/c/d/e/f/g/h/i", fullPath(121), "a b", "a\n", "é", "a_b", "a.b", "\x00", strings.Repeat("a/", 400) + "a"} {
		all = append(all, leaseOf(3, 4, path, 5, 6, 7))
	}
	for _, made := range []int{-1, topTime, topTime + 1, math.MinInt, math.MaxInt} {
		all = append(all, leaseOf(3, 4, "a", made, 6, 7), leaseOf(3, 4, "a", made, topTime, topTime), leaseOf(3, 4, "a", made, made+1, made+1), leaseOf(3, 4, "a", made, made+1, made+2), leaseOf(3, 4, "a", made, topTime+1, topTime+1))
	}
	all = append(all, leaseOf(3, 4, "a", -1, 0, 0), leaseOf(3, 4, "a", -1, 1, 1), leaseOf(3, 4, "a", 7, 6, 8), leaseOf(3, 4, "a", 8, 6, 7))
	// Limit, with Made at 5: an Ends beside it that would be right elsewhere.
	for _, limit := range []int{5, 4, 1, 0, -1, topTime + 1, math.MinInt, math.MaxInt} {
		all = append(all, leaseOf(3, 4, "a", 5, 6, limit), leaseOf(3, 4, "a", 5, limit, limit), leaseOf(3, 4, "a", 5, topTime, limit))
	}
	// Ends, with Made at 5 and Limit at 9.
	for _, ends := range []int{5, 4, 1, 0, -1, 10, 11, topTime, topTime + 1, math.MinInt, math.MaxInt} {
		all = append(all, leaseOf(3, 4, "a", 5, ends, 9))
	}
	return append(all, leaseOf(3, 4, "a", 5, 7, 6), leaseOf(3, 4, "a", topTime-1, topTime-1, topTime), leaseOf(3, 4, "a", topTime-1, topTime+1, topTime), impl.Lease{}, impl.Lease{Id: 1, Path: "a"})
}

func goodBooks() []impl.Book {
	all := []impl.Book{
		{}, {Leases: []impl.Lease{}}, {Leases: make([]impl.Lease, 0, 200)}, shelf(),
		bookOf(leaseOf(1, 0, "a", 0, 1, 1), leaseOf(2, 0, "a", 0, 1, 1)), bookOf(leaseOf(topId-1, 5, "a", 5, 6, 7), leaseOf(topId, 4, "a", 2, 3, 4)), bookOf(leaseOf(1, 3, "a", 5, 6, 7), leaseOf(topId, 3, "b", 5, 6, 7)),
	}
	for _, l := range goodLeases() {
		all = append(all, bookOf(l))
	}
	return all
}

func wrongBooks() []impl.Book {
	l := func(id int) impl.Lease { return leaseOf(id, 1, "a", 5, 6, 7) }
	all := []impl.Book{
		bookOf(l(2), l(1)), bookOf(l(2), l(2)), bookOf(l(1), l(3), l(2)), bookOf(l(1), l(3), l(3)), bookOf(l(1), l(1), l(2)), bookOf(l(3), l(1), l(2)), bookOf(l(1), leaseOf(1, 2, "b", 1, 2, 3)),
		fullBook(topLeases + 1), fullBook(topLeases + 2), fullBook(600),
	}
	for _, l := range wrongLeases() {
		all = append(all, bookOf(l))
	}
	first, last := shelf(), shelf()
	first.Leases[0].Token = -1
	last.Leases[6].Limit = 8
	middle := fullBook(topLeases)
	middle.Leases[70].Path = "db/*"
	return append(all, first, last, middle)
}

func TestLeaseLimit(t *testing.T) {
	if impl.MaxLeases != 150 {
		t.Error("limit")
	}
}

func TestBookOk(t *testing.T) {
	for _, b := range append(goodBooks(), fullBook(149), fullBook(topLeases)) {
		if !impl.BookOk(b) || !wantBook(b) {
			t.Errorf("BookOk(%s) is false", brief(b))
		}
	}
	for _, b := range wrongBooks() {
		if impl.BookOk(b) || wantBook(b) {
			t.Errorf("BookOk(%s) is true", brief(b))
		}
	}
	// The room behind the leases is no part of them.
	if !impl.BookOk(impl.Book{Leases: fullBook(600).Leases[:topLeases]}) || !impl.BookOk(impl.Book{Leases: make([]impl.Lease, 0, 300)}) {
		t.Error("BookOk counts the room behind the leases")
	}
}

func TestBooksAtEveryEdge(t *testing.T) {
	for _, b := range goodBooks() {
		ids := append(edgeIds(), leaseIds(b.Leases)...)
		prefixes := append(shelfPrefixes(), "a", "a/b")
		for _, l := range b.Leases {
			prefixes = append(prefixes, l.Path)
		}
		checkLeases(t, b, ids, prefixes)
		checkLent(t, b, ids, prefixes, edgeTimes())
	}
	for _, b := range []impl.Book{fullBook(149), fullBook(topLeases)} {
		ids := []int{0, 1, 5, 6, 7, 10, 750, 1490, 1500, 1501}
		checkLeases(t, b, ids, []string{"db", "db/p0", "db/p4", "db/p5", "db/p"})
		checkLent(t, b, ids, []string{"db", "db/p0", "db/p4", "db/p5", "db/p"}, []int{-1, 2, 950, 951, 975, 999, 1000, topTime})
	}
}

func TestBooksThatAreNone(t *testing.T) {
	for _, b := range wrongBooks() {
		asked := []int{1, 2, 3}
		paths := []string{"a", "db", "*"}
		for _, l := range b.Leases[:min(3, len(b.Leases))] {
			asked, paths = append(asked, l.Id, l.Token), append(paths, l.Path)
		}
		checkLeases(t, b, asked, paths)
		for _, id := range asked {
			if l, ok := impl.FindLease(b, id); ok || l != (impl.Lease{}) {
				t.Errorf("FindLease(%s, %d) = %v, %v", brief(b), id, l, ok)
			}
			if got, ends := checkRenewed(t, b, id, 5, 1); ends != 0 || !sameBook(got, b) {
				t.Errorf("RenewLease(%s, %d) = %s, %d", brief(b), id, brief(got), ends)
			}
			if got, ok := checkDrop(t, b, id); ok || !sameBook(got, b) {
				t.Errorf("DropLease(%s, %d) = %s, %v", brief(b), id, brief(got), ok)
			}
		}
		if got, gone := checkDropOf(t, b, asked...); len(gone) != 0 || !sameBook(got, b) {
			t.Errorf("DropOf(%s) = %s, %v", brief(b), brief(got), gone)
		}
		for _, path := range paths {
			if got, gone := checkDropUnder(t, b, path); len(gone) != 0 || !sameBook(got, b) || impl.CountUnder(b, path) != -1 {
				t.Errorf("DropUnder(%s, %q) = %s, %v", brief(b), path, brief(got), gone)
			}
		}
		if got, gone := checkDropOver(t, b, topTime); len(gone) != 0 || !sameBook(got, b) || impl.NextEnd(b) != -1 {
			t.Errorf("DropOver(%s) = %s, %v", brief(b), brief(got), gone)
		}
		if got, ok := checkAdd(t, b, leaseOf(topId, 1, "a", 5, 6, 7)); ok || !sameBook(got, b) {
			t.Errorf("AddLease(%s) = %s, %v", brief(b), brief(got), ok)
		}
	}
}

func TestAnEmptyBook(t *testing.T) {
	for _, b := range []impl.Book{{}, {Leases: []impl.Lease{}}, {Leases: make([]impl.Lease, 0, 9)}} {
		for _, id := range edgeIds() {
			if l, ok := impl.FindLease(b, id); ok || l != (impl.Lease{}) {
				t.Errorf("an empty book has %v", l)
			}
			if got, ends := impl.RenewLease(b, id, 0, 1); ends != 0 || len(got.Leases) != 0 {
				t.Errorf("RenewLease %d: %v, %d", id, got, ends)
			}
			if got, ok := impl.DropLease(b, id); ok || len(got.Leases) != 0 {
				t.Errorf("DropLease %d: %v, %v", id, got, ok)
			}
			if got, gone := impl.DropOf(b, []int{id}); len(gone) != 0 || len(got.Leases) != 0 {
				t.Errorf("DropOf %d: %v, %v", id, got, gone)
			}
			if got, gone := impl.DropOver(b, id); len(gone) != 0 || len(got.Leases) != 0 {
				t.Errorf("DropOver %d: %v, %v", id, got, gone)
			}
		}
		if got, gone := impl.DropUnder(b, "a"); len(gone) != 0 || len(got.Leases) != 0 {
			t.Errorf("DropUnder: %v, %v", got, gone)
		}
		if impl.NextEnd(b) != -1 || impl.CountUnder(b, "a") != 0 || impl.CountUnder(b, "") != -1 || impl.CountUnder(b, "+") != -1 {
			t.Error("asked of an empty book")
		}
	}
}

func TestFindLease(t *testing.T) {
	b := shelf()
	for _, l := range b.Leases {
		if got, ok := impl.FindLease(b, l.Id); !ok || got != l {
			t.Errorf("FindLease %d = %v, %v", l.Id, got, ok)
		}
	}
	for _, id := range []int{math.MinInt, -1, 0, 3, 6, 7, 8, 19, 21, topId, topId + 1, math.MaxInt} {
		if got, ok := impl.FindLease(b, id); ok || got != (impl.Lease{}) {
			t.Errorf("FindLease %d = %v, %v", id, got, ok)
		}
	}
}

func TestAddLeaseEdges(t *testing.T) {
	for _, l := range goodLeases() {
		if got, ok := checkAdd(t, impl.Book{}, l); !ok || !sameBook(got, bookOf(l)) {
			t.Errorf("AddLease %v = %v, %v", l, got, ok)
		}
	}
	far := bookOf(leaseOf(2, 4, "a", 5, 6, 7))
	for _, l := range wrongLeases() {
		for _, b := range []impl.Book{{}, far} {
			if got, ok := checkAdd(t, b, l); ok || !sameBook(got, b) {
				t.Errorf("AddLease %v = %v, %v", l, got, ok)
			}
		}
	}
	// The Id is greater than all others, or it is refused: also when it is free.
	for id := range 25 {
		l := leaseOf(id, 1, "a", 0, 1, 1)
		got, ok := checkAdd(t, shelf(), l)
		if ok != (id > 20) || !sameBook(got, shelf()) && !sameBook(got, bookOf(append(shelf().Leases, l)...)) {
			t.Errorf("AddLease %d = %v, %v", id, got, ok)
		}
	}
	if _, ok := checkAdd(t, bookOf(leaseOf(topId, 1, "a", 0, 1, 1)), leaseOf(topId, 1, "a", 0, 1, 1)); ok {
		t.Error("AddLease behind the greatest Id")
	}
	if got, ok := checkAdd(t, bookOf(leaseOf(topId-1, 1, "a", 0, 1, 1)), leaseOf(topId, 1, "a", 0, 1, 1)); !ok || len(got.Leases) != 2 {
		t.Error("AddLease of the greatest Id")
	}
	// Just MaxLeases, and one more.
	var b impl.Book
	for i, l := range fullBook(topLeases + 1).Leases {
		next, ok := checkAdd(t, b, l)
		if ok != (i < 150) {
			t.Fatalf("AddLease of the lease %d: %v", i, ok)
		}
		b = next
	}
	if !sameBook(b, fullBook(topLeases)) || !impl.BookOk(b) {
		t.Error("a full book")
	}
	// With one dropped there is room for one again.
	b, _ = checkDrop(t, b, 10)
	b, ok := checkAdd(t, b, leaseOf(1501, 1, "a", 0, 1, 1))
	_, more := checkAdd(t, b, leaseOf(1502, 1, "a", 0, 1, 1))
	if !ok || more || len(b.Leases) != 150 {
		t.Errorf("room for one: %v, %v", ok, more)
	}
	// An Id may come again once it is dropped, if it is still the greatest.
	b, _ = checkDrop(t, b, 1501)
	if _, ok := checkAdd(t, b, leaseOf(1501, 2, "b", 3, 4, 5)); !ok {
		t.Error("an Id that was dropped")
	}
}

func TestRenewLeaseEdges(t *testing.T) {
	b := bookOf(leaseOf(1, 0, "a", 0, 1, 1), leaseOf(3, 7, "db", 10, 20, 40), leaseOf(8, 7, "db", 0, topTime, topTime), leaseOf(9, 7, "db", topTime-1, topTime, topTime))
	cases := []struct{ id, now, by, ends int }{
		{3, 10, 1, 11}, {3, 10, 2, 12}, {3, 10, 9, 19}, {3, 10, 10, 20}, {3, 10, 29, 39}, {3, 10, 30, 40}, {3, 10, 31, 40}, {3, 10, topTime, 40}, {3, 19, 1, 20}, {3, 19, 20, 39}, {3, 19, 21, 40}, {3, 19, 22, 40}, {3, 15, 5, 20}, {3, 19, topTime - 1, 40},
		{3, 9, 5, 0}, {3, 0, 15, 0}, {3, -1, 15, 0}, {3, 20, 5, 0}, {3, 21, 5, 0}, {3, 39, 1, 0}, {3, 40, 1, 0}, {3, topTime, 1, 0}, {3, math.MinInt, 5, 0}, {3, math.MaxInt, 5, 0}, {3, math.MaxInt - 4, 5, 0},
		{3, 15, 0, 0}, {3, 15, -1, 0}, {3, 15, -5, 0}, {3, 15, topTime + 1, 0}, {3, 15, math.MinInt, 0}, {3, 15, math.MaxInt, 0}, {3, 15, math.MaxInt - 14, 0},
		{2, 15, 5, 0}, {0, 15, 5, 0}, {-3, 15, 5, 0}, {4, 15, 5, 0}, {topId + 1, 15, 5, 0}, {math.MinInt, 15, 5, 0}, {math.MaxInt, 15, 5, 0},
		{1, 0, 1, 1}, {1, 0, 2, 1}, {1, 0, topTime, 1}, {1, 1, 1, 0}, {1, -1, 1, 0}, {1, 0, 0, 0},
		{8, 0, 1, 1}, {8, 0, topTime, topTime}, {8, topTime - 1, 1, topTime}, {8, topTime - 1, topTime, topTime}, {8, topTime, 1, 0}, {8, 1, topTime, topTime}, {8, 0, topTime - 1, topTime - 1},
		{9, topTime - 1, 1, topTime}, {9, topTime - 2, 1, 0}, {9, topTime, 1, 0}, {9, topTime - 1, topTime, topTime},
	}
	for _, s := range cases {
		got, ends := checkRenewed(t, b, s.id, s.now, s.by)
		want := cloneBook(b)
		for i := range want.Leases {
			if want.Leases[i].Id == s.id && s.ends != 0 {
				want.Leases[i].Ends = s.ends
			}
		}
		if ends != s.ends || !sameBook(got, want) {
			t.Errorf("RenewLease %d at %d by %d = %v, %d, not %d", s.id, s.now, s.by, got, ends, s.ends)
		}
	}
	// A renewal may bring the end nearer, and a lease that is over stays so.
	near, _ := checkRenewed(t, b, 3, 12, 1)
	if _, ends := checkRenewed(t, near, 3, 13, 9); ends != 0 {
		t.Errorf("over at 13, renewed to %d", ends)
	}
	// A renewal at the same now, once more, says the same.
	once, _ := checkRenewed(t, b, 3, 19, 30)
	twice, ends := checkRenewed(t, once, 3, 39, 30)
	if ends != 40 || !sameBook(once, twice) {
		t.Errorf("twice: %v, %d", twice, ends)
	}
	// In a full book each is found.
	full := fullBook(topLeases)
	for _, l := range full.Leases {
		if _, ends := checkRenewed(t, full, l.Id, l.Made, 5); ends != l.Made+5 {
			t.Errorf("RenewLease %d: %d", l.Id, ends)
		}
	}
}

func TestDropLeaseEdges(t *testing.T) {
	b := shelf()
	for i, l := range b.Leases {
		got, ok := checkDrop(t, b, l.Id)
		if !ok || !sameBook(got, bookOf(slices.Delete(shelf().Leases, i, i+1)...)) {
			t.Errorf("DropLease %d = %v, %v", l.Id, got, ok)
		}
		if again, ok := checkDrop(t, got, l.Id); ok || !sameBook(again, got) {
			t.Errorf("DropLease %d, twice", l.Id)
		}
	}
	for _, id := range []int{math.MinInt, -1, 0, 3, 6, 8, 19, 21, topId, topId + 1, math.MaxInt} {
		if got, ok := checkDrop(t, b, id); ok || !sameBook(got, b) {
			t.Errorf("DropLease %d = %v, %v", id, got, ok)
		}
	}
	// Leases that are alike but for their Ids.
	alike := bookOf(leaseOf(1, 1, "a", 1, 2, 3), leaseOf(2, 1, "a", 1, 2, 3), leaseOf(3, 1, "a", 1, 2, 3))
	if got, ok := checkDrop(t, alike, 2); !ok || !slices.Equal(leaseIds(got.Leases), []int{1, 3}) {
		t.Errorf("one of three alike: %v, %v", got, ok)
	}
	if got, ok := checkDrop(t, bookOf(alike.Leases[0]), 1); !ok || len(got.Leases) != 0 {
		t.Errorf("the only one: %v, %v", got, ok)
	}
}

func TestDropOfEdges(t *testing.T) {
	b := shelf()
	cases := []struct {
		tokens []int
		gone   []int
	}{
		{nil, nil}, {[]int{}, nil}, {[]int{7}, []int{1, 5}}, {[]int{7, 7}, []int{1, 5}}, {[]int{7, 8, 7}, []int{1, 4, 5}}, {[]int{8, 7}, []int{1, 4, 5}},
		{[]int{0}, []int{2, 9}}, {[]int{0, 0, 0}, []int{2, 9}}, {[]int{topId}, []int{12}}, {[]int{topId, 9, 0}, []int{2, 9, 12, 20}}, {[]int{-1}, nil}, {[]int{1}, nil}, {[]int{1, 2, 4, 5, 12, 20}, nil}, {[]int{topId + 1, math.MinInt, math.MaxInt}, nil},
		{[]int{-1, 7}, []int{1, 5}}, {[]int{9, 8, 7, 0, topId}, []int{1, 2, 4, 5, 9, 12, 20}},
		{slices.Repeat([]int{7}, 200), []int{1, 5}}, {slices.Repeat([]int{7}, 201), nil}, {slices.Repeat([]int{7}, 1000), nil},
		{append(slices.Repeat([]int{3}, 199), 7), []int{1, 5}}, {append(slices.Repeat([]int{3}, 200), 7), nil}, {append([]int{7}, slices.Repeat([]int{3}, 199)...), []int{1, 5}}, {append([]int{7}, slices.Repeat([]int{3}, 200)...), nil},
	}
	for _, s := range cases {
		got, gone := checkDropOf(t, b, s.tokens...)
		if !slices.Equal(leaseIds(gone), s.gone) || len(got.Leases) != 7-len(s.gone) {
			t.Errorf("DropOf %s = %v, %v, not %v", brief(s.tokens), got, gone, s.gone)
		}
		if again, twice := checkDropOf(t, got, s.tokens...); len(twice) != 0 || !sameBook(again, got) {
			t.Errorf("DropOf %s, twice: %v", brief(s.tokens), twice)
		}
	}
	// All leases are of one token; each of another.
	one, many := fullBook(topLeases), fullBook(topLeases)
	var tokens []int
	for i := range one.Leases {
		one.Leases[i].Token, many.Leases[i].Token = 6, 500-i
		tokens = append(tokens, 500-i)
	}
	if got, gone := checkDropOf(t, one, 6); len(got.Leases) != 0 || !slices.Equal(gone, one.Leases) {
		t.Errorf("all of one token: %d left", len(got.Leases))
	}
	if got, gone := checkDropOf(t, many, tokens...); len(got.Leases) != 0 || !slices.Equal(gone, many.Leases) {
		t.Errorf("each of another token: %d left", len(got.Leases))
	}
	if got, gone := checkDropOf(t, one, tokens...); len(gone) != 0 || !sameBook(got, one) {
		t.Errorf("of no token: %v", gone)
	}
}

func TestDropUnderEdges(t *testing.T) {
	b := shelf()
	cases := []struct {
		prefix string
		gone   []int
	}{
		{"db", []int{1, 2, 4, 5, 12}}, {"db/app", []int{1, 4}}, {"db/ap", []int{12}}, {"db/apps", []int{5}}, {"db/app/ro", []int{4}}, {"db/app/r", nil}, {"db/app/ro/x", nil},
		{"d", nil}, {"db/a", nil}, {"dba", nil}, {"pki", []int{9, 20}}, {"pki/db", []int{20}}, {"pki/db/app", []int{20}}, {"app", nil}, {"ro", nil}, {"pk", nil},
		{"", nil}, {"*", nil}, {"+", nil}, {"db/*", nil}, {"db/+", nil}, {"db/", nil}, {"/db", nil}, {"/", nil}, {"DB", nil}, {"db//app", nil}, {"db ", nil}, {"db\x00", nil}, {fullPath(121), nil}, {"a/b/c/d/e/f/g/h/i", nil}, {"abcdefghij-098765", nil},
	}
	for _, s := range cases {
		got, gone := checkDropUnder(t, b, s.prefix)
		if !slices.Equal(leaseIds(gone), s.gone) || len(got.Leases) != 7-len(s.gone) {
			t.Errorf("DropUnder %q = %v, %v, not %v", s.prefix, got, gone, s.gone)
		}
		want := len(s.gone)
		if !wantPath(s.prefix) {
			want = -1
		}
		if count := impl.CountUnder(b, s.prefix); count != want {
			t.Errorf("CountUnder %q = %d, not %d", s.prefix, count, want)
		}
		if again, twice := checkDropUnder(t, got, s.prefix); len(twice) != 0 || !sameBook(again, got) {
			t.Errorf("DropUnder %q, twice: %v", s.prefix, twice)
		}
	}
	long := bookOf(leaseOf(1, 1, fullPath(120), 1, 2, 3), leaseOf(2, 1, fullPath(119), 1, 2, 3))
	for _, l := range long.Leases {
		if _, gone := checkDropUnder(t, long, l.Path); !slices.Equal(gone, []impl.Lease{l}) || impl.CountUnder(long, l.Path) != 1 {
			t.Errorf("a long path: %v", gone)
		}
	}
	if _, gone := checkDropUnder(t, long, strings.Repeat("x", 16)); len(gone) != 2 {
		t.Errorf("two long paths: %v", gone)
	}
}

func TestDropOverEdges(t *testing.T) {
	b := shelf()
	cases := []struct {
		now  int
		gone []int
	}{
		{math.MinInt, nil}, {-1, nil}, {0, nil}, {4, nil}, {5, []int{2, 9}}, {6, []int{2, 9, 5}}, {8, []int{2, 9, 5}}, {9, []int{2, 9, 5, 1, 4, 20}}, {10, []int{2, 9, 5, 1, 4, 20}},
		{topTime - 1, []int{2, 9, 5, 1, 4, 20}}, {topTime, []int{2, 9, 5, 1, 4, 20, 12}}, {topTime + 1, []int{2, 9, 5, 1, 4, 20, 12}}, {math.MaxInt, []int{2, 9, 5, 1, 4, 20, 12}},
	}
	for _, s := range cases {
		got, gone := checkDropOver(t, b, s.now)
		if !slices.Equal(leaseIds(gone), s.gone) || len(got.Leases) != 7-len(s.gone) {
			t.Errorf("DropOver at %d = %v, %v, not %v", s.now, got, gone, s.gone)
		}
		if again, twice := checkDropOver(t, got, s.now); len(twice) != 0 || !sameBook(again, got) {
			t.Errorf("DropOver at %d, twice: %v", s.now, twice)
		}
		if next := impl.NextEnd(got); next != -1 && next <= s.now {
			t.Errorf("behind DropOver at %d the next end is %d", s.now, next)
		}
	}
	// Told by their ends, of one end by their Ids, and not the other way round.
	full := fullBook(topLeases)
	got, gone := checkDropOver(t, full, 1000)
	if len(got.Leases) != 0 || len(gone) != 150 || gone[0].Id != 1480 || gone[1].Id != 1490 || gone[2].Id != 1500 || gone[3].Id != 1450 || gone[147].Id != 10 || gone[149].Id != 30 {
		t.Errorf("a full book: %v", leaseIds(gone))
	}
	alike := bookOf(leaseOf(1, 9, "z", 3, 4, 9), leaseOf(2, 8, "y", 2, 4, 8), leaseOf(3, 7, "x", 1, 4, 7), leaseOf(4, 6, "w", 0, 4, 6))
	if _, gone := checkDropOver(t, alike, 4); !slices.Equal(gone, alike.Leases) {
		t.Errorf("leases of one end: %v", gone)
	}
	if got, gone := checkDropOver(t, alike, 3); len(gone) != 0 || !sameBook(got, alike) {
		t.Errorf("leases of one end, ahead of it: %v", gone)
	}
	// Ends of many digits are compared as numbers.
	wide := bookOf(leaseOf(1, 0, "a", 0, 100, topTime), leaseOf(2, 0, "a", 0, 99, topTime), leaseOf(3, 0, "a", 0, topTime, topTime), leaseOf(4, 0, "a", 0, 9, topTime), leaseOf(10, 0, "a", 0, 99, topTime))
	if _, gone := checkDropOver(t, wide, topTime); !slices.Equal(leaseIds(gone), []int{4, 2, 10, 1, 3}) {
		t.Errorf("wide ends: %v", gone)
	}
}

func TestNextEnd(t *testing.T) {
	cases := []struct {
		b    impl.Book
		want int
	}{
		{impl.Book{}, -1}, {shelf(), 5}, {bookOf(shelf().Leases[2:]...), 5}, {bookOf(shelf().Leases[5:]...), 9}, {bookOf(shelf().Leases[5]), topTime}, {bookOf(leaseOf(1, 0, "a", 0, 1, 1)), 1}, {bookOf(leaseOf(1, 0, "a", 0, 3, 3), leaseOf(2, 0, "a", 0, 2, 9), leaseOf(3, 0, "a", 0, 4, 4)), 2},
		{fullBook(150), 951}, {fullBook(149), 951}, {fullBook(3), 1000}, {fullBook(151), -1}, {bookOf(leaseOf(1, 0, "a", 0, 0, 1)), -1},
	}
	for _, s := range cases {
		if got := impl.NextEnd(s.b); got != s.want || wantNextEnd(s.b) != s.want {
			t.Errorf("NextEnd(%s) = %d, not %d", brief(s.b), got, s.want)
		}
	}
	// At the next end something goes, one ahead of it nothing.
	for _, b := range goodBooks() {
		next := impl.NextEnd(b)
		if _, none := impl.DropOver(b, next-1); len(none) != 0 {
			t.Errorf("%s: %v goes ahead of the next end", brief(b), none)
		}
		if _, some := impl.DropOver(b, next); (len(some) == 0) != (len(b.Leases) == 0) {
			t.Errorf("%s: %v goes at the next end", brief(b), some)
		}
	}
}

func TestLeaseText(t *testing.T) {
	cases := []struct {
		l    impl.Lease
		want string
	}{
		{leaseOf(1, 7, "a/b", 0, 20, 30), "a/b 1 7 20"}, {leaseOf(5, 0, "a", 1, 2, 3), "a 5 0 2"},
		{leaseOf(topId, topId, fullPath(120), topTime-1, topTime, topTime), fullPath(120) + " 1000000000 1000000000 1000000000"},
		// Also of what is no lease.
		{impl.Lease{}, " 0 0 0"}, {leaseOf(-1, -2, "", -3, -4, -5), " -1 -2 -4"}, {leaseOf(math.MinInt, math.MaxInt, "+ *", 1, math.MinInt, 1), "+ * -9223372036854775808 9223372036854775807 -9223372036854775808"},
		{leaseOf(10, 100, "\x00é", 1, 1000, 1), "\x00é 10 100 1000"},
	}
	for _, s := range cases {
		if got := impl.LeaseText(s.l); got != s.want {
			t.Errorf("LeaseText(%v) = %q, not %q", s.l, got, s.want)
		}
	}
	r := rand.New(rand.NewSource(91))
	for range 300 {
		l := leaseOf(someNum(r), someNum(r), someText(r, r.Intn(9)), someNum(r), someNum(r), someNum(r))
		if got, want := impl.LeaseText(l), fmt.Sprintf("%s %d %d %d", l.Path, l.Id, l.Token, l.Ends); got != want {
			t.Errorf("LeaseText(%v) = %q", l, got)
		}
	}
}

// TestRefusalsOfLeases puts together what is right and what is wrong in all ways.
func TestRefusalsOfLeases(t *testing.T) {
	wrong, full := shelf(), fullBook(topLeases)
	wrong.Leases[3].Limit = 0
	for _, b := range []impl.Book{shelf(), wrong, full, fullBook(topLeases + 1)} {
		for _, id := range []int{1, 10, 3, 0, topId + 1} {
			for _, now := range []int{-1, 0, 5, 8, 9, topTime + 1, math.MaxInt} {
				for _, by := range []int{math.MinInt, -1, 0, 1, 11, topTime, topTime + 1} {
					checkRenewed(t, b, id, now, by)
				}
			}
		}
		for _, l := range append(goodLeases(), wrongLeases()...) {
			for _, id := range []int{l.Id, 21, 1501} {
				l.Id = id
				checkAdd(t, b, l)
			}
		}
		for _, tokens := range [][]int{nil, {7, 0}, slices.Repeat([]int{7}, 200), slices.Repeat([]int{7}, 201)} {
			checkDropOf(t, b, tokens...)
		}
		for _, prefix := range shelfPrefixes() {
			checkDropUnder(t, b, prefix)
			checkLeases(t, b, nil, []string{prefix})
		}
	}
}

// TestAllSmallBooks asks about each list of up to three leases, whether it is in order or not.
func TestAllSmallBooks(t *testing.T) {
	var leases []impl.Lease
	for id := range 4 {
		leases = append(leases, leaseOf(id, 1, "a", 1, 3, 4), leaseOf(id, 2, "a/b", 1, 2, 3), leaseOf(id, 1, "ab", 1, 3, 2))
	}
	lists := [][]impl.Lease{nil}
	good := 0
	for start := 0; start < len(lists); start++ {
		b := bookOf(lists[start]...)
		ids, prefixes := []int{0, 1, 2, 3, 4}, []string{"a", "a/b", "ab", "b", ""}
		checkLeases(t, b, ids, prefixes)
		if wantBook(b) {
			good++
			checkLent(t, b, ids, prefixes, []int{0, 1, 2, 3, 4})
		}
		if len(b.Leases) < 3 {
			for _, l := range leases {
				lists = append(lists, append(slices.Clone(lists[start]), l))
			}
		}
	}
	// None; 3 Ids of two kinds; 3 pairs of four kinds; 8 kinds of three.
	if want := 1 + 6 + 12 + 8; good != want {
		t.Errorf("%d good ones, not %d", good, want)
	}
}

// TestAllEnds asks about five leases with each choice of three ends, and of three tokens.
func TestAllEnds(t *testing.T) {
	for choice := range 243 {
		var b impl.Book
		rest := choice
		for i := range 5 {
			b.Leases = append(b.Leases, leaseOf(2*i+1, rest%3, "a", 1, 2+rest%3, 9))
			rest /= 3
		}
		for now := range 6 {
			checkDropOver(t, b, now)
		}
		if impl.NextEnd(b) != wantNextEnd(b) {
			t.Errorf("NextEnd(%v) = %d", b, impl.NextEnd(b))
		}
		for one := -1; one < 4; one++ {
			checkDropOf(t, b, one)
			for two := -1; two < 4; two++ {
				checkDropOf(t, b, one, two)
			}
		}
	}
}

// TestAllSmallPrefixes asks about a book with a lease at each small path.
func TestAllSmallPrefixes(t *testing.T) {
	var b impl.Book
	for i, path := range smallPaths() {
		b.Leases = append(b.Leases, leaseOf(i+1, i, path, i, i+1, i+2))
	}
	for _, prefix := range append(smallGlobs(), smallPaths()...) {
		_, gone := checkDropUnder(t, b, prefix)
		count := impl.CountUnder(b, prefix)
		if count != wantCountUnder(b, prefix) || count != len(gone) && count != -1 {
			t.Errorf("CountUnder %q = %d, %d gone", prefix, count, len(gone))
		}
	}
}

// lent writes down what became of each lease that was added, without a book.
type lent struct {
	book   impl.Book
	out    map[int]impl.Lease
	drops  map[int]int
	nextId int
	now    int
}

func (b *lent) add(t *testing.T, r *rand.Rand) {
	t.Helper()
	paths := []string{"db", "db/app", "db/app/ro", "db/apps", "pki", "pki/db"}
	ends := b.now + 1 + r.Intn(12)
	l := leaseOf(b.nextId, r.Intn(6), paths[r.Intn(len(paths))], b.now, ends, ends+r.Intn(20))
	next, ok := checkAdd(t, b.book, l)
	if ok != (len(b.out) < 150) {
		t.Fatalf("AddLease %v with %d out: %v", l, len(b.out), ok)
	}
	if ok {
		b.out[l.Id] = l
		b.nextId += 1 + r.Intn(3)
	}
	b.book = next
}

// struck counts the leases that went, and asks of each whether it had to.
func (b *lent) struck(t *testing.T, gone []impl.Lease, had func(l impl.Lease) bool) {
	t.Helper()
	for _, l := range gone {
		if out, there := b.out[l.Id]; !there || out != l || !had(l) {
			t.Fatalf("%v went, of %v", l, out)
		}
		delete(b.out, l.Id)
		b.drops[l.Id]++
	}
	for _, l := range b.out {
		if had(l) {
			t.Fatalf("%v did not go", l)
		}
	}
}

func (b *lent) renew(t *testing.T, r *rand.Rand) {
	t.Helper()
	id, by := 1+r.Intn(b.nextId), 1+r.Intn(25)
	next, ends := checkRenewed(t, b.book, id, b.now, by)
	l, there := b.out[id]
	if (ends != 0) != (there && b.now < l.Ends) || there && ends > l.Limit {
		t.Fatalf("RenewLease %d at %d by %d: %d, of %v", id, b.now, by, ends, l)
	}
	if ends != 0 {
		l.Ends = ends
		b.out[id] = l
	}
	b.book = next
}

func (b *lent) step(t *testing.T, r *rand.Rand) {
	t.Helper()
	var gone []impl.Lease
	switch r.Intn(16) {
	case 0:
		id := 1 + r.Intn(b.nextId)
		l, there := impl.FindLease(b.book, id)
		next, ok := checkDrop(t, b.book, id)
		if ok != there {
			t.Fatalf("DropLease %d: %v", id, ok)
		}
		b.book = next
		if ok {
			b.struck(t, []impl.Lease{l}, func(l impl.Lease) bool { return l.Id == id })
		}
	case 1:
		tokens := []int{r.Intn(8) - 1, r.Intn(8) - 1}[r.Intn(2):]
		b.book, gone = checkDropOf(t, b.book, tokens...)
		b.struck(t, gone, func(l impl.Lease) bool { return slices.Contains(tokens, l.Token) })
	case 2:
		prefix := []string{"db/app", "db/apps", "pki/db", "pki", "db/ap", "db/app/ro"}[r.Intn(6)]
		count := impl.CountUnder(b.book, prefix)
		b.book, gone = checkDropUnder(t, b.book, prefix)
		if count != len(gone) {
			t.Fatalf("CountUnder %q = %d, and %v went", prefix, count, gone)
		}
		b.struck(t, gone, func(l impl.Lease) bool { return wantBelowPath(prefix, l.Path) })
	case 3, 4, 5:
		b.now += r.Intn(4)
		b.book, gone = checkDropOver(t, b.book, b.now)
		b.struck(t, gone, func(l impl.Lease) bool { return l.Ends <= b.now })
	case 6, 7, 8, 9:
		b.renew(t, r)
	default:
		b.add(t, r)
	}
}

// holds asks promise 9 of the book as it is.
func (b *lent) holds(t *testing.T) {
	t.Helper()
	if !impl.BookOk(b.book) || !sameBook(b.book, impl.Book{Leases: byRisingId(b.out)}) {
		t.Fatalf("the book has %v, out are %v", b.book, b.out)
	}
	for _, l := range b.book.Leases {
		if l.Ends > l.Limit || b.drops[l.Id] != 0 {
			t.Fatalf("%v lives beyond its Limit, or again", l)
		}
	}
}

func TestALeaseIsDroppedOnce(t *testing.T) {
	r := rand.New(rand.NewSource(92))
	for range 60 {
		b := lent{out: map[int]impl.Lease{}, drops: map[int]int{}, nextId: 1}
		added := map[int]int{}
		for range 120 {
			b.step(t, r)
			b.holds(t)
			for id := range b.out {
				added[id] = 1
			}
		}
		// Time takes the rest, each by its Limit at the latest.
		latest := 0
		for _, l := range b.out {
			latest = max(latest, l.Limit)
		}
		rest, gone := checkDropOver(t, b.book, latest)
		b.book = rest
		b.struck(t, gone, func(l impl.Lease) bool { return true })
		b.holds(t)
		if len(b.book.Leases) != 0 || !maps.Equal(b.drops, added) {
			t.Fatalf("%v is left; dropped were %v, of %v", b.book, b.drops, added)
		}
	}
}

// TestABookFillsAndEmpties goes on at the limit of a book.
func TestABookFillsAndEmpties(t *testing.T) {
	r := rand.New(rand.NewSource(93))
	b := lent{out: map[int]impl.Lease{}, drops: map[int]int{}, nextId: 1}
	for round := range 3 {
		for range 155 {
			b.add(t, r)
			b.holds(t)
		}
		if len(b.book.Leases) != 150 {
			t.Fatalf("round %d: %d leases", round, len(b.book.Leases))
		}
		for range 20 {
			b.step(t, r)
			b.holds(t)
		}
	}
}

func TestNoRenewalPassesALeasesLimit(t *testing.T) {
	r := rand.New(rand.NewSource(94))
	for range 200 {
		made := r.Intn(50)
		ends := made + 1 + r.Intn(20)
		limit := ends + r.Intn(60)
		b := bookOf(leaseOf(1, 0, "a", 0, topTime, topTime), leaseOf(2, 1, "a", made, ends, limit), leaseOf(3, 1, "a", made, ends, limit))
		for now := made; now <= limit+5; now += 1 + r.Intn(4) {
			before := b.Leases[1].Ends
			by := 1 + r.Intn(30)
			next, told := checkRenewed(t, b, 2, now, by)
			after := next.Leases[1].Ends
			if now < before && (told != after || after != min(now+by, limit)) || now >= before && (told != 0 || after != before) {
				t.Fatalf("at %d: %d, %v", now, told, next)
			}
			b = next
		}
		if left, gone := checkDropOver(t, b, limit); len(left.Leases) != 1 || len(gone) != 2 || b.Leases[1].Limit != limit {
			t.Fatalf("at its Limit: %v, %v", left, gone)
		}
	}
}

func TestBooksAtRandom(t *testing.T) {
	r := rand.New(rand.NewSource(95))
	paths := []string{"a", "a/b", "a/b/c", "ab", "b", "b/a"}
	for range 400 {
		var b impl.Book
		id := 0
		for range r.Intn(14) {
			id += 1 + r.Intn(3)
			made := r.Intn(6)
			ends := made + 1 + r.Intn(6)
			b.Leases = append(b.Leases, leaseOf(id, r.Intn(5), paths[r.Intn(6)], made, ends, ends+r.Intn(6)))
		}
		if n := len(b.Leases); n > 0 && r.Intn(3) == 0 {
			bent := &b.Leases[r.Intn(n)]
			bent.Id, bent.Token, bent.Made, bent.Ends, bent.Limit = bent.Id+r.Intn(3)-1, bent.Token+r.Intn(3)-1, bent.Made+r.Intn(3)-1, bent.Ends+r.Intn(3)-1, bent.Limit+r.Intn(3)-1
		}
		ids := []int{0, 1 + r.Intn(20), 1 + r.Intn(20), 1 + r.Intn(40)}
		prefixes := append(paths, "", "a/*", "c")
		checkLeases(t, b, ids, prefixes)
		checkLent(t, b, ids, prefixes, []int{-1, r.Intn(6), r.Intn(12), 12 + r.Intn(9)})
		for range 4 {
			checkAdd(t, b, leaseOf(r.Intn(50), r.Intn(3)-1, paths[r.Intn(6)], r.Intn(5)-1, r.Intn(9)-1, r.Intn(9)-1))
		}
	}
}

func TestBooksKeepToThemselves(t *testing.T) {
	one, two, three := leaseOf(1, 7, "a", 0, 5, 9), leaseOf(2, 8, "a/b", 0, 6, 9), leaseOf(3, 7, "b", 0, 7, 9)
	later := leaseOf(2, 8, "a/b", 0, 9, 9)
	other := leaseOf(3, 9, "c", 0, 8, 9)
	// Books that go on from one do not meet.
	base, _ := impl.AddLease(bookOf(one), two)
	first, _ := impl.AddLease(base, three)
	second, _ := impl.AddLease(base, other)
	third, _ := impl.RenewLease(first, 2, 4, 50)
	fourth, _ := impl.DropLease(first, 2)
	fifth, fifthGone := impl.DropOf(first, []int{7})
	sixth, sixthGone := impl.DropUnder(first, "a")
	seventh, seventhGone := impl.DropOver(first, 6)
	refused, _ := impl.AddLease(first, one)
	books := []impl.Book{base, first, second, third, fourth, fifth, sixth, seventh, refused, {Leases: fifthGone}, {Leases: sixthGone}, {Leases: seventhGone}}
	want := []impl.Book{
		bookOf(one, two), bookOf(one, two, three), bookOf(one, two, other), bookOf(one, later, three), bookOf(one, three), bookOf(two), bookOf(three), bookOf(three), bookOf(one, two, three),
		bookOf(one, three), bookOf(one, two), bookOf(one, two),
	}
	for i := range books {
		for j := range books {
			if !sameBook(books[j], want[j]) {
				t.Errorf("book %d: %v, not %v", j, books[j], want[j])
			}
		}
		spoilLeases(books[i].Leases, -7)
		books[i], want[i] = impl.Book{}, impl.Book{}
	}
	// Nothing is kept from one call to another.
	impl.DropOf(shelf(), []int{7})
	impl.AddLease(shelf(), leaseOf(21, 7, "a", 0, 1, 2))
	if got, gone := impl.DropOf(impl.Book{}, []int{7}); len(gone) != 0 || len(got.Leases) != 0 {
		t.Errorf("behind other calls: %v, %v", got, gone)
	}
	// Two answers to one question are two.
	b := shelf()
	a, aGone := impl.DropOver(b, 9)
	c, cGone := impl.DropOver(b, 9)
	spoilLeases(a.Leases, -7)
	spoilLeases(aGone, -7)
	if left, gone := impl.DropOver(b, 9); !sameBook(left, c) || !slices.Equal(gone, cGone) || !sameBook(b, shelf()) {
		t.Error("two answers share memory")
	}
}
