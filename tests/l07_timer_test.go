package tests

import (
	"fmt"
	"math"
	"math/rand"
	"slices"
	"sort"
	"testing"

	"loop.example/g00705/impl"
)

const (
	topTimers = 300
	topTime   = 1000000000
	topId     = 1000000000
)

// atId is a timer written as At and Id.
type atId [2]int

func clockOf(now int, timers ...atId) impl.Clock {
	c := impl.Clock{Now: now}
	for _, t := range timers {
		c.Timers = append(c.Timers, impl.Timer{At: t[0], Id: t[1]})
	}
	return c
}

func cloneClock(c impl.Clock) impl.Clock {
	return impl.Clock{Now: c.Now, Timers: slices.Clone(c.Timers)}
}

func equalClock(a impl.Clock, b impl.Clock) bool {
	return a.Now == b.Now && slices.Equal(a.Timers, b.Timers)
}

func setOp(id int, at int) impl.ClockOp   { return impl.ClockOp{Kind: 0, Id: id, At: at} }
func stopOp(id int) impl.ClockOp          { return impl.ClockOp{Kind: 1, Id: id} }
func advanceOp(at int) impl.ClockOp       { return impl.ClockOp{Kind: 2, At: at} }
func spoilTimers(list []impl.Timer)       { fillTimers(list, impl.Timer{At: -7, Id: -7}) }
func clockTold(a []int, b ...int) bool    { return slices.Equal(a, b) }
func outside(x int, low int, up int) bool { return x < low || x > up }

// brief is enough of a clock to know it by in a fault that is told.
func brief(x any) string {
	text := fmt.Sprint(x)
	return text[:min(len(text), 80)]
}

func fillTimers(list []impl.Timer, with impl.Timer) {
	for i := range list {
		list[i] = with
	}
}

// timesById is the clock as a table, from an Id to its At.
func timesById(timers []impl.Timer) map[int]int {
	times := map[int]int{}
	for _, t := range timers {
		times[t.Id] = t.At
	}
	return times
}

// inOrder lays a table out again: by At, and of one At by Id.
func inOrder(times map[int]int) []impl.Timer {
	var list []impl.Timer
	for id, at := range times {
		list = append(list, impl.Timer{At: at, Id: id})
	}
	sort.Slice(list, func(i, j int) bool {
		return list[i].At < list[j].At || list[i].At == list[j].At && list[i].Id < list[j].Id
	})
	return list
}

// wantClockOk holds the timers against what a table of them, laid out again, would be.
func wantClockOk(c impl.Clock) bool {
	if outside(c.Now, 0, 1000000000) || len(c.Timers) >= 301 {
		return false
	}
	for _, t := range c.Timers {
		if outside(t.At, 0, 1000000000) || outside(t.Id, 1, 1000000000) {
			return false
		}
	}
	return slices.Equal(inOrder(timesById(c.Timers)), c.Timers)
}

func wantSet(c impl.Clock, id int, at int) (impl.Clock, bool) {
	times := timesById(c.Timers)
	times[id] = at
	set := impl.Clock{Now: c.Now, Timers: inOrder(times)}
	if !wantClockOk(c) || at < c.Now || !wantClockOk(set) {
		return c, false
	}
	return set, true
}

func wantStop(c impl.Clock, id int) (impl.Clock, bool) {
	times := timesById(c.Timers)
	_, there := times[id]
	if !wantClockOk(c) || !there {
		return c, false
	}
	delete(times, id)
	return impl.Clock{Now: c.Now, Timers: inOrder(times)}, true
}

func wantAt(c impl.Clock, id int) int {
	at, there := timesById(c.Timers)[id]
	if !wantClockOk(c) || !there {
		return -1
	}
	return at
}

func wantAdvance(c impl.Clock, now int) (impl.Clock, []int) {
	if !wantClockOk(c) || now < c.Now || now > 1000000000 {
		return c, nil
	}
	later := impl.Clock{Now: now}
	var told []int
	for _, t := range c.Timers {
		if t.At > now {
			later.Timers = append(later.Timers, t)
		} else {
			told = append(told, t.Id)
		}
	}
	return later, told
}

func wantNext(c impl.Clock) int {
	if !wantClockOk(c) || len(c.Timers) == 0 {
		return -1
	}
	least := math.MaxInt
	for _, t := range c.Timers {
		least = min(least, t.At)
	}
	return least
}

func wantDue(c impl.Clock, now int) int {
	if !wantClockOk(c) {
		return -1
	}
	count := 0
	for _, at := range timesById(c.Timers) {
		if at <= now {
			count++
		}
	}
	return count
}

func wantPlay(c impl.Clock, ops []impl.ClockOp) (impl.Clock, []int) {
	if !wantClockOk(c) || len(ops) > 200 {
		return c, nil
	}
	var all []int
	for _, op := range ops {
		var told []int
		switch op.Kind {
		case 0:
			c, _ = wantSet(c, op.Id, op.At)
		case 1:
			c, _ = wantStop(c, op.Id)
		case 2:
			c, told = wantAdvance(c, op.At)
		}
		all = append(all, told...)
	}
	return c, all
}

// checkTimed holds a clock and the Ids that are answered against those that are wanted, and asks whose memory they are.
func checkTimed(t *testing.T, what string, c impl.Clock, do func(c impl.Clock) (impl.Clock, []int), want impl.Clock, wantIds []int) (impl.Clock, []int) {
	t.Helper()
	want, wantIds = cloneClock(want), slices.Clone(wantIds)
	// Room behind the timers, so that whatever is written there is seen.
	room := make([]impl.Timer, len(c.Timers)+5)
	fillTimers(room, impl.Timer{At: 90, Id: 165})
	copy(room, c.Timers)
	kept := slices.Clone(room)
	got, ids := do(impl.Clock{Now: c.Now, Timers: room[:len(c.Timers)]})
	if !equalClock(got, want) || !slices.Equal(ids, wantIds) {
		t.Errorf("%s of %s = %s, %s, not %s, %s", what, brief(c), brief(got), brief(ids), brief(want), brief(wantIds))
	}
	if !slices.Equal(room, kept) {
		t.Errorf("%s of %s writes into what it was given", what, brief(c))
	}
	answer, told := cloneClock(got), slices.Clone(ids)
	spoilTimers(room)
	if !equalClock(got, answer) || !slices.Equal(ids, told) {
		t.Errorf("%s of %s shares what it was given", what, brief(c))
	}
	spoilTimers(got.Timers)
	if !slices.Equal(ids, told) {
		t.Errorf("%s of %s: its lists share memory", what, brief(c))
	}
	return answer, told
}

// withFlag turns an answer's flag into a list, so that one check serves both.
func withFlag(c impl.Clock, ok bool) (impl.Clock, []int) {
	if ok {
		return c, []int{1}
	}
	return c, nil
}

func checkSet(t *testing.T, c impl.Clock, id int, at int) (impl.Clock, bool) {
	t.Helper()
	want, flag := withFlag(wantSet(c, id, at))
	got, ok := checkTimed(t, "SetTimer", c, func(c impl.Clock) (impl.Clock, []int) { return withFlag(impl.SetTimer(c, id, at)) }, want, flag)
	return got, len(ok) == 1
}

func checkStop(t *testing.T, c impl.Clock, id int) (impl.Clock, bool) {
	t.Helper()
	want, flag := withFlag(wantStop(c, id))
	got, ok := checkTimed(t, "StopTimer", c, func(c impl.Clock) (impl.Clock, []int) { return withFlag(impl.StopTimer(c, id)) }, want, flag)
	return got, len(ok) == 1
}

func checkAdvance(t *testing.T, c impl.Clock, now int) (impl.Clock, []int) {
	t.Helper()
	want, ids := wantAdvance(c, now)
	return checkTimed(t, "Advance", c, func(c impl.Clock) (impl.Clock, []int) { return impl.Advance(c, now) }, want, ids)
}

func checkPlay(t *testing.T, c impl.Clock, ops []impl.ClockOp) (impl.Clock, []int) {
	t.Helper()
	kept := slices.Clone(ops)
	want, ids := wantPlay(c, ops)
	got, told := checkTimed(t, "PlayClock", c, func(c impl.Clock) (impl.Clock, []int) { return impl.PlayClock(c, ops) }, want, ids)
	if !slices.Equal(ops, kept) {
		t.Errorf("PlayClock changes its ops %s", brief(kept))
	}
	return got, told
}

// checkAsked asks all that is only told of a clock.
func checkAsked(t *testing.T, c impl.Clock, ids []int, times []int) {
	t.Helper()
	kept := cloneClock(c)
	if got := impl.ClockOk(c); got != wantClockOk(c) {
		t.Errorf("ClockOk(%s) = %v", brief(c), got)
	}
	if got := impl.NextDue(c); got != wantNext(c) {
		t.Errorf("NextDue(%s) = %d, not %d", brief(c), got, wantNext(c))
	}
	for _, id := range ids {
		if got := impl.TimerAt(c, id); got != wantAt(c, id) {
			t.Errorf("TimerAt(%s, %d) = %d, not %d", brief(c), id, got, wantAt(c, id))
		}
	}
	for _, now := range times {
		if got := impl.DueBy(c, now); got != wantDue(c, now) {
			t.Errorf("DueBy(%s, %d) = %d, not %d", brief(c), now, got, wantDue(c, now))
		}
	}
	if !equalClock(c, kept) {
		t.Errorf("%s is changed by a question", brief(kept))
	}
}

// checkClock asks every function about one clock.
func checkClock(t *testing.T, c impl.Clock, ids []int, times []int) {
	t.Helper()
	checkAsked(t, c, ids, times)
	for _, id := range ids {
		checkStop(t, c, id)
		for _, at := range times {
			checkSet(t, c, id, at)
		}
	}
	for _, now := range times {
		checkAdvance(t, c, now)
	}
	checkPlay(t, c, nil)
	checkPlay(t, c, []impl.ClockOp{setOp(1, c.Now), stopOp(2), advanceOp(c.Now)})
}

func edgeTimes() []int {
	return []int{math.MinInt, -topTime, -1, 0, 1, 2, 4, 5, 6, topTime - 1, topTime, topTime + 1, math.MaxInt}
}

func edgeIds() []int {
	return []int{math.MinInt, -1, 0, 1, 2, 3, topId - 1, topId, topId + 1, math.MaxInt}
}

// fullClock has so many timers, three of each At, their Ids falling as their Ats rise.
func fullClock(n int) impl.Clock {
	times := map[int]int{}
	for i := range n {
		times[10*(n-i)] = 7 * (i / 3)
	}
	return impl.Clock{Timers: inOrder(times)}
}

func goodClocks() []impl.Clock {
	return []impl.Clock{
		{}, {Timers: []impl.Timer{}}, clockOf(1), clockOf(topTime),
		clockOf(0, atId{0, 1}), clockOf(0, atId{topTime, topId}), clockOf(topTime, atId{topTime, 1}),
		clockOf(5, atId{5, 2}), clockOf(5, atId{6, 2}),
		// A timer may be behind Now: no sentence bars it.
		clockOf(5, atId{4, 2}), clockOf(topTime, atId{0, topId}), clockOf(5, atId{0, 3}, atId{4, 1}, atId{9, 2}),
		clockOf(0, atId{5, 1}, atId{5, 3}), clockOf(0, atId{4, 3}, atId{5, 1}), clockOf(2, atId{4, 2}, atId{5, 1}, atId{5, 3}, atId{5, topId}),
		fullClock(299), fullClock(300),
	}
}

func wrongClocks() []impl.Clock {
	full := fullClock(300)
	full.Now = -1
	return []impl.Clock{
		clockOf(-1), clockOf(topTime + 1), clockOf(math.MinInt), clockOf(math.MaxInt, atId{5, 1}), full,
		clockOf(0, atId{-1, 1}), clockOf(0, atId{topTime + 1, 1}), clockOf(0, atId{math.MinInt, 1}), clockOf(0, atId{math.MaxInt, 1}),
		clockOf(0, atId{5, 0}), clockOf(0, atId{5, -1}), clockOf(0, atId{5, topId + 1}), clockOf(0, atId{5, math.MinInt}), clockOf(0, atId{5, math.MaxInt}),
		clockOf(0, atId{5, 2}, atId{5, 2}), clockOf(0, atId{4, 2}, atId{5, 2}), clockOf(0, atId{4, 2}, atId{5, 1}, atId{6, 2}), clockOf(0, atId{1, 9}, atId{2, 3}, atId{2, 4}, atId{3, 9}),
		clockOf(0, atId{5, 1}, atId{4, 2}), clockOf(0, atId{5, 3}, atId{5, 1}), clockOf(0, atId{4, 1}, atId{5, 3}, atId{5, 2}), clockOf(0, atId{1, 1}, atId{3, 2}, atId{2, 3}),
		clockOf(0, atId{5, 0}, atId{5, 1}), clockOf(0, atId{5, 1}, atId{topTime + 1, 2}), clockOf(0, atId{5, 1}, atId{5, topId + 1}),
		fullClock(301), fullClock(302), fullClock(3000),
	}
}

func TestTimerLimits(t *testing.T) {
	if impl.MaxTimers != 300 || impl.MaxTime != 1000000000 || impl.MaxId != 1000000000 || impl.MaxList != 200 {
		t.Error("limits")
	}
}

func TestClockOk(t *testing.T) {
	for _, c := range goodClocks() {
		if !impl.ClockOk(c) {
			t.Errorf("ClockOk(%s) is false", brief(c))
		}
	}
	for _, c := range wrongClocks() {
		if impl.ClockOk(c) {
			t.Errorf("ClockOk(%s) is true", brief(c))
		}
	}
	// The room behind the timers is no part of them.
	if !impl.ClockOk(impl.Clock{Timers: fullClock(301).Timers[:300]}) || !impl.ClockOk(impl.Clock{Timers: make([]impl.Timer, 0, 400)}) {
		t.Error("ClockOk counts the room behind the timers")
	}
}

func TestTimerVectors(t *testing.T) {
	var c impl.Clock
	steps := []struct {
		op   impl.ClockOp
		want impl.Clock
		told []int
	}{
		{setOp(3, 5), clockOf(0, atId{5, 3}), nil},
		{setOp(1, 5), clockOf(0, atId{5, 1}, atId{5, 3}), nil},
		{setOp(2, 4), clockOf(0, atId{4, 2}, atId{5, 1}, atId{5, 3}), nil},
		{setOp(2, 9), clockOf(0, atId{5, 1}, atId{5, 3}, atId{9, 2}), nil},
		{setOp(7, 0), clockOf(0, atId{0, 7}, atId{5, 1}, atId{5, 3}, atId{9, 2}), nil},
		{advanceOp(4), clockOf(4, atId{5, 1}, atId{5, 3}, atId{9, 2}), []int{7}},
		{setOp(4, 3), clockOf(4, atId{5, 1}, atId{5, 3}, atId{9, 2}), nil},
		{setOp(3, 4), clockOf(4, atId{4, 3}, atId{5, 1}, atId{9, 2}), nil},
		{setOp(1, 3), clockOf(4, atId{4, 3}, atId{5, 1}, atId{9, 2}), nil},
		{advanceOp(3), clockOf(4, atId{4, 3}, atId{5, 1}, atId{9, 2}), nil},
		{setOp(8, 5), clockOf(4, atId{4, 3}, atId{5, 1}, atId{5, 8}, atId{9, 2}), nil},
		{stopOp(1), clockOf(4, atId{4, 3}, atId{5, 8}, atId{9, 2}), nil},
		{stopOp(1), clockOf(4, atId{4, 3}, atId{5, 8}, atId{9, 2}), nil},
		{advanceOp(4), clockOf(4, atId{5, 8}, atId{9, 2}), []int{3}},
		{setOp(3, 5), clockOf(4, atId{5, 3}, atId{5, 8}, atId{9, 2}), nil},
		{advanceOp(20), clockOf(20), []int{3, 8, 2}},
		{advanceOp(20), clockOf(20), nil},
	}
	var ops []impl.ClockOp
	var all []int
	for i, s := range steps {
		ops = append(ops, s.op)
		all = append(all, s.told...)
		next, told := checkPlay(t, c, ops[i:])
		if !equalClock(next, s.want) || !clockTold(told, s.told...) {
			t.Errorf("step %d: %v, %v, not %v, %v", i, next, told, s.want, s.told)
		}
		whole, told := checkPlay(t, impl.Clock{}, ops)
		if !equalClock(whole, s.want) || !clockTold(told, all...) {
			t.Errorf("all steps to %d: %v, %v, not %v, %v", i, whole, told, s.want, all)
		}
		c = next
	}
}

func TestAnEmptyClock(t *testing.T) {
	for _, c := range []impl.Clock{{}, {Timers: []impl.Timer{}}, {Timers: make([]impl.Timer, 0, 9)}} {
		checkClock(t, c, edgeIds(), edgeTimes())
		if !impl.ClockOk(c) || impl.NextDue(c) != -1 || impl.TimerAt(c, 1) != -1 || impl.TimerAt(c, 0) != -1 || impl.DueBy(c, topTime) != 0 {
			t.Errorf("asked of an empty clock: %v", c)
		}
		if got, ok := impl.StopTimer(c, 1); ok || !equalClock(got, impl.Clock{}) {
			t.Errorf("StopTimer: %v, %v", got, ok)
		}
		if got, told := impl.Advance(c, 9); !equalClock(got, clockOf(9)) || len(told) != 0 {
			t.Errorf("Advance: %v, %v", got, told)
		}
		if got, ok := impl.SetTimer(c, 1, 0); !ok || !equalClock(got, clockOf(0, atId{0, 1})) {
			t.Errorf("SetTimer: %v, %v", got, ok)
		}
	}
}

func TestClocksAtEveryEdge(t *testing.T) {
	for _, c := range goodClocks() {
		checkClock(t, c, edgeIds(), edgeTimes())
	}
}

func TestClocksThatAreNone(t *testing.T) {
	for _, c := range wrongClocks() {
		checkClock(t, c, edgeIds(), edgeTimes())
		if impl.NextDue(c) != -1 || impl.DueBy(c, topTime) != -1 || impl.DueBy(c, -1) != -1 {
			t.Errorf("asked of %s", brief(c))
		}
		asked := append([]impl.Timer{{At: 5, Id: 1}}, c.Timers[:min(3, len(c.Timers))]...)
		for _, timer := range asked {
			if impl.TimerAt(c, timer.Id) != -1 {
				t.Errorf("TimerAt(%s, %d)", brief(c), timer.Id)
			}
			if got, ok := impl.StopTimer(c, timer.Id); ok || !equalClock(got, c) {
				t.Errorf("StopTimer(%s, %d) = %s, %v", brief(c), timer.Id, brief(got), ok)
			}
			if got, ok := impl.SetTimer(c, timer.Id, topTime); ok || !equalClock(got, c) {
				t.Errorf("SetTimer(%s, %d) = %s, %v", brief(c), timer.Id, brief(got), ok)
			}
		}
		if got, told := impl.Advance(c, topTime); len(told) != 0 || !equalClock(got, c) {
			t.Errorf("Advance(%s) = %s, %v", brief(c), brief(got), told)
		}
		for _, ops := range [][]impl.ClockOp{nil, {advanceOp(topTime)}, {setOp(1, topTime), advanceOp(topTime)}, {stopOp(1)}, {stopOp(2)}} {
			if got, told := checkPlay(t, c, ops); len(told) != 0 || !equalClock(got, c) {
				t.Errorf("PlayClock(%s) = %s, %v", brief(c), brief(got), told)
			}
		}
	}
}

// TestAllSmallClocks asks about each list of up to three timers, whether it is in order or not.
func TestAllSmallClocks(t *testing.T) {
	var timers []atId
	for at := range 3 {
		for id := range 3 {
			timers = append(timers, atId{at, id + 1})
		}
	}
	lists := [][]atId{nil}
	for start := 0; start < len(lists); start++ {
		if len(lists[start]) == 3 {
			break
		}
		for _, timer := range timers {
			lists = append(lists, append(slices.Clone(lists[start]), timer))
		}
	}
	if len(lists) != 1+9+81+729 {
		t.Fatalf("%d lists", len(lists))
	}
	for _, list := range lists {
		for now := range 3 {
			checkClock(t, clockOf(now, list...), []int{0, 1, 2, 3, 4}, []int{-1, 0, 1, 2, 3})
		}
	}
}

func TestSetTimerEdges(t *testing.T) {
	cases := []struct {
		c    impl.Clock
		id   int
		at   int
		want []atId
	}{
		// The At.
		{clockOf(0), 5, 0, []atId{{0, 5}}}, {clockOf(0), 5, -1, nil}, {clockOf(0), 5, 1, []atId{{1, 5}}},
		{clockOf(7), 5, 7, []atId{{7, 5}}}, {clockOf(7), 5, 6, nil}, {clockOf(7), 5, 0, nil}, {clockOf(7), 5, -1, nil},
		{clockOf(7), 5, topTime, []atId{{topTime, 5}}}, {clockOf(7), 5, topTime + 1, nil}, {clockOf(7), 5, math.MaxInt, nil}, {clockOf(7), 5, math.MinInt, nil},
		{clockOf(topTime), 5, topTime, []atId{{topTime, 5}}}, {clockOf(topTime), 5, topTime - 1, nil}, {clockOf(topTime), 5, topTime + 1, nil},
		// The Id.
		{clockOf(0), 0, 3, nil}, {clockOf(0), 1, 3, []atId{{3, 1}}}, {clockOf(0), -1, 3, nil}, {clockOf(0), topId, 3, []atId{{3, topId}}},
		{clockOf(0), topId + 1, 3, nil}, {clockOf(0), math.MinInt, 3, nil}, {clockOf(0), math.MaxInt, 3, nil},
		// Its place among others.
		{clockOf(0, atId{5, 2}), 1, 5, []atId{{5, 1}, {5, 2}}}, {clockOf(0, atId{5, 2}), 3, 5, []atId{{5, 2}, {5, 3}}},
		{clockOf(0, atId{5, 2}), 3, 4, []atId{{4, 3}, {5, 2}}}, {clockOf(0, atId{5, 2}), 1, 6, []atId{{5, 2}, {6, 1}}},
		{clockOf(0, atId{5, 1}, atId{5, 3}), 2, 5, []atId{{5, 1}, {5, 2}, {5, 3}}},
		// Ids are held against each other as numbers, not as texts.
		{clockOf(0, atId{5, 9}), 10, 5, []atId{{5, 9}, {5, 10}}}, {clockOf(0, atId{9, 1}), 2, 10, []atId{{9, 1}, {10, 2}}},
		// Set anew: earlier, later, at the same At, and past others of one At.
		{clockOf(0, atId{5, 1}, atId{6, 2}), 2, 4, []atId{{4, 2}, {5, 1}}}, {clockOf(0, atId{5, 1}, atId{6, 2}), 1, 7, []atId{{6, 2}, {7, 1}}},
		{clockOf(0, atId{5, 1}, atId{6, 2}), 1, 5, []atId{{5, 1}, {6, 2}}}, {clockOf(0, atId{5, 1}, atId{6, 2}), 2, 5, []atId{{5, 1}, {5, 2}}},
		{clockOf(0, atId{5, 1}, atId{6, 2}), 1, 6, []atId{{6, 1}, {6, 2}}}, {clockOf(0, atId{5, 3}, atId{6, 2}), 3, 6, []atId{{6, 2}, {6, 3}}},
		{clockOf(0, atId{5, 1}, atId{5, 2}, atId{5, 3}), 2, 0, []atId{{0, 2}, {5, 1}, {5, 3}}},
		// Set anew where it is not allowed: it stays as it was.
		{clockOf(5, atId{5, 1}), 1, 4, nil}, {clockOf(5, atId{5, 1}), 1, topTime + 1, nil},
		// A timer behind Now may be set anew from Now on, not where it is.
		{clockOf(5, atId{4, 1}), 1, 5, []atId{{5, 1}}}, {clockOf(5, atId{4, 1}), 1, 4, nil}, {clockOf(5, atId{4, 1}), 2, 5, []atId{{4, 1}, {5, 2}}},
	}
	for _, s := range cases {
		want := clockOf(s.c.Now, s.want...)
		if s.want == nil {
			want = s.c
		}
		got, ok := checkSet(t, s.c, s.id, s.at)
		if ok != (s.want != nil) || !equalClock(got, want) {
			t.Errorf("SetTimer(%v, %d, %d) = %v, %v, not %v", s.c, s.id, s.at, got, ok, want)
		}
		if ok && impl.TimerAt(got, s.id) != s.at {
			t.Errorf("SetTimer(%v, %d, %d): TimerAt = %d", s.c, s.id, s.at, impl.TimerAt(got, s.id))
		}
	}
}

func TestAClockThatIsFull(t *testing.T) {
	almost, full := fullClock(299), fullClock(300)
	if got, ok := checkSet(t, almost, 5, 50); !ok || len(got.Timers) != 300 || impl.TimerAt(got, 5) != 50 {
		t.Errorf("the last timer that has room: %d, %v", len(got.Timers), ok)
	}
	for _, at := range []int{0, 50, 700, topTime} {
		for _, id := range []int{1, 5, 11, 2999, 3001, topId} {
			if got, ok := checkSet(t, full, id, at); ok || !equalClock(got, full) {
				t.Errorf("a timer too many: %d, %v", len(got.Timers), ok)
			}
		}
	}
	// One that is there already is set anew.
	for _, timer := range full.Timers {
		for _, at := range []int{0, timer.At, timer.At + 1, 350, topTime} {
			got, ok := checkSet(t, full, timer.Id, at)
			if !ok || len(got.Timers) != 300 || impl.TimerAt(got, timer.Id) != at {
				t.Errorf("%d set anew in a full clock: %d, %v", timer.Id, len(got.Timers), ok)
			}
		}
	}
	// One that went makes room.
	less, _ := checkStop(t, full, full.Timers[150].Id)
	if got, ok := checkSet(t, less, 5, 0); !ok || got.Timers[0] != (impl.Timer{At: 0, Id: 5}) {
		t.Errorf("behind a stop: %v", ok)
	}
	later, told := checkAdvance(t, full, 0)
	if got, ok := checkSet(t, later, 5, 0); !ok || len(told) != 3 || len(got.Timers) != 298 {
		t.Errorf("behind an Advance: %v, %v", told, ok)
	}
	if got, told := checkAdvance(t, full, topTime); len(told) != 300 || !equalClock(got, clockOf(topTime)) {
		t.Errorf("all of a full clock: %d", len(told))
	}
}

// TestManyTimersComeInOrder sets just MaxTimers timers in one order after another.
func TestManyTimersComeInOrder(t *testing.T) {
	r := rand.New(rand.NewSource(71))
	full := fullClock(300)
	orders := [][]int{make([]int, 300), make([]int, 300), r.Perm(300), r.Perm(300)}
	for i := range 300 {
		orders[0][i], orders[1][i] = i, 299-i
	}
	for _, order := range orders {
		var c impl.Clock
		for i, place := range order {
			var ok bool
			c, ok = impl.SetTimer(c, full.Timers[place].Id, full.Timers[place].At)
			if !ok || len(c.Timers) != i+1 || !wantClockOk(c) {
				t.Fatalf("timer %d: %d, %v", i, len(c.Timers), ok)
			}
		}
		if !equalClock(c, full) {
			t.Error("timers do not come in their order")
		}
		for i, timer := range full.Timers {
			if impl.TimerAt(c, timer.Id) != timer.At || impl.TimerAt(c, timer.Id+1) != -1 {
				t.Errorf("TimerAt of %d", timer.Id)
			}
			if got := impl.DueBy(c, timer.At); got != (i/3+1)*3 {
				t.Errorf("DueBy %d = %d", timer.At, got)
			}
		}
	}
}

func TestStopTimerEdges(t *testing.T) {
	c := clockOf(5, atId{4, 2}, atId{5, 1}, atId{5, 3}, atId{9, topId})
	cases := []struct {
		id   int
		want []atId
	}{
		{2, []atId{{5, 1}, {5, 3}, {9, topId}}}, {1, []atId{{4, 2}, {5, 3}, {9, topId}}}, {3, []atId{{4, 2}, {5, 1}, {9, topId}}}, {topId, []atId{{4, 2}, {5, 1}, {5, 3}}},
		{4, nil}, {5, nil}, {9, nil}, {0, nil}, {-1, nil}, {-2, nil}, {topId - 1, nil}, {topId + 1, nil}, {math.MinInt, nil}, {math.MaxInt, nil},
	}
	for _, s := range cases {
		want := clockOf(5, s.want...)
		if s.want == nil {
			want = c
		}
		got, ok := checkStop(t, c, s.id)
		if ok != (s.want != nil) || !equalClock(got, want) {
			t.Errorf("StopTimer %d = %v, %v, not %v", s.id, got, ok, want)
		}
		if again, twice := checkStop(t, got, s.id); twice || !equalClock(again, got) {
			t.Errorf("StopTimer %d, twice: %v, %v", s.id, again, twice)
		}
	}
	if got, ok := checkStop(t, clockOf(3, atId{8, 8}), 8); !ok || !equalClock(got, clockOf(3)) {
		t.Errorf("the only one: %v, %v", got, ok)
	}
}

func TestAdvanceEdges(t *testing.T) {
	c := clockOf(5, atId{4, 2}, atId{5, 7}, atId{8, 1}, atId{8, 3}, atId{8, 6}, atId{9, 4}, atId{topTime, 5})
	cases := []struct {
		now  int
		told []int
		left int
	}{
		{5, []int{2, 7}, 5}, {6, []int{2, 7}, 5}, {7, []int{2, 7}, 5}, {8, []int{2, 7, 1, 3, 6}, 2}, {9, []int{2, 7, 1, 3, 6, 4}, 1},
		{10, []int{2, 7, 1, 3, 6, 4}, 1}, {topTime - 1, []int{2, 7, 1, 3, 6, 4}, 1}, {topTime, []int{2, 7, 1, 3, 6, 4, 5}, 0},
	}
	for _, s := range cases {
		got, told := checkAdvance(t, c, s.now)
		if got.Now != s.now || !slices.Equal(told, s.told) || !slices.Equal(got.Timers, c.Timers[len(c.Timers)-s.left:]) {
			t.Errorf("Advance to %d = %v, %v", s.now, got, told)
		}
		if impl.DueBy(c, s.now) != len(s.told) || impl.DueBy(got, s.now) != 0 {
			t.Errorf("DueBy %d", s.now)
		}
		// What was told is not told again.
		if again, told := checkAdvance(t, got, s.now); len(told) != 0 || !equalClock(again, got) {
			t.Errorf("Advance to %d, twice: %v", s.now, told)
		}
	}
	for _, now := range []int{4, 0, -1, topTime + 1, math.MinInt, math.MaxInt} {
		if got, told := checkAdvance(t, c, now); len(told) != 0 || !equalClock(got, c) {
			t.Errorf("Advance to %d = %v, %v", now, got, told)
		}
	}
	// DueBy takes any time: what is due does not hang on Now.
	for now, want := range map[int]int{math.MinInt: 0, -1: 0, 0: 0, 3: 0, 4: 1, 5: 2, topTime - 1: 6, topTime: 7, topTime + 1: 7, math.MaxInt: 7} {
		if got := impl.DueBy(c, now); got != want {
			t.Errorf("DueBy %d = %d, not %d", now, got, want)
		}
	}
	if got, told := checkAdvance(t, clockOf(topTime, atId{topTime, 1}), topTime); !clockTold(told, 1) || !equalClock(got, clockOf(topTime)) {
		t.Errorf("Advance to the end: %v, %v", got, told)
	}
	if got, told := checkAdvance(t, clockOf(0, atId{0, 1}, atId{1, 2}), 0); !clockTold(told, 1) || !equalClock(got, clockOf(0, atId{1, 2})) {
		t.Errorf("Advance to 0: %v, %v", got, told)
	}
}

func TestNextDue(t *testing.T) {
	cases := []struct {
		c    impl.Clock
		want int
	}{
		{clockOf(0), -1}, {clockOf(9), -1}, {clockOf(0, atId{0, 1}), 0}, {clockOf(0, atId{topTime, 1}), topTime}, {clockOf(9, atId{3, 1}, atId{9, 2}), 3},
		{clockOf(0, atId{4, 9}, atId{5, 1}, atId{5, 2}), 4}, {clockOf(0, atId{5, 1}, atId{4, 9}), -1}, {clockOf(-1, atId{5, 1}), -1},
	}
	for _, s := range cases {
		if got := impl.NextDue(s.c); got != s.want {
			t.Errorf("NextDue(%v) = %d, not %d", s.c, got, s.want)
		}
	}
}

func TestPlayClockKinds(t *testing.T) {
	c := clockOf(2, atId{4, 1}, atId{6, 2})
	for _, kind := range []int{math.MinInt, -2, -1, 3, 4, 7, 256, 1 << 32, math.MaxInt} {
		nothing := impl.ClockOp{Kind: kind, Id: 1, At: 9}
		if got, told := checkPlay(t, c, []impl.ClockOp{nothing}); len(told) != 0 || !equalClock(got, c) {
			t.Errorf("an op of Kind %d: %v, %v", kind, got, told)
		}
		ops := []impl.ClockOp{nothing, setOp(3, 5), nothing, advanceOp(5), nothing}
		if got, told := checkPlay(t, c, ops); !clockTold(told, 1, 3) || !equalClock(got, clockOf(5, atId{6, 2})) {
			t.Errorf("ops of Kind %d among others: %v, %v", kind, got, told)
		}
	}
	// A stop does not look at the At, nor an Advance at the Id.
	ops := []impl.ClockOp{{Kind: 1, Id: 1, At: -5}, {Kind: 2, Id: 2, At: 5}, {Kind: 2, Id: -9, At: 6}}
	if got, told := checkPlay(t, c, ops); !clockTold(told, 2) || !equalClock(got, clockOf(6)) {
		t.Errorf("what an op does not name: %v, %v", got, told)
	}
}

func TestPlayClockWithRefusedOps(t *testing.T) {
	refused := []impl.ClockOp{setOp(0, 9), setOp(topId+1, 9), setOp(5, 1), setOp(1, 1), setOp(5, topTime+1), stopOp(8), stopOp(0), advanceOp(1), advanceOp(-1), advanceOp(topTime + 1)}
	c := clockOf(2, atId{4, 1}, atId{6, 2})
	if got, told := checkPlay(t, c, refused); len(told) != 0 || !equalClock(got, c) {
		t.Errorf("refused ops: %v, %v", got, told)
	}
	for _, op := range refused {
		ops := []impl.ClockOp{op, setOp(3, 4), op, advanceOp(4), op, advanceOp(6), op}
		if got, told := checkPlay(t, c, ops); !clockTold(told, 1, 3, 2) || !equalClock(got, clockOf(6)) {
			t.Errorf("%v among others: %v, %v", op, got, told)
		}
	}
	full := fullClock(300)
	if got, told := checkPlay(t, full, []impl.ClockOp{setOp(5, 0), advanceOp(0), setOp(5, 0), advanceOp(0)}); len(told) != 4 || told[3] != 5 || len(got.Timers) != 297 {
		t.Errorf("a full clock: %v", told)
	}
}

func TestPlayClockOfManyOps(t *testing.T) {
	var ops []impl.ClockOp
	for i := range 100 {
		ops = append(ops, setOp(1, i), advanceOp(i))
	}
	got, told := checkPlay(t, impl.Clock{}, ops)
	if len(told) != 100 || !equalClock(got, clockOf(99)) {
		t.Errorf("just MaxList ops: %v, %d told", got, len(told))
	}
	if got, told := checkPlay(t, clockOf(0, atId{0, 9}), ops[:199]); len(told) != 100 || told[0] != 1 || told[1] != 9 || !equalClock(got, clockOf(98, atId{99, 1})) {
		t.Errorf("one op less: %v, %d told", got, len(told))
	}
	for _, more := range [][]impl.ClockOp{append(slices.Clone(ops), impl.ClockOp{Kind: 9}), append(slices.Clone(ops), advanceOp(99)), make([]impl.ClockOp, 201), slices.Repeat(ops, 3)} {
		c := clockOf(0, atId{0, 9})
		if got, told := checkPlay(t, c, more); len(told) != 0 || !equalClock(got, c) {
			t.Errorf("%d ops: %v, %v", len(more), got, told)
		}
	}
	// Every op sets one, or tells all.
	var many []impl.ClockOp
	for i := range 199 {
		many = append(many, setOp(5000-i, (i*37)%50))
	}
	got, told = checkPlay(t, fullClock(101), append(many, advanceOp(topTime)))
	if len(told) != 300 || !equalClock(got, clockOf(topTime)) {
		t.Errorf("%d told", len(told))
	}
}

// TestAllSmallHistories plays each four ops over two Ids and three times.
func TestAllSmallHistories(t *testing.T) {
	ops := []impl.ClockOp{setOp(1, 0), setOp(1, 1), setOp(1, 2), setOp(2, 0), setOp(2, 1), setOp(2, 2), stopOp(1), stopOp(2), advanceOp(0), advanceOp(1), advanceOp(2), {Kind: 3}}
	n := len(ops)
	for i := range n * n * n * n {
		played := []impl.ClockOp{ops[i%n], ops[i/n%n], ops[i/n/n%n], ops[i/n/n/n]}
		want, wantIds := wantPlay(impl.Clock{}, played)
		got, told := impl.PlayClock(impl.Clock{}, played)
		if !equalClock(got, want) || !slices.Equal(told, wantIds) {
			t.Fatalf("%v: %v, %v, not %v, %v", played, got, told, want, wantIds)
		}
	}
}

// ledger writes down for each timer that stands when it is to be told, without a clock.
type ledger struct {
	clock   impl.Clock
	waiting map[int]int
	told    []impl.Timer
}

func (l *ledger) set(t *testing.T, id int, at int) {
	t.Helper()
	next, ok := checkSet(t, l.clock, id, at)
	if ok {
		l.waiting[id] = at
	}
	l.clock = next
}

func (l *ledger) stop(t *testing.T, id int) {
	t.Helper()
	next, ok := checkStop(t, l.clock, id)
	if _, there := l.waiting[id]; ok != there {
		t.Fatalf("StopTimer of %d: %v", id, ok)
	}
	delete(l.waiting, id)
	l.clock = next
}

// advance asks promise 7: who is told was waiting, with an At that has come, and whose At has come waits no more.
func (l *ledger) advance(t *testing.T, now int) {
	t.Helper()
	next, told := checkAdvance(t, l.clock, now)
	for _, id := range told {
		at, there := l.waiting[id]
		if !there || at > now {
			t.Fatalf("at %d the timer %d is told, which has At %d, %v", now, id, at, there)
		}
		delete(l.waiting, id)
		timer := impl.Timer{At: at, Id: id}
		if last := len(l.told) - 1; last >= 0 && l.told[last].At > at {
			t.Fatalf("%v is told behind %v", timer, l.told[last])
		}
		l.told = append(l.told, timer)
	}
	for id, at := range l.waiting {
		if at <= now {
			t.Fatalf("at %d the timer %d is not told, which has At %d", now, id, at)
		}
	}
	l.clock = next
}

func TestEachTimerIsToldOnce(t *testing.T) {
	r := rand.New(rand.NewSource(72))
	for range 40 {
		l := ledger{waiting: map[int]int{}}
		span := 1 + r.Intn(30)
		for range 60 {
			id, now := 1+r.Intn(20), l.clock.Now
			switch r.Intn(6) {
			case 0:
				l.stop(t, id)
			case 1:
				l.advance(t, now+r.Intn(span))
			default:
				l.set(t, id, now+r.Intn(span))
			}
			if len(l.clock.Timers) != len(l.waiting) || !slices.Equal(l.clock.Timers, inOrder(l.waiting)) {
				t.Fatalf("%v, not %v", l.clock, l.waiting)
			}
		}
		waiting, before := len(l.waiting), len(l.told)
		l.advance(t, topTime)
		if len(l.waiting) != 0 || len(l.told) != before+waiting || len(l.clock.Timers) != 0 {
			t.Fatalf("%d of %d are told at the end", len(l.told)-before, waiting)
		}
	}
}

// TestOneAdvanceOrMany asks that many steps tell what one step tells.
func TestOneAdvanceOrMany(t *testing.T) {
	r := rand.New(rand.NewSource(73))
	for range 100 {
		times := map[int]int{}
		for range r.Intn(40) {
			times[1+r.Intn(60)] = r.Intn(25)
		}
		c := impl.Clock{Timers: inOrder(times)}
		end, all := checkAdvance(t, c, 20)
		var told []int
		for now := 0; now <= 20; now += 1 + r.Intn(4) {
			next, ids := checkAdvance(t, c, now)
			c, told = next, append(told, ids...)
		}
		last, ids := checkAdvance(t, c, 20)
		if told = append(told, ids...); !slices.Equal(told, all) || !equalClock(last, end) {
			t.Fatalf("in many steps: %v, not %v", told, all)
		}
	}
}

func TestClocksAtRandom(t *testing.T) {
	r := rand.New(rand.NewSource(74))
	for range 300 {
		times := map[int]int{}
		for range r.Intn(12) {
			times[1+r.Intn(15)] = r.Intn(10)
		}
		c := impl.Clock{Now: r.Intn(10), Timers: inOrder(times)}
		if n := len(c.Timers); n > 0 && r.Intn(3) == 0 {
			c.Timers[r.Intn(n)] = impl.Timer{At: r.Intn(12) - 1, Id: r.Intn(16)}
		}
		checkClock(t, c, []int{0, 1, 1 + r.Intn(15), 16}, []int{-1, 0, r.Intn(10), 10})
		var ops []impl.ClockOp
		for range r.Intn(30) {
			ops = append(ops, impl.ClockOp{Kind: r.Intn(5) - 1, Id: r.Intn(17), At: c.Now + r.Intn(12) - 1})
		}
		checkPlay(t, c, ops)
	}
}

func TestClocksKeepToThemselves(t *testing.T) {
	// Two clocks that go on from one do not meet.
	base, _ := impl.SetTimer(clockOf(0, atId{4, 1}), 2, 6)
	one, _ := impl.SetTimer(base, 3, 5)
	two, _ := impl.SetTimer(base, 4, 5)
	third, _ := impl.SetTimer(one, 5, 9)
	fourth, _ := impl.SetTimer(one, 6, 9)
	fifth, _ := impl.StopTimer(one, 1)
	sixth, told := impl.Advance(one, 4)
	seventh, _ := impl.SetTimer(sixth, 7, 9)
	eighth, _ := impl.SetTimer(sixth, 8, 9)
	clocks := []impl.Clock{base, one, two, third, fourth, fifth, sixth, seventh, eighth}
	want := []impl.Clock{
		clockOf(0, atId{4, 1}, atId{6, 2}), clockOf(0, atId{4, 1}, atId{5, 3}, atId{6, 2}), clockOf(0, atId{4, 1}, atId{5, 4}, atId{6, 2}),
		clockOf(0, atId{4, 1}, atId{5, 3}, atId{6, 2}, atId{9, 5}), clockOf(0, atId{4, 1}, atId{5, 3}, atId{6, 2}, atId{9, 6}), clockOf(0, atId{5, 3}, atId{6, 2}),
		clockOf(4, atId{5, 3}, atId{6, 2}), clockOf(4, atId{5, 3}, atId{6, 2}, atId{9, 7}), clockOf(4, atId{5, 3}, atId{6, 2}, atId{9, 8}),
	}
	if !clockTold(told, 1) {
		t.Errorf("told %v", told)
	}
	for i := range clocks {
		for j := range clocks {
			if !equalClock(clocks[j], want[j]) {
				t.Errorf("clock %d: %v, not %v", j, clocks[j], want[j])
			}
		}
		spoilTimers(clocks[i].Timers)
		clocks[i], want[i] = impl.Clock{}, impl.Clock{}
	}
	// Nothing is kept from one call to another.
	impl.SetTimer(wrongClocks()[0], 1, 1)
	impl.PlayClock(impl.Clock{}, []impl.ClockOp{setOp(1, 5), setOp(2, 6), advanceOp(5)})
	if got, told := impl.Advance(clockOf(0, atId{3, 3}), topTime); !clockTold(told, 3) || !equalClock(got, clockOf(topTime)) {
		t.Errorf("behind other calls: %v, %v", got, told)
	}
	// Two answers to one question are two.
	c := fullClock(20)
	a, aTold := impl.Advance(c, 21)
	b, bTold := impl.Advance(c, 21)
	spoilTimers(a.Timers)
	spoilNums(aTold)
	if got, gotTold := impl.Advance(c, 21); !equalClock(got, b) || !slices.Equal(gotTold, bTold) {
		t.Error("two answers share memory")
	}
}
