package tests

import (
	"bytes"
	"encoding/binary"
	"math"
	"math/rand"
	"slices"
	"strings"
	"testing"

	"loop.example/g00705/impl"
)

const (
	topWords  = 40
	topText   = 300
	topRecord = 4000
	topDisk   = 40000
)

// wantPut is the library's own way of writing a number of either sign, which is the document's.
func wantPut(x int) []byte {
	if x < -topKey || x > topKey {
		return nil
	}
	return binary.AppendVarint(nil, int64(x))
}

// wantTake reads whatever the library takes, writes it again, and holds the bytes against each other.
func wantTake(b []byte, at int) (int, int, bool) {
	if at < 0 || at > len(b) {
		return 0, 0, false
	}
	x, n := binary.Varint(b[at:])
	if n <= 0 || !bytes.Equal(wantPut(int(x)), b[at:at+n]) {
		return 0, 0, false
	}
	return int(x), at + n, true
}

func wantRecordOk(r impl.Record) bool {
	wrongNum := func(x int) bool { return x < -topKey || x > topKey }
	wrongText := func(text string) bool { return len(text) > 300 }
	return r.Kind >= 0 && r.Kind < 100 && len(r.Nums) < 41 && len(r.Texts) < 41 &&
		!slices.ContainsFunc(r.Nums, wrongNum) && !slices.ContainsFunc(r.Texts, wrongText)
}

func wantEncode(r impl.Record) ([]byte, bool) {
	if !wantRecordOk(r) {
		return nil, false
	}
	b := append([]byte{byte(r.Kind)}, wantPut(len(r.Nums))...)
	for _, x := range r.Nums {
		b = append(b, wantPut(x)...)
	}
	b = append(b, wantPut(len(r.Texts))...)
	for _, text := range r.Texts {
		b = append(append(b, wantPut(len(text))...), text...)
	}
	if len(b) > 4000 {
		return nil, false
	}
	return b, true
}

// guessRecord reads bytes of any form as a record, as far as they go; false when they end too early.
func guessRecord(b []byte) (impl.Record, bool) {
	in := bytes.NewReader(b)
	fine := true
	num := func() int {
		x, err := binary.ReadVarint(in)
		fine = fine && err == nil
		return int(x)
	}
	kind, err := in.ReadByte()
	r := impl.Record{Kind: int(kind)}
	fine = err == nil
	for left := num(); fine && left > 0; left-- {
		r.Nums = append(r.Nums, num())
	}
	for left := num(); fine && left > 0; left-- {
		length := num()
		if length < 0 || length > in.Len() {
			return r, false
		}
		text := make([]byte, length)
		in.Read(text)
		r.Texts = append(r.Texts, string(text))
	}
	return r, fine
}

// wantDecode guesses the only record that can be meant, writes it, and holds the bytes against each other.
func wantDecode(b []byte) (impl.Record, bool) {
	guess, fine := guessRecord(b)
	if !fine {
		return impl.Record{}, false
	}
	written, ok := wantEncode(guess)
	if !ok || !bytes.Equal(written, b) {
		return impl.Record{}, false
	}
	return guess, true
}

// frameAround lays a length and a sum around any bytes, also those that are no record.
func frameAround(body []byte) []byte {
	frame := binary.BigEndian.AppendUint16(nil, uint16(len(body)))
	frame = append(frame, body...)
	return binary.BigEndian.AppendUint32(frame, uint32(wantDigest(body)))
}

func wantFrame(r impl.Record) ([]byte, bool) {
	body, ok := wantEncode(r)
	if !ok {
		return nil, false
	}
	return frameAround(body), true
}

func toldLength(rest []byte) int { return int(rest[0])*256 + int(rest[1]) }

// wantFirst has the record whose frame stands at the beginning of rest, and how many bytes the frame takes.
func wantFirst(rest []byte) (impl.Record, int, bool) {
	if len(rest) < 2 || len(rest) < toldLength(rest)+6 {
		return impl.Record{}, 0, false
	}
	size := toldLength(rest) + 6
	r, ok := wantDecode(rest[2 : size-4])
	if !ok || !bytes.Equal(frameAround(rest[2:size-4]), rest[:size]) {
		return impl.Record{}, 0, false
	}
	return r, size, true
}

func wantScan(b []byte) ([]impl.Record, int, int) {
	if len(b) > 40000 {
		return nil, 0, 2
	}
	var list []impl.Record
	taken := 0
	for {
		r, size, ok := wantFirst(b[taken:])
		if !ok {
			break
		}
		list = append(list, r)
		taken += size
	}
	rest := b[taken:]
	if len(rest) == 0 {
		return list, taken, 0
	}
	if len(rest) < 2 {
		return list, taken, 1
	}
	if length := toldLength(rest); length >= 3 && length <= 4000 && len(rest) < length+6 {
		return list, taken, 1
	}
	return list, taken, 2
}

// equalRecord does not ask the program which records are the same.
func equalRecord(a impl.Record, b impl.Record) bool {
	return a.Kind == b.Kind && slices.Equal(a.Nums, b.Nums) && slices.Equal(a.Texts, b.Texts)
}

func recordOf(kind int, nums []int, texts ...string) impl.Record {
	return impl.Record{Kind: kind, Nums: nums, Texts: texts}
}

func cloneRecord(r impl.Record) impl.Record {
	return recordOf(r.Kind, slices.Clone(r.Nums), slices.Clone(r.Texts)...)
}

func cloneRecords(list []impl.Record) []impl.Record {
	var clones []impl.Record
	for _, r := range list {
		clones = append(clones, cloneRecord(r))
	}
	return clones
}

// spoilRecord writes over all that can be reached from the lists of r.
func spoilRecord(r impl.Record) {
	spoilNums(r.Nums)
	whole := r.Texts[:cap(r.Texts)]
	for i := range whole {
		whole[i] = "spoilt"
	}
}

func someText(r *rand.Rand, n int) string { return string(someBytes(r, n)) }

// someNum is as often short as long.
func someNum(r *rand.Rand) int {
	x := r.Intn(1 << r.Intn(42))
	if r.Intn(2) == 0 {
		x = -x
	}
	return max(-topKey, min(topKey, x))
}

func someRecord(r *rand.Rand, words int, length int) impl.Record {
	record := impl.Record{Kind: r.Intn(100)}
	for range r.Intn(words + 1) {
		record.Nums = append(record.Nums, someNum(r))
	}
	for range r.Intn(words + 1) {
		record.Texts = append(record.Texts, someText(r, r.Intn(length+1)))
	}
	return record
}

// recordOfSize has just so many bytes, 3 .. 4002; in which texts they are is of no weight.
func recordOfSize(t *testing.T, size int) impl.Record {
	t.Helper()
	r := impl.Record{Kind: 5}
	left := size - 3
	for left > 0 {
		// A text of 64 bytes or more has a length of two bytes: 65 bytes are no text's.
		part := min(left, 302)
		if part == 65 || left-part == 65 {
			part = 10
		}
		length := part - 1
		if part > 65 {
			length = part - 2
		}
		r.Texts = append(r.Texts, strings.Repeat(string(rune('a'+len(r.Texts))), length))
		left -= part
	}
	body := 2 + len(wantPut(len(r.Texts)))
	for _, text := range r.Texts {
		body += len(wantPut(len(text))) + len(text)
	}
	if body != size {
		t.Fatalf("a record of %d bytes has %d", size, body)
	}
	return r
}

type numVector struct {
	x int
	b []byte
}

// numVectors were worked out outside of the program: 0 and -1, and, of each number of groups, the least and the greatest, of both signs.
func numVectors() []numVector {
	return []numVector{
		{0, []byte{0}},
		{-1, []byte{1}},
		{1, []byte{2}},
		{-2, []byte{3}},
		{2, []byte{4}},
		{63, []byte{126}},
		{-64, []byte{127}},
		{64, []byte{128, 1}},
		{-65, []byte{129, 1}},
		{65, []byte{130, 1}},
		{300, []byte{216, 4}},
		{8191, []byte{254, 127}},
		{-8192, []byte{255, 127}},
		{8192, []byte{128, 128, 1}},
		{-8193, []byte{129, 128, 1}},
		{1048575, []byte{254, 255, 127}},
		{-1048576, []byte{255, 255, 127}},
		{1048576, []byte{128, 128, 128, 1}},
		{-1048577, []byte{129, 128, 128, 1}},
		{134217727, []byte{254, 255, 255, 127}},
		{-134217728, []byte{255, 255, 255, 127}},
		{134217728, []byte{128, 128, 128, 128, 1}},
		{-134217729, []byte{129, 128, 128, 128, 1}},
		{17179869183, []byte{254, 255, 255, 255, 127}},
		{-17179869184, []byte{255, 255, 255, 255, 127}},
		{17179869184, []byte{128, 128, 128, 128, 128, 1}},
		{-17179869185, []byte{129, 128, 128, 128, 128, 1}},
		{topKey - 1, []byte{254, 255, 255, 255, 255, 63}},
		{topKey, []byte{128, 128, 128, 128, 128, 64}},
		{-topKey + 1, []byte{253, 255, 255, 255, 255, 63}},
		{-topKey, []byte{255, 255, 255, 255, 255, 63}},
	}
}

type recordVector struct {
	r    impl.Record
	body []byte
	sum  []byte
}

// recordVectors were worked out outside of the program.
func recordVectors() []recordVector {
	return []recordVector{
		{recordOf(0, nil), []byte{0, 0, 0}, []byte{1, 176, 117, 100}},
		{recordOf(9, nil), []byte{9, 0, 0}, []byte{129, 179, 9, 61}},
		{recordOf(99, nil), []byte{99, 0, 0}, []byte{129, 204, 207, 183}},
		{recordOf(1, []int{0}), []byte{1, 2, 0, 0}, []byte{103, 150, 161, 149}},
		{recordOf(2, nil, ""), []byte{2, 0, 2, 0}, []byte{231, 189, 76, 94}},
		{recordOf(7, []int{topKey, -topKey}, "latch", "", "\x00\xff\n"), []byte{7, 4, 128, 128, 128, 128, 128, 64, 255, 255, 255, 255, 255, 63, 6, 10, 108, 97, 116, 99, 104, 0, 6, 0, 255, 10}, []byte{213, 175, 68, 186}},
		{recordOf(42, []int{64, -65, 300}, "kv/app"), []byte{42, 6, 128, 1, 129, 1, 216, 4, 2, 12, 107, 118, 47, 97, 112, 112}, []byte{208, 37, 55, 152}},
	}
}

func numEdges() []int {
	edges := []int{math.MinInt, math.MinInt + 1, -1 << 62, -1<<62 - 1, 1 << 62, math.MaxInt - 1, math.MaxInt, -topKey - 2, -topKey - 1, -topKey, -topKey + 1, topKey - 1, topKey, topKey + 1, topKey + 2}
	for bit := range 62 {
		edges = append(edges, 1<<bit-1, 1<<bit, 1<<bit+1, -1<<bit-1, -1<<bit, -1<<bit+1)
	}
	return edges
}

// goodRecords have their bytes.
func goodRecords() []impl.Record {
	fullNums := slices.Repeat([]int{-topKey, topKey}, 20)
	fullTexts := slices.Repeat([]string{"x"}, 40)
	all := []impl.Record{
		{},
		{Kind: 99},
		{Nums: []int{}, Texts: []string{}},
		recordOf(0, []int{0}),
		recordOf(0, []int{-1}),
		recordOf(0, []int{0, 0, 0}, "", "", ""),
		recordOf(3, []int{-topKey, topKey, 64, -65}),
		recordOf(4, slices.Repeat([]int{0}, 40)),
		recordOf(5, fullNums),
		recordOf(6, nil, slices.Repeat([]string{""}, 40)...),
		recordOf(7, fullNums, fullTexts...),
		recordOf(8, nil, strings.Repeat("q", 300)),
		recordOf(9, nil, strings.Repeat("\xff", 299), "", strings.Repeat("\x00", 300)),
		recordOf(10, nil, strings.Repeat("a", 63), strings.Repeat("b", 64)),
		recordOf(11, nil, "\x80\xfe not runes", "ä", "\n"),
	}
	for _, v := range recordVectors() {
		all = append(all, v.r)
	}
	return all
}

// wrongRecords are not RecordOk.
func wrongRecords() []impl.Record {
	all := []impl.Record{
		recordOf(1, slices.Repeat([]int{0}, 41)),
		recordOf(1, slices.Repeat([]int{0}, 5000)),
		recordOf(1, nil, slices.Repeat([]string{""}, 41)...),
		recordOf(1, nil, slices.Repeat([]string{"a"}, 5000)...),
		recordOf(1, slices.Repeat([]int{0}, 41), slices.Repeat([]string{""}, 41)...),
		recordOf(1, nil, strings.Repeat("a", 301)),
		recordOf(1, nil, "", strings.Repeat("a", 301)),
		recordOf(1, nil, strings.Repeat("a", 301), ""),
		recordOf(1, nil, strings.Repeat("a", 100000)),
	}
	for _, kind := range []int{math.MinInt, -256, -100, -1, 100, 101, 255, 256, 265, 1<<32 + 9, math.MaxInt} {
		all = append(all, recordOf(kind, nil), recordOf(kind, []int{1}, "a"))
	}
	for _, x := range []int{math.MinInt, -1 << 62, -topKey - 1, topKey + 1, 1 << 62, math.MaxInt} {
		all = append(all, recordOf(1, []int{x}), recordOf(1, []int{0, x}, "a"), recordOf(1, append(slices.Repeat([]int{0}, 39), x)))
	}
	return all
}

func TestRecordLimits(t *testing.T) {
	if impl.MaxWords != topWords || impl.MaxText != topText || impl.MaxRecord != topRecord || impl.MaxDisk != topDisk {
		t.Error("limits")
	}
	if impl.ScanFine != 0 || impl.ScanTorn != 1 || impl.ScanBad != 2 {
		t.Error("codes")
	}
}

func TestRecordOk(t *testing.T) {
	for _, r := range goodRecords() {
		if !impl.RecordOk(r) || !wantRecordOk(r) {
			t.Errorf("RecordOk(%.80v) is false", r)
		}
	}
	for _, r := range wrongRecords() {
		if impl.RecordOk(r) || wantRecordOk(r) {
			t.Errorf("RecordOk(%.80v) is true", r)
		}
	}
	for kind := -300; kind <= 400; kind++ {
		if impl.RecordOk(recordOf(kind, nil)) != (kind >= 0 && kind <= 99) {
			t.Errorf("RecordOk of the Kind %d", kind)
		}
	}
	for _, x := range numEdges() {
		if impl.RecordOk(recordOf(1, []int{x})) != (x >= -topKey && x <= topKey) {
			t.Errorf("RecordOk of the number %d", x)
		}
	}
	// What is longer than MaxRecord is a record all the same; it only has no bytes.
	if !impl.RecordOk(recordOf(1, nil, slices.Repeat([]string{strings.Repeat("a", 300)}, 40)...)) {
		t.Error("RecordOk of a record without bytes")
	}
}

func TestNumVectors(t *testing.T) {
	for _, v := range numVectors() {
		if got := impl.PutNum(v.x); !bytes.Equal(got, v.b) || !bytes.Equal(wantPut(v.x), v.b) {
			t.Errorf("PutNum(%d) = %v, not %v", v.x, got, v.b)
		}
		if x, at, ok := impl.TakeNum(v.b, 0); x != v.x || at != len(v.b) || !ok {
			t.Errorf("TakeNum(%v) = %d, %d, %v, not %d", v.b, x, at, ok, v.x)
		}
	}
}

func TestPutNum(t *testing.T) {
	r := rand.New(rand.NewSource(61))
	numbers := numEdges()
	for range 3000 {
		numbers = append(numbers, someNum(r), int(r.Uint64()))
	}
	for _, x := range numbers {
		got := impl.PutNum(x)
		if !bytes.Equal(got, wantPut(x)) || (len(got) == 0) != (x < -topKey || x > topKey) {
			t.Errorf("PutNum(%d) = %v, not %v", x, got, wantPut(x))
		}
		spoilBytes(got)
		if !bytes.Equal(impl.PutNum(x), wantPut(x)) {
			t.Errorf("PutNum(%d) is not new", x)
		}
	}
}

// checkTake holds TakeNum against the document's words.
func checkTake(t *testing.T, b []byte, at int) bool {
	t.Helper()
	kept := slices.Clone(b)
	x, next, ok := impl.TakeNum(b, at)
	wantX, wantNext, wantOk := wantTake(kept, at)
	if x != wantX || next != wantNext || ok != wantOk {
		t.Errorf("TakeNum(%.20v, %d) = %d, %d, %v, not %d, %d, %v", b, at, x, next, ok, wantX, wantNext, wantOk)
	}
	if !bytes.Equal(b, kept) {
		t.Errorf("TakeNum(%.20v, %d) changes its bytes", kept, at)
	}
	return ok
}

func TestTakeNumPlaces(t *testing.T) {
	r := rand.New(rand.NewSource(62))
	for _, v := range numVectors() {
		for _, ahead := range []int{0, 1, 5} {
			for _, behind := range []int{0, 1, 5} {
				b := slices.Concat(someBytes(r, ahead), v.b, someBytes(r, behind))
				if x, next, ok := impl.TakeNum(b, ahead); x != v.x || next != ahead+len(v.b) || !ok {
					t.Errorf("TakeNum(%v, %d) = %d, %d, %v, not %d", b, ahead, x, next, ok, v.x)
				}
				for at := -2; at <= len(b)+2; at++ {
					checkTake(t, b, at)
				}
			}
		}
	}
	for _, b := range [][]byte{nil, {}, {0}, {0, 2, 4}, {128, 1}} {
		for _, at := range []int{math.MinInt, math.MinInt + 1, -1 << 32, -len(b) - 1, -1, len(b), len(b) + 1, 1 << 32, math.MaxInt - 1, math.MaxInt} {
			if checkTake(t, b, at) {
				t.Errorf("TakeNum(%v, %d) is true", b, at)
			}
		}
	}
	// The room behind the bytes is no part of them.
	room := []byte{128, 1, 7}
	if checkTake(t, room[:1], 0) || checkTake(t, room[:2], 2) {
		t.Error("a number was read from the room behind the bytes")
	}
}

func TestTakeNumWrong(t *testing.T) {
	refused := [][]byte{
		{128}, {255}, {128, 128}, {255, 255, 255}, {129, 128, 128, 128, 128}, {255, 255, 255, 255, 255, 255},
		{128, 0}, {129, 0}, {254, 0}, {255, 0}, {128, 128, 0}, {129, 128, 0}, {128, 129, 0}, {255, 255, 0}, {128, 128, 128, 128, 128, 0}, {255, 255, 255, 255, 255, 0}, {128, 128, 128, 128, 128, 128, 0},
		{128, 0, 1}, {128, 0, 128, 1},
		// The first numbers beyond -MaxKey and MaxKey, and others of six groups.
		{129, 128, 128, 128, 128, 64}, {130, 128, 128, 128, 128, 64}, {131, 128, 128, 128, 128, 64}, {255, 255, 255, 255, 255, 64}, {128, 128, 128, 128, 128, 65}, {254, 255, 255, 255, 255, 127}, {255, 255, 255, 255, 255, 127},
		{128, 128, 128, 128, 128, 128, 1}, {255, 255, 255, 255, 255, 255, 1}, {128, 128, 128, 128, 128, 192, 0},
	}
	for n := 6; n < 40; n++ {
		for last := range 128 {
			refused = append(refused, append(bytes.Repeat([]byte{128}, n), byte(last)), append(bytes.Repeat([]byte{255}, n), byte(last)))
		}
	}
	for _, b := range refused {
		if checkTake(t, b, 0) || checkTake(t, append([]byte{0, 2}, b...), 2) || checkTake(t, append(slices.Clone(b), 0, 1, 2), 0) && b[len(b)-1] < 128 {
			t.Errorf("TakeNum(%v) is true", b)
		}
	}
	checkTake(t, bytes.Repeat([]byte{128}, 100000), 0)
	checkTake(t, bytes.Repeat([]byte{255}, 100000), 99990)
}

func TestTakeNumCutOff(t *testing.T) {
	for _, v := range numVectors() {
		for n := range v.b {
			if checkTake(t, v.b[:n:n], 0) {
				t.Errorf("TakeNum(%v), cut off from %v, is true", v.b[:n], v.b)
			}
		}
	}
}

func TestNumsOneToOne(t *testing.T) {
	seen := map[int]string{}
	take := func(b []byte) {
		x, next, ok := impl.TakeNum(b, 0)
		checkTake(t, b, 0)
		if !ok {
			return
		}
		text := string(b[:next])
		if other, found := seen[x]; found && other != text {
			t.Errorf("%d has the bytes %v and %v", x, []byte(other), b[:next])
		}
		seen[x] = text
		if string(impl.PutNum(x)) != text {
			t.Errorf("%d, read from %v, is written as %v", x, b[:next], impl.PutNum(x))
		}
	}
	for a := range 256 {
		take([]byte{byte(a)})
		for b := range 256 {
			take([]byte{byte(a), byte(b)})
		}
	}
	for x := -9000; x <= 9000; x++ {
		take(impl.PutNum(x))
	}
	if len(seen) != 18001 {
		t.Errorf("%d numbers, not 18001", len(seen))
	}
}

func TestTakeNumAtRandom(t *testing.T) {
	r := rand.New(rand.NewSource(63))
	for range 20000 {
		b := someBytes(r, r.Intn(12))
		for i := range b {
			if r.Intn(3) > 0 {
				b[i] |= 128
			}
		}
		checkTake(t, b, r.Intn(len(b)+3)-1)
		checkTake(t, append(impl.PutNum(someNum(r)), b...), 0)
	}
}

// checkEncode holds EncodeRecord and FrameRecord, and what is read from their bytes, against the document's words.
func checkEncode(t *testing.T, r impl.Record) ([]byte, bool) {
	t.Helper()
	kept := cloneRecord(r)
	got, ok := impl.EncodeRecord(r)
	want, wantOk := wantEncode(kept)
	if ok != wantOk || !bytes.Equal(got, want) {
		t.Errorf("EncodeRecord(%.80v) = %.40v, %v, not %.40v, %v", r, got, ok, want, wantOk)
	}
	frame, frameOk := impl.FrameRecord(r)
	wantBytes, wantFrameOk := wantFrame(kept)
	if frameOk != wantFrameOk || !bytes.Equal(frame, wantBytes) {
		t.Errorf("FrameRecord(%.80v) = %.40v, %v, not %.40v, %v", r, frame, frameOk, wantBytes, wantFrameOk)
	}
	spoilBytes(got)
	spoilBytes(frame)
	if !equalRecord(r, kept) {
		t.Errorf("the bytes of %.80v change or share it", kept)
	}
	if again, _ := impl.EncodeRecord(r); !bytes.Equal(again, want) {
		t.Errorf("EncodeRecord(%.80v) is not new", r)
	}
	if back, backOk := impl.DecodeRecord(want); backOk != wantOk || wantOk && !equalRecord(back, kept) {
		t.Errorf("%.80v, read again, is %.80v, %v", kept, back, backOk)
	}
	return want, wantOk
}

// checkDecode holds DecodeRecord against the document's words.
func checkDecode(t *testing.T, b []byte) (impl.Record, bool) {
	t.Helper()
	kept := slices.Clone(b)
	got, ok := impl.DecodeRecord(b)
	want, wantOk := wantDecode(kept)
	if ok != wantOk || !equalRecord(got, want) {
		t.Errorf("DecodeRecord(%.40v) = %.80v, %v, not %.80v, %v", b, got, ok, want, wantOk)
	}
	// The texts must stand when the bytes that they were read from do not.
	spoilBytes(b)
	if !equalRecord(got, want) {
		t.Errorf("DecodeRecord(%.40v) shares its bytes", kept)
	}
	copy(b, kept)
	spoilRecord(got)
	if !bytes.Equal(b, kept) {
		t.Errorf("DecodeRecord(%.40v) changes or shares its bytes", kept)
	}
	return want, wantOk
}

func TestRecordVectors(t *testing.T) {
	for _, v := range recordVectors() {
		if got, ok := impl.EncodeRecord(v.r); !ok || !bytes.Equal(got, v.body) {
			t.Errorf("EncodeRecord(%v) = %v, %v, not %v", v.r, got, ok, v.body)
		}
		if got, ok := impl.DecodeRecord(v.body); !ok || !equalRecord(got, v.r) {
			t.Errorf("DecodeRecord(%v) = %v, %v, not %v", v.body, got, ok, v.r)
		}
		want := slices.Concat([]byte{0, byte(len(v.body))}, v.body, v.sum)
		if got, ok := impl.FrameRecord(v.r); !ok || !bytes.Equal(got, want) {
			t.Errorf("FrameRecord(%v) = %v, %v, not %v", v.r, got, ok, want)
		}
		list, taken, code := impl.ScanFrames(want)
		if len(list) != 1 || !equalRecord(list[0], v.r) || taken != len(want) || code != impl.ScanFine {
			t.Errorf("ScanFrames(%v) = %v, %d, %d", want, list, taken, code)
		}
	}
	greatest := recordOf(5, nil, append(slices.Repeat([]string{strings.Repeat("A", 300)}, 13), strings.Repeat("B", 69))...)
	frame, ok := impl.FrameRecord(greatest)
	if !ok || len(frame) != 4006 || !bytes.HasPrefix(frame, []byte{15, 160, 5, 0, 28, 216, 4, 65}) || !bytes.HasSuffix(frame, []byte{66, 139, 99, 128, 251}) {
		t.Errorf("the frame of a record of 4000 bytes has %d, %v", len(frame), ok)
	}
}

func TestEncodeRecordEdges(t *testing.T) {
	for _, r := range goodRecords() {
		if _, ok := checkEncode(t, r); !ok {
			t.Errorf("%.80v has no bytes", r)
		}
	}
	for _, r := range wrongRecords() {
		if b, ok := checkEncode(t, r); ok || len(b) != 0 {
			t.Errorf("%.80v has the bytes %.40v", r, b)
		}
	}
	for n := 0; n <= 302; n++ {
		if _, ok := checkEncode(t, recordOf(1, []int{n}, strings.Repeat("t", n), "")); ok != (n <= 300) {
			t.Errorf("a text of %d bytes: %v", n, ok)
		}
	}
	for n := 0; n <= 42; n++ {
		_, nums := checkEncode(t, recordOf(1, slices.Repeat([]int{7}, n)))
		_, texts := checkEncode(t, recordOf(1, nil, slices.Repeat([]string{"b"}, n)...))
		_, both := checkEncode(t, recordOf(1, slices.Repeat([]int{7}, n), slices.Repeat([]string{"b"}, n)...))
		if good := n <= 40; nums != good || texts != good || both != good {
			t.Errorf("%d numbers: %v; %d texts: %v; both: %v", n, nums, n, texts, both)
		}
	}
}

func TestRecordSizes(t *testing.T) {
	for _, size := range []int{3, 4, 5, 66, 67, 68, 69, 255, 256, 257, 3998, 3999, 4000, 4001, 4002} {
		r := recordOfSize(t, size)
		b, ok := checkEncode(t, r)
		if ok != (size <= 4000) || ok && len(b) != size || !impl.RecordOk(r) {
			t.Errorf("a record of %d bytes: %v, %d", size, ok, len(b))
		}
		if frame, frameOk := impl.FrameRecord(r); frameOk != ok || ok && len(frame) != size+6 || !ok && len(frame) != 0 {
			t.Errorf("a record of %d bytes: a frame of %d, %v", size, len(frame), frameOk)
		}
	}
	// Numbers and counts are of the bytes as well: 240 and 3 of them here, and the texts.
	nums := slices.Repeat([]int{topKey}, 40)
	for last := 130; last <= 140; last++ {
		texts := append(slices.Repeat([]string{strings.Repeat("t", 300)}, 12), strings.Repeat("u", last))
		size := 1 + 2*1 + 240 + 12*302 + 2 + last
		r := recordOf(1, slices.Clone(nums), texts...)
		if _, ok := checkEncode(t, r); ok != (size <= 4000) {
			t.Errorf("a record of %d bytes, with numbers: %v", size, ok)
		}
	}
	// A record of RecordOk's own limits is far beyond MaxRecord.
	if _, ok := checkEncode(t, recordOf(1, nums, slices.Repeat([]string{strings.Repeat("t", 300)}, 40)...)); ok {
		t.Error("the greatest record has bytes")
	}
}

// writtenAnyhow has the form of a record's bytes, whatever their number.
func writtenAnyhow(r impl.Record) []byte {
	b := binary.AppendVarint([]byte{byte(r.Kind)}, int64(len(r.Nums)))
	for _, x := range r.Nums {
		b = binary.AppendVarint(b, int64(x))
	}
	b = binary.AppendVarint(b, int64(len(r.Texts)))
	for _, text := range r.Texts {
		b = append(binary.AppendVarint(b, int64(len(text))), text...)
	}
	return b
}

func TestDecodeOfRecordsThatAreNone(t *testing.T) {
	wrong := wrongRecords()
	wrong = append(wrong, recordOfSize(t, 4001), recordOfSize(t, 4002))
	for _, r := range wrong {
		if r.Kind < 0 || r.Kind > 255 {
			continue
		}
		if got, ok := checkDecode(t, writtenAnyhow(r)); ok || !equalRecord(got, impl.Record{}) {
			t.Errorf("DecodeRecord of the bytes of %.80v = %.80v, %v", r, got, ok)
		}
	}
	for kind := range 256 {
		if _, ok := checkDecode(t, []byte{byte(kind), 0, 0}); ok != (kind <= 99) {
			t.Errorf("DecodeRecord of the Kind %d: %v", kind, ok)
		}
	}
	if got, ok := checkDecode(t, writtenAnyhow(recordOfSize(t, 4000))); !ok || len(got.Texts) == 0 {
		t.Errorf("DecodeRecord of 4000 bytes = %.80v, %v", got, ok)
	}
	checkDecode(t, make([]byte, 100000))
	checkDecode(t, bytes.Repeat([]byte{80}, 100000))
}

func TestDecodeCountsAndLengths(t *testing.T) {
	filled := func(count []byte, n int, fill byte, tail ...byte) []byte {
		return slices.Concat([]byte{1}, count, bytes.Repeat([]byte{fill}, n), tail)
	}
	for n := -3; n <= 45; n++ {
		good := n >= 0 && n <= 40
		count := impl.PutNum(n)
		if _, ok := checkDecode(t, filled(count, max(n, 0), 7, 0)); ok != good {
			t.Errorf("%d numbers: %v", n, ok)
		}
		if _, ok := checkDecode(t, slices.Concat([]byte{1, 0}, count, make([]byte, max(n, 0)))); ok != good {
			t.Errorf("%d texts: %v", n, ok)
		}
		checkDecode(t, filled(count, 0, 0, 0))
		checkDecode(t, filled(count, 80, 0, 0))
	}
	for _, n := range []int{-topKey, -301, -300, -2, -1, 0, 1, 299, 300, 301, 302, 1000, 3990, topKey - 1, topKey} {
		for _, have := range []int{0, 1, 299, 300, 301, 302, 3990} {
			b := slices.Concat([]byte{1, 0, 2}, impl.PutNum(n), bytes.Repeat([]byte{'t'}, have))
			if _, ok := checkDecode(t, b); ok != (n == have && n <= 300) {
				t.Errorf("a text of %d bytes that are %d: %v", n, have, ok)
			}
		}
		checkDecode(t, slices.Concat([]byte{1}, impl.PutNum(n), make([]byte, 41)))
		checkDecode(t, slices.Concat([]byte{1, 0}, impl.PutNum(n), make([]byte, 41)))
	}
	// Each number of a record has one form alone, its counts and lengths too.
	for _, b := range [][]byte{{1, 128, 0, 0}, {1, 0, 128, 0}, {1, 130, 0, 4, 0}, {1, 2, 132, 0, 0}, {1, 0, 130, 0, 0}, {1, 0, 2, 130, 0, 65}, {1, 2, 129, 128, 128, 128, 128, 64, 0}} {
		if _, ok := checkDecode(t, b); ok {
			t.Errorf("DecodeRecord(%v) is true", b)
		}
	}
}

// cutAndGrown asks of bytes that are a record's that none a byte shorter or longer are.
func cutAndGrown(t *testing.T, b []byte) {
	t.Helper()
	for n := range b {
		if _, ok := checkDecode(t, b[:n:n]); ok {
			t.Errorf("DecodeRecord(%.40v), cut off from %.40v, is true", b[:n], b)
		}
		// The room behind the bytes is no part of them.
		if _, ok := impl.DecodeRecord(b[:n]); ok {
			t.Errorf("DecodeRecord(%.40v) reads the room behind", b[:n])
		}
	}
	for _, more := range []byte{0, 1, 2, 128, 255} {
		if _, ok := checkDecode(t, append(slices.Clone(b), more)); ok {
			t.Errorf("DecodeRecord(%.40v) with %d behind is true", b, more)
		}
	}
}

func TestDecodeCutAndGrown(t *testing.T) {
	if _, ok := checkDecode(t, nil); ok {
		t.Error("nothing is a record")
	}
	for _, r := range goodRecords() {
		b, _ := checkEncode(t, r)
		cutAndGrown(t, b)
	}
	cutAndGrown(t, writtenAnyhow(recordOfSize(t, 400)))
}

func TestDecodeEachTurnOfAByte(t *testing.T) {
	for _, v := range recordVectors() {
		for i := range v.body {
			for c := range 256 {
				b := slices.Clone(v.body)
				b[i] = byte(c)
				checkDecode(t, b)
			}
		}
	}
}

func TestRecordsOneToOne(t *testing.T) {
	letters := []byte{0, 1, 2, 4, 6, 99, 100, 128, 130}
	seen := 0
	var grow func(b []byte)
	grow = func(b []byte) {
		if r, ok := checkDecode(t, b); ok {
			seen++
			if again, good := impl.EncodeRecord(r); !good || !bytes.Equal(again, b) {
				t.Errorf("%v, read from %v, is written as %v, %v", r, b, again, good)
			}
		}
		if len(b) == 5 {
			return
		}
		for _, c := range letters {
			grow(append(slices.Clone(b), c))
		}
	}
	grow(nil)
	if seen < 100 {
		t.Errorf("only %d records were met", seen)
	}
}

func TestRecordsAtRandom(t *testing.T) {
	r := rand.New(rand.NewSource(64))
	for range 600 {
		b, ok := checkEncode(t, someRecord(r, 40, 60))
		if !ok {
			continue
		}
		for range 6 {
			bent := slices.Clone(b)
			bent[r.Intn(len(bent))] ^= byte(1 << r.Intn(8))
			checkDecode(t, bent)
		}
		checkDecode(t, b)
		checkDecode(t, slices.Clone(b[:r.Intn(len(b))]))
		checkDecode(t, append(slices.Clone(b), someBytes(r, 1+r.Intn(4))...))
		checkDecode(t, someBytes(r, r.Intn(12)))
	}
}

func TestSameRecord(t *testing.T) {
	all := append(goodRecords(), wrongRecords()...)
	all = append(all, recordOf(1, []int{1, 2}, "a", "b"), recordOf(1, []int{2, 1}, "a", "b"), recordOf(1, []int{1, 2}, "b", "a"), recordOf(2, []int{1, 2}, "a", "b"), recordOf(1, []int{1}, "a", "b"), recordOf(1, []int{1, 2}, "a"), recordOf(1, []int{1, 2}, "ab"), recordOf(1, []int{1, 2}, "", "ab"), recordOf(1, []int{1, 2, 0}, "a", "b"), recordOf(1, []int{1, 2}, "a", "b", ""))
	for i, a := range all {
		for j, b := range all {
			keptA, keptB := cloneRecord(a), cloneRecord(b)
			if impl.SameRecord(a, b) != equalRecord(a, b) || i == j && !impl.SameRecord(a, b) {
				t.Errorf("SameRecord(%.80v, %.80v) = %v", a, b, impl.SameRecord(a, b))
			}
			if !equalRecord(a, keptA) || !equalRecord(b, keptB) {
				t.Errorf("SameRecord(%.80v, %.80v) changes what it was given", keptA, keptB)
			}
		}
	}
	if !impl.SameRecord(impl.Record{}, impl.Record{Nums: []int{}, Texts: []string{}}) {
		t.Error("an empty list and nil are the same value")
	}
}

// checkScan holds ScanFrames against the document's words.
func checkScan(t *testing.T, b []byte) ([]impl.Record, int, int) {
	t.Helper()
	kept := slices.Clone(b)
	list, taken, code := impl.ScanFrames(b)
	want, wantTaken, wantCode := wantScan(kept)
	if taken != wantTaken || code != wantCode || !slices.EqualFunc(list, want, equalRecord) {
		t.Errorf("ScanFrames of %d bytes, %.20v = %d records, %d, %d, not %d, %d, %d", len(b), b, len(list), taken, code, len(want), wantTaken, wantCode)
	}
	if !bytes.Equal(b, kept) {
		t.Errorf("ScanFrames(%.20v) changes its bytes", kept)
	}
	return list, taken, code
}

// framesOf lays the frames of the records one behind the other, and tells where each of them ends.
func framesOf(t *testing.T, list []impl.Record) ([]byte, []int) {
	t.Helper()
	var all []byte
	ends := []int{0}
	for _, r := range list {
		frame, ok := impl.FrameRecord(r)
		if !ok {
			t.Fatalf("%.80v has no frame", r)
		}
		all = append(all, frame...)
		ends = append(ends, len(all))
	}
	return all, ends
}

func expectScan(t *testing.T, b []byte, records int, taken int, code int) {
	t.Helper()
	list, gotTaken, gotCode := checkScan(t, b)
	if len(list) != records || gotTaken != taken || gotCode != code {
		t.Errorf("ScanFrames of %d bytes, %.20v = %d records, %d, %d, not %d, %d, %d", len(b), b, len(list), gotTaken, gotCode, records, taken, code)
	}
}

func TestFramesAreScannedAsTheyWere(t *testing.T) {
	list := goodRecords()
	all, ends := framesOf(t, list)
	got, taken, code := checkScan(t, all)
	if !slices.EqualFunc(got, list, equalRecord) || taken != len(all) || code != impl.ScanFine {
		t.Errorf("%d records of %d, %d bytes of %d, %d", len(got), len(list), taken, len(all), code)
	}
	// Also from each frame on, and up to each frame.
	for i, end := range ends {
		expectScan(t, all[end:], len(list)-i, len(all)-end, impl.ScanFine)
		expectScan(t, all[:end], i, end, impl.ScanFine)
	}
	expectScan(t, nil, 0, 0, impl.ScanFine)
	expectScan(t, []byte{}, 0, 0, impl.ScanFine)
	expectScan(t, make([]byte, 0, 50000), 0, 0, impl.ScanFine)
}

func TestFramesCutAtEveryPlace(t *testing.T) {
	list := []impl.Record{recordOf(9, nil), recordOf(1, []int{5, -topKey}, "abc", ""), recordOf(0, nil, strings.Repeat("z", 270)), recordOf(99, []int{0}), recordOf(0, nil)}
	all, ends := framesOf(t, list)
	for cut := range len(all) + 1 {
		whole := 0
		for whole+1 < len(ends) && ends[whole+1] <= cut {
			whole++
		}
		code := impl.ScanTorn
		if ends[whole] == cut {
			code = impl.ScanFine
		}
		expectScan(t, all[:cut:cut], whole, ends[whole], code)
		// The room behind the bytes is no part of them.
		expectScan(t, all[:cut], whole, ends[whole], code)
		got, _, _ := impl.ScanFrames(all[:cut])
		if !slices.EqualFunc(got, list[:whole], equalRecord) {
			t.Errorf("cut at %d: %v", cut, got)
		}
	}
}

func TestTheGreatestFrameCut(t *testing.T) {
	all, _ := framesOf(t, []impl.Record{recordOf(9, nil), recordOfSize(t, 4000)})
	for _, left := range []int{1, 2, 3, 5, 6, 7, 8, 3999, 4000, 4001, 4002, 4003, 4004, 4005} {
		expectScan(t, all[:9+left], 1, 9, impl.ScanTorn)
		expectScan(t, all[9:9+left], 0, 0, impl.ScanTorn)
	}
	expectScan(t, all, 2, 4015, impl.ScanFine)
}

func TestScanOfEachLength(t *testing.T) {
	first, _ := impl.FrameRecord(recordOf(9, nil))
	for _, ahead := range [][]byte{nil, first} {
		for length := range 65536 {
			head := append(slices.Clone(ahead), byte(length/256), byte(length%256))
			code := impl.ScanBad
			if length >= 3 && length <= 4000 {
				code = impl.ScanTorn
			}
			_, taken, got := impl.ScanFrames(head)
			if got != code || taken != len(ahead) {
				t.Errorf("a length of %d behind %d bytes: %d, %d", length, taken, got, code)
			}
		}
		for c := range 256 {
			expectScan(t, append(slices.Clone(ahead), byte(c)), len(ahead)/9, len(ahead), impl.ScanTorn)
		}
	}
	for _, length := range []int{0, 1, 2, 3, 4, 3999, 4000, 4001, 4002, 65535} {
		for _, have := range []int{0, 1, 2, 3, 4, 5, length - 1, length, length + 3, length + 4, length + 5} {
			if have >= 0 && have < 39000 {
				checkScan(t, append([]byte{byte(length / 256), byte(length % 256)}, make([]byte, have)...))
			}
		}
	}
}

func TestScanOfFramesAroundNoRecord(t *testing.T) {
	first, _ := impl.FrameRecord(recordOf(9, nil))
	bodies := [][]byte{
		nil, {9}, {9, 0}, {0, 0},
		{100, 0, 0}, {255, 0, 0}, {9, 0, 0, 0}, {9, 1, 0}, {9, 0, 1}, {9, 82, 0},
		// These end too early, though their frame is whole: no more bytes would mend them.
		{9, 2, 0}, {9, 0, 2}, {9, 2, 128}, {9, 0, 128}, {9, 0, 2, 10, 65}, {9, 128, 128, 128},
		{9, 128, 0, 0}, {9, 0, 128, 0}, {9, 2, 128, 0, 0},
		writtenAnyhow(recordOfSize(t, 4001)), writtenAnyhow(recordOfSize(t, 4002)), writtenAnyhow(recordOf(1, nil, strings.Repeat("a", 301))),
	}
	for _, body := range bodies {
		frame := frameAround(body)
		expectScan(t, frame, 0, 0, impl.ScanBad)
		expectScan(t, slices.Concat(first, frame, first), 1, 9, impl.ScanBad)
		expectScan(t, append(slices.Clone(frame), 0), 0, 0, impl.ScanBad)
	}
	// A sum over other bytes, the length among them, is none.
	expectScan(t, []byte{0, 3, 9, 0, 0, 218, 199, 5, 123}, 0, 0, impl.ScanBad)
	// The sum with its least byte first.
	expectScan(t, []byte{0, 3, 9, 0, 0, 61, 9, 179, 129}, 0, 0, impl.ScanBad)
}

func TestEachTurnOfAFrame(t *testing.T) {
	list := []impl.Record{recordOf(9, nil), recordOf(42, []int{64, -65}, "kv/app"), recordOf(0, nil)}
	all, ends := framesOf(t, list)
	for i := range all {
		for bit := range 8 {
			bent := slices.Clone(all)
			bent[i] ^= 1 << bit
			whole := 0
			for ends[whole+1] <= i {
				whole++
			}
			got, taken, code := checkScan(t, bent)
			if len(got) != whole || taken != ends[whole] || code == impl.ScanFine {
				t.Errorf("bit %d of byte %d turned: %d records, %d, %d", bit, i, len(got), taken, code)
			}
			// But for the length, whatever is turned leaves a frame that is whole, and bad.
			if i >= ends[whole]+2 && code != impl.ScanBad {
				t.Errorf("bit %d of byte %d turned: %d", bit, i, code)
			}
		}
	}
	frame := all[:9]
	for place := 5; place < 9; place++ {
		for c := range 256 {
			bent := slices.Clone(frame)
			bent[place] = byte(c)
			if byte(c) == frame[place] {
				expectScan(t, bent, 1, 9, impl.ScanFine)
			} else {
				expectScan(t, bent, 0, 0, impl.ScanBad)
			}
		}
	}
}

func TestScanOfAFullDisk(t *testing.T) {
	list := slices.Repeat([]impl.Record{recordOfSize(t, 4000)}, 9)
	list = append(list, recordOfSize(t, 40000-9*4006-6))
	all, ends := framesOf(t, list)
	if len(all) != 40000 {
		t.Fatalf("%d bytes", len(all))
	}
	expectScan(t, all, 10, 40000, impl.ScanFine)
	expectScan(t, all[:39999], 9, ends[9], impl.ScanTorn)
	bent := slices.Clone(all)
	bent[39999] ^= 1
	expectScan(t, bent, 9, ends[9], impl.ScanBad)
	for _, more := range [][]byte{{0}, {0, 3}, frameAround([]byte{9, 0, 0}), make([]byte, 100000)} {
		expectScan(t, slices.Concat(all, more), 0, 0, impl.ScanBad)
	}
	longer, _ := framesOf(t, append(list[:9:9], recordOfSize(t, 40001-9*4006-6)))
	expectScan(t, longer, 0, 0, impl.ScanBad)
	expectScan(t, longer[:40000], 9, ends[9], impl.ScanTorn)
	expectScan(t, make([]byte, 40000), 0, 0, impl.ScanBad)
	expectScan(t, make([]byte, 40001), 0, 0, impl.ScanBad)
}

func TestScanOfManyFrames(t *testing.T) {
	all, _ := framesOf(t, slices.Repeat([]impl.Record{recordOf(9, nil)}, 4444))
	expectScan(t, all, 4444, 39996, impl.ScanFine)
	expectScan(t, append(slices.Clone(all), 0, 3, 9, 0), 4444, 39996, impl.ScanTorn)
	expectScan(t, append(slices.Clone(all), 0, 2, 9, 0), 4444, 39996, impl.ScanBad)
	expectScan(t, append(slices.Clone(all), 0, 3, 9, 0, 0), 0, 0, impl.ScanBad)
}

func TestScansAtRandom(t *testing.T) {
	r := rand.New(rand.NewSource(65))
	for range 150 {
		var list []impl.Record
		for range r.Intn(6) {
			list = append(list, someRecord(r, 6, 40))
		}
		all, _ := framesOf(t, list)
		got, taken, code := checkScan(t, all)
		if !slices.EqualFunc(got, list, equalRecord) || taken != len(all) || code != impl.ScanFine {
			t.Fatalf("%d records of %d, %d bytes of %d, %d", len(got), len(list), taken, len(all), code)
		}
		if len(all) > 0 {
			for range 4 {
				bent := slices.Clone(all)
				bent[r.Intn(len(bent))] ^= byte(1 + r.Intn(255))
				checkScan(t, bent)
				checkScan(t, all[r.Intn(len(all)):])
				checkScan(t, all[:r.Intn(len(all))])
			}
		}
		checkScan(t, append(all, someBytes(r, r.Intn(12))...))
		checkScan(t, someBytes(r, r.Intn(40)))
	}
}

func TestRecordsKeepToThemselves(t *testing.T) {
	list := []impl.Record{recordOf(1, []int{1, 2, 3}, "abc", "de"), recordOf(2, []int{4, 5}, "f"), recordOf(3, []int{6}, "ghi", "", "j")}
	all, _ := framesOf(t, list)
	got, _, _ := impl.ScanFrames(all)
	spoilBytes(all)
	if !slices.EqualFunc(got, list, equalRecord) {
		t.Errorf("records share the bytes that they were read from: %v", got)
	}
	// No list of one answer shares memory with another.
	for i := range got {
		kept := cloneRecords(got)
		spoilRecord(got[i])
		for j := range got {
			if j != i && !equalRecord(got[j], kept[j]) {
				t.Errorf("the records %d and %d share memory", i, j)
			}
		}
		got[i] = kept[i]
	}
	// Two answers to one call have memory of their own each.
	all, _ = framesOf(t, list)
	one, _, _ := impl.ScanFrames(all)
	two, _, _ := impl.ScanFrames(all)
	spoilRecord(one[0])
	one[1] = impl.Record{Kind: 77}
	if !slices.EqualFunc(two, list, equalRecord) {
		t.Errorf("a second answer shares the first: %v", two)
	}
	// Nothing is kept from one call to another.
	impl.ScanFrames([]byte{0})
	impl.DecodeRecord([]byte{9})
	impl.TakeNum([]byte{128}, 0)
	if again, taken, code := impl.ScanFrames(all); !slices.EqualFunc(again, list, equalRecord) || taken != len(all) || code != impl.ScanFine {
		t.Errorf("behind a fault: %v, %d, %d", again, taken, code)
	}
}
