package tests

import (
	"bytes"
	"math"
	"math/rand"
	"slices"
	"strings"
	"testing"

	"loop.example/g00705/impl"
)

func diskOf(safe []byte, loose []byte) impl.Disk {
	return impl.Disk{Safe: safe, Loose: loose}
}

func cloneDisk(d impl.Disk) impl.Disk {
	return diskOf(slices.Clone(d.Safe), slices.Clone(d.Loose))
}

func equalDisk(a impl.Disk, b impl.Disk) bool {
	return bytes.Equal(a.Safe, b.Safe) && bytes.Equal(a.Loose, b.Loose)
}

func wantDiskOk(d impl.Disk) bool {
	return len(d.Safe) <= 40000 && len(d.Loose) <= 40000-len(d.Safe)
}

func wantAppend(d impl.Disk, r impl.Record) (impl.Disk, bool) {
	frame, ok := wantFrame(r)
	if !ok || len(d.Safe)+len(d.Loose)+len(frame) > 40000 {
		return d, false
	}
	return diskOf(d.Safe, slices.Concat(d.Loose, frame)), true
}

// wantCrash takes byte by byte of Loose, as long as there are some to keep.
func wantCrash(d impl.Disk, keep int) impl.Disk {
	if !wantDiskOk(d) {
		return d
	}
	safe := slices.Clone(d.Safe)
	for i, c := range d.Loose {
		if i < keep {
			safe = append(safe, c)
		}
	}
	return diskOf(safe, nil)
}

func wantRead(d impl.Disk) ([]impl.Record, int) {
	if !wantDiskOk(d) {
		return nil, 3
	}
	list, _, code := wantScan(slices.Concat(d.Safe, d.Loose))
	return list, code
}

// wantFrames writes the records anew; false when one of them has no frame.
func wantFrames(list []impl.Record) ([]byte, bool) {
	var all []byte
	for _, r := range list {
		frame, ok := wantFrame(r)
		if !ok {
			return nil, false
		}
		all = append(all, frame...)
	}
	return all, true
}

func wantRepair(d impl.Disk) (impl.Disk, bool) {
	list, code := wantRead(d)
	if code > 1 {
		return d, false
	}
	all, _ := wantFrames(list)
	return diskOf(all, nil), true
}

func wantRewrite(d impl.Disk, list []impl.Record) (impl.Disk, bool) {
	all, ok := wantFrames(list)
	if !ok || !wantDiskOk(d) || len(all) > 40000 {
		return d, false
	}
	return diskOf(all, nil), true
}

// wantLoose counts the frames that end behind Safe.
func wantLoose(d impl.Disk) int {
	list, code := wantRead(d)
	if code == 3 {
		return -1
	}
	count := 0
	end := 0
	for _, r := range list {
		frame, _ := wantFrame(r)
		end += len(frame)
		if end > len(d.Safe) {
			count++
		}
	}
	return count
}

// layOut puts a disk into one stretch of bytes with room behind both lists, so that whatever is written there is seen.
func layOut(d impl.Disk) (impl.Disk, []byte) {
	between, behind := bytes.Repeat([]byte{90}, 5), bytes.Repeat([]byte{165}, 5000)
	room := slices.Concat(d.Safe, between, d.Loose, behind)
	start := len(d.Safe) + len(between)
	return diskOf(room[:len(d.Safe)], room[start:start+len(d.Loose)]), room
}

// checkDisk holds a disk that is answered against the one that is wanted, and asks whose memory it is.
func checkDisk(t *testing.T, what string, d impl.Disk, do func(d impl.Disk) (impl.Disk, bool), want impl.Disk, wantOk bool) impl.Disk {
	t.Helper()
	given, room := layOut(d)
	kept := slices.Clone(room)
	got, ok := do(given)
	if ok != wantOk || !equalDisk(got, want) {
		t.Errorf("%s of %d and %d bytes = %d and %d, %.24v and %.24v, %v, not %d and %d, %.24v and %.24v, %v", what, len(d.Safe), len(d.Loose),
			len(got.Safe), len(got.Loose), got.Safe, got.Loose, ok, len(want.Safe), len(want.Loose), want.Safe, want.Loose, wantOk)
	}
	if !bytes.Equal(room, kept) {
		t.Errorf("%s of %d and %d bytes writes into what it was given", what, len(d.Safe), len(d.Loose))
	}
	answer := cloneDisk(got)
	spoilBytes(room)
	if !equalDisk(got, answer) {
		t.Errorf("%s of %d and %d bytes shares what it was given", what, len(d.Safe), len(d.Loose))
	}
	spoilBytes(got.Safe)
	if !bytes.Equal(got.Loose, answer.Loose) {
		t.Errorf("%s of %d and %d bytes: Loose shares Safe", what, len(d.Safe), len(d.Loose))
	}
	spoilBytes(got.Safe)
	spoilBytes(got.Loose)
	if !bytes.Equal(got.Safe, answer.Safe) {
		t.Errorf("%s of %d and %d bytes: Safe shares Loose", what, len(d.Safe), len(d.Loose))
	}
	return answer
}

func checkAppend(t *testing.T, d impl.Disk, r impl.Record) (impl.Disk, bool) {
	t.Helper()
	kept := cloneRecord(r)
	want, wantOk := wantAppend(d, r)
	got := checkDisk(t, "AppendLog", d, func(d impl.Disk) (impl.Disk, bool) { return impl.AppendLog(d, r) }, want, wantOk)
	if !equalRecord(r, kept) {
		t.Errorf("AppendLog changes its record %.80v", kept)
	}
	return got, wantOk
}

func checkSync(t *testing.T, d impl.Disk) impl.Disk {
	t.Helper()
	want := d
	if wantDiskOk(d) {
		want = diskOf(slices.Concat(d.Safe, d.Loose), nil)
	}
	return checkDisk(t, "SyncLog", d, func(d impl.Disk) (impl.Disk, bool) { return impl.SyncLog(d), true }, want, true)
}

func checkCrash(t *testing.T, d impl.Disk, keep int) impl.Disk {
	t.Helper()
	return checkDisk(t, "CrashLog", d, func(d impl.Disk) (impl.Disk, bool) { return impl.CrashLog(d, keep), true }, wantCrash(d, keep), true)
}

func checkRepair(t *testing.T, d impl.Disk) (impl.Disk, bool) {
	t.Helper()
	want, wantOk := wantRepair(d)
	return checkDisk(t, "RepairLog", d, impl.RepairLog, want, wantOk), wantOk
}

func checkRewrite(t *testing.T, d impl.Disk, list []impl.Record) (impl.Disk, bool) {
	t.Helper()
	kept := cloneRecords(list)
	want, wantOk := wantRewrite(d, list)
	got := checkDisk(t, "RewriteLog", d, func(d impl.Disk) (impl.Disk, bool) { return impl.RewriteLog(d, list) }, want, wantOk)
	if !slices.EqualFunc(list, kept, equalRecord) {
		t.Errorf("RewriteLog changes its list of %d", len(kept))
	}
	return got, wantOk
}

func checkRead(t *testing.T, d impl.Disk) ([]impl.Record, int) {
	t.Helper()
	given, room := layOut(d)
	kept := slices.Clone(room)
	list, code := impl.ReadLog(given)
	want, wantCode := wantRead(d)
	loose := impl.LooseRecords(given)
	if code != wantCode || !slices.EqualFunc(list, want, equalRecord) {
		t.Errorf("ReadLog of %d and %d bytes = %d records, %d, not %d, %d", len(d.Safe), len(d.Loose), len(list), code, len(want), wantCode)
	}
	if loose != wantLoose(d) {
		t.Errorf("LooseRecords of %d and %d bytes = %d, not %d", len(d.Safe), len(d.Loose), loose, wantLoose(d))
	}
	if impl.DiskOk(given) != wantDiskOk(d) {
		t.Errorf("DiskOk of %d and %d bytes = %v", len(d.Safe), len(d.Loose), !wantDiskOk(d))
	}
	if !bytes.Equal(room, kept) {
		t.Errorf("a reading of %d and %d bytes writes into them", len(d.Safe), len(d.Loose))
	}
	return list, code
}

// checkLog asks every function of the log about one disk.
func checkLog(t *testing.T, d impl.Disk) {
	t.Helper()
	list, _ := checkRead(t, d)
	checkSync(t, d)
	for _, keep := range []int{-1, 0, 1, len(d.Loose) / 2, len(d.Loose) - 1, len(d.Loose), len(d.Loose) + 1} {
		checkCrash(t, d, keep)
	}
	checkRepair(t, d)
	checkAppend(t, d, recordOf(9, []int{1, -1}, "ab"))
	checkRewrite(t, d, list)
	checkRewrite(t, d, []impl.Record{recordOf(8, nil), recordOf(7, []int{3}, "x")})
}

func expectRead(t *testing.T, d impl.Disk, list []impl.Record, code int, loose int) {
	t.Helper()
	got, gotCode := checkRead(t, d)
	if gotCode != code || !slices.EqualFunc(got, list, equalRecord) {
		t.Errorf("ReadLog of %d and %d bytes = %d records, %d, not %d, %d", len(d.Safe), len(d.Loose), len(got), gotCode, len(list), code)
	}
	if gotLoose := impl.LooseRecords(d); gotLoose != loose {
		t.Errorf("LooseRecords of %d and %d bytes = %d, not %d", len(d.Safe), len(d.Loose), gotLoose, loose)
	}
}

func expectRepair(t *testing.T, d impl.Disk, safe []byte) {
	t.Helper()
	got, ok := impl.RepairLog(d)
	if !ok || !equalDisk(got, diskOf(safe, nil)) {
		t.Errorf("RepairLog of %d and %d bytes = %d and %d, %v, not %d", len(d.Safe), len(d.Loose), len(got.Safe), len(got.Loose), ok, len(safe))
	}
	checkRepair(t, d)
}

func expectNoRepair(t *testing.T, d impl.Disk) {
	t.Helper()
	if got, ok := impl.RepairLog(d); ok || !equalDisk(got, d) {
		t.Errorf("RepairLog of %d and %d bytes = %d and %d, %v", len(d.Safe), len(d.Loose), len(got.Safe), len(got.Loose), ok)
	}
	checkRepair(t, d)
}

func logRecords() []impl.Record {
	return []impl.Record{recordOf(9, nil), recordOf(42, []int{64, -65, 300}, "kv/app"), recordOf(0, nil, "\x00\x03", ""), recordOf(99, []int{topKey})}
}

// fullList has just so many bytes in its frames: nine of the greatest, and one that fills up the rest.
func fullList(t *testing.T, size int) []impl.Record {
	t.Helper()
	list := slices.Repeat([]impl.Record{recordOfSize(t, 4000)}, 9)
	return append(list, recordOfSize(t, size-9*4006-6))
}

// wrongDisks are one byte too long or more, in either part or in both together.
func wrongDisks() []impl.Disk {
	var all []impl.Disk
	for _, sizes := range [][2]int{{40001, 0}, {0, 40001}, {40000, 1}, {1, 40000}, {20000, 20001}, {39992, 9}, {9, 39992}, {40000, 40000}, {40001, 40001}, {100000, 0}, {0, 100000}} {
		all = append(all, diskOf(bytes.Repeat([]byte{1}, sizes[0]), bytes.Repeat([]byte{2}, sizes[1])))
	}
	return all
}

func TestLogLimits(t *testing.T) {
	if impl.MaxDisk != 40000 || impl.LogNone != 3 {
		t.Error("limits")
	}
	for _, sizes := range [][2]int{{0, 0}, {1, 0}, {0, 1}, {39999, 0}, {0, 39999}, {40000, 0}, {0, 40000}, {39999, 1}, {1, 39999}, {20000, 20000}} {
		if !impl.DiskOk(diskOf(make([]byte, sizes[0]), make([]byte, sizes[1]))) {
			t.Errorf("DiskOk of %v is false", sizes)
		}
	}
	for _, d := range wrongDisks() {
		if impl.DiskOk(d) {
			t.Errorf("DiskOk of %d and %d is true", len(d.Safe), len(d.Loose))
		}
	}
	// The room behind the bytes is no part of them.
	if !impl.DiskOk(diskOf(make([]byte, 5, 50000), make([]byte, 0, 50000))) {
		t.Error("DiskOk counts the room behind the bytes")
	}
}

func TestLogVectors(t *testing.T) {
	// The frames were worked out outside of the program.
	nine := []byte{0, 3, 9, 0, 0, 129, 179, 9, 61}
	one := []byte{0, 4, 1, 2, 0, 0, 103, 150, 161, 149}
	d, ok := impl.AppendLog(impl.Disk{}, recordOf(9, nil))
	if !ok || !equalDisk(d, diskOf(nil, nine)) {
		t.Errorf("the first record: %v, %v", d, ok)
	}
	d = impl.SyncLog(d)
	if !equalDisk(d, diskOf(nine, nil)) {
		t.Errorf("synced: %v", d)
	}
	d, ok = impl.AppendLog(d, recordOf(1, []int{0}))
	if !ok || !equalDisk(d, diskOf(nine, one)) {
		t.Errorf("the second record: %v, %v", d, ok)
	}
	d, ok = impl.AppendLog(d, recordOf(9, nil))
	if !ok || !equalDisk(d, diskOf(nine, slices.Concat(one, nine))) {
		t.Errorf("the third record: %v, %v", d, ok)
	}
	if got := impl.CrashLog(d, 12); !equalDisk(got, diskOf(slices.Concat(nine, one, nine[:2]), nil)) {
		t.Errorf("a crash that keeps 12: %v", got)
	}
	if got, ok := impl.RepairLog(impl.CrashLog(d, 12)); !ok || !equalDisk(got, diskOf(slices.Concat(nine, one), nil)) {
		t.Errorf("repaired: %v, %v", got, ok)
	}
	if got, ok := impl.RewriteLog(d, []impl.Record{recordOf(1, []int{0}), recordOf(9, nil)}); !ok || !equalDisk(got, diskOf(slices.Concat(one, nine), nil)) {
		t.Errorf("rewritten: %v, %v", got, ok)
	}
	if got := impl.LooseRecords(d); got != 2 {
		t.Errorf("LooseRecords = %d", got)
	}
}

func TestLogOfAnEmptyDisk(t *testing.T) {
	for _, d := range []impl.Disk{{}, diskOf([]byte{}, nil), diskOf(nil, []byte{}), diskOf([]byte{}, []byte{})} {
		checkLog(t, d)
		expectRead(t, d, nil, impl.ScanFine, 0)
		expectRepair(t, d, nil)
		if got, ok := checkRewrite(t, d, nil); !ok || !equalDisk(got, impl.Disk{}) {
			t.Errorf("RewriteLog of nothing: %v, %v", got, ok)
		}
		for _, keep := range []int{math.MinInt, -1, 0, 1, math.MaxInt} {
			if got := checkCrash(t, d, keep); !equalDisk(got, impl.Disk{}) {
				t.Errorf("a crash of nothing that keeps %d: %v", keep, got)
			}
		}
	}
}

func TestLogOfDisksThatAreNone(t *testing.T) {
	nine := recordOf(9, nil)
	for _, d := range wrongDisks() {
		checkLog(t, d)
		expectRead(t, d, nil, impl.LogNone, -1)
		expectNoRepair(t, d)
		if got, ok := impl.AppendLog(d, nine); ok || !equalDisk(got, d) {
			t.Errorf("AppendLog to %d and %d bytes: %d and %d, %v", len(d.Safe), len(d.Loose), len(got.Safe), len(got.Loose), ok)
		}
		for _, list := range [][]impl.Record{nil, {}, {nine}, {recordOf(100, nil)}} {
			if got, ok := impl.RewriteLog(d, list); ok || !equalDisk(got, d) {
				t.Errorf("RewriteLog of %d and %d bytes: %d and %d, %v", len(d.Safe), len(d.Loose), len(got.Safe), len(got.Loose), ok)
			}
		}
		for _, keep := range []int{math.MinInt, -1, 0, 1, 40000, math.MaxInt} {
			if got := impl.CrashLog(d, keep); !equalDisk(got, d) {
				t.Errorf("CrashLog of %d and %d bytes: %d and %d", len(d.Safe), len(d.Loose), len(got.Safe), len(got.Loose))
			}
		}
		if got := impl.SyncLog(d); !equalDisk(got, d) {
			t.Errorf("SyncLog of %d and %d bytes: %d and %d", len(d.Safe), len(d.Loose), len(got.Safe), len(got.Loose))
		}
	}
	// Frames that would be read are not, on a disk that is a byte too long.
	all, _ := framesOf(t, fullList(t, 40001))
	for _, cut := range []int{0, 9, 20000, 40000, 40001} {
		d := diskOf(all[:cut], all[cut:])
		expectRead(t, d, nil, impl.LogNone, -1)
		expectNoRepair(t, d)
	}
}

func TestAppendOfRecordsWithoutAFrame(t *testing.T) {
	wrong := append(wrongRecords(), recordOfSize(t, 4001), recordOf(1, nil, slices.Repeat([]string{strings.Repeat("a", 300)}, 40)...))
	disks := []impl.Disk{{}, diskOf([]byte{0, 3}, []byte{9}), wrongDisks()[2]}
	for _, d := range disks {
		for _, r := range wrong {
			if got, ok := checkAppend(t, d, r); ok || !equalDisk(got, d) {
				t.Errorf("AppendLog of %.80v is true", r)
			}
			for _, list := range [][]impl.Record{{r}, {recordOf(9, nil), r}, {r, recordOf(9, nil)}} {
				if got, ok := checkRewrite(t, d, list); ok || !equalDisk(got, d) {
					t.Errorf("RewriteLog with %.80v is true", r)
				}
			}
		}
	}
}

func TestAppendOfGoodRecords(t *testing.T) {
	frames, _ := framesOf(t, logRecords())
	disks := []impl.Disk{{}, diskOf(frames, nil), diskOf(nil, frames), diskOf(frames[:9], frames[9:]), diskOf(frames[:4], frames[4:30])}
	for _, d := range disks {
		for _, r := range append(goodRecords(), recordOfSize(t, 4000)) {
			frame, _ := impl.FrameRecord(r)
			got, ok := checkAppend(t, d, r)
			if !ok || !equalDisk(got, diskOf(d.Safe, slices.Concat(d.Loose, frame))) {
				t.Errorf("AppendLog of %.80v: %v", r, ok)
			}
		}
	}
}

func TestAppendThatJustFits(t *testing.T) {
	for _, size := range []int{3, 4, 50, 3999, 4000} {
		r := recordOfSize(t, size)
		room := 40000 - size - 6
		for _, cut := range []int{0, 1, 5000, room - 1, room} {
			fits := diskOf(make([]byte, cut), make([]byte, room-cut))
			got, ok := checkAppend(t, fits, r)
			if !ok || !impl.DiskOk(got) || len(got.Safe)+len(got.Loose) != 40000 {
				t.Errorf("a frame that just fits is refused: %d and %d", cut, room-cut)
			}
			more := diskOf(make([]byte, cut), make([]byte, room-cut+1))
			if got, ok := checkAppend(t, more, r); ok || !equalDisk(got, more) {
				t.Errorf("a frame that is a byte too long is taken: %d and %d", cut, room-cut+1)
			}
			more = diskOf(make([]byte, cut+1), make([]byte, room-cut))
			if got, ok := checkAppend(t, more, r); ok || !equalDisk(got, more) {
				t.Errorf("a frame that is a byte too long is taken: %d and %d", cut+1, room-cut)
			}
		}
	}
}

func TestCrashAtEveryPlace(t *testing.T) {
	list := logRecords()
	all, ends := framesOf(t, list)
	for _, synced := range []int{0, 1, 2, len(list)} {
		d := diskOf(all[:ends[synced]], all[ends[synced]:])
		for keep := -3; keep <= len(d.Loose)+3; keep++ {
			kept := ends[synced] + min(max(keep, 0), len(d.Loose))
			got := checkCrash(t, d, keep)
			if !equalDisk(got, diskOf(all[:kept], nil)) {
				t.Errorf("a crash that keeps %d of %d: %d and %d", keep, len(d.Loose), len(got.Safe), len(got.Loose))
			}
			whole := 0
			for whole < len(list) && ends[whole+1] <= kept {
				whole++
			}
			code := impl.ScanTorn
			if ends[whole] == kept {
				code = impl.ScanFine
			}
			expectRead(t, got, list[:whole], code, 0)
			expectRepair(t, got, all[:ends[whole]])
		}
		for _, keep := range []int{math.MinInt, math.MinInt + 1, -40000, -1 << 32} {
			if got := checkCrash(t, d, keep); !equalDisk(got, diskOf(d.Safe, nil)) {
				t.Errorf("a crash that keeps %d: %d and %d", keep, len(got.Safe), len(got.Loose))
			}
		}
		for _, keep := range []int{40000, 40001, 1 << 32, math.MaxInt - 1, math.MaxInt} {
			if got := checkCrash(t, d, keep); !equalDisk(got, diskOf(all, nil)) {
				t.Errorf("a crash that keeps %d: %d and %d", keep, len(got.Safe), len(got.Loose))
			}
		}
	}
}

func TestFramesThatBeginInSafeAndEndInLoose(t *testing.T) {
	list := logRecords()
	all, ends := framesOf(t, list)
	for cut := range len(all) + 1 {
		d := diskOf(all[:cut], all[cut:])
		loose := 0
		for _, end := range ends[1:] {
			if end > cut {
				loose++
			}
		}
		expectRead(t, d, list, impl.ScanFine, loose)
		expectRepair(t, d, all)
		checkLog(t, d)
	}
}

func TestEndsTornAndBad(t *testing.T) {
	list := logRecords()
	all, _ := framesOf(t, list)
	torn := [][]byte{{0}, {255}, {0, 3}, {15, 160}, {0, 3, 9, 0, 0, 129, 179, 9}, {0, 4, 1, 2, 0, 0, 103, 150, 161}, {0, 3, 255, 255, 255, 255, 255, 255}}
	bad := [][]byte{{0, 0}, {0, 2}, {15, 161}, {255, 255}, {0, 2, 9, 0, 0, 0, 0, 0}, {0, 3, 9, 0, 0, 129, 179, 9, 62}, {0, 3, 9, 0, 0, 61, 9, 179, 129}, frameAround([]byte{100, 0, 0}), frameAround([]byte{9, 2, 0})}
	for _, ahead := range []int{0, len(all)} {
		found := list[:len(list)*ahead/len(all)]
		for _, end := range torn {
			whole := slices.Concat(all[:ahead], end)
			for cut := range len(whole) + 1 {
				d := diskOf(whole[:cut], whole[cut:])
				loose := wantLoose(d)
				expectRead(t, d, found, impl.ScanTorn, loose)
				expectRepair(t, d, all[:ahead])
			}
			checkLog(t, diskOf(whole, nil))
			checkLog(t, diskOf(nil, whole))
		}
		for _, end := range bad {
			whole := slices.Concat(all[:ahead], end)
			for cut := range len(whole) + 1 {
				d := diskOf(whole[:cut], whole[cut:])
				loose := wantLoose(d)
				expectRead(t, d, found, impl.ScanBad, loose)
				expectNoRepair(t, d)
			}
			checkLog(t, diskOf(whole, nil))
			checkLog(t, diskOf(nil, whole))
		}
	}
	// Behind what is bad nothing is read, also not what is whole.
	whole := slices.Concat(all, []byte{0, 2}, all)
	expectRead(t, diskOf(whole, nil), list, impl.ScanBad, 0)
	expectRead(t, diskOf(whole[:len(all)], whole[len(all):]), list, impl.ScanBad, 0)
	expectRead(t, diskOf(nil, whole), list, impl.ScanBad, len(list))
}

func TestTornSafeWithLooseBehind(t *testing.T) {
	// A torn end in Safe, behind which records were appended: the torn frame swallows them, and is whole and bad.
	all, _ := framesOf(t, logRecords())
	torn := []byte{0, 3, 9, 0}
	d := diskOf(slices.Concat(all, torn), nil)
	expectRead(t, d, logRecords(), impl.ScanTorn, 0)
	d, _ = checkAppend(t, d, recordOf(9, nil))
	expectRead(t, d, logRecords(), impl.ScanBad, 0)
	expectNoRepair(t, d)
	// Repaired first, it goes on.
	fixed, _ := impl.RepairLog(diskOf(slices.Concat(all, torn), nil))
	fixed, ok := checkAppend(t, fixed, recordOf(9, nil))
	if !ok {
		t.Error("a repaired log takes no record")
	}
	expectRead(t, fixed, append(logRecords(), recordOf(9, nil)), impl.ScanFine, 1)
}

func TestRewriteLog(t *testing.T) {
	all, ends := framesOf(t, logRecords())
	disks := []impl.Disk{{}, diskOf(all, nil), diskOf(nil, all), diskOf(all[:20], all[20:]), diskOf([]byte{0, 2}, []byte{255, 255}), diskOf(make([]byte, 40000), nil), diskOf(nil, make([]byte, 40000))}
	for _, d := range disks {
		for n := range len(logRecords()) + 1 {
			got, ok := checkRewrite(t, d, logRecords()[:n])
			if !ok || !equalDisk(got, diskOf(all[:ends[n]], nil)) {
				t.Errorf("RewriteLog of %d records: %v", n, ok)
			}
			expectRead(t, got, logRecords()[:n], impl.ScanFine, 0)
		}
		if got, ok := checkRewrite(t, d, goodRecords()); !ok || len(got.Loose) != 0 {
			t.Errorf("RewriteLog of good records: %v", ok)
		}
	}
}

func TestRewriteLogOfAFullDisk(t *testing.T) {
	old := diskOf([]byte{7, 7}, []byte{8})
	full := fullList(t, 40000)
	frames, _ := framesOf(t, full)
	if got, ok := checkRewrite(t, old, full); !ok || !equalDisk(got, diskOf(frames, nil)) {
		t.Errorf("a list of just MaxDisk bytes: %v", ok)
	}
	expectRead(t, diskOf(frames, nil), full, impl.ScanFine, 0)
	expectRead(t, diskOf(nil, frames), full, impl.ScanFine, len(full))
	expectRead(t, diskOf(nil, frames[:39999]), full[:9], impl.ScanTorn, 9)
	longer := [][]impl.Record{
		fullList(t, 40001), fullList(t, 40002), append(slices.Clone(full), recordOf(9, nil)), append([]impl.Record{recordOf(9, nil)}, full...),
		slices.Repeat([]impl.Record{recordOf(9, nil)}, 4445), slices.Repeat([]impl.Record{recordOfSize(t, 4000)}, 10), slices.Repeat(full, 3),
		// What is wrong stands behind what is too long.
		append(slices.Clone(full), recordOf(100, nil)),
	}
	for _, list := range longer {
		if got, ok := checkRewrite(t, old, list); ok || !equalDisk(got, old) {
			t.Errorf("a list of %d records that is too long: %v", len(list), ok)
		}
	}
	if _, ok := checkRewrite(t, old, slices.Repeat([]impl.Record{recordOf(9, nil)}, 4444)); !ok {
		t.Error("4444 records of 9 bytes")
	}
	checkLog(t, diskOf(frames[:20000], frames[20000:]))
}

func TestLooseRecords(t *testing.T) {
	list := logRecords()
	var d impl.Disk
	for n, r := range list {
		if got := impl.LooseRecords(d); got != n {
			t.Errorf("%d records were appended: LooseRecords = %d", n, got)
		}
		d, _ = impl.AppendLog(d, r)
	}
	if got := impl.LooseRecords(impl.SyncLog(d)); got != 0 {
		t.Errorf("behind a sync: %d", got)
	}
	for synced := range list {
		var d impl.Disk
		for n, r := range list {
			d, _ = impl.AppendLog(d, r)
			if n == synced {
				d = impl.SyncLog(d)
			}
		}
		lost, _ := impl.ReadLog(impl.CrashLog(d, 0))
		if got := impl.LooseRecords(d); got != len(list)-synced-1 || len(lost) != synced+1 {
			t.Errorf("%d of %d are synced: LooseRecords = %d", synced+1, len(list), got)
		}
	}
}

// history is a log with what is to be on it: all records that were appended and not lost, and how many of them are safe.
type history struct {
	disk   impl.Disk
	list   []impl.Record
	synced int
}

func (h *history) write(t *testing.T, r impl.Record) {
	t.Helper()
	d, ok := checkAppend(t, h.disk, r)
	if ok {
		h.list = append(h.list, r)
	}
	h.disk = d
}

// crash asks promise 6: what was synced is there, in order, and whatever else is there is what was appended next.
func (h *history) crash(t *testing.T, keep int) {
	t.Helper()
	h.disk = checkCrash(t, h.disk, keep)
	got, code := checkRead(t, h.disk)
	if code == impl.ScanBad || code == impl.LogNone || len(got) < h.synced || len(got) > len(h.list) || !slices.EqualFunc(got, h.list[:len(got)], equalRecord) {
		t.Fatalf("behind a crash that keeps %d: %d records of %d, %d of them synced, %d", keep, len(got), len(h.list), h.synced, code)
	}
	fixed, ok := checkRepair(t, h.disk)
	again, code := checkRead(t, fixed)
	if !ok || code != impl.ScanFine || !slices.EqualFunc(again, got, equalRecord) || len(fixed.Loose) != 0 {
		t.Fatalf("repaired: %d records of %d, %d, %v", len(again), len(got), code, ok)
	}
	twice, ok := impl.RepairLog(fixed)
	if !ok || !equalDisk(twice, fixed) {
		t.Fatal("repaired twice")
	}
	h.disk, h.list, h.synced = fixed, h.list[:len(got):len(got)], len(got)
}

func TestWhatWasSyncedIsReadAgain(t *testing.T) {
	r := rand.New(rand.NewSource(66))
	for range 60 {
		var h history
		for range 30 {
			switch r.Intn(6) {
			case 0:
				h.disk = checkSync(t, h.disk)
				h.synced = len(h.list)
			case 1:
				h.crash(t, r.Intn(len(h.disk.Loose)+4)-2)
			default:
				h.write(t, someRecord(r, 4, 30))
			}
			if got := impl.LooseRecords(h.disk); got != len(h.list)-h.synced {
				t.Fatalf("LooseRecords = %d, %d of %d are synced", got, h.synced, len(h.list))
			}
		}
		for keep := range len(h.disk.Loose) + 1 {
			one := h
			if keep%5 == 0 {
				one.crash(t, keep)
			}
		}
	}
}

func TestHistoriesOfAFullDisk(t *testing.T) {
	r := rand.New(rand.NewSource(67))
	for range 2 {
		var h history
		refused := 0
		for refused < 3 {
			before := len(h.list)
			h.write(t, recordOfSize(t, 3000+r.Intn(1001)))
			if len(h.list) == before {
				refused++
			}
			if r.Intn(4) == 0 {
				h.disk = checkSync(t, h.disk)
				h.synced = len(h.list)
			}
		}
		if !impl.DiskOk(h.disk) || len(h.list) < 9 {
			t.Errorf("%d records", len(h.list))
		}
		h.crash(t, len(h.disk.Loose)-1)
	}
}

func TestDisksAtRandom(t *testing.T) {
	r := rand.New(rand.NewSource(68))
	for range 150 {
		var list []impl.Record
		for range r.Intn(5) {
			list = append(list, someRecord(r, 4, 30))
		}
		all, _ := framesOf(t, list)
		if len(all) > 0 && r.Intn(2) == 0 {
			all[r.Intn(len(all))] ^= byte(1 + r.Intn(255))
		}
		all = append(all, someBytes(r, r.Intn(3)*r.Intn(8))...)
		cut := r.Intn(len(all) + 1)
		checkLog(t, diskOf(all[:cut], all[cut:]))
	}
}

func TestLogsKeepToThemselves(t *testing.T) {
	list := logRecords()
	all, _ := framesOf(t, list)
	// A record that was appended is no longer the caller's.
	r := recordOf(1, []int{1, 2, 3}, "abc", "de")
	kept := cloneRecord(r)
	d, _ := impl.AppendLog(impl.Disk{}, r)
	w, _ := impl.RewriteLog(impl.Disk{}, []impl.Record{r})
	spoilRecord(r)
	expectRead(t, d, []impl.Record{kept}, impl.ScanFine, 1)
	expectRead(t, w, []impl.Record{kept}, impl.ScanFine, 0)
	// Two logs that go on from one disk do not meet.
	base := impl.SyncLog(d)
	one, _ := impl.AppendLog(base, recordOf(2, nil))
	two, _ := impl.AppendLog(base, recordOf(3, nil))
	third, _ := impl.AppendLog(one, recordOf(4, nil))
	fourth, _ := impl.AppendLog(one, recordOf(5, nil))
	expectRead(t, one, []impl.Record{kept, recordOf(2, nil)}, impl.ScanFine, 1)
	expectRead(t, two, []impl.Record{kept, recordOf(3, nil)}, impl.ScanFine, 1)
	expectRead(t, third, []impl.Record{kept, recordOf(2, nil), recordOf(4, nil)}, impl.ScanFine, 2)
	expectRead(t, fourth, []impl.Record{kept, recordOf(2, nil), recordOf(5, nil)}, impl.ScanFine, 2)
	// What was read is no part of the disk, and no record a part of another.
	disk := diskOf(slices.Clone(all[:15]), slices.Clone(all[15:]))
	got, _ := impl.ReadLog(disk)
	spoilBytes(disk.Safe)
	spoilBytes(disk.Loose)
	if !slices.EqualFunc(got, list, equalRecord) {
		t.Errorf("records share the disk that they were read from: %v", got)
	}
	for i := range got {
		spoilRecord(got[i])
		got[i] = list[i]
		if !slices.EqualFunc(got, list, equalRecord) {
			t.Errorf("the record %d shares memory with another", i)
		}
	}
	// Nothing is kept from one call to another.
	impl.ReadLog(wrongDisks()[0])
	impl.AppendLog(wrongDisks()[0], recordOf(9, nil))
	impl.RepairLog(diskOf([]byte{0, 2}, nil))
	expectRead(t, diskOf(all, nil), list, impl.ScanFine, 0)
	expectRepair(t, diskOf(all, []byte{0}), all)
}
