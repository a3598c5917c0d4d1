package tests

import (
	"bytes"
	"encoding/binary"
	"math"
	"math/rand"
	"slices"
	"testing"

	"loop.example/g00705/impl"
)

const (
	topKey   = 1 << 40
	topFirst = 1000000
)

func wantWideOk(x int) bool { return x >= 0 && x <= topKey }

func wantWide(x int) []byte {
	if !wantWideOk(x) {
		return nil
	}
	return binary.LittleEndian.AppendUint64(nil, uint64(x))
}

// wantStream works with big numbers, so that no product can wrap round.
func wantStream(key int, nonce int, n int) []byte {
	if !wantWideOk(key) || !wantWideOk(nonce) || n < 0 || n > 2000 {
		return nil
	}
	m := bigOf(2147483629)
	h := bigOf(key%2147483629 + 2*(nonce%2147483629) + 1)
	h.Mod(h, m)
	var stream []byte
	for range n {
		h.Mod(h.Add(h.Mul(h, bigOf(48271)), bigOf(key%65521+1)), m)
		stream = append(stream, byte(h.Int64()/1024%256))
	}
	return stream
}

func wantTag(key int, nonce int, data []byte) int {
	if !wantWideOk(key) || !wantWideOk(nonce) || len(data) > 2000 {
		return -1
	}
	return wantDigest(slices.Concat(wantWide(key), wantWide(nonce), data))
}

func wantBox(key int, nonce int, plain []byte) (impl.Box, bool) {
	if !wantWideOk(key) || !wantWideOk(nonce) || len(plain) > 2000 {
		return impl.Box{}, false
	}
	data := wantStream(key, nonce, len(plain))
	for i := range data {
		data[i] ^= plain[i]
	}
	return impl.Box{Nonce: nonce, Data: data, Tag: wantTag(key, nonce, data)}, true
}

// wantOpened finds the only bytes that can be meant, seals them, and holds the boxes against each other.
func wantOpened(key int, b impl.Box) ([]byte, bool) {
	guess, ok := wantBox(key, b.Nonce, b.Data)
	if !ok {
		return nil, false
	}
	plain := guess.Data
	sealed, _ := wantBox(key, b.Nonce, plain)
	if !sameBox(sealed, b) {
		return nil, false
	}
	return plain, true
}

func wantRing(r impl.KeyRing) bool {
	if r.First < 1 || r.First > 1000000 || len(r.Secrets) == 0 || len(r.Secrets) > 12 {
		return false
	}
	return !slices.ContainsFunc(r.Secrets, func(key int) bool { return !wantWideOk(key) })
}

// versionsOf lays the keys of a ring out by their versions.
func versionsOf(r impl.KeyRing) map[int]int {
	keys := map[int]int{}
	for i, key := range r.Secrets {
		keys[r.First+i] = key
	}
	return keys
}

func wantRingSeal(r impl.KeyRing, nonce int, plain []byte) (impl.Cipher, bool) {
	if !wantRing(r) {
		return impl.Cipher{}, false
	}
	last := r.First + len(r.Secrets) - 1
	box, ok := wantBox(versionsOf(r)[last], nonce, plain)
	if !ok {
		return impl.Cipher{}, false
	}
	return impl.Cipher{Version: last, Box: box}, true
}

func wantRingOpen(r impl.KeyRing, c impl.Cipher) ([]byte, bool) {
	if !wantRing(r) {
		return nil, false
	}
	key, found := versionsOf(r)[c.Version]
	if !found {
		return nil, false
	}
	return wantOpened(key, c.Box)
}

func wantRotate(r impl.KeyRing, key int) (impl.KeyRing, bool) {
	more := impl.KeyRing{First: r.First, Secrets: append(slices.Clone(r.Secrets), key)}
	if len(more.Secrets) == 13 {
		more = impl.KeyRing{First: r.First + 1, Secrets: more.Secrets[1:]}
	}
	if !wantRing(r) || !wantRing(more) {
		return r, false
	}
	return more, true
}

func wantTrim(r impl.KeyRing, from int) (impl.KeyRing, bool) {
	if !wantRing(r) {
		return r, false
	}
	if _, found := versionsOf(r)[from]; !found || from > 1000000 {
		return r, false
	}
	return impl.KeyRing{First: from, Secrets: r.Secrets[from-r.First:]}, true
}

func wantRewrap(r impl.KeyRing, nonce int, c impl.Cipher) (impl.Cipher, bool) {
	plain, ok := wantRingOpen(r, c)
	if !ok {
		return impl.Cipher{}, false
	}
	return wantRingSeal(r, nonce, plain)
}

func ringOf(first int, secrets ...int) impl.KeyRing {
	return impl.KeyRing{First: first, Secrets: secrets}
}

func sameBox(a impl.Box, b impl.Box) bool {
	return a.Nonce == b.Nonce && a.Tag == b.Tag && bytes.Equal(a.Data, b.Data)
}

func sameCipher(a impl.Cipher, b impl.Cipher) bool {
	return a.Version == b.Version && sameBox(a.Box, b.Box)
}

func sameRing(a impl.KeyRing, b impl.KeyRing) bool {
	return a.First == b.First && slices.Equal(a.Secrets, b.Secrets)
}

func cloneBox(b impl.Box) impl.Box {
	b.Data = slices.Clone(b.Data)
	return b
}

func cloneCipher(c impl.Cipher) impl.Cipher {
	c.Box = cloneBox(c.Box)
	return c
}

func cloneRing(r impl.KeyRing) impl.KeyRing {
	return ringOf(r.First, slices.Clone(r.Secrets)...)
}

// spoilNums writes over all that can be reached from the list.
func spoilNums(list []int) {
	whole := list[:cap(list)]
	for i := range whole {
		whole[i] = -7
	}
}

func someKey(r *rand.Rand) int { return r.Intn(topKey + 1) }

func someKeys(r *rand.Rand, n int) []int {
	var keys []int
	for range n {
		keys = append(keys, someKey(r))
	}
	return keys
}

func wideEdges() []int {
	return []int{math.MinInt, math.MinInt + 1, -topKey, -1 << 32, -2, -1, 0, 1, 2, 255, 256, 65520, 65521, 65522, 1073741814, 1073741815, 2147483628, 2147483629, 2147483630, 2147483648, 4294967257, 1 << 32, topKey - 1, topKey, topKey + 1, topKey + 2, 1 << 48, math.MaxInt - 1, math.MaxInt}
}

func plainLengths() []int {
	return []int{0, 1, 2, 3, 16, 255, 256, 1999, 2000, 2001, 2002, 4000, 100000}
}

type boxVector struct {
	key, nonce  int
	first, last []byte
	box         []byte
	bare, tag   int
}

// boxVectors were worked out outside of the program: the first bytes and the last three of 2000 of Stream, the box of "latch!", the tag of nothing and that of the box.
func boxVectors() []boxVector {
	return []boxVector{
		{0, 0, []byte{47, 197, 165, 0, 221, 43}, []byte{57, 111, 112}, []byte{67, 164, 209, 99, 181, 10}, 4578354598216758724, 918091759212961939},
		{0, topKey, []byte{204, 255, 106, 147, 41, 42}, []byte{172, 151, 55}, []byte{160, 158, 30, 240, 65, 11}, 4578391451183660821, 679276500461961699},
		{topKey, 0, []byte{181, 6, 100, 129, 49, 121}, []byte{78, 20, 204}, []byte{217, 103, 16, 226, 89, 88}, 2473962971489111474, 2927173492878609456},
		{topKey, topKey, []byte{82, 65, 41, 20, 126, 120}, []byte{193, 59, 147}, []byte{62, 32, 93, 119, 22, 89}, 2473999824456013571, 2865168468151396427},
		{5, 9, []byte{107, 42, 170, 95, 183, 133}, []byte{190, 99, 172}, []byte{7, 75, 222, 60, 223, 164}, 2227132669671002455, 1323511134372600184},
		{2147483629, 2147483628, []byte{240, 111, 209, 143, 232, 241}, []byte{145, 70, 145}, []byte{156, 14, 165, 236, 128, 208}, 3938075290300874154, 4445837780380244377},
		{65521, 1073741814, []byte{252, 204, 121, 123, 218, 95}, []byte{71, 194, 248}, []byte{144, 173, 13, 24, 178, 126}, 1054968472004038479, 1828929109969512089},
		{65520, 1, []byte{155, 6, 79, 26, 249, 94}, []byte{10, 43, 74}, []byte{247, 103, 59, 121, 145, 127}, 684616141373791912, 3470504993736686543},
	}
}

func TestBoxLimits(t *testing.T) {
	if impl.MaxKey != topKey || impl.MaxPlain != 2000 || impl.MaxKeys != 12 {
		t.Error("limits")
	}
}

func TestBoxVectors(t *testing.T) {
	for _, v := range boxVectors() {
		whole := impl.Stream(v.key, v.nonce, 2000)
		if len(whole) != 2000 || !bytes.HasPrefix(whole, v.first) || !bytes.HasSuffix(whole, v.last) {
			t.Errorf("Stream(%d, %d, 2000) has %d bytes: %.6v", v.key, v.nonce, len(whole), whole)
		}
		if got := impl.TagOf(v.key, v.nonce, nil); got != v.bare {
			t.Errorf("TagOf(%d, %d, nothing) = %d, not %d", v.key, v.nonce, got, v.bare)
		}
		want := impl.Box{Nonce: v.nonce, Data: v.box, Tag: v.tag}
		if got, ok := impl.SealBox(v.key, v.nonce, []byte("latch!")); !ok || !sameBox(got, want) {
			t.Errorf("SealBox(%d, %d) = %v, %v, not %v", v.key, v.nonce, got, ok, want)
		}
		if plain, ok := impl.OpenBox(v.key, want); !ok || string(plain) != "latch!" {
			t.Errorf("OpenBox(%d, %v) = %q, %v", v.key, want, plain, ok)
		}
	}
}

func TestStream(t *testing.T) {
	for _, key := range wideEdges() {
		for _, nonce := range wideEdges() {
			for _, n := range []int{-1, 0, 1, 9} {
				if got := impl.Stream(key, nonce, n); !bytes.Equal(got, wantStream(key, nonce, n)) {
					t.Errorf("Stream(%d, %d, %d) = %v, not %v", key, nonce, n, got, wantStream(key, nonce, n))
				}
			}
		}
	}
	for _, n := range append(plainLengths(), -1, -2, math.MinInt, math.MaxInt, 1<<32, 1<<32+5) {
		for _, key := range []int{-1, 0, 77, topKey, topKey + 1} {
			got := impl.Stream(key, 5, n)
			if !bytes.Equal(got, wantStream(key, 5, n)) {
				t.Errorf("Stream(%d, 5, %d) has %d bytes", key, n, len(got))
			}
			if full := key >= 0 && key <= topKey && n >= 0 && n <= 2000; full && len(got) != n || !full && len(got) != 0 {
				t.Errorf("Stream(%d, 5, %d) has %d bytes", key, n, len(got))
			}
		}
	}
}

func TestStreamAtRandom(t *testing.T) {
	r := rand.New(rand.NewSource(51))
	for range 300 {
		key, nonce, n := someKey(r), someKey(r), r.Intn(300)
		got := impl.Stream(key, nonce, n)
		if !bytes.Equal(got, wantStream(key, nonce, n)) {
			t.Fatalf("Stream(%d, %d, %d) = %.20v", key, nonce, n, got)
		}
		// A shorter stream is the beginning of a longer one, and each answer is new.
		longer := impl.Stream(key, nonce, n+5)
		spoilBytes(got)
		if !bytes.Equal(longer, wantStream(key, nonce, n+5)) || !bytes.HasPrefix(longer, impl.Stream(key, nonce, n)) {
			t.Fatalf("Stream(%d, %d, %d) and a longer one", key, nonce, n)
		}
	}
}

func TestPutWide(t *testing.T) {
	r := rand.New(rand.NewSource(52))
	numbers := wideEdges()
	for bit := range 63 {
		numbers = append(numbers, 1<<bit, 1<<bit-1, 1<<bit+1, -1<<bit)
	}
	for range 500 {
		numbers = append(numbers, someKey(r))
	}
	for _, x := range numbers {
		got := impl.PutWide(x)
		if !bytes.Equal(got, wantWide(x)) || wantWideOk(x) != (len(got) == 8) {
			t.Errorf("PutWide(%d) = %v, not %v", x, got, wantWide(x))
		}
		spoilBytes(got)
		if !bytes.Equal(impl.PutWide(x), wantWide(x)) {
			t.Errorf("PutWide(%d) is not new", x)
		}
	}
	if got := impl.PutWide(topKey); !bytes.Equal(got, []byte{0, 0, 0, 0, 0, 1, 0, 0}) {
		t.Errorf("PutWide of the greatest key = %v", got)
	}
}

func TestTagOf(t *testing.T) {
	r := rand.New(rand.NewSource(53))
	for _, key := range wideEdges() {
		for _, nonce := range wideEdges() {
			for _, data := range [][]byte{nil, {}, {0}, {255, 0, 7}} {
				kept := slices.Clone(data)
				if got := impl.TagOf(key, nonce, data); got != wantTag(key, nonce, data) || !bytes.Equal(data, kept) {
					t.Errorf("TagOf(%d, %d, %v) = %d, not %d", key, nonce, data, got, wantTag(key, nonce, kept))
				}
			}
		}
	}
	for _, n := range plainLengths() {
		data := someBytes(r, n)
		got := impl.TagOf(5, 9, data)
		if got != wantTag(5, 9, data) || (got == -1) != (n > 2000) {
			t.Errorf("TagOf of %d bytes = %d, not %d", n, got, wantTag(5, 9, data))
		}
	}
	if impl.TagOf(1, 2, nil) == impl.TagOf(2, 1, nil) {
		t.Error("key and nonce are not told apart")
	}
}

// checkBox holds SealBox, and OpenBox of what it made, against the document's words.
func checkBox(t *testing.T, key int, nonce int, plain []byte) impl.Box {
	t.Helper()
	kept := slices.Clone(plain)
	got, ok := impl.SealBox(key, nonce, plain)
	want, wantOk := wantBox(key, nonce, kept)
	if ok != wantOk || !sameBox(got, want) {
		t.Errorf("SealBox(%d, %d, %.20v) = %.40v, %v, not %.40v, %v", key, nonce, plain, got, ok, want, wantOk)
	}
	answer := cloneBox(got)
	spoilBytes(got.Data)
	if !bytes.Equal(plain, kept) {
		t.Errorf("SealBox(%d, %d, %.20v) changes or shares its bytes", key, nonce, kept)
	}
	if opened, good := impl.OpenBox(key, answer); good != wantOk || wantOk && !bytes.Equal(opened, kept) {
		t.Errorf("what SealBox(%d, %d, %.20v) made opens to %.20v, %v", key, nonce, kept, opened, good)
	}
	return answer
}

func checkOpen(t *testing.T, key int, b impl.Box) bool {
	t.Helper()
	kept := cloneBox(b)
	got, ok := impl.OpenBox(key, b)
	want, wantOk := wantOpened(key, kept)
	if ok != wantOk || !bytes.Equal(got, want) {
		t.Errorf("OpenBox(%d, %.40v) = %.20v, %v, not %.20v, %v", key, b, got, ok, want, wantOk)
	}
	spoilBytes(got)
	if !sameBox(b, kept) {
		t.Errorf("OpenBox(%d, %.40v) changes or shares its box", key, kept)
	}
	return ok
}

func TestSealBoxEdges(t *testing.T) {
	r := rand.New(rand.NewSource(54))
	for _, key := range wideEdges() {
		for _, nonce := range wideEdges() {
			for _, plain := range [][]byte{nil, {}, {0}, {255}, []byte("AB")} {
				checkBox(t, key, nonce, plain)
			}
		}
	}
	for _, n := range plainLengths() {
		for _, key := range []int{-1, 0, 31, topKey, topKey + 1} {
			box := checkBox(t, key, 7, someBytes(r, n))
			if good := key >= 0 && key <= topKey && n <= 2000; good && len(box.Data) != n || !good && !sameBox(box, impl.Box{}) {
				t.Errorf("the box of %d bytes by %d has %d", n, key, len(box.Data))
			}
		}
		checkBox(t, 31, -1, someBytes(r, n))
		checkBox(t, 31, topKey+1, someBytes(r, n))
	}
	// The room behind the bytes is no part of them.
	checkBox(t, 5, 9, make([]byte, 0, 3000))
	checkBox(t, 5, 9, make([]byte, 2000, 3000))
}

func TestSealBoxAtRandom(t *testing.T) {
	r := rand.New(rand.NewSource(55))
	for range 400 {
		key := someKey(r)
		box := checkBox(t, key, someKey(r), someBytes(r, r.Intn(120)))
		other := someKey(r)
		if checkOpen(t, other, box) != (other == key) {
			t.Errorf("a box by %d is opened by %d", key, other)
		}
	}
}

func TestBentBoxIsNotOpened(t *testing.T) {
	for _, n := range []int{0, 1, 2, 5, 200} {
		for _, nonce := range []int{0, 9, topKey} {
			for _, key := range []int{0, 5, topKey} {
				box, ok := impl.SealBox(key, nonce, bytes.Repeat([]byte{65}, n))
				if !ok {
					t.Fatalf("SealBox(%d, %d) of %d bytes", key, nonce, n)
				}
				for _, bent := range bentBoxes(box) {
					if checkOpen(t, key, bent) {
						t.Errorf("%.60v, bent from %.60v, opens", bent, box)
					}
				}
				for _, other := range wideEdges() {
					if checkOpen(t, other, box) != (other == key) {
						t.Errorf("a box by %d is opened by %d", key, other)
					}
				}
			}
		}
	}
}

// bentBoxes are each turned in one thing alone.
func bentBoxes(b impl.Box) []impl.Box {
	var all []impl.Box
	bend := func(change func(b *impl.Box)) {
		bent := cloneBox(b)
		change(&bent)
		all = append(all, bent)
	}
	for bit := range 64 {
		bend(func(b *impl.Box) { b.Tag ^= 1 << bit })
		bend(func(b *impl.Box) { b.Nonce ^= 1 << bit })
	}
	for _, tag := range []int{0, -1, -b.Tag, b.Tag - 1, b.Tag + 1, math.MinInt, math.MaxInt} {
		bend(func(b *impl.Box) { b.Tag = tag })
	}
	for _, nonce := range wideEdges() {
		if nonce != b.Nonce {
			bend(func(b *impl.Box) { b.Nonce = nonce })
			bend(func(b *impl.Box) { b.Nonce, b.Tag = nonce, -1 })
		}
	}
	for i := range b.Data {
		for bit := range 8 {
			bend(func(b *impl.Box) { b.Data[i] ^= 1 << bit })
		}
	}
	for _, more := range []byte{0, 1, 255} {
		bend(func(b *impl.Box) { b.Data = append(b.Data, more) })
		bend(func(b *impl.Box) { b.Data = append([]byte{more}, b.Data...) })
	}
	if len(b.Data) > 0 {
		bend(func(b *impl.Box) { b.Data = b.Data[1:] })
		bend(func(b *impl.Box) { b.Data = b.Data[:len(b.Data)-1] })
		bend(func(b *impl.Box) { b.Data = nil })
	}
	return all
}

func TestEachByteOfALongBox(t *testing.T) {
	plain := bytes.Repeat([]byte{7}, 2000)
	box, _ := impl.SealBox(topKey, topKey, plain)
	for i := range plain {
		bent := cloneBox(box)
		bent.Data[i] ^= byte(1 + i%255)
		if got, ok := impl.OpenBox(topKey, bent); ok || len(got) != 0 {
			t.Fatalf("byte %d, turned, is not told", i)
		}
	}
	if got, ok := impl.OpenBox(topKey, box); !ok || !bytes.Equal(got, plain) {
		t.Error("a full box")
	}
}

// A box that TagOf refuses has the tag -1 there, which opens nothing.
func TestOpenBoxOfWhatCanNotBeSealed(t *testing.T) {
	long := make([]byte, 2001)
	boxes := []impl.Box{
		{},
		{Tag: -1},
		{Nonce: -1, Tag: -1},
		{Nonce: topKey + 1, Tag: -1},
		{Nonce: -1, Tag: wantDigest(nil)},
		{Nonce: -1, Tag: wantDigest(wantWide(5))},
		{Nonce: 3, Tag: wantDigest(wantWide(3))},
		{Nonce: 3, Data: long, Tag: -1},
		{Nonce: 3, Data: long, Tag: wantDigest(slices.Concat(wantWide(5), wantWide(3), long))},
		{Nonce: 3, Data: make([]byte, 100000), Tag: -1},
	}
	for _, b := range boxes {
		for _, key := range wideEdges() {
			if checkOpen(t, key, b) {
				t.Errorf("OpenBox(%d, %.40v) opens", key, b)
			}
		}
	}
}

// wrongRings are each wrong by one thing alone.
func wrongRings() []impl.KeyRing {
	r := rand.New(rand.NewSource(56))
	rings := []impl.KeyRing{
		{},
		ringOf(1),
		ringOf(topFirst),
		{First: 1, Secrets: make([]int, 0, 5)},
		ringOf(0, 5),
		ringOf(-1, 5),
		ringOf(topFirst+1, 5),
		ringOf(topFirst+2, 5, 6),
		ringOf(math.MinInt, 5),
		ringOf(math.MaxInt, 5),
		ringOf(math.MaxInt, 5, 6),
		ringOf(1<<32+1, 5),
		ringOf(0, someKeys(r, 12)...),
		ringOf(topFirst+1, someKeys(r, 12)...),
		ringOf(1, someKeys(r, 13)...),
		ringOf(topFirst, someKeys(r, 13)...),
		ringOf(3, make([]int, 100000)...),
	}
	for _, wrong := range []int{-1, topKey + 1, math.MinInt, math.MaxInt} {
		rings = append(rings, ringOf(1, wrong), ringOf(1, wrong, 5), ringOf(1, 5, wrong))
		for place := range 12 {
			keys := someKeys(r, 12)
			keys[place] = wrong
			rings = append(rings, ringOf(4, keys...))
		}
	}
	return rings
}

// goodRings have each number of keys at each edge of First.
func goodRings() []impl.KeyRing {
	r := rand.New(rand.NewSource(57))
	rings := []impl.KeyRing{ringOf(1, 0), ringOf(1, topKey), ringOf(topFirst, 0), ringOf(1, 5, 5, 5), ringOf(2, 0, topKey, 0, topKey)}
	for _, first := range []int{1, 2, 500, topFirst - 12, topFirst - 11, topFirst - 2, topFirst - 1, topFirst} {
		for n := 1; n <= 12; n++ {
			rings = append(rings, ringOf(first, someKeys(r, n)...))
		}
	}
	return rings
}

func TestRingOk(t *testing.T) {
	for _, ring := range goodRings() {
		if !impl.RingOk(ring) || !wantRing(ring) {
			t.Errorf("%v is refused", ring)
		}
	}
	for _, ring := range wrongRings() {
		if impl.RingOk(ring) || wantRing(ring) {
			t.Errorf("%.60v is taken", ring)
		}
	}
	for _, key := range wideEdges() {
		for _, first := range []int{math.MinInt, -1, 0, 1, 2, topFirst - 1, topFirst, topFirst + 1, math.MaxInt} {
			want := key >= 0 && key <= topKey && first >= 1 && first <= topFirst
			if impl.RingOk(ringOf(first, key)) != want || impl.RingOk(ringOf(first, 0, key, 1)) != want {
				t.Errorf("RingOk with First %d and the key %d is not %v", first, key, want)
			}
		}
	}
	for n := range 16 {
		if impl.RingOk(ringOf(1, make([]int, n)...)) != (n >= 1 && n <= 12) {
			t.Errorf("RingOk of %d keys", n)
		}
	}
}

func checkRingSeal(t *testing.T, r impl.KeyRing, nonce int, plain []byte) (impl.Cipher, bool) {
	t.Helper()
	keptRing, keptPlain := cloneRing(r), slices.Clone(plain)
	got, ok := impl.RingSeal(r, nonce, plain)
	want, wantOk := wantRingSeal(keptRing, nonce, keptPlain)
	if ok != wantOk || !sameCipher(got, want) {
		t.Errorf("RingSeal(%.60v, %d, %.20v) = %.40v, %v, not %.40v, %v", r, nonce, plain, got, ok, want, wantOk)
	}
	answer := cloneCipher(got)
	spoilBytes(got.Box.Data)
	if !sameRing(r, keptRing) || !bytes.Equal(plain, keptPlain) {
		t.Errorf("RingSeal(%.60v, %d, %.20v) changes or shares what it was given", keptRing, nonce, keptPlain)
	}
	return answer, ok
}

func checkRingOpen(t *testing.T, r impl.KeyRing, c impl.Cipher) bool {
	t.Helper()
	keptRing, kept := cloneRing(r), cloneCipher(c)
	got, ok := impl.RingOpen(r, c)
	want, wantOk := wantRingOpen(keptRing, kept)
	if ok != wantOk || !bytes.Equal(got, want) {
		t.Errorf("RingOpen(%.60v, %.40v) = %.20v, %v, not %.20v, %v", r, c, got, ok, want, wantOk)
	}
	spoilBytes(got)
	if !sameRing(r, keptRing) || !sameCipher(c, kept) {
		t.Errorf("RingOpen(%.60v, %.40v) changes or shares what it was given", keptRing, kept)
	}
	return ok
}

func checkRotate(t *testing.T, r impl.KeyRing, key int) (impl.KeyRing, bool) {
	t.Helper()
	kept := cloneRing(r)
	got, ok := impl.RotateRing(r, key)
	want, wantOk := wantRotate(kept, key)
	if ok != wantOk || !sameRing(got, want) {
		t.Errorf("RotateRing(%.80v, %d) = %.80v, %v, not %.80v, %v", r, key, got, ok, want, wantOk)
	}
	answer := cloneRing(got)
	spoilNums(got.Secrets)
	if !sameRing(r, kept) {
		t.Errorf("RotateRing(%.80v, %d) changes or shares its ring", kept, key)
	}
	return answer, ok
}

func checkTrim(t *testing.T, r impl.KeyRing, from int) (impl.KeyRing, bool) {
	t.Helper()
	kept := cloneRing(r)
	got, ok := impl.TrimRing(r, from)
	want, wantOk := wantTrim(kept, from)
	if ok != wantOk || !sameRing(got, want) {
		t.Errorf("TrimRing(%.80v, %d) = %.80v, %v, not %.80v, %v", r, from, got, ok, want, wantOk)
	}
	answer := cloneRing(got)
	spoilNums(got.Secrets)
	if !sameRing(r, kept) {
		t.Errorf("TrimRing(%.80v, %d) changes or shares its ring", kept, from)
	}
	return answer, ok
}

func checkRewrap(t *testing.T, r impl.KeyRing, nonce int, c impl.Cipher) (impl.Cipher, bool) {
	t.Helper()
	keptRing, kept := cloneRing(r), cloneCipher(c)
	got, ok := impl.Rewrap(r, nonce, c)
	want, wantOk := wantRewrap(keptRing, nonce, kept)
	if ok != wantOk || !sameCipher(got, want) {
		t.Errorf("Rewrap(%.60v, %d, %.40v) = %.40v, %v, not %.40v, %v", r, nonce, c, got, ok, want, wantOk)
	}
	answer := cloneCipher(got)
	spoilBytes(got.Box.Data)
	if !sameRing(r, keptRing) || !sameCipher(c, kept) {
		t.Errorf("Rewrap(%.60v, %d, %.40v) changes or shares what it was given", keptRing, nonce, kept)
	}
	return answer, ok
}

func TestRingSealEdges(t *testing.T) {
	for _, ring := range goodRings() {
		c, ok := checkRingSeal(t, ring, 9, []byte("AB"))
		last := ring.Secrets[len(ring.Secrets)-1]
		box, _ := impl.SealBox(last, 9, []byte("AB"))
		if !ok || c.Version != ring.First+len(ring.Secrets)-1 || !sameBox(c.Box, box) {
			t.Errorf("RingSeal(%v) = %v, %v", ring, c, ok)
		}
		for _, nonce := range []int{-1, 0, topKey, topKey + 1, math.MinInt, math.MaxInt} {
			checkRingSeal(t, ring, nonce, nil)
		}
	}
	ring := ringOf(3, 5, 6)
	for _, n := range plainLengths() {
		if _, ok := checkRingSeal(t, ring, 9, make([]byte, n)); ok != (n <= 2000) {
			t.Errorf("RingSeal of %d bytes: %v", n, ok)
		}
	}
	for _, wrong := range wrongRings() {
		if c, ok := checkRingSeal(t, wrong, 9, []byte("AB")); ok || !sameCipher(c, impl.Cipher{}) {
			t.Errorf("RingSeal(%.60v) = %v, %v", wrong, c, ok)
		}
	}
}

// farVersions are the versions at both ends of a ring, those beside them, and numbers that would wrap round.
func farVersions(r impl.KeyRing) []int {
	last := r.First + len(r.Secrets) - 1
	return []int{r.First - 2, r.First - 1, r.First, r.First + 1, (r.First + last) / 2, last - 1, last, last + 1, last + 2, r.First + 12, -1, 0, 1, topFirst, math.MinInt, math.MinInt + r.First, math.MaxInt, math.MaxInt - r.First, r.First + 1<<32}
}

func TestRingOpenEdges(t *testing.T) {
	for _, ring := range goodRings() {
		last := ring.First + len(ring.Secrets) - 1
		for place, key := range ring.Secrets {
			box, _ := impl.SealBox(key, 9, []byte("AB"))
			version := ring.First + place
			got, ok := impl.RingOpen(ring, impl.Cipher{Version: version, Box: box})
			if !ok || string(got) != "AB" {
				t.Errorf("RingOpen(%v) of the version %d = %q, %v", ring, version, got, ok)
			}
			for _, other := range farVersions(ring) {
				want := other >= ring.First && other <= last && ring.Secrets[other-ring.First] == key
				opens := checkRingOpen(t, ring, impl.Cipher{Version: other, Box: box})
				if opens != want {
					t.Errorf("RingOpen(%v) of what the version %d sealed, as %d: %v", ring, version, other, opens)
				}
			}
		}
	}
}

func TestRingOpenWrong(t *testing.T) {
	box, _ := impl.SealBox(5, 9, []byte("AB"))
	for _, wrong := range wrongRings() {
		for _, version := range farVersions(wrong) {
			if checkRingOpen(t, wrong, impl.Cipher{Version: version, Box: box}) {
				t.Errorf("RingOpen(%.60v) of the version %d opens", wrong, version)
			}
		}
	}
	ring := ringOf(7, 4, 5, 6)
	for _, bent := range append(bentBoxes(box), impl.Box{}, impl.Box{Nonce: -1, Tag: -1}, impl.Box{Data: make([]byte, 2001), Tag: -1}) {
		for version := 6; version <= 10; version++ {
			if checkRingOpen(t, ring, impl.Cipher{Version: version, Box: bent}) {
				t.Errorf("a bent box %v opens as the version %d", bent, version)
			}
		}
	}
	if !checkRingOpen(t, ring, impl.Cipher{Version: 8, Box: box}) || checkRingOpen(t, ring, impl.Cipher{Box: box}) {
		t.Error("the box itself")
	}
}

func TestRotateRingEdges(t *testing.T) {
	for _, ring := range goodRings() {
		for _, key := range wideEdges() {
			got, ok := checkRotate(t, ring, key)
			full := len(ring.Secrets) == 12
			good := key >= 0 && key <= topKey && !(full && ring.First == topFirst)
			if ok != good || !good && !sameRing(got, ring) {
				t.Fatalf("RotateRing(%v, %d) = %v, %v", ring, key, got, ok)
			}
			if good && full && (got.First != ring.First+1 || len(got.Secrets) != 12) {
				t.Errorf("RotateRing of the full ring %v = %v", ring, got)
			}
			if good && !full && (got.First != ring.First || len(got.Secrets) != len(ring.Secrets)+1) {
				t.Errorf("RotateRing(%v, %d) = %v", ring, key, got)
			}
			if good && got.First+len(got.Secrets) != ring.First+len(ring.Secrets)+1 {
				t.Errorf("RotateRing(%v, %d) = %v: not one version more", ring, key, got)
			}
		}
	}
	for _, wrong := range wrongRings() {
		for _, key := range []int{-1, 0, 5, topKey, topKey + 1} {
			if got, ok := checkRotate(t, wrong, key); ok || !sameRing(got, wrong) {
				t.Errorf("RotateRing(%.60v, %d) = %.60v, %v", wrong, key, got, ok)
			}
		}
	}
}

func TestRotateRingToItsEnd(t *testing.T) {
	ring := ringOf(topFirst-3, 100)
	for turn := 1; turn <= 14; turn++ {
		next, ok := checkRotate(t, ring, 100+turn)
		if !ok {
			t.Fatalf("rotation %d of %v is refused", turn, ring)
		}
		ring = next
	}
	if ring.First != topFirst || len(ring.Secrets) != 12 || ring.Secrets[0] != 103 || ring.Secrets[11] != 114 {
		t.Errorf("the ring at its end is %v", ring)
	}
	if next, ok := checkRotate(t, ring, 115); ok || !sameRing(next, ring) {
		t.Errorf("behind its end: %v, %v", next, ok)
	}
	c, ok := checkRingSeal(t, ring, 1, []byte("end"))
	if !ok || c.Version != topFirst+11 || !checkRingOpen(t, ring, c) {
		t.Errorf("the last version of all seals %v, %v", c, ok)
	}
}

func TestTrimRingEdges(t *testing.T) {
	for _, ring := range goodRings() {
		last := ring.First + len(ring.Secrets) - 1
		for _, from := range append(farVersions(ring), topFirst-1, topFirst+1, topFirst+2) {
			got, ok := checkTrim(t, ring, from)
			good := from >= ring.First && from <= last && from <= topFirst
			if ok != good || !good && !sameRing(got, ring) {
				t.Fatalf("TrimRing(%v, %d) = %v, %v", ring, from, got, ok)
			}
			if good && (got.First != from || len(got.Secrets) != last-from+1 || got.Secrets[len(got.Secrets)-1] != ring.Secrets[len(ring.Secrets)-1]) {
				t.Errorf("TrimRing(%v, %d) = %v", ring, from, got)
			}
		}
		if got, ok := checkTrim(t, ring, ring.First); !ok || !sameRing(got, ring) {
			t.Errorf("TrimRing(%v) at its first version = %v, %v", ring, got, ok)
		}
	}
	for _, wrong := range wrongRings() {
		for _, from := range farVersions(wrong) {
			if got, ok := checkTrim(t, wrong, from); ok || !sameRing(got, wrong) {
				t.Errorf("TrimRing(%.60v, %d) = %.60v, %v", wrong, from, got, ok)
			}
		}
	}
}

func TestTrimRingAtTheHighestFirst(t *testing.T) {
	ring := ringOf(topFirst-1, 5, 6, 7)
	if got, ok := checkTrim(t, ring, topFirst); !ok || !sameRing(got, ringOf(topFirst, 6, 7)) {
		t.Errorf("to the highest First: %v, %v", got, ok)
	}
	if got, ok := checkTrim(t, ring, topFirst+1); ok || !sameRing(got, ring) {
		t.Errorf("beyond the highest First: %v, %v", got, ok)
	}
	ring = ringOf(topFirst, 5, 6)
	if got, ok := checkTrim(t, ring, topFirst); !ok || !sameRing(got, ring) {
		t.Errorf("at the highest First: %v, %v", got, ok)
	}
}

func TestRewrapEdges(t *testing.T) {
	for _, ring := range goodRings() {
		last := ring.First + len(ring.Secrets) - 1
		for place, key := range ring.Secrets {
			box, _ := impl.SealBox(key, 9, []byte("AB"))
			c := impl.Cipher{Version: ring.First + place, Box: box}
			got, ok := checkRewrap(t, ring, 33, c)
			if !ok || got.Version != last || got.Box.Nonce != 33 {
				t.Fatalf("Rewrap(%v, 33, %v) = %v, %v", ring, c, got, ok)
			}
			if plain, good := impl.RingOpen(ring, got); !good || string(plain) != "AB" {
				t.Errorf("what Rewrap(%v) made of the version %d opens to %q, %v", ring, c.Version, plain, good)
			}
			for _, nonce := range []int{-1, 0, topKey, topKey + 1} {
				checkRewrap(t, ring, nonce, c)
			}
		}
		own, _ := impl.RingSeal(ring, 9, []byte("AB"))
		if again, ok := checkRewrap(t, ring, 9, own); !ok || !sameCipher(again, own) {
			t.Errorf("Rewrap(%v) with the nonce that it has: %v, %v", ring, again, ok)
		}
	}
	ring := ringOf(1, 5, 6)
	for _, n := range []int{0, 1, 1999, 2000} {
		box, _ := impl.SealBox(5, 9, make([]byte, n))
		if _, ok := checkRewrap(t, ring, 3, impl.Cipher{Version: 1, Box: box}); !ok {
			t.Errorf("Rewrap of %d bytes", n)
		}
	}
}

func TestRewrapWrong(t *testing.T) {
	box, _ := impl.SealBox(5, 9, []byte("AB"))
	ring := ringOf(7, 4, 5, 6)
	refuse := func(r impl.KeyRing, nonce int, c impl.Cipher) {
		t.Helper()
		if got, ok := checkRewrap(t, r, nonce, c); ok || !sameCipher(got, impl.Cipher{}) {
			t.Errorf("Rewrap(%.60v, %d, %.40v) = %v, %v", r, nonce, c, got, ok)
		}
	}
	for _, version := range []int{math.MinInt, 0, 6, 7, 9, 10, math.MaxInt} {
		refuse(ring, 3, impl.Cipher{Version: version, Box: box})
	}
	for _, nonce := range []int{math.MinInt, -1, topKey + 1, math.MaxInt} {
		refuse(ring, nonce, impl.Cipher{Version: 8, Box: box})
	}
	for _, bent := range bentBoxes(box) {
		refuse(ring, 3, impl.Cipher{Version: 8, Box: bent})
	}
	for _, wrong := range wrongRings() {
		refuse(wrong, 3, impl.Cipher{Version: wrong.First, Box: box})
	}
	refuse(ring, 3, impl.Cipher{})
	refuse(ring, 3, impl.Cipher{Version: 8, Box: impl.Box{Nonce: -1, Tag: -1}})
}

// sealedText is what was put into a cipher, beside the cipher.
type sealedText struct {
	plain  []byte
	cipher impl.Cipher
}

// checkKept asks that a ring opens just what its versions sealed, unchanged.
func checkKept(t *testing.T, ring impl.KeyRing, all []sealedText) {
	t.Helper()
	for _, s := range all {
		kept := s.cipher.Version >= ring.First && s.cipher.Version < ring.First+len(ring.Secrets)
		got, ok := impl.RingOpen(ring, s.cipher)
		if ok != kept || kept && !bytes.Equal(got, s.plain) || !kept && len(got) != 0 {
			t.Fatalf("%v of the version %d opens by %v to %v, %v", s.plain, s.cipher.Version, ring, got, ok)
		}
	}
}

func TestSealedThroughRotations(t *testing.T) {
	r := rand.New(rand.NewSource(58))
	ring := ringOf(1, someKey(r))
	var all []sealedText
	for turn := range 40 {
		plain := someBytes(r, r.Intn(30))
		c, ok := checkRingSeal(t, ring, someKey(r), plain)
		if !ok || c.Version != turn+1 {
			t.Fatalf("turn %d: %v, %v", turn, c, ok)
		}
		all = append(all, sealedText{plain, c})
		checkKept(t, ring, all)
		ring, ok = checkRotate(t, ring, someKey(r))
		if !ok || ring.First != max(1, turn-9) || len(ring.Secrets) != min(12, turn+2) {
			t.Fatalf("turn %d: %v, %v", turn, ring, ok)
		}
		checkKept(t, ring, all)
	}
}

func TestRingLivesAtRandom(t *testing.T) {
	r := rand.New(rand.NewSource(59))
	for range 30 {
		ring := ringOf(1+r.Intn(topFirst-100), someKeys(r, 1+r.Intn(12))...)
		var all []sealedText
		for range 60 {
			switch r.Intn(4) {
			case 0:
				ring, _ = checkRotate(t, ring, someKey(r))
			case 1:
				ring, _ = checkTrim(t, ring, ring.First-1+r.Intn(4))
			case 2:
				plain := someBytes(r, r.Intn(20))
				c, _ := checkRingSeal(t, ring, someKey(r), plain)
				all = append(all, sealedText{plain, c})
			case 3:
				rewrapSome(t, r, ring, all)
			}
			checkKept(t, ring, all)
		}
	}
}

// rewrapSome puts one of the ciphers under the ring's last key, as far as the ring still opens it.
func rewrapSome(t *testing.T, r *rand.Rand, ring impl.KeyRing, all []sealedText) {
	t.Helper()
	if len(all) == 0 {
		return
	}
	place := r.Intn(len(all))
	kept := all[place].cipher.Version >= ring.First
	c, ok := checkRewrap(t, ring, someKey(r), all[place].cipher)
	if ok != kept {
		t.Fatalf("Rewrap by %v of the version %d: %v", ring, all[place].cipher.Version, ok)
	}
	if ok {
		all[place].cipher = c
	}
}

func TestRewrappedIsOpenedByTheLast(t *testing.T) {
	r := rand.New(rand.NewSource(60))
	for n := 1; n <= 12; n++ {
		ring := ringOf(50, someKeys(r, n)...)
		last := 49 + n
		for place, key := range ring.Secrets {
			plain := someBytes(r, 40)
			box, _ := impl.SealBox(key, someKey(r), plain)
			old := impl.Cipher{Version: 50 + place, Box: box}
			fresh, ok := impl.Rewrap(ring, someKey(r), old)
			only, trimOk := impl.TrimRing(ring, last)
			if !ok || !trimOk {
				t.Fatalf("%v: %v, %v", ring, ok, trimOk)
			}
			got, opens := impl.RingOpen(only, fresh)
			_, oldOpens := impl.RingOpen(only, old)
			if !opens || !bytes.Equal(got, plain) || oldOpens != (old.Version == last) {
				t.Errorf("version %d of %d, behind a rewrap: %v, and as it was: %v", old.Version, last, opens, oldOpens)
			}
			for range 11 {
				only, _ = impl.RotateRing(only, someKey(r))
			}
			if got, opens = impl.RingOpen(only, fresh); !opens || !bytes.Equal(got, plain) {
				t.Errorf("behind 11 rotations: %v, %v", got, opens)
			}
			only, _ = impl.RotateRing(only, someKey(r))
			if got, opens = impl.RingOpen(only, fresh); opens || len(got) != 0 {
				t.Errorf("behind the rotation that drops it: %v, %v", got, opens)
			}
		}
	}
}

func TestRingsKeepToThemselves(t *testing.T) {
	room := make([]int, 2, 12)
	room[0], room[1] = 5, 6
	ring := impl.KeyRing{First: 1, Secrets: room}
	next, ok := impl.RotateRing(ring, 7)
	if !ok || room[:3][2] != 0 {
		t.Error("the room behind Secrets was written")
	}
	again, _ := impl.RotateRing(ring, 8)
	if !slices.Equal(next.Secrets, []int{5, 6, 7}) || !slices.Equal(again.Secrets, []int{5, 6, 8}) {
		t.Errorf("two rotations of one ring: %v, %v", next, again)
	}
	trimmed, _ := impl.TrimRing(ring, 2)
	refused, _ := impl.TrimRing(ring, 9)
	room[0], room[1] = 98, 99
	if !slices.Equal(next.Secrets, []int{5, 6, 7}) || !slices.Equal(trimmed.Secrets, []int{6}) || !slices.Equal(refused.Secrets, []int{5, 6}) {
		t.Errorf("rings that were answered change: %v, %v, %v", next, trimmed, refused)
	}
	// Nothing is kept from one call to another.
	first, _ := impl.SealBox(5, 9, []byte("AB"))
	impl.SealBox(6, 10, []byte("CDE"))
	second, _ := impl.SealBox(5, 9, []byte("AB"))
	if !sameBox(first, second) {
		t.Errorf("one box, sealed twice: %v, %v", first, second)
	}
}
