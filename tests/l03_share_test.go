package tests

import (
	"bytes"
	"fmt"
	"math"
	"math/big"
	"math/bits"
	"math/rand"
	"slices"
	"testing"

	"loop.example/g00705/impl"
)

const (
	topSeed  = 1<<31 - 1
	topPlace = 1000
)

// wantProduct works as on paper: the whole product first, and then its remainder by 283.
func wantProduct(a int, b int) int {
	wide := 0
	for bit := range 8 {
		if b>>bit%2 == 1 {
			wide ^= a << bit
		}
	}
	for bits.Len(uint(wide)) > 8 {
		wide ^= 283 << (bits.Len(uint(wide)) - 9)
	}
	return wide
}

var wantProducts = func() [256][256]int {
	var table [256][256]int
	for a := range table {
		for b := range table[a] {
			table[a][b] = wantProduct(a, b)
		}
	}
	return table
}()

// wantInverse is a to the 254: the bytes but 0 are a group of 255.
func wantInverse(a int) int {
	power := 1
	for range 254 {
		power = wantProducts[power][a]
	}
	return power
}

func bigOf(x int) *big.Int { return big.NewInt(int64(x)) }

func wantNoise(seed int, i int, j int) int {
	if seed < 0 || seed > 2147483647 || i < 0 || i > 1000 || j < 0 || j > 1000 {
		return -1
	}
	step := func(h *big.Int, more int) *big.Int {
		h = new(big.Int).Mul(h, bigOf(1103515245))
		h.Add(h, bigOf(12345+more))
		return h.Mod(h, bigOf(2147483648))
	}
	h := step(step(bigOf(seed), 7919*i+104729*j), 0)
	return int(h.Int64() / 65536 % 256)
}

func wantDigest(b []byte) int {
	u, v := bigOf(7), bigOf(11)
	for _, c := range b {
		u.Mod(u.Add(u.Mul(u, bigOf(131)), bigOf(int(c)+1)), bigOf(2147483647))
		v.Mod(v.Add(v.Mul(v, bigOf(137)), bigOf(int(c)+3)), bigOf(2147483629))
	}
	return int(new(big.Int).Add(new(big.Int).Lsh(u, 31), v).Int64())
}

// wantValue adds up coefficient by coefficient, each with its own power of x.
func wantValue(coefs []int, x int) int {
	sum := 0
	for degree, c := range coefs {
		for range degree {
			c = wantProducts[c][x]
		}
		sum ^= c
	}
	return sum
}

// wantCoefs solves the equations for place i of the first k shares, row by row.
func wantCoefs(shares []impl.Share, k int, i int) []int {
	rows := make([][]int, k)
	for r := range rows {
		power := 1
		for range k {
			rows[r] = append(rows[r], power)
			power = wantProducts[power][shares[r].X]
		}
		rows[r] = append(rows[r], int(shares[r].Data[i]))
	}
	for col := range k {
		lead := col
		for rows[lead][col] == 0 {
			lead++
		}
		rows[col], rows[lead] = rows[lead], rows[col]
		unit := wantInverse(rows[col][col])
		for c := range rows[col] {
			rows[col][c] = wantProducts[rows[col][c]][unit]
		}
		for r := range rows {
			times := rows[r][col]
			if r == col || times == 0 {
				continue
			}
			for c := range rows[r] {
				rows[r][c] ^= wantProducts[rows[col][c]][times]
			}
		}
	}
	coefs := make([]int, k)
	for r := range rows {
		coefs[r] = rows[r][k]
	}
	return coefs
}

func wantShare(s impl.Share) bool {
	return s.X > 0 && s.X < 256 && len(s.Data) > 0 && len(s.Data) < 65
}

func wantShares(shares []impl.Share) bool {
	for i, s := range shares {
		if !wantShare(s) {
			return false
		}
		for _, other := range shares[:i] {
			if other.X == s.X || len(other.Data) != len(s.Data) {
				return false
			}
		}
	}
	return true
}

func wantSplit(secret []byte, n int, k int, seed int) ([]impl.Share, bool) {
	if len(secret) == 0 || len(secret) > 64 || n < 1 || n > 12 || k < 1 || k > n || seed < 0 || seed > 2147483647 {
		return nil, false
	}
	shares := make([]impl.Share, n)
	for place := range shares {
		shares[place].X = place + 1
		for i, b := range secret {
			coefs := []int{int(b)}
			for j := 1; j < k; j++ {
				coefs = append(coefs, wantNoise(seed, i, j))
			}
			shares[place].Data = append(shares[place].Data, byte(wantValue(coefs, place+1)))
		}
	}
	return shares, true
}

func wantCombine(shares []impl.Share, k int) ([]byte, bool) {
	if k < 1 || k > 12 || len(shares) < k || len(shares) > 12 || !wantShares(shares) {
		return nil, false
	}
	var secret []byte
	for i := range shares[0].Data {
		secret = append(secret, byte(wantCoefs(shares, k, i)[0]))
	}
	return secret, true
}

func wantFit(shares []impl.Share, k int) bool {
	if _, ok := wantCombine(shares, k); !ok {
		return false
	}
	for i := range shares[0].Data {
		coefs := wantCoefs(shares, k, i)
		for _, s := range shares {
			if wantValue(coefs, s.X) != int(s.Data[i]) {
				return false
			}
		}
	}
	return true
}

func wantSeal(s impl.Seal) bool {
	return s.Need > 0 && s.Need < 13 && len(s.Given) < s.Need && wantShares(s.Given)
}

func wantGive(s impl.Seal, share impl.Share) (impl.Seal, int, []byte) {
	if !wantSeal(s) || !wantShare(share) || len(s.Given) > 0 && len(s.Given[0].Data) != len(share.Data) {
		return s, 4, nil
	}
	for _, given := range s.Given {
		if given.X == share.X {
			return s, 3, nil
		}
	}
	all := append(slices.Clone(s.Given), share)
	if len(all) < s.Need {
		return impl.Seal{Need: s.Need, Sum: s.Sum, Given: all}, 0, nil
	}
	empty := impl.Seal{Need: s.Need, Sum: s.Sum}
	key, _ := wantCombine(all, s.Need)
	if wantDigest(key) == s.Sum {
		return empty, 1, key
	}
	return empty, 2, nil
}

func shareOf(x int, data ...byte) impl.Share { return impl.Share{X: x, Data: data} }

func cloneShare(s impl.Share) impl.Share { return shareOf(s.X, slices.Clone(s.Data)...) }

func cloneShares(shares []impl.Share) []impl.Share {
	var all []impl.Share
	for _, s := range shares {
		all = append(all, cloneShare(s))
	}
	return all
}

func cloneSeal(s impl.Seal) impl.Seal {
	return impl.Seal{Need: s.Need, Sum: s.Sum, Given: cloneShares(s.Given)}
}

func sameShares(a []impl.Share, b []impl.Share) bool {
	return slices.EqualFunc(a, b, func(x, y impl.Share) bool { return x.X == y.X && bytes.Equal(x.Data, y.Data) })
}

func sameSeal(a impl.Seal, b impl.Seal) bool {
	return a.Need == b.Need && a.Sum == b.Sum && sameShares(a.Given, b.Given)
}

// spoilShares writes over all that can be reached from the list.
func spoilShares(shares []impl.Share) {
	for i := range shares {
		spoilBytes(shares[i].Data)
		shares[i] = shareOf(-7)
	}
	for i := range shares[len(shares):cap(shares)] {
		shares[:cap(shares)][len(shares)+i] = shareOf(-7)
	}
}

func spoilBytes(b []byte) {
	whole := b[:cap(b)]
	for i := range whole {
		whole[i] ^= 255
	}
}

func someBytes(r *rand.Rand, n int) []byte {
	b := make([]byte, n)
	r.Read(b)
	return b
}

// goodShares are n shares of one length at unlike places, of no secret in particular.
func goodShares(r *rand.Rand, n int, length int) []impl.Share {
	places := r.Perm(255)
	var shares []impl.Share
	for i := range n {
		shares = append(shares, impl.Share{X: places[i] + 1, Data: someBytes(r, length)})
	}
	return shares
}

func shuffled(r *rand.Rand, shares []impl.Share) []impl.Share {
	all := slices.Clone(shares)
	r.Shuffle(len(all), func(i, j int) { all[i], all[j] = all[j], all[i] })
	return all
}

// wrongShares are each wrong by one thing alone.
func wrongShares() []impl.Share {
	return []impl.Share{
		{},
		shareOf(1),
		shareOf(255),
		shareOf(0, 1),
		shareOf(-1, 1),
		shareOf(256, 1),
		shareOf(257, 1),
		shareOf(math.MinInt, 1),
		shareOf(math.MaxInt, 1),
		shareOf(1<<32+1, 1),
		shareOf(0, make([]byte, 64)...),
		shareOf(1, make([]byte, 65)...),
		shareOf(255, make([]byte, 100000)...),
	}
}

// wrongLists are lists out of which no secret comes, for any k.
func wrongLists() [][]impl.Share {
	r := rand.New(rand.NewSource(31))
	lists := [][]impl.Share{
		nil,
		{},
		{shareOf(1, 1), shareOf(2, 1, 2)},
		{shareOf(1, 1, 2), shareOf(2, 1)},
		{shareOf(1, 1), shareOf(2, 1), shareOf(3, 1, 2)},
		{shareOf(1, 1), shareOf(2, 1, 2), shareOf(3, 1)},
		{shareOf(1, 1), shareOf(1, 1)},
		{shareOf(1, 1), shareOf(1, 2)},
		{shareOf(1, 1), shareOf(2, 1), shareOf(1, 1)},
		{shareOf(1, 1), shareOf(2, 1), shareOf(2, 3)},
		{shareOf(255, 1), shareOf(2, 1), shareOf(3, 1), shareOf(255, 1)},
		goodShares(r, 13, 1),
		goodShares(r, 13, 64),
		goodShares(r, 200, 2),
		make([]impl.Share, 100000),
	}
	for _, wrong := range wrongShares() {
		lists = append(lists, []impl.Share{wrong}, []impl.Share{wrong, shareOf(9, 1)}, []impl.Share{shareOf(9, 1), wrong}, []impl.Share{shareOf(9, 1), shareOf(8, 1), wrong})
	}
	full := goodShares(r, 12, 3)
	for place := range full {
		for _, wrong := range []impl.Share{shareOf(0, 1, 2, 3), shareOf(256, 1, 2, 3), shareOf(full[(place+5)%12].X, 1, 2, 3), shareOf(full[place].X, 1, 2), shareOf(full[place].X, 1, 2, 3, 4), shareOf(full[place].X)} {
			bent := slices.Clone(full)
			bent[place] = wrong
			lists = append(lists, bent)
		}
	}
	return lists
}

func edgeBytes() []int {
	return []int{math.MinInt, math.MinInt + 1, -1 << 32, -256, -255, -2, -1, 0, 1, 2, 127, 128, 254, 255, 256, 257, 511, 1 << 32, 1<<32 + 1, math.MaxInt}
}

func TestShareLimits(t *testing.T) {
	if impl.MaxShares != 12 || impl.MaxSecret != 64 {
		t.Error("limits")
	}
	codes := []int{impl.SealMore, impl.SealOpen, impl.SealWrong, impl.SealTwice, impl.SealBad}
	if !slices.Equal(codes, []int{0, 1, 2, 3, 4}) {
		t.Errorf("codes are %v", codes)
	}
}

func TestGMul(t *testing.T) {
	for a := range 256 {
		for b := range 256 {
			if got := impl.GMul(a, b); got != wantProduct(a, b) {
				t.Fatalf("GMul(%d, %d) = %d, not %d", a, b, got, wantProduct(a, b))
			}
		}
	}
	known := [][3]int{{0, 0, 0}, {0, 255, 0}, {255, 0, 0}, {1, 255, 255}, {255, 1, 255}, {2, 128, 27}, {128, 2, 27}, {255, 255, 19}, {87, 131, 193}, {83, 202, 1}}
	for _, c := range known {
		if got := impl.GMul(c[0], c[1]); got != c[2] {
			t.Errorf("GMul(%d, %d) = %d, not %d", c[0], c[1], got, c[2])
		}
	}
	for _, a := range edgeBytes() {
		for _, b := range edgeBytes() {
			in := a >= 0 && a <= 255 && b >= 0 && b <= 255
			if got := impl.GMul(a, b); in != (got != -1) {
				t.Errorf("GMul(%d, %d) = %d", a, b, got)
			}
		}
	}
}

func TestGInv(t *testing.T) {
	for a := 1; a < 256; a++ {
		got := impl.GInv(a)
		if got != wantInverse(a) || impl.GMul(a, got) != 1 {
			t.Errorf("GInv(%d) = %d, not %d", a, got, wantInverse(a))
		}
	}
	for _, a := range edgeBytes() {
		if got := impl.GInv(a); (a < 1 || a > 255) != (got == -1) {
			t.Errorf("GInv(%d) = %d", a, got)
		}
	}
}

func TestNoise(t *testing.T) {
	r := rand.New(rand.NewSource(32))
	seeds := []int{math.MinInt, -1 << 31, -1, 0, 1, 2, 65535, 65536, 1 << 30, topSeed - 1, topSeed, topSeed + 1, topSeed + 2, 1 << 32, math.MaxInt}
	places := []int{math.MinInt, -1, 0, 1, 2, 11, 63, 64, topPlace - 1, topPlace, topPlace + 1, 1 << 32, math.MaxInt}
	for range 20 {
		seeds = append(seeds, r.Intn(1<<31))
	}
	for _, seed := range seeds {
		for _, i := range places {
			for _, j := range places {
				if got := impl.Noise(seed, i, j); got != wantNoise(seed, i, j) {
					t.Errorf("Noise(%d, %d, %d) = %d, not %d", seed, i, j, got, wantNoise(seed, i, j))
				}
			}
		}
	}
	if impl.Noise(1, 0, 1) != 40 || impl.Noise(0, 0, 0) != 220 {
		t.Error("known noise")
	}
	for range 2000 {
		seed, i, j := r.Intn(1<<31), r.Intn(1001), r.Intn(1001)
		if got := impl.Noise(seed, i, j); got != wantNoise(seed, i, j) {
			t.Fatalf("Noise(%d, %d, %d) = %d, not %d", seed, i, j, got, wantNoise(seed, i, j))
		}
	}
}

func TestShareOk(t *testing.T) {
	for _, x := range edgeBytes() {
		for _, n := range []int{0, 1, 2, 63, 64, 65, 66, 256, 100000} {
			want := x >= 1 && x <= 255 && n >= 1 && n <= 64
			if impl.ShareOk(impl.Share{X: x, Data: make([]byte, n)}) != want {
				t.Errorf("ShareOk with X %d and %d bytes is not %v", x, n, want)
			}
		}
	}
	for _, wrong := range wrongShares() {
		if impl.ShareOk(wrong) {
			t.Errorf("%.40v is taken", wrong)
		}
	}
	// Any bytes are right, and the room behind them does not count.
	if !impl.ShareOk(shareOf(7, 0)) || !impl.ShareOk(shareOf(7, 255)) || impl.ShareOk(impl.Share{X: 7, Data: make([]byte, 0, 9)}) || !impl.ShareOk(impl.Share{X: 7, Data: make([]byte, 1, 900)}) {
		t.Error("bytes of a share")
	}
}

func checkSplit(t *testing.T, secret []byte, n int, k int, seed int) {
	t.Helper()
	kept := slices.Clone(secret)
	got, ok := impl.SplitSecret(secret, n, k, seed)
	want, wantOk := wantSplit(secret, n, k, seed)
	if ok != wantOk || !sameShares(got, want) {
		t.Errorf("SplitSecret(%.20v, %d, %d, %d) = %.60v, %v", secret, n, k, seed, got, ok)
	}
	for i := range got {
		spoilBytes(got[i].Data)
		want[i].Data = nil
		got[i].Data = nil
		if i+1 < len(got) && !sameShares(got, want) {
			t.Errorf("shares of SplitSecret(%.20v, %d, %d, %d) share memory", kept, n, k, seed)
		}
	}
	if !bytes.Equal(secret, kept) {
		t.Errorf("SplitSecret(%.20v, %d, %d, %d) changes or shares its secret", kept, n, k, seed)
	}
}

func TestSplitSecretEdges(t *testing.T) {
	r := rand.New(rand.NewSource(33))
	for n := -2; n <= 15; n++ {
		for k := -2; k <= 15; k++ {
			checkSplit(t, []byte{5, 0, 255}, n, k, 1)
		}
	}
	for _, length := range []int{0, 1, 2, 63, 64, 65, 66, 1000, 100000} {
		for _, seed := range []int{math.MinInt, -1, 0, 1, topSeed - 1, topSeed, topSeed + 1, 1 << 32, math.MaxInt} {
			checkSplit(t, someBytes(r, length), 4, 3, seed)
		}
	}
	for _, size := range [][2]int{{1, 1}, {1, 2}, {12, 1}, {12, 12}, {12, 13}, {13, 12}, {13, 13}, {0, 0}, {0, 1}, {5, 0}, {math.MaxInt, 2}, {math.MinInt, 2}, {3, math.MaxInt}, {3, math.MinInt}, {math.MaxInt, math.MaxInt}, {1<<32 + 3, 2}} {
		checkSplit(t, someBytes(r, 64), size[0], size[1], topSeed)
		checkSplit(t, someBytes(r, 1), size[0], size[1], 0)
	}
	checkSplit(t, nil, 3, 2, 1)
	checkSplit(t, make([]byte, 0, 10), 3, 2, 1)
	checkSplit(t, make([]byte, 64), 12, 6, 9)
	checkSplit(t, make([]byte, 9, 64), 12, 6, 9)
}

func TestSplitSecretAtRandom(t *testing.T) {
	r := rand.New(rand.NewSource(34))
	for range 300 {
		n := 1 + r.Intn(12)
		checkSplit(t, someBytes(r, 1+r.Intn(64)), n, 1+r.Intn(n), r.Intn(1<<31))
	}
}

func TestSplitOfOneIsTheSecret(t *testing.T) {
	secret := []byte("latchkeep")
	shares, ok := impl.SplitSecret(secret, 12, 1, 77)
	for i, s := range shares {
		if !ok || s.X != i+1 || !bytes.Equal(s.Data, secret) {
			t.Errorf("share %d is %v", i, s)
		}
	}
}

func checkCombine(t *testing.T, shares []impl.Share, k int) {
	t.Helper()
	kept := cloneShares(shares)
	got, ok := impl.CombineShares(shares, k)
	want, wantOk := wantCombine(kept, k)
	if ok != wantOk || !bytes.Equal(got, want) {
		t.Errorf("CombineShares(%.80v, %d) = %.30v, %v, not %.30v, %v", shares, k, got, ok, want, wantOk)
	}
	if fits := impl.FitShares(shares, k); fits != wantFit(kept, k) {
		t.Errorf("FitShares(%.80v, %d) = %v", shares, k, fits)
	}
	spoilBytes(got)
	if !sameShares(shares, kept) {
		t.Errorf("CombineShares(%.80v, %d) changes or shares its shares", kept, k)
	}
}

func TestCombineSharesEdges(t *testing.T) {
	r := rand.New(rand.NewSource(35))
	for _, length := range []int{1, 2, 63, 64} {
		for n := 1; n <= 12; n += 1 + length%3 {
			shares := goodShares(r, n, length)
			for k := -1; k <= n+2; k++ {
				checkCombine(t, shares, k)
			}
		}
	}
	lists := [][]impl.Share{
		{shareOf(1, 0)},
		{shareOf(255, 255)},
		{shareOf(1, 9), shareOf(255, 7)},
		{shareOf(255, 9), shareOf(1, 7)},
		{shareOf(255, 9), shareOf(254, 9), shareOf(1, 9), shareOf(2, 9)},
		goodShares(r, 12, 64),
		goodShares(r, 13, 64),
	}
	for _, list := range append(lists, wrongLists()...) {
		for _, k := range []int{math.MinInt, -1, 0, 1, 2, 3, 11, 12, 13, 14, 1<<32 + 1, math.MaxInt} {
			checkCombine(t, list, k)
		}
	}
}

func TestCombineRefusesWrongLists(t *testing.T) {
	for _, list := range wrongLists() {
		for k := -1; k <= 14; k++ {
			if got, ok := impl.CombineShares(list, k); ok || len(got) != 0 {
				t.Errorf("CombineShares(%.80v, %d) = %v, %v", list, k, got, ok)
			}
			if impl.FitShares(list, k) {
				t.Errorf("FitShares(%.80v, %d)", list, k)
			}
		}
	}
}

// A share behind the first k is asked as well, though its bytes are not needed.
func TestCombineAsksAllShares(t *testing.T) {
	shares, _ := impl.SplitSecret([]byte{1, 2, 3}, 5, 2, 8)
	for _, wrong := range []impl.Share{shareOf(0, 1, 2, 3), shareOf(256, 1, 2, 3), shareOf(9, 1, 2), shareOf(9, 1, 2, 3, 4), shareOf(9), shareOf(1, 1, 2, 3), shareOf(3, 1, 2, 3)} {
		list := append(slices.Clone(shares[:4]), wrong)
		if _, ok := impl.CombineShares(list, 2); ok || impl.FitShares(list, 2) {
			t.Errorf("%v behind good ones is taken", wrong)
		}
	}
}

func TestCombineAtRandom(t *testing.T) {
	r := rand.New(rand.NewSource(36))
	took := 0
	for range 3000 {
		list := goodShares(r, r.Intn(14), 1+r.Intn(3))
		if len(list) > 0 && r.Intn(2) == 0 {
			place := r.Intn(len(list))
			switch r.Intn(3) {
			case 0:
				list[place].X = []int{-1, 0, 1, 255, 256, list[r.Intn(len(list))].X}[r.Intn(6)]
			case 1:
				list[place].Data = someBytes(r, r.Intn(4))
			case 2:
				list[place].Data = someBytes(r, 64+r.Intn(2))
			}
		}
		k := r.Intn(14)
		checkCombine(t, list, k)
		if _, ok := impl.CombineShares(list, k); ok {
			took++
		}
	}
	if took < 300 || took > 2700 {
		t.Errorf("%d of 3000 lists are taken: the inputs lean to one side", took)
	}
}

// subsets are all lists of k of the shares, in their order.
func subsets(shares []impl.Share, k int) [][]impl.Share {
	var all [][]impl.Share
	for mask := range 1 << len(shares) {
		if bits.OnesCount(uint(mask)) != k {
			continue
		}
		var some []impl.Share
		for place, s := range shares {
			if mask>>place%2 == 1 {
				some = append(some, s)
			}
		}
		all = append(all, some)
	}
	return all
}

func TestAnySharesCombine(t *testing.T) {
	r := rand.New(rand.NewSource(37))
	for n := 1; n <= 7; n++ {
		for k := 1; k <= n; k++ {
			secret := someBytes(r, 1+r.Intn(8))
			shares, _ := impl.SplitSecret(secret, n, k, r.Intn(1<<31))
			for size := k; size <= n; size++ {
				for _, some := range subsets(shares, size) {
					some = shuffled(r, some)
					got, ok := impl.CombineShares(some, k)
					if !ok || !bytes.Equal(got, secret) || !impl.FitShares(some, k) {
						t.Fatalf("%d of %d shares: %v of %v is %v, %v", k, n, some, secret, got, ok)
					}
				}
			}
		}
	}
	secret := someBytes(r, 64)
	for k := 1; k <= 12; k++ {
		shares, _ := impl.SplitSecret(secret, 12, k, topSeed)
		for range 20 {
			some := shuffled(r, shares)[:k+r.Intn(13-k)]
			if got, ok := impl.CombineShares(some, k); !ok || !bytes.Equal(got, secret) || !impl.FitShares(some, k) {
				t.Fatalf("%d of 12 shares: %v, %v", k, got, ok)
			}
		}
	}
}

func TestBentShareIsTold(t *testing.T) {
	r := rand.New(rand.NewSource(38))
	for n := 1; n <= 12; n++ {
		for k := 1; k <= n; k++ {
			secret := someBytes(r, 3)
			shares, _ := impl.SplitSecret(secret, n, k, r.Intn(1<<31))
			for place := range n {
				for i := range secret {
					bent := cloneShares(shares)
					bent[place].Data[i] ^= byte(1 + r.Intn(255))
					// Through k bent points there always is a polynomial; one point more tells.
					if impl.FitShares(bent, k) != (n == k) {
						t.Fatalf("FitShares of %d shares, %d needed, with one bent at %d", n, k, place)
					}
					got, ok := impl.CombineShares(bent, k)
					if !ok || bytes.Equal(got, secret) != (place >= k) {
						t.Fatalf("a bent share at %d of %d, %d needed: %v for %v", place, n, k, got, secret)
					}
				}
			}
		}
	}
}

func TestEachTurnOfOneByteIsTold(t *testing.T) {
	shares, _ := impl.SplitSecret([]byte{0, 255, 77}, 4, 3, 5)
	for place := range shares {
		for i := range shares[place].Data {
			for turn := 1; turn < 256; turn++ {
				bent := cloneShares(shares)
				bent[place].Data[i] ^= byte(turn)
				if impl.FitShares(bent, 3) {
					t.Fatalf("share %d, byte %d, turned by %d, is not told", place, i, turn)
				}
			}
		}
	}
	long, _ := impl.SplitSecret(make([]byte, 64), 12, 11, 0)
	for i := range 64 {
		bent := cloneShares(long)
		bent[11].Data[i] ^= 128
		if impl.FitShares(bent, 11) || !impl.FitShares(bent[:11], 11) {
			t.Fatalf("byte %d of 64, turned, is not told", i)
		}
	}
}

func TestFewerSharesDoNotFit(t *testing.T) {
	shares, _ := impl.SplitSecret([]byte{5}, 3, 2, 1)
	if impl.FitShares(shares, 1) || !impl.FitShares(shares, 2) || !impl.FitShares(shares, 3) || impl.FitShares(shares, 4) || impl.FitShares(shares, 0) || !impl.FitShares(shares[:1], 1) {
		t.Error("three shares of two")
	}
	if _, ok := impl.CombineShares(shares[:1], 2); ok {
		t.Error("one share of two combines")
	}
}

func TestDigest(t *testing.T) {
	r := rand.New(rand.NewSource(39))
	if impl.Digest(nil) != 15032385547 || impl.Digest([]byte{}) != 15032385547 || impl.Digest([]byte{0}) != 1971389990374 {
		t.Error("known digests")
	}
	for c := range 256 {
		if got, want := impl.Digest([]byte{byte(c)}), 2147483648*(918+c)+1510+c; got != want {
			t.Errorf("Digest of the byte %d is %d, not %d", c, got, want)
		}
	}
	for _, n := range []int{0, 1, 2, 3, 4, 5, 6, 7, 8, 9, 64, 65, 500, 2000, 5000} {
		for _, b := range [][]byte{make([]byte, n), bytes.Repeat([]byte{255}, n), someBytes(r, n), someBytes(r, n)} {
			kept := slices.Clone(b)
			if got := impl.Digest(b); got != wantDigest(b) || !bytes.Equal(b, kept) {
				t.Errorf("Digest of %d bytes %.20v is %d, not %d", n, b, got, wantDigest(b))
			}
		}
	}
	long := someBytes(r, 200000)
	if impl.Digest(long) != wantDigest(long) {
		t.Error("a long digest")
	}
	if impl.Digest([]byte{1, 2}) == impl.Digest([]byte{2, 1}) || impl.Digest([]byte{0}) == impl.Digest([]byte{0, 0}) {
		t.Error("order and length are not told")
	}
}

func TestSealOk(t *testing.T) {
	r := rand.New(rand.NewSource(40))
	for need := -1; need <= 14; need++ {
		for given := range 15 {
			for _, length := range []int{1, 64} {
				s := impl.Seal{Need: need, Sum: 5, Given: goodShares(r, given, length)}
				if want := need >= 1 && need <= 12 && given < need; impl.SealOk(s) != want {
					t.Errorf("SealOk with Need %d and %d given is not %v", need, given, want)
				}
			}
		}
	}
	for _, need := range []int{math.MinInt, math.MaxInt, 1<<32 + 3, 100} {
		if impl.SealOk(impl.Seal{Need: need}) {
			t.Errorf("SealOk with Need %d", need)
		}
	}
	for _, sum := range []int{math.MinInt, -1, 0, 1, 15032385547, math.MaxInt} {
		if !impl.SealOk(impl.Seal{Need: 1, Sum: sum}) {
			t.Errorf("SealOk with Sum %d is false", sum)
		}
	}
	for _, list := range wrongLists() {
		s := impl.Seal{Need: 12, Given: list}
		if want := len(list) == 0; impl.SealOk(s) != want {
			t.Errorf("SealOk with %.80v is not %v", list, want)
		}
	}
	if impl.SealOk(impl.Seal{}) {
		t.Error("the zero seal is taken")
	}
}

func checkGive(t *testing.T, s impl.Seal, share impl.Share) (impl.Seal, int) {
	t.Helper()
	keptSeal, keptShare := cloneSeal(s), cloneShare(share)
	got, code, key := impl.GiveShare(s, share)
	want, wantCode, wantKey := wantGive(keptSeal, keptShare)
	if code != wantCode || !sameSeal(got, want) || !bytes.Equal(key, wantKey) {
		t.Errorf("GiveShare(%.80v, %.40v) = %.80v, %d, %.20v, not %.80v, %d, %.20v", s, share, got, code, key, want, wantCode, wantKey)
	}
	answer := cloneSeal(got)
	spoilBytes(key)
	if !sameSeal(got, answer) {
		t.Errorf("the key and the seal of GiveShare(%.80v, %.40v) share memory", s, share)
	}
	spoilShares(got.Given)
	if !sameSeal(s, keptSeal) || share.X != keptShare.X || !bytes.Equal(share.Data, keptShare.Data) {
		t.Errorf("GiveShare(%.80v, %.40v) changes or shares what it was given", keptSeal, keptShare)
	}
	return answer, code
}

func TestSealOpensWithTheLastShare(t *testing.T) {
	r := rand.New(rand.NewSource(41))
	for n := 1; n <= 12; n++ {
		for k := 1; k <= n; k++ {
			secret := someBytes(r, []int{1, 5, 64}[r.Intn(3)])
			shares, _ := impl.SplitSecret(secret, n, k, r.Intn(1<<31))
			seal := impl.Seal{Need: k, Sum: impl.Digest(secret)}
			for place, share := range shuffled(r, shares)[:k] {
				next, code, key := impl.GiveShare(seal, share)
				checkGive(t, seal, share)
				if place < k-1 && (code != impl.SealMore || len(next.Given) != place+1 || len(key) != 0 || !impl.SealOk(next)) {
					t.Fatalf("share %d of %d: %v, %d, %v", place+1, k, next, code, key)
				}
				if place == k-1 && (code != impl.SealOpen || len(next.Given) != 0 || !bytes.Equal(key, secret) || next.Need != k || next.Sum != seal.Sum || !impl.SealOk(next)) {
					t.Fatalf("the last of %d: %v, %d, %v", k, next, code, key)
				}
				seal = next
			}
		}
	}
}

func TestSealOfAnotherSecret(t *testing.T) {
	shares, _ := impl.SplitSecret([]byte{9, 8, 7}, 5, 3, 4)
	others, _ := impl.SplitSecret([]byte{9, 8, 6}, 5, 3, 4)
	sum := impl.Digest([]byte{9, 8, 7})
	for _, other := range []int{sum - 1, sum + 1, -sum, 0, sum + 1<<31, sum ^ 1, math.MaxInt, math.MinInt} {
		seal := impl.Seal{Need: 3, Sum: other, Given: shares[:2]}
		next, code := checkGive(t, seal, shares[2])
		if code != impl.SealWrong || !sameSeal(next, impl.Seal{Need: 3, Sum: other}) {
			t.Errorf("a seal of the sum %d: %v, %d", other, next, code)
		}
	}
	mixed := impl.Seal{Need: 3, Sum: sum, Given: []impl.Share{shares[0], others[1]}}
	next, code, key := impl.GiveShare(mixed, shares[2])
	if code != impl.SealWrong || len(key) != 0 || len(next.Given) != 0 || next.Need != 3 || next.Sum != sum {
		t.Errorf("a share of another secret: %v, %d, %v", next, code, key)
	}
	// Behind a wrong try the seal starts anew, and opens.
	for place, share := range shares[:3] {
		next, code, key = impl.GiveShare(next, share)
		if want := []int{impl.SealMore, impl.SealMore, impl.SealOpen}[place]; code != want {
			t.Errorf("share %d behind a wrong try: %d", place, code)
		}
	}
	if !bytes.Equal(key, []byte{9, 8, 7}) {
		t.Errorf("the key behind a wrong try is %v", key)
	}
}

func TestGiveShareTwice(t *testing.T) {
	shares, _ := impl.SplitSecret([]byte{9, 8}, 12, 12, 4)
	seal := impl.Seal{Need: 12, Sum: impl.Digest([]byte{9, 8})}
	for given := range 11 {
		seal.Given = append(seal.Given, shares[given])
		for _, again := range seal.Given {
			for _, share := range []impl.Share{again, shareOf(again.X, 1, 2)} {
				next, code := checkGive(t, seal, share)
				if code != impl.SealTwice || !sameSeal(next, seal) {
					t.Errorf("X %d twice among %d: %d, %v", share.X, given+1, code, next)
				}
			}
			// The length is asked ahead of X.
			next, code := checkGive(t, seal, shareOf(again.X, 1))
			if code != impl.SealBad || !sameSeal(next, seal) {
				t.Errorf("X %d twice, of another length: %d, %v", again.X, code, next)
			}
		}
	}
}

func TestGiveShareBad(t *testing.T) {
	r := rand.New(rand.NewSource(42))
	for given := range 12 {
		seal := impl.Seal{Need: 12, Sum: 3, Given: goodShares(r, given, 2)}
		for _, wrong := range append(wrongShares(), shareOf(0, 1, 2), shareOf(256, 1, 2)) {
			next, code := checkGive(t, seal, wrong)
			if code != impl.SealBad || !sameSeal(next, seal) {
				t.Errorf("%.40v behind %d shares: %d", wrong, given, code)
			}
		}
		free := 1
		for slices.ContainsFunc(seal.Given, func(s impl.Share) bool { return s.X == free }) {
			free++
		}
		for _, length := range []int{1, 2, 3, 64} {
			_, code := checkGive(t, seal, impl.Share{X: free, Data: make([]byte, length)})
			if bad := given > 0 && length != 2; bad != (code == impl.SealBad) {
				t.Errorf("%d bytes behind %d shares of 2: %d", length, given, code)
			}
		}
	}
}

func TestGiveShareToAWrongSeal(t *testing.T) {
	r := rand.New(rand.NewSource(43))
	seals := []impl.Seal{
		{},
		{Need: 0, Sum: 7},
		{Need: -1, Sum: 7},
		{Need: 13, Sum: 7},
		{Need: math.MinInt, Sum: 7},
		{Need: math.MaxInt, Sum: 7},
		{Need: 1, Sum: 7, Given: goodShares(r, 1, 1)},
		{Need: 2, Sum: 7, Given: goodShares(r, 2, 1)},
		{Need: 2, Sum: 7, Given: goodShares(r, 3, 1)},
		{Need: 12, Sum: 7, Given: goodShares(r, 12, 1)},
		{Need: 13, Sum: 7, Given: goodShares(r, 12, 1)},
	}
	for _, list := range wrongLists() {
		if len(list) > 0 {
			seals = append(seals, impl.Seal{Need: 12, Sum: 7, Given: list})
		}
	}
	for _, seal := range seals {
		for _, share := range []impl.Share{shareOf(77, 1), shareOf(1, 1), shareOf(0, 1), {}} {
			next, code := checkGive(t, seal, share)
			if code != impl.SealBad || !sameSeal(next, seal) {
				t.Errorf("GiveShare(%.80v, %v) = %.80v, %d", seal, share, next, code)
			}
		}
	}
}

func TestGiveShareAtRandom(t *testing.T) {
	r := rand.New(rand.NewSource(44))
	codes := map[int]int{}
	for range 400 {
		secret := someBytes(r, 1+r.Intn(3))
		n := 1 + r.Intn(12)
		shares, _ := impl.SplitSecret(secret, n, 1+r.Intn(n), r.Intn(1<<31))
		seal := impl.Seal{Need: 1 + r.Intn(n), Sum: impl.Digest(secret)}
		for range 15 {
			share := cloneShare(shares[r.Intn(n)])
			switch r.Intn(12) {
			case 0:
				share.X = r.Intn(258) - 1
			case 1:
				share.Data = someBytes(r, r.Intn(4))
			case 2:
				share.Data[0] ^= 1
			}
			next, code := checkGive(t, seal, share)
			codes[code]++
			seal = next
		}
	}
	for code := range 5 {
		if codes[code] < 20 {
			t.Errorf("the code %d came %d times only: %v", code, codes[code], codes)
		}
	}
}

func TestSharesKeepToThemselves(t *testing.T) {
	room := make([]impl.Share, 1, 8)
	room[0] = shareOf(1, 4)
	share := impl.Share{X: 2, Data: append(make([]byte, 0, 64), 5)}
	next, _, _ := impl.GiveShare(impl.Seal{Need: 3, Given: room}, share)
	if room[:2][1].X != 0 {
		t.Error("the room behind Given was written")
	}
	share.Data[0] = 99
	room[0].Data[0] = 99
	if !sameShares(next.Given, []impl.Share{shareOf(1, 4), shareOf(2, 5)}) {
		t.Errorf("the seal has %v", next.Given)
	}
	data := []byte{1, 2}
	twins := impl.Seal{Need: 4, Given: []impl.Share{{X: 1, Data: data}, {X: 2, Data: data}}}
	next, _, _ = impl.GiveShare(twins, impl.Share{X: 3, Data: data})
	next.Given[0].Data[0] = 50
	if fmt.Sprint(next.Given) != "[{1 [50 2]} {2 [1 2]} {3 [1 2]}]" {
		t.Errorf("lists of one answer share memory: %v", next.Given)
	}
	only := []impl.Share{shareOf(9, 1, 2, 3)}
	key, _ := impl.CombineShares(only, 1)
	key[0] = 77
	if only[0].Data[0] != 1 {
		t.Error("the secret of one share is the share's own memory")
	}
}
