package merkle_test

import (
	"encoding/binary"
	"hash/crc32"
	"math"
	"math/rand"
	"reflect"
	"slices"
	"testing"

	"splice/api"
	"splice/merkle"
	"splice/span"
	"splice/table"
)

// pairs are the pairs of keys and values that stand two by two.
func pairs(l ...int) []api.Pair {
	var out []api.Pair
	for i := 0; i+1 < len(l); i += 2 {
		out = append(out, api.Pair{Key: l[i], Val: l[i+1]})
	}
	return out
}

func some(val int) api.Cell {
	return api.Cell{Val: val, Some: true}
}

// full is a table that has all keys, each with one value.
func full(val int) []api.Pair {
	var l []api.Pair
	for key := range api.MaxKey {
		l = append(l, api.Pair{Key: key, Val: val})
	}
	return l
}

func tables() [][]api.Pair {
	return [][]api.Pair{
		nil, {}, pairs(17, -1), pairs(0, 0), pairs(4095, api.MaxVal), pairs(0, -api.MaxVal, 15, 1, 16, 2, 255, 3, 256, 4, 4095, 5),
		pairs(3, 1, 17, -1, 4000, 9), full(0), full(-7), chance(rand.New(rand.NewSource(1)), 500), chance(rand.New(rand.NewSource(2)), 4096),
	}
}

func notTables() [][]api.Pair {
	return [][]api.Pair{
		pairs(2, 0, 1, 0), pairs(2, 0, 2, 0), pairs(-1, 0), pairs(4096, 0), pairs(1, api.MaxVal+1), pairs(1, -api.MaxVal-1), pairs(1, api.Absent),
		pairs(1, 1, math.MaxInt, 1), pairs(math.MinInt, 1), pairs(1, math.MinInt), append(full(1), api.Pair{Key: 4096}), append(full(1), api.Pair{}),
	}
}

// chance is a table of so many keys by chance.
func chance(r *rand.Rand, n int) []api.Pair {
	keys := r.Perm(api.MaxKey)[:n]
	slices.Sort(keys)
	var l []api.Pair
	for _, key := range keys {
		l = append(l, api.Pair{Key: key, Val: r.Intn(2*api.MaxVal+1) - api.MaxVal})
	}
	return l
}

func notKeys() []int {
	return []int{-1, 4096, 5000, -4096, math.MaxInt, math.MinInt}
}

func notCells() []api.Cell {
	return []api.Cell{{Val: 1}, {Val: -1}, {Val: api.Absent}, {Val: math.MinInt}, some(api.MaxVal + 1), some(-api.MaxVal - 1), some(math.MaxInt), some(math.MinInt)}
}

// model is a table's cells, and the numbers that the chapter gives them: of each
// level the leaves ahead, each from those below by the library's own sums.
type model struct {
	cells   []api.Cell
	numbers [][]uint32
}

func modelLeaf(c api.Cell) uint32 {
	if !c.Some {
		return 0
	}
	return crc32.ChecksumIEEE(binary.BigEndian.AppendUint64([]byte{1}, uint64(c.Val)))
}

func modelOf(cells []api.Cell) model {
	m := model{cells: cells}
	var row []uint32
	for _, c := range cells {
		row = append(row, modelLeaf(c))
	}
	m.numbers = append(m.numbers, row)
	for len(row) > 1 {
		var next []uint32
		for group := range slices.Chunk(row, 16) {
			var b []byte
			for _, n := range group {
				b = binary.BigEndian.AppendUint32(b, n)
			}
			next = append(next, crc32.ChecksumIEEE(b))
		}
		row = next
		m.numbers = append(m.numbers, row)
	}
	return m
}

func modelTable(l []api.Pair) model {
	cells := make([]api.Cell, api.MaxKey)
	for _, p := range l {
		cells[p.Key] = some(p.Val)
	}
	return modelOf(cells)
}

// proof is the numbers beside the way from a key to the root.
func (m model) proof(key int) []uint32 {
	var l []uint32
	for _, row := range m.numbers[:3] {
		first := key / 16 * 16
		for i := first; i < first+16; i++ {
			if i != key {
				l = append(l, row[i])
			}
		}
		key /= 16
	}
	return l
}

// differ are the keys that the chapter lets two trees' numbers tell apart.
func differ(a, b model) []int {
	var l []int
	for key := range api.MaxKey {
		apart := true
		at := key
		for level := range 4 {
			apart = apart && a.numbers[level][at] != b.numbers[level][at]
			at /= 16
		}
		if apart {
			l = append(l, key)
		}
	}
	return l
}

// set is keys as spans, the last two of which are one as long as there are too many.
func set(keys []int) []api.Span {
	var l []api.Span
	for _, key := range keys {
		if n := len(l); n > 0 && l[n-1].Hi == key {
			l[n-1].Hi++
		} else {
			l = append(l, api.Span{Lo: key, Hi: key + 1})
		}
	}
	for len(l) > api.MaxSpans {
		n := len(l)
		l = append(l[:n-2], api.Span{Lo: l[n-2].Lo, Hi: l[n-1].Hi})
	}
	return l
}

func tree(t *testing.T, l []api.Pair) *merkle.Tree {
	t.Helper()
	x, e := merkle.New(l)
	if e != api.OK || x == nil {
		t.Fatalf("New(%v): %v", l, e)
	}
	return x
}

// checkTree asks a tree for all that it has.
func checkTree(t *testing.T, x *merkle.Tree, m model) {
	t.Helper()
	var l []api.Pair
	for key, c := range m.cells {
		if got := x.Get(key); got != c {
			t.Fatalf("Get(%d): %v, want %v", key, got, c)
		}
		if n, e := x.Leaf(key); e != api.OK || n != m.numbers[0][key] {
			t.Fatalf("Leaf(%d): %x, %v, want %x", key, n, e, m.numbers[0][key])
		}
		if c.Some {
			l = append(l, api.Pair{Key: key, Val: c.Val})
		}
	}
	if got := x.Table(); !slices.Equal(got, l) {
		t.Errorf("Table: %v, want %v", got, l)
	}
	for level := range 3 {
		for i, want := range m.numbers[level+1] {
			if n, e := x.Node(level, i); e != api.OK || n != want {
				t.Fatalf("Node(%d, %d): %x, %v, want %x", level, i, n, e, want)
			}
		}
	}
	if x.Root() != m.numbers[3][0] {
		t.Errorf("Root: %x, want %x", x.Root(), m.numbers[3][0])
	}
}

// Promise 20.1: a tree of a table has its cells and pairs; and (20.2) the numbers that the chapter gives them.
func TestNew(t *testing.T) {
	for _, l := range tables() {
		checkTree(t, tree(t, l), modelTable(l))
	}
	for _, l := range notTables() {
		if x, e := merkle.New(l); e != api.ErrArg || x != nil {
			t.Errorf("New(%v): %v, %v", l, x, e)
		}
	}
	if merkle.Fan != 16 || merkle.Levels != 3 {
		t.Errorf("Fan %d, Levels %d", merkle.Fan, merkle.Levels)
	}
}

// Promise 20.1: the chapter's examples of keys and cells.
func TestGetSetExamples(t *testing.T) {
	x := tree(t, pairs(17, -1))
	if c := x.Get(17); c != some(-1) {
		t.Errorf("Get(17): %v", c)
	}
	if _, e := merkle.New(pairs(2, 0, 1, 0)); e != api.ErrArg {
		t.Errorf("New of keys that fall: %v", e)
	}
	if x.Set(4096, some(1)) != api.ErrArg || x.Set(1, api.Cell{Val: 1}) != api.ErrArg {
		t.Errorf("Set of what may not be")
	}
}

// Promise 20.1: what Set refuses changes nothing; Get of what is no key is the zero cell.
func TestSetRefused(t *testing.T) {
	l := pairs(3, 1, 17, -1, 4000, 9)
	x, m := tree(t, l), modelTable(l)
	for _, key := range notKeys() {
		for _, c := range append(notCells(), api.Cell{}, some(1)) {
			if e := x.Set(key, c); e != api.ErrArg {
				t.Errorf("Set(%d, %v): %v", key, c, e)
			}
		}
		if c := x.Get(key); c != (api.Cell{}) {
			t.Errorf("Get(%d): %v", key, c)
		}
	}
	for _, c := range notCells() {
		for _, key := range []int{0, 3, 4000, 4095} {
			if e := x.Set(key, c); e != api.ErrArg {
				t.Errorf("Set(%d, %v): %v", key, c, e)
			}
		}
	}
	checkTree(t, x, m)
}

// Promises 20.1 and 20.4: a tree that is set key by key is that of its table, at any time.
func TestSet(t *testing.T) {
	r := rand.New(rand.NewSource(20))
	for _, l := range tables() {
		x, m := tree(t, l), modelTable(l)
		for i := range 60 {
			key := r.Intn(api.MaxKey)
			if i%4 == 0 {
				key = []int{0, 4095, 15, 16, 255, 256}[r.Intn(6)]
			}
			c := api.Cell{}
			switch r.Intn(4) {
			case 0:
				c = some([]int{0, api.MaxVal, -api.MaxVal, -1, 1}[r.Intn(5)])
			case 1, 2:
				c = some(r.Intn(2*api.MaxVal+1) - api.MaxVal)
			}
			if e := x.Set(key, c); e != api.OK {
				t.Fatalf("Set(%d, %v): %v", key, c, e)
			}
			m.cells[key] = c
			if i%20 == 0 {
				checkTree(t, x, modelOf(m.cells))
			}
		}
		checkTree(t, x, modelOf(m.cells))
		if fresh := tree(t, x.Table()); !reflect.DeepEqual(fresh, x) {
			t.Errorf("the tree of the table is another one")
		}
	}
}

// Promise 20.4: set back, a tree is again what it was; filled and emptied key by key, too.
func TestSetBack(t *testing.T) {
	x := tree(t, nil)
	for key := range api.MaxKey {
		x.Set(key, some(key-2000))
	}
	if x.Root() == tree(t, nil).Root() || len(x.Table()) != api.MaxKey {
		t.Errorf("filled: %x", x.Root())
	}
	for key := range api.MaxKey {
		x.Set(api.MaxKey-1-key, api.Cell{})
	}
	checkTree(t, x, modelTable(nil))
}

// Promise 20.2: the number of a leaf, by bytes that stand here.
func TestNumber(t *testing.T) {
	for _, x := range []struct {
		val   int
		bytes string
	}{
		{0, "\x01\x00\x00\x00\x00\x00\x00\x00\x00"}, {1, "\x01\x00\x00\x00\x00\x00\x00\x00\x01"}, {-1, "\x01\xff\xff\xff\xff\xff\xff\xff\xff"},
		{300, "\x01\x00\x00\x00\x00\x00\x00\x01\x2c"}, {api.MaxVal, "\x01\x00\x00\x01\x00\x00\x00\x00\x00"}, {-api.MaxVal, "\x01\xff\xff\xff\x00\x00\x00\x00\x00"},
		{math.MaxInt, "\x01\x7f\xff\xff\xff\xff\xff\xff\xff"}, {math.MinInt, "\x01\x80\x00\x00\x00\x00\x00\x00\x00"}, {0x0123456789abcdef, "\x01\x01\x23\x45\x67\x89\xab\xcd\xef"},
	} {
		if n := merkle.Number(some(x.val)); n != crc32.ChecksumIEEE([]byte(x.bytes)) {
			t.Errorf("Number(%d): %x", x.val, n)
		}
	}
	for _, val := range []int{0, 1, -1, math.MaxInt} {
		if n := merkle.Number(api.Cell{Val: val}); n != 0 {
			t.Errorf("the number of no value: %x", n)
		}
	}
}

// Promise 20.2: the root of the empty table: the sum of sums of sums of 64 zero bytes.
func TestEmptyRoot(t *testing.T) {
	b := make([]byte, 64)
	for range 2 {
		n := crc32.ChecksumIEEE(b)
		b = nil
		for range 16 {
			b = binary.BigEndian.AppendUint32(b, n)
		}
	}
	want := crc32.ChecksumIEEE(b)
	if n := tree(t, nil).Root(); n != want {
		t.Errorf("Root: %x, want %x", n, want)
	}
	var none *merkle.Tree
	if n := none.Root(); n != want {
		t.Errorf("Root of a nil tree: %x, want %x", n, want)
	}
}

// Promise 20.2: there are no other levels, nodes and leaves.
func TestNoNode(t *testing.T) {
	x := tree(t, pairs(17, -1))
	for _, at := range [][2]int{{3, 0}, {-1, 0}, {4, 0}, {math.MaxInt, 0}, {math.MinInt, 0}, {2, 1}, {1, 16}, {0, 256}, {0, -1}, {1, -1}, {2, -1}, {0, math.MaxInt}, {0, math.MinInt}, {2, math.MaxInt}} {
		if n, e := x.Node(at[0], at[1]); e != api.ErrArg || n != 0 {
			t.Errorf("Node(%d, %d): %x, %v", at[0], at[1], n, e)
		}
	}
	for _, at := range [][2]int{{2, 0}, {1, 15}, {0, 255}} {
		if _, e := x.Node(at[0], at[1]); e != api.OK {
			t.Errorf("Node(%d, %d): %v", at[0], at[1], e)
		}
	}
	if n, _ := x.Node(2, 0); n != x.Root() {
		t.Errorf("Node(2, 0): %x, the root: %x", n, x.Root())
	}
	for _, key := range notKeys() {
		if n, e := x.Leaf(key); e != api.ErrArg || n != 0 {
			t.Errorf("Leaf(%d): %x, %v", key, n, e)
		}
		if l, e := x.Prove(key); e != api.ErrArg || l != nil {
			t.Errorf("Prove(%d): %v, %v", key, l, e)
		}
	}
}

// Promise 20.2: proofs are the numbers beside the way to the root, and verify.
func TestProve(t *testing.T) {
	for _, l := range tables() {
		x, m := tree(t, l), modelTable(l)
		for _, key := range []int{0, 1, 15, 16, 17, 18, 240, 255, 256, 2048, 4000, 4080, 4094, 4095} {
			proof, e := x.Prove(key)
			if e != api.OK || !slices.Equal(proof, m.proof(key)) || len(proof) != 45 {
				t.Fatalf("Prove(%d): %v, %v, want %v", key, proof, e, m.proof(key))
			}
			if !merkle.Verify(x.Root(), key, x.Get(key), proof) {
				t.Errorf("key %d: the proof does not verify", key)
			}
		}
	}
}

// Promise 20.2: the chapter's example of a proof, and what else is none.
func TestVerify(t *testing.T) {
	x := tree(t, pairs(17, -1))
	proof, _ := x.Prove(17)
	root := x.Root()
	if !merkle.Verify(root, 17, some(-1), proof) {
		t.Errorf("the proof does not verify")
	}
	if merkle.Verify(root, 17, some(1), proof) || merkle.Verify(root, 18, some(-1), proof) || merkle.Verify(root, 17, api.Cell{}, proof) || merkle.Verify(root+1, 17, some(-1), proof) {
		t.Errorf("what is not so verifies")
	}
	for _, l := range [][]uint32{nil, {}, proof[:44], append(slices.Clone(proof), 0), append(slices.Clone(proof), proof...)} {
		if merkle.Verify(root, 17, some(-1), l) {
			t.Errorf("a proof of %d numbers verifies", len(l))
		}
	}
	for _, key := range append(notKeys(), 17+4096, 17-4096) {
		if merkle.Verify(root, key, some(-1), proof) {
			t.Errorf("what is no key verifies: %d", key)
		}
	}
	for i := range proof {
		other := slices.Clone(proof)
		other[i] ^= 1 << (i % 32)
		if merkle.Verify(root, 17, some(-1), other) {
			t.Errorf("another %d-th number verifies", i)
		}
	}
	if merkle.Verify(root, 17, some(math.MinInt), proof) || merkle.Verify(root, 17, api.Cell{Val: -1}, proof) {
		t.Errorf("a cell that may not be verifies")
	}
}

// Promise 20.4: a value whose bytes differ within four does not verify, and has another root.
func TestOtherValue(t *testing.T) {
	r := rand.New(rand.NewSource(4))
	l := chance(r, 600)
	x := tree(t, l)
	for range 600 {
		key, val := r.Intn(api.MaxKey), r.Intn(2*api.MaxVal+1)-api.MaxVal
		x.Set(key, some(val))
		root := x.Root()
		proof, _ := x.Prove(key)
		other := val ^ (1+r.Intn(1<<32-1))<<(8*r.Intn(5))
		if !merkle.Verify(root, key, some(val), proof) || merkle.Verify(root, key, some(other), proof) {
			t.Errorf("key %d, values %x and %x", key, val, other)
		}
		if x.Set(key, some(other)) != api.OK {
			continue
		}
		y := tree(t, x.Table())
		y.Set(key, some(val))
		if d := merkle.Diff(x, y); x.Root() == root || !slices.Equal(d, []api.Span{{Lo: key, Hi: key + 1}}) {
			t.Errorf("key %d, values %x and %x: %v", key, val, other, d)
		}
	}
}

// Promise 20.3: the chapter's examples.
func TestDiffExamples(t *testing.T) {
	a, b := tree(t, pairs(17, -1, 4000, 9)), tree(t, pairs(18, 5, 4000, 8))
	if d := merkle.Diff(a, b); !slices.Equal(d, []api.Span{{Lo: 17, Hi: 19}, {Lo: 4000, Hi: 4001}}) {
		t.Errorf("Diff: %v", d)
	}
	if d := merkle.Diff(tree(t, pairs(5, 7)), tree(t, pairs(5, 8))); !slices.Equal(d, []api.Span{{Lo: 5, Hi: 6}}) {
		t.Errorf("Diff: %v", d)
	}
}

// Promise 20.3: any two trees, also nil ones.
func TestDiff(t *testing.T) {
	r := rand.New(rand.NewSource(3))
	l := append(tables(), chance(r, 40), chance(r, 80), chance(r, 2000))
	for range 20 {
		near := slices.Clone(l[5+r.Intn(len(l)-5)])
		for range r.Intn(100) {
			near[r.Intn(len(near))].Val ^= 1 << r.Intn(40)
		}
		if table.Check(near) {
			l = append(l, near)
		}
	}
	for _, p := range l {
		for _, q := range l {
			want := set(differ(modelTable(p), modelTable(q)))
			d := merkle.Diff(tree(t, p), tree(t, q))
			if !slices.Equal(d, want) || !span.Check(d) {
				t.Fatalf("Diff of %v and %v: %v, want %v", p, q, d, want)
			}
		}
		want := set(differ(modelTable(p), modelTable(nil)))
		if d := merkle.Diff(tree(t, p), nil); !slices.Equal(d, want) {
			t.Errorf("Diff of %v and nil: %v, want %v", p, d, want)
		}
		if d := merkle.Diff(nil, tree(t, p)); !slices.Equal(d, want) {
			t.Errorf("Diff of nil and %v: %v, want %v", p, d, want)
		}
	}
	x := tree(t, l[5])
	if d := merkle.Diff(x, x); d != nil {
		t.Errorf("Diff of a tree and itself: %v", d)
	}
	if d := merkle.Diff(nil, nil); d != nil {
		t.Errorf("Diff of nil and nil: %v", d)
	}
}

// Promise 20.3: of too many spans the last ones are one.
func TestDiffMany(t *testing.T) {
	for n, want := range map[int]api.Span{63: {Lo: 124, Hi: 125}, 64: {Lo: 126, Hi: 127}, 65: {Lo: 126, Hi: 129}, 66: {Lo: 126, Hi: 131}, 2048: {Lo: 126, Hi: 4095}} {
		var l []api.Pair
		for i := range n {
			l = append(l, api.Pair{Key: 2 * i, Val: 5})
		}
		d := merkle.Diff(tree(t, l), nil)
		if len(d) != min(n, 64) || d[len(d)-1] != want || d[0] != (api.Span{Lo: 0, Hi: 1}) || !span.Check(d) {
			t.Errorf("%d keys: %v", n, d)
		}
	}
}

// twin is a value that differs from one, but whose leaf has the same number:
// found by elimination, since a sum is a linear thing.
func twin(val int) int {
	basis := map[int][2]uint64{} // by the top bit of a sum: the sum, and the bits that make it
	zero := modelLeaf(some(0))
	for i := range 40 {
		sum, made := uint64(modelLeaf(some(1<<i))^zero), uint64(1)<<i
		for bit := 31; bit >= 0 && sum != 0; bit-- {
			if sum>>bit&1 == 0 {
				continue
			}
			if x, is := basis[bit]; is {
				sum, made = sum^x[0], made^x[1]
				continue
			}
			basis[bit] = [2]uint64{sum, made}
			break
		}
		if sum == 0 {
			return val ^ int(made)
		}
	}
	return val
}

// Promise 20.3: keys whose leaves have the same number do not differ, nor do those below nodes that have it.
func TestTwins(t *testing.T) {
	a, b := 0, twin(0)
	if a == b || merkle.Number(some(a)) != merkle.Number(some(b)) || b > api.MaxVal {
		t.Fatalf("%x and %x are no twins", a, b)
	}
	x, y := tree(t, pairs(5, a, 6, 1, 300, a)), tree(t, pairs(5, b, 6, 2, 300, b))
	if d := merkle.Diff(x, y); !slices.Equal(d, []api.Span{{Lo: 6, Hi: 7}}) {
		t.Errorf("Diff: %v", d)
	}
	y.Set(6, some(1))
	if x.Root() != y.Root() || merkle.Diff(x, y) != nil {
		t.Errorf("trees of twins: %v", merkle.Diff(x, y))
	}
	if y.Get(5) != some(b) || x.Get(5) != some(a) {
		t.Errorf("cells of twins")
	}
}

// nodeTwins are, by a level, two tables that differ in two keys below two
// children of its first node, while that node has the same number in both.
func nodeTwins() [][2][]api.Pair {
	return [][2][]api.Pair{
		{pairs(0, 71609, 1, 567071684), pairs(0, 77597, 1, 614490656)},
		{pairs(0, 75823, 16, 600442350), pairs(0, 128205, 16, 1015255408)},
		{pairs(0, 39438, 256, 312309535), pairs(0, 156756, 256, 1241350777)},
	}
}

// Promise 20.3: below nodes that have the same number nothing is examined,
// though the leaves there differ; as soon as the nodes differ, it is.
func TestNodeTwins(t *testing.T) {
	for level, l := range nodeTwins() {
		x, y := tree(t, l[0]), tree(t, l[1])
		m, _ := x.Node(level, 0)
		n, _ := y.Node(level, 0)
		if m != n || x.Root() != y.Root() || merkle.Number(some(l[0][0].Val)) == merkle.Number(some(l[1][0].Val)) {
			t.Fatalf("the first nodes of level %d: %x and %x", level, m, n)
		}
		if d := merkle.Diff(x, y); d != nil {
			t.Errorf("level %d: %v", level, d)
		}
		far, second := api.Span{Lo: 4000, Hi: 4001}, l[0][1].Key
		y.Set(far.Lo, some(1))
		want := []api.Span{far}
		if level == 2 {
			want = []api.Span{{Lo: 0, Hi: 1}, {Lo: second, Hi: second + 1}, far}
		}
		if d := merkle.Diff(x, y); !slices.Equal(d, want) {
			t.Errorf("level %d: %v, want %v", level, d, want)
		}
		y.Set(second+1, some(1))
		both := []api.Span{{Lo: 0, Hi: 1}, {Lo: second, Hi: second + 2}, far}
		if level == 0 {
			both = []api.Span{{Lo: 0, Hi: 3}, far}
		}
		if d := merkle.Diff(x, y); !slices.Equal(d, both) {
			t.Errorf("level %d: %v, want %v", level, d, both)
		}
	}
}

// Promises 20.1 and 20.2: a nil tree refuses, or is like that of the empty table.
func TestNil(t *testing.T) {
	var x *merkle.Tree
	if e := x.Set(1, some(1)); e != api.ErrArg {
		t.Errorf("Set: %v", e)
	}
	if c := x.Get(1); c != (api.Cell{}) {
		t.Errorf("Get: %v", c)
	}
	if n, e := x.Node(2, 0); e != api.ErrArg || n != 0 {
		t.Errorf("Node: %x, %v", n, e)
	}
	if n, e := x.Leaf(1); e != api.ErrArg || n != 0 {
		t.Errorf("Leaf: %x, %v", n, e)
	}
	if l, e := x.Prove(1); e != api.ErrArg || l != nil {
		t.Errorf("Prove: %v, %v", l, e)
	}
	if l := x.Table(); l != nil {
		t.Errorf("Table: %v", l)
	}
}

// Promises 20.1 to 20.3 with R3: what is handed in is neither changed nor kept, and what is answered is new.
func TestNothingShared(t *testing.T) {
	l := pairs(3, 1, 17, -1, 4000, 9)
	x := tree(t, l)
	l[0], l[1] = api.Pair{Key: 9, Val: 9}, api.Pair{}
	proof, _ := x.Prove(17)
	merkle.Verify(x.Root(), 17, some(-1), proof)
	if want := modelTable(pairs(3, 1, 17, -1, 4000, 9)).proof(17); !slices.Equal(proof, want) {
		t.Errorf("Verify changed the proof")
	}
	clear(proof)
	clear(x.Table())
	d := merkle.Diff(x, nil)
	clear(d)
	checkTree(t, x, modelTable(pairs(3, 1, 17, -1, 4000, 9)))
	y := tree(t, x.Table())
	y.Set(3, some(2))
	checkTree(t, x, modelTable(pairs(3, 1, 17, -1, 4000, 9)))
}

// Promises 20.1 to 20.4: any keys and values, and any numbers for a proof.
func FuzzTree(f *testing.F) {
	f.Add(17, -1, true, 18, 5, 7)
	f.Add(-1, api.MaxVal, true, 4096, api.Absent, 0)
	f.Add(0, 1, false, 4095, -api.MaxVal, 44)
	f.Fuzz(func(t *testing.T, key, val int, is bool, other, otherVal, at int) {
		x := tree(t, pairs(17, -1, 4000, 9))
		m := modelTable(x.Table())
		c := api.Cell{Val: val, Some: is}
		mayBe := 0 <= key && key < 4096 && (is && -api.MaxVal <= val && val <= api.MaxVal || !is && val == 0)
		if e := x.Set(key, c); (e == api.OK) != mayBe {
			t.Fatalf("Set(%d, %v): %v", key, c, e)
		}
		if mayBe {
			m.cells[key] = c
		}
		checkTree(t, x, modelOf(m.cells))
		x.Set(other, some(otherVal))
		proof, e := x.Prove(key)
		if e != api.OK {
			return
		}
		if !merkle.Verify(x.Root(), key, x.Get(key), proof) {
			t.Errorf("the proof of %d does not verify", key)
		}
		i := (at%45 + 45) % 45
		proof[i]++
		if merkle.Verify(x.Root(), key, x.Get(key), proof) {
			t.Errorf("another %d-th number verifies", i)
		}
	})
}
