package rows

import (
	"fmt"
	"math"
	"slices"
	"testing"

	"burnbag/api"
)

// row is a row of a key, with words by which it is told apart from all others of other keys or numbers.
func row(key int64, n uint64) api.Row {
	return api.Row{Key: key, Pair: api.Pair{A: 3*uint64(key) + n<<32, B: ^uint64(key) - n}}
}

// of is rows of keys, each with its own words, also where two have one key.
func of(keys ...int64) []api.Row {
	var l []api.Row
	for i, key := range keys {
		l = append(l, row(key, uint64(i)))
	}
	return l
}

// ends is keys at the ends of int64, next to them, and between, such as differ by their sign, by their high or by their lowest bits alone.
func ends() []int64 {
	return []int64{
		math.MinInt64, math.MinInt64 + 1, math.MinInt64 + 2, -1 << 53, -1<<32 - 1, -1 << 32, -3, -2, -1,
		0, 1, 2, 3, 1<<31 - 1, 1 << 31, 1 << 32, 1<<32 + 1, 1 << 53, 1<<53 + 1, math.MaxInt64 - 2, math.MaxInt64 - 1, math.MaxInt64,
	}
}

// rising is lists that rise: all that there are of some keys, the empty one and those of one row among them, and longer ones.
func rising() [][]api.Row {
	some := []int64{math.MinInt64, math.MinInt64 + 1, -4, 0, 1, 7, math.MaxInt64 - 1, math.MaxInt64}
	lists := [][]api.Row{nil, {}, of(ends()...)}
	for which := 1; which < 1<<len(some); which++ {
		var keys []int64
		for i, key := range some {
			if which>>i&1 == 1 {
				keys = append(keys, key)
			}
		}
		lists = append(lists, of(keys...))
	}
	var even []int64
	for key := int64(-60); key < 60; key += 2 {
		even = append(even, key)
	}
	return append(lists, of(even...))
}

// unsorted is lists that don't rise: falling ones, ones with equal keys, ones that rise but for one place, and all short ones of few keys.
func unsorted() [][]api.Row {
	lists := [][]api.Row{
		of(9, 3), of(9, 5, 3), of(1, 0, -1, -2), of(math.MaxInt64, math.MinInt64), of(0, math.MaxInt64, math.MinInt64),
		of(4, 4), of(4, 4, 4, 4), of(3, 4, 4, 5), of(4, 2, 4), of(5, 4, 5, 4, 5), of(3, 9, 5, 9, 3),
		of(math.MinInt64, math.MinInt64), of(math.MaxInt64, math.MaxInt64), {{Key: 2}, {Key: 2}},
	}
	falling := ends()
	slices.Reverse(falling)
	lists = append(lists, of(falling...))
	for i := 1; i < len(ends()); i++ {
		swapped, twice := ends(), ends()
		swapped[i-1], swapped[i] = swapped[i], swapped[i-1]
		twice[i] = twice[i-1]
		lists = append(lists, of(swapped...), of(twice...))
	}
	few := []int64{math.MinInt64, -1, 6, math.MaxInt64}
	for which := range 4 * 4 * 4 * 4 {
		keys := []int64{few[which&3], few[which>>2&3], few[which>>4&3], few[which>>6&3]}
		if keys[0] >= keys[1] || keys[1] >= keys[2] || keys[2] >= keys[3] {
			lists = append(lists, of(keys...))
		}
	}
	return lists
}

// lists is lists that rise, and lists that don't.
func lists() [][]api.Row {
	return append(rising(), unsorted()...)
}

// asked is keys to be asked for of a list: those that it has, those next to them, those below all and above all, and others.
func asked(l []api.Row) []int64 {
	keys := append(ends(), 4, 5, 6, 8, 9, 10)
	for _, x := range l {
		// At the ends of int64 what is next wraps round to the other end, which is a key as any.
		keys = append(keys, x.Key-1, x.Key, x.Key+1)
	}
	slices.Sort(keys)
	return slices.Compact(keys)
}

// place is where a key is, or would be, and whether it is there, by a loop of its own: rows are passed over as long as they are less.
func place(l []api.Row, key int64) (int, bool) {
	n := 0
	for n < len(l) && l[n].Key < key {
		n++
	}
	return n, n < len(l) && l[n].Key == key
}

// with is a list with a row at a place.
func with(l []api.Row, n int, x api.Row) []api.Row {
	var out []api.Row
	for i := 0; i <= len(l); i++ {
		if i == n {
			out = append(out, x)
		}
		if i < len(l) {
			out = append(out, l[i])
		}
	}
	return out
}

// without is a list without the row at a place.
func without(l []api.Row, n int) []api.Row {
	var out []api.Row
	for i, x := range l {
		if i != n {
			out = append(out, x)
		}
	}
	return out
}

// reach is the rows whose key is from or above, in order.
func reach(l []api.Row, from int64) []api.Row {
	var out []api.Row
	for _, x := range l {
		if x.Key >= from {
			out = append(out, x)
		}
	}
	return out
}

// alike tells whether lists have the same rows, field by field.
func alike(a, b []api.Row) bool {
	if len(a) != len(b) {
		return false
	}
	for i := range a {
		if a[i].Key != b[i].Key || a[i].Pair.A != b[i].Pair.A || a[i].Pair.B != b[i].Pair.B {
			return false
		}
	}
	return true
}

// laid is a list that lies within other rows, which its capacity takes in, and all of it as it was.
type laid struct{ whole, was, list []api.Row }

// lay lays a list so that there are rows ahead and behind.
func lay(l []api.Row) laid {
	whole := append(of(-77, 88), l...)
	whole = append(whole, of(5, -5, 99)...)
	return laid{whole, slices.Clone(whole), whole[2 : 2+len(l)]}
}

// check holds what lies there against what lay there.
func (d laid) check(t *testing.T, about string) {
	t.Helper()
	if !alike(d.whole, d.was) {
		t.Fatalf("%s: what was handed in is %v, and was %v", about, d.whole, d.was)
	}
}

// spoil changes all rows of a list, and all that lies behind its length.
func spoil(l []api.Row) {
	l = l[:cap(l)]
	for i := range l {
		l[i] = api.Row{Key: -4242, Pair: api.Pair{A: 4242, B: 42}}
	}
}

// checkNew holds a list that was told of another one against what it should be, and checks that neither is changed where the other one is.
func checkNew(t *testing.T, about string, d laid, got, want []api.Row) {
	t.Helper()
	if !alike(got, want) {
		t.Fatalf("%s: %v, not %v", about, got, want)
	}
	d.check(t, about)
	kept := slices.Clone(got)
	spoil(d.whole)
	if !alike(got, kept) {
		t.Fatalf("%s: it is changed with the list that was handed in", about)
	}
	copy(d.whole, d.was)
	spoil(got)
	d.check(t, about+", then changed")
}

// gather is what an iterator tells, to its end.
func gather(next func(func(api.Row) bool)) []api.Row {
	var out []api.Row
	for x := range next {
		out = append(out, x)
	}
	return out
}

func TestRises(t *testing.T) {
	for _, l := range rising() {
		d := lay(l)
		if !Rises(d.list) {
			t.Errorf("%v: doesn't rise", l)
		}
		d.check(t, "Rises")
	}
	for _, l := range unsorted() {
		d := lay(l)
		if Rises(d.list) {
			t.Errorf("%v: rises", l)
		}
		d.check(t, "Rises")
	}
}

func TestRisesBesideItsWords(t *testing.T) {
	if !Rises([]api.Row{{Key: 1, Pair: api.Pair{A: 9, B: 9}}, {Key: 2, Pair: api.Pair{A: 3, B: 3}}, {Key: 3}}) {
		t.Error("words that fall: the keys don't rise")
	}
	if Rises([]api.Row{{Key: 1}, {Key: 1, Pair: api.Pair{A: 1, B: 1}}}) {
		t.Error("words that rise: equal keys rise")
	}
}

func TestRisesOfKeysFarApart(t *testing.T) {
	for _, low := range ends() {
		for _, high := range ends() {
			if got := Rises(of(low, high)); got != (low < high) {
				t.Errorf("%d, %d: %v", low, high, got)
			}
		}
	}
}

func TestAt(t *testing.T) {
	for _, l := range lists() {
		d := lay(l)
		for _, key := range asked(l) {
			n, there := At(d.list, key)
			if want, is := place(l, key); n != want || there != is {
				t.Fatalf("%d in %v: %d %v, not %d %v", key, l, n, there, want, is)
			}
		}
		d.check(t, "At")
	}
}

func TestAtByHand(t *testing.T) {
	for _, c := range []struct {
		l     []api.Row
		key   int64
		place int
		there bool
	}{
		{nil, 0, 0, false},
		{nil, math.MinInt64, 0, false},
		{[]api.Row{}, math.MaxInt64, 0, false},
		{of(0), 0, 0, true},
		{of(0), -1, 0, false},
		{of(0), 1, 1, false},
		{of(math.MinInt64), math.MinInt64, 0, true},
		{of(math.MinInt64), math.MinInt64 + 1, 1, false},
		{of(math.MaxInt64), math.MaxInt64, 0, true},
		{of(math.MaxInt64), math.MaxInt64 - 1, 0, false},
		{of(math.MaxInt64), math.MinInt64, 0, false},
		{of(math.MinInt64, math.MaxInt64), 0, 1, false},
		{of(3, 5, 9), 5, 1, true},
		{of(3, 5, 9), 4, 1, false},
		{of(3, 5, 9), 9, 2, true},
		{of(3, 5, 9), 10, 3, false},
		{of(9, 5, 3), 3, 0, false},
		{of(9, 5, 3), 9, 0, true},
		{of(3, 9, 5), 5, 1, false},
		{of(3, 5, 4), 4, 1, false},
		{of(3, 1, 4), 4, 2, true},
		{of(5, 5, 5), 5, 0, true},
		{of(2, 5, 1, 5), 5, 1, true},
		{of(2, 1, 0), 3, 3, false},
	} {
		if n, there := At(c.l, c.key); n != c.place || there != c.there {
			t.Errorf("%d in %v: %d %v, not %d %v", c.key, c.l, n, there, c.place, c.there)
		}
	}
}

func TestPut(t *testing.T) {
	for _, l := range lists() {
		for _, key := range asked(l) {
			n, there := place(l, key)
			if there {
				continue
			}
			d, x := lay(l), row(key, 50)
			about := fmt.Sprintf("put %v into %v", x, l)
			got, done := Put(d.list, x)
			if !done {
				t.Fatalf("%s: false", about)
			}
			checkNew(t, about, d, got, with(l, n, x))
		}
	}
}

func TestPutOfAKeyThatIsThere(t *testing.T) {
	for _, l := range lists() {
		for _, is := range l {
			if _, there := place(l, is.Key); !there {
				continue
			}
			for _, pair := range []api.Pair{is.Pair, {}, {A: is.Pair.A + 1, B: is.Pair.B}, {A: is.Pair.A, B: is.Pair.B ^ 1<<63}, {A: is.Pair.B, B: is.Pair.A}} {
				d, x := lay(l), api.Row{Key: is.Key, Pair: pair}
				got, done := Put(d.list, x)
				if done || !alike(got, l) {
					t.Fatalf("put %v into %v: %v %v", x, l, got, done)
				}
				d.check(t, "Put")
			}
		}
	}
}

func TestPutAtEachPlace(t *testing.T) {
	even := []api.Row{row(0, 0), row(2, 1), row(4, 2), row(6, 3), row(8, 4)}
	for n := range 6 {
		x := row(int64(2*n-1), 9)
		got, done := Put(even, x)
		if !done || len(got) != 6 || got[n] != x {
			t.Errorf("put %v: %v %v, not at %d", x, got, done, n)
		}
	}
	if got, done := Put(nil, api.Row{}); !done || len(got) != 1 || got[0] != (api.Row{}) {
		t.Errorf("put noughts into none: %v %v", got, done)
	}
}

func TestPutIntoWhatDoesNotRise(t *testing.T) {
	x := api.Row{Key: 5, Pair: api.Pair{A: 1, B: 2}}
	for _, c := range []struct{ l, want []api.Row }{
		{of(9, 3), append([]api.Row{x}, of(9, 3)...)},
		{of(9, 5), append([]api.Row{x}, of(9, 5)...)},
		{of(4, 3), append(of(4, 3), x)},
		{of(6, 6), append([]api.Row{x}, of(6, 6)...)},
	} {
		if got, done := Put(c.l, x); !done || !alike(got, c.want) {
			t.Errorf("put %v into %v: %v %v, not %v", x, c.l, got, done, c.want)
		}
	}
	for _, l := range [][]api.Row{of(5, 5), of(5, 1), of(4, 3, 5, 0)} {
		if got, done := Put(l, x); done || !alike(got, l) {
			t.Errorf("put %v into %v: %v %v", x, l, got, done)
		}
	}
}

func TestDrop(t *testing.T) {
	for _, l := range lists() {
		for _, key := range asked(l) {
			n, there := place(l, key)
			if !there {
				continue
			}
			d := lay(l)
			about := fmt.Sprintf("drop %d of %v", key, l)
			got, x, done := Drop(d.list, key)
			if !done || x != l[n] {
				t.Fatalf("%s: %v %v", about, x, done)
			}
			checkNew(t, about, d, got, without(l, n))
		}
	}
}

func TestDropOfAKeyThatIsNotThere(t *testing.T) {
	for _, l := range lists() {
		for _, key := range asked(l) {
			if _, there := place(l, key); there {
				continue
			}
			d := lay(l)
			got, x, done := Drop(d.list, key)
			if done || x != (api.Row{}) || !alike(got, l) {
				t.Fatalf("drop %d of %v: %v %v %v", key, l, got, x, done)
			}
			d.check(t, "Drop")
		}
	}
}

func TestDropAtEachPlace(t *testing.T) {
	l := of(math.MinInt64, -1, 0, 4, math.MaxInt64)
	for n, is := range l {
		got, x, done := Drop(l, is.Key)
		if !done || x != is || !alike(got, without(l, n)) {
			t.Errorf("drop %d: %v %v %v", is.Key, got, x, done)
		}
	}
	if got, x, done := Drop(of(7), 7); !done || x != row(7, 0) || len(got) != 0 {
		t.Errorf("drop the only row: %v %v %v", got, x, done)
	}
}

func TestDropOfWhatDoesNotRise(t *testing.T) {
	for _, c := range []struct {
		l    []api.Row
		key  int64
		n    int
		done bool
	}{
		{of(9, 3), 9, 0, true},
		{of(9, 3), 3, 0, false},
		{of(4, 4, 4), 4, 0, true},
		{of(1, 4, 4), 4, 1, true},
		{of(3, 1, 4), 4, 2, true},
		{of(3, 9, 5), 5, 0, false},
		{of(3, 9, 5, 9), 9, 1, true},
	} {
		got, x, done := Drop(c.l, c.key)
		want, row := c.l, api.Row{}
		if c.done {
			want, row = without(c.l, c.n), c.l[c.n]
		}
		if done != c.done || x != row || !alike(got, want) {
			t.Errorf("drop %d of %v: %v %v %v, not %v %v %v", c.key, c.l, got, x, done, want, row, c.done)
		}
	}
}

func TestAll(t *testing.T) {
	for _, l := range lists() {
		d := lay(l)
		for _, from := range asked(l) {
			want := reach(l, from)
			told := All(d.list, from)
			for range 2 {
				if got := gather(told); !alike(got, want) {
					t.Fatalf("from %d of %v: %v, not %v", from, l, got, want)
				}
			}
		}
		d.check(t, "All")
	}
}

func TestAllByHand(t *testing.T) {
	for _, c := range []struct {
		l    []api.Row
		from int64
		want []api.Row
	}{
		{nil, math.MinInt64, nil},
		{of(3, 5, 9), math.MinInt64, of(3, 5, 9)},
		{of(3, 5, 9), 3, of(3, 5, 9)},
		{of(3, 5, 9), 4, of(3, 5, 9)[1:]},
		{of(3, 5, 9), 9, of(3, 5, 9)[2:]},
		{of(3, 5, 9), 10, nil},
		{of(3, 5, 9), math.MaxInt64, nil},
		{of(math.MinInt64, math.MaxInt64), math.MaxInt64, of(math.MinInt64, math.MaxInt64)[1:]},
		{of(9, 5, 3), 3, of(9, 5, 3)},
		{of(9, 5, 3), 5, of(9, 5, 3)[:2]},
		{of(5, 5), 5, of(5, 5)},
		{of(3, 9, 2), 3, of(3, 9)},
		{of(0, 9, 2), 1, of(0, 9, 2)[1:]},
	} {
		if got := gather(All(c.l, c.from)); !alike(got, c.want) {
			t.Errorf("from %d of %v: %v, not %v", c.from, c.l, got, c.want)
		}
	}
}

func TestAllBrokenOffAfterEachRow(t *testing.T) {
	for _, l := range lists() {
		for _, from := range []int64{math.MinInt64, -1, 0, 6, math.MaxInt64} {
			want, told := reach(l, from), All(l, from)
			for n := 1; n <= len(want); n++ {
				var got []api.Row
				told(func(x api.Row) bool {
					got = append(got, x)
					return len(got) < n
				})
				if !alike(got, want[:n]) {
					t.Fatalf("from %d of %v, broken off after %d: %v", from, l, n, got)
				}
			}
			if got := gather(told); !alike(got, want) {
				t.Fatalf("from %d of %v, after it was broken off: %v", from, l, got)
			}
		}
	}
}

func TestAllWithinItself(t *testing.T) {
	l := of(1, 2, 3)
	told := All(l, 2)
	var got []api.Row
	for x := range told {
		got = append(got, x)
		got = append(got, gather(told)...)
	}
	if want := []api.Row{l[1], l[1], l[2], l[2], l[1], l[2]}; !alike(got, want) {
		t.Errorf("%v, not %v", got, want)
	}
}

func TestAllKeepsNothingOfItsList(t *testing.T) {
	for _, l := range lists() {
		for _, from := range []int64{math.MinInt64, 0, 5} {
			d, want := lay(l), reach(l, from)
			told := All(d.list, from)
			spoil(d.whole)
			if got := gather(told); !alike(got, want) {
				t.Fatalf("from %d of %v, which then was changed: %v", from, l, got)
			}
			d = lay(l)
			var got []api.Row
			for x := range All(d.list, from) {
				got = append(got, x)
				spoil(d.whole)
			}
			if !alike(got, want) {
				t.Fatalf("from %d of %v, which was changed meanwhile: %v", from, l, got)
			}
		}
	}
}

// checkSame holds Same of two lists, either way round, against whether they are, and checks that they stay as they are.
func checkSame(t *testing.T, a, b []api.Row, want bool) {
	t.Helper()
	x, y := lay(a), lay(b)
	if Same(x.list, y.list) != want || Same(y.list, x.list) != want {
		t.Fatalf("%v and %v: the same should be %v", a, b, want)
	}
	x.check(t, "Same")
	y.check(t, "Same")
}

func TestSame(t *testing.T) {
	for _, l := range lists() {
		checkSame(t, l, slices.Clone(l), true)
		for i := range l {
			for _, change := range []func(x *api.Row){
				func(x *api.Row) { x.Key++ },
				func(x *api.Row) { x.Key ^= math.MinInt64 },
				func(x *api.Row) { x.Key ^= 1 << 32 },
				func(x *api.Row) { x.Pair.A++ },
				func(x *api.Row) { x.Pair.A ^= 1 << 63 },
				func(x *api.Row) { x.Pair.B-- },
				func(x *api.Row) { x.Pair.B ^= 1 << 63 },
				func(x *api.Row) { x.Pair.A++; x.Pair.B-- },
			} {
				other := slices.Clone(l)
				change(&other[i])
				checkSame(t, l, other, false)
			}
			other := slices.Clone(l)
			other[i].Pair = api.Pair{A: l[i].Pair.B, B: l[i].Pair.A}
			checkSame(t, l, other, l[i].Pair.A == l[i].Pair.B)
		}
	}
}

func TestSameOfOtherLengths(t *testing.T) {
	for _, l := range lists() {
		checkSame(t, l, append(slices.Clone(l), api.Row{}), false)
		checkSame(t, l, append([]api.Row{{}}, l...), false)
		if len(l) > 0 {
			checkSame(t, l, l[1:], false)
			checkSame(t, l, l[:len(l)-1], false)
			checkSame(t, l, append(slices.Clone(l), l[len(l)-1]), false)
			checkSame(t, l, nil, false)
		}
	}
}

func TestSameOfOtherOrders(t *testing.T) {
	for _, l := range lists() {
		for i := 1; i < len(l); i++ {
			other := slices.Clone(l)
			other[i-1], other[i] = other[i], other[i-1]
			checkSame(t, l, other, l[i-1] == l[i])
		}
	}
}

func TestSameOfNilAndEmpty(t *testing.T) {
	if !Same(nil, nil) || !Same(nil, []api.Row{}) || !Same([]api.Row{}, nil) || !Same([]api.Row{}, of(1)[:0]) {
		t.Error("nil and empty lists are one")
	}
	if Same(nil, []api.Row{{}}) || Same([]api.Row{{}}, nil) {
		t.Error("a row of noughts is a row")
	}
}

// found tells whether a list has a row where At says that its key is.
func found(l []api.Row, x api.Row) bool {
	n, there := At(l, x.Key)
	return there && n >= 0 && n < len(l) && l[n] == x
}

func TestWhatIsPutIsFoundTillItIsDropped(t *testing.T) {
	for _, l := range lists() {
		for _, key := range asked(l) {
			x := row(key, 50)
			put, done := Put(l, x)
			if !done {
				continue
			}
			if !found(put, x) {
				t.Fatalf("%v was put into %v, and isn't found", x, l)
			}
			if _, again := Put(put, x); again {
				t.Fatalf("%v was put into %v twice", x, l)
			}
			back, y, done := Drop(put, key)
			if !done || y != x || !alike(back, l) {
				t.Fatalf("%v was put into %v, then dropped: %v %v %v", x, l, back, y, done)
			}
			if _, there := At(back, key); there {
				t.Fatalf("%v was put into %v, then dropped, and is there", x, l)
			}
		}
	}
}

func TestWhatRisesGoesOnRising(t *testing.T) {
	for _, l := range rising() {
		for _, key := range asked(l) {
			put, _ := Put(l, row(key, 50))
			if !Rises(put) {
				t.Fatalf("%d was put into %v: %v", key, l, put)
			}
			rest, _, _ := Drop(l, key)
			if !Rises(rest) {
				t.Fatalf("%d was dropped out of %v: %v", key, l, rest)
			}
			if told := gather(All(l, key)); !Rises(told) {
				t.Fatalf("from %d of %v: %v", key, l, told)
			}
		}
	}
}

// TestAgainstAMap puts and drops many rows one behind the other, and holds the list against a map at each turn.
func TestAgainstAMap(t *testing.T) {
	keys, is := ends(), map[int64]api.Row{}
	var l []api.Row
	state := uint64(1)
	for turn := range uint64(4000) {
		state = state*6364136223846793005 + 1442695040888963407
		key := keys[state>>33%uint64(len(keys))]
		_, was := is[key]
		if state>>62&1 == 0 {
			next, done := Put(l, row(key, turn))
			if done == was {
				t.Fatalf("turn %d: put %d: %v", turn, key, done)
			}
			if done {
				is[key] = row(key, turn)
			}
			l = next
		} else {
			next, x, done := Drop(l, key)
			if done != was || x != is[key] {
				t.Fatalf("turn %d: drop %d: %v %v", turn, key, x, done)
			}
			delete(is, key)
			l = next
		}
		checkMap(t, l, is, keys)
	}
}

// checkMap holds a list against a map of what it should have.
func checkMap(t *testing.T, l []api.Row, is map[int64]api.Row, keys []int64) {
	t.Helper()
	if !Rises(l) || len(l) != len(is) {
		t.Fatalf("%v doesn't rise, or hasn't %d rows", l, len(is))
	}
	for _, key := range keys {
		x, there := is[key]
		if _, told := At(l, key); told != there || there && !found(l, x) {
			t.Fatalf("%d in %v: %v", key, l, told)
		}
	}
}

func TestManyRows(t *testing.T) {
	var l []api.Row
	const many = 3000
	for i := range int64(many) {
		// 7 and the number of rows have no factor in common, so each key comes once.
		next, done := Put(l, row(i*7%many, uint64(i)))
		if !done {
			t.Fatalf("put %d: false", i*7%many)
		}
		l = next
	}
	if !Rises(l) || len(l) != many {
		t.Fatalf("%d rows, or they don't rise", len(l))
	}
	for _, from := range []int64{-1, 0, 1, many / 2, many - 1, many} {
		n := max(int(from), 0)
		if got := gather(All(l, from)); !alike(got, l[n:]) {
			t.Fatalf("from %d: %d rows", from, len(got))
		}
		if place, there := At(l, from); place != n || there != (from >= 0 && from < many) {
			t.Fatalf("%d is at %d, %v", from, place, there)
		}
	}
}

func TestExample(t *testing.T) {
	l, done := Put([]api.Row{{Key: 3}, {Key: 9}}, api.Row{Key: 5})
	if want := []api.Row{{Key: 3}, {Key: 5}, {Key: 9}}; !done || !alike(l, want) {
		t.Errorf("5 into 3 and 9: %v %v", l, done)
	}
}
