package plan

import (
	"math"
	"testing"

	"burnbag/api"
)

// sized is a configuration of so many levels, slots and cells, and of as little else as there may be.
func sized(levels, slots, limbo int) api.Conf {
	return api.Conf{Levels: levels, Threads: 1, Slots: slots, Limbo: limbo, Gens: 1}
}

// right is configurations that may be: each number at its least, at its greatest, and between.
func right() []api.Conf {
	var l []api.Conf
	for levels := 1; levels <= 4; levels++ {
		for _, slots := range []int{2, 3, 9, 59, 60} {
			for _, limbo := range []int{1, 2, 7, 39, 40} {
				l = append(l, sized(levels, slots, limbo))
			}
		}
	}
	return append(l,
		api.Conf{Levels: 3, Threads: 4, Of: [8]int{0, 1, 2, 2}, Slots: 9, Limbo: 7, Gens: 1000, Quota: 5},
		api.Conf{Levels: 4, Threads: 8, Of: [8]int{3, 3, 3, 3, 3, 3, 3, 3}, Slots: 60, Limbo: 40, Gens: 1 << 20, Quota: 60},
	)
}

// wrong is configurations that may not be, each by one number alone.
func wrong() []api.Conf {
	l := []api.Conf{{}}
	add := func(put func(c *api.Conf, n int), ns ...int) {
		for _, n := range append(ns, -1, math.MinInt, math.MaxInt, 1<<32) {
			c := api.Conf{Levels: 3, Threads: 4, Of: [8]int{0, 1, 2, 2}, Slots: 9, Limbo: 7, Gens: 1000, Quota: 5}
			put(&c, n)
			l = append(l, c)
		}
	}
	add(func(c *api.Conf, n int) { c.Levels = n }, 0, 2, 5, 1<<32+3)
	add(func(c *api.Conf, n int) { c.Threads = n }, 0, 3, 9, 1<<32+4)
	add(func(c *api.Conf, n int) { c.Of[0] = n }, 3, 4)
	add(func(c *api.Conf, n int) { c.Of[3] = n }, 3, 4)
	add(func(c *api.Conf, n int) { c.Of[4] = n }, 1)
	add(func(c *api.Conf, n int) { c.Of[7] = n }, 1)
	add(func(c *api.Conf, n int) { c.Slots = n }, 0, 1, 61, 1<<32+9)
	add(func(c *api.Conf, n int) { c.Limbo = n }, 0, 41, 1<<32+7)
	add(func(c *api.Conf, n int) { c.Gens = n }, 0, 1<<20+1, 1<<32+1000)
	add(func(c *api.Conf, n int) { c.Quota = n }, 61, 1<<32+5)
	return l
}

// made is a plan of a configuration that may be.
func made(t *testing.T, c api.Conf) *Plan {
	t.Helper()
	p, e := New(c)
	if e != api.OK || p == nil {
		t.Fatalf("%+v: %v, %v", c, p, e)
	}
	return p
}

// laid is all places of a configuration, as the chapter tells their order, with numbers of the chapter's own.
func laid(c api.Conf) []Place {
	var l []Place
	for level := 0; level < c.Levels; level++ {
		for kind := 0; kind < 4; kind++ {
			l = append(l, Place{level, kind, 0, 0})
		}
		for i := 0; i < 4; i++ {
			l = append(l, Place{level, 4, i, 0})
		}
		for i := 0; i < 2; i++ {
			l = append(l, Place{level, 5, i, 0})
		}
		for i := 0; i < 8; i++ {
			l = append(l, Place{level, 6, i, 0})
		}
		for i := 0; i < c.Limbo; i++ {
			l = append(l, Place{level, 7, i, 0})
		}
		for slot := 1; slot <= c.Slots; slot++ {
			l = append(l, Place{level, 8, slot, 0})
		}
		for slot := 1; slot <= c.Slots; slot++ {
			for f := 0; f < 5; f++ {
				l = append(l, Place{level, 9, slot, f})
			}
		}
	}
	return l
}

// far is numbers that are far from all that there are, also such as wrap round when they are multiplied or lessened.
func far() []int {
	return []int{math.MinInt, math.MinInt + 1, math.MinInt / 5, -1 << 62, -1 << 32, -1<<32 + 1, -256, 256, 257, 1 << 32, 1<<32 + 1, 1 << 60, 1 << 61, 1 << 62, 1<<62 + 1, math.MaxInt / 5, math.MaxInt/5 + 1, math.MaxInt - 1, math.MaxInt}
}

// near is far, and the numbers from just below 0 to just beyond a count.
func near(count int) []int {
	l := far()
	for n := -10; n <= count+10; n++ {
		l = append(l, n)
	}
	return l
}

// 5.1

func TestNumbers(t *testing.T) {
	for want, got := range []int{Free, Epoch, Front, Back, Bucket, Set, Active, Cell, Link, Node} {
		if got != want {
			t.Errorf("kind %d is %d", want, got)
		}
	}
	for want, got := range []int{Head, Next, Key, A, B} {
		if got != want {
			t.Errorf("field %d is %d", want, got)
		}
	}
}

func TestNewOfRight(t *testing.T) {
	for _, c := range right() {
		if got := made(t, c).Conf(); got != c {
			t.Errorf("the plan of %+v is of %+v", c, got)
		}
	}
}

func TestNewOfWrong(t *testing.T) {
	for _, c := range wrong() {
		if p, e := New(c); p != nil || e != api.ErrArg {
			t.Errorf("%+v: %v, %v", c, p, e)
		}
	}
}

func TestWords(t *testing.T) {
	for _, c := range right() {
		if got, want := made(t, c).Words(), c.Levels*(18+c.Limbo+6*c.Slots); got != want {
			t.Errorf("%+v: %d words, not %d", c, got, want)
		}
	}
	if got := made(t, sized(4, 60, 40)).Words(); got != 1672 {
		t.Errorf("the greatest one: %d words", got)
	}
}

func TestAtAndWhat(t *testing.T) {
	for _, c := range right() {
		p := made(t, c)
		for a, x := range laid(c) {
			if got := p.At(x); got != a {
				t.Errorf("%+v: %+v at %d, not %d", c, x, got, a)
			}
			if got, ok := p.What(a); got != x || !ok {
				t.Errorf("%+v: word %d: %+v, %v, not %+v", c, a, got, ok, x)
			}
		}
	}
}

func TestByHand(t *testing.T) {
	// 3 levels of 4 slots and 5 cells: 47 words each; Cells from 18 on, Links from 23 on, nodes from 27 on.
	p := made(t, sized(3, 4, 5))
	cases := []struct {
		a int
		x Place
	}{
		{0, Place{Kind: Free}},
		{1, Place{Kind: Epoch}},
		{2, Place{Kind: Front}},
		{3, Place{Kind: Back}},
		{4, Place{Kind: Bucket}},
		{7, Place{Kind: Bucket, I: 3}},
		{8, Place{Kind: Set}},
		{9, Place{Kind: Set, I: 1}},
		{10, Place{Kind: Active}},
		{17, Place{Kind: Active, I: 7}},
		{18, Place{Kind: Cell}},
		{22, Place{Kind: Cell, I: 4}},
		{23, Place{Kind: Link, I: 1}},
		{26, Place{Kind: Link, I: 4}},
		{27, Place{Kind: Node, I: 1, J: Head}},
		{28, Place{Kind: Node, I: 1, J: Next}},
		{29, Place{Kind: Node, I: 1, J: Key}},
		{30, Place{Kind: Node, I: 1, J: A}},
		{31, Place{Kind: Node, I: 1, J: B}},
		{32, Place{Kind: Node, I: 2, J: Head}},
		{46, Place{Kind: Node, I: 4, J: B}},
		{47, Place{Level: 1, Kind: Free}},
		{93, Place{Level: 1, Kind: Node, I: 4, J: B}},
		{94, Place{Level: 2, Kind: Free}},
		{140, Place{Level: 2, Kind: Node, I: 4, J: B}},
	}
	for _, x := range cases {
		if got := p.At(x.x); got != x.a {
			t.Errorf("%+v at %d, not %d", x.x, got, x.a)
		}
		if got, ok := p.What(x.a); got != x.x || !ok {
			t.Errorf("word %d: %+v, %v, not %+v", x.a, got, ok, x.x)
		}
	}
}

func TestAtOfNone(t *testing.T) {
	for _, c := range []api.Conf{sized(1, 2, 1), sized(3, 4, 5), sized(4, 9, 12)} {
		p, there := made(t, c), map[Place]int{}
		for a, x := range laid(c) {
			there[x] = a
		}
		for _, level := range near(4) {
			for _, kind := range near(10) {
				for _, i := range near(12) {
					for _, j := range near(5) {
						x := Place{level, kind, i, j}
						want, ok := there[x]
						if !ok {
							want = -1
						}
						if got := p.At(x); got != want {
							t.Fatalf("%+v: %+v at %d, not %d", c, x, got, want)
						}
					}
				}
			}
		}
	}
}

func TestAtOfNoneByOneNumber(t *testing.T) {
	p := made(t, sized(3, 4, 5))
	// The first I of each kind, and the first one beyond; the first J beyond.
	cases := []struct{ kind, first, beyond, j int }{
		{Free, 0, 1, 1}, {Epoch, 0, 1, 1}, {Front, 0, 1, 1}, {Back, 0, 1, 1},
		{Bucket, 0, 4, 1}, {Set, 0, 2, 1}, {Active, 0, 8, 1}, {Cell, 0, 5, 1},
		{Link, 1, 5, 1}, {Node, 1, 5, 5},
	}
	none := func(x Place) {
		t.Helper()
		if got := p.At(x); got != -1 {
			t.Errorf("%+v at %d", x, got)
		}
	}
	for _, x := range cases {
		for level := range 3 {
			for _, n := range append(far(), x.first-1, x.beyond) {
				none(Place{level, x.kind, n, 0})
			}
			for _, n := range append(far(), -1, x.j) {
				none(Place{level, x.kind, x.first, n})
				none(Place{level, x.kind, x.beyond - 1, n})
			}
		}
		for _, n := range append(far(), -1, 3) {
			none(Place{n, x.kind, x.first, 0})
		}
	}
	for _, n := range append(far(), -1, 10) {
		none(Place{0, n, 0, 0})
		none(Place{2, n, 1, 0})
	}
}

func TestWhatOfNone(t *testing.T) {
	for _, c := range right() {
		p := made(t, c)
		n := len(laid(c))
		for _, a := range []int{math.MinInt, math.MinInt + 1, -1 << 32, -n - 1, -n, -2, -1, n, n + 1, 2 * n, 1<<32 + 1, math.MaxInt - 1, math.MaxInt} {
			if x, ok := p.What(a); ok || x != (Place{}) {
				t.Errorf("%+v: word %d: %+v, %v", c, a, x, ok)
			}
		}
	}
}

func TestNil(t *testing.T) {
	var p *Plan
	if p.Words() != 0 || p.Conf() != (api.Conf{}) {
		t.Errorf("nil: %d words, of %+v", p.Words(), p.Conf())
	}
	for _, n := range near(31) {
		if x, ok := p.What(n); ok || x != (Place{}) {
			t.Errorf("nil: word %d: %+v, %v", n, x, ok)
		}
		for _, x := range []Place{{}, {Level: n}, {Kind: n}, {I: n}, {J: n}, {Kind: Node, I: 1, J: n}} {
			if got := p.At(x); got != -1 {
				t.Errorf("nil: %+v at %d", x, got)
			}
		}
	}
}

func TestOthersChangeNoPlace(t *testing.T) {
	// Where words are hangs on nothing but levels, slots and cells: not on who the threads are.
	p := made(t, api.Conf{Levels: 3, Threads: 8, Of: [8]int{2, 1, 0, 2, 1, 0, 2, 1}, Slots: 4, Limbo: 5, Gens: 1 << 20, Quota: 60})
	q := made(t, sized(3, 4, 5))
	if p.Words() != q.Words() {
		t.Fatalf("%d words, and %d", p.Words(), q.Words())
	}
	for a := range p.Words() {
		x, _ := p.What(a)
		if y, _ := q.What(a); x != y || p.At(x) != q.At(x) {
			t.Errorf("word %d: %+v, and %+v", a, x, y)
		}
	}
}

func TestPlansAreOneByOne(t *testing.T) {
	c := sized(3, 4, 5)
	p := made(t, c)
	c.Levels, c.Of[0], c.Slots, c.Limbo = 1, 7, 60, 40
	made(t, sized(1, 60, 40))
	if p.Conf() != sized(3, 4, 5) || p.Words() != 141 {
		t.Errorf("the plan became one of %+v, of %d words", p.Conf(), p.Words())
	}
}

// 5.2

func TestEachWordIsOnePlace(t *testing.T) {
	for _, c := range right() {
		p, met := made(t, c), map[Place]int{}
		for a := range p.Words() {
			x, ok := p.What(a)
			if !ok || p.At(x) != a {
				t.Errorf("%+v: word %d: %+v, %v, which is at %d", c, a, x, ok, p.At(x))
			}
			if b, twice := met[x]; twice {
				t.Errorf("%+v: %+v is words %d and %d", c, x, b, a)
			}
			met[x] = a
		}
	}
}

func TestLevelsLieSideBySide(t *testing.T) {
	for _, c := range right() {
		p := made(t, c)
		each := p.Words() / c.Levels
		for a := range p.Words() {
			x, _ := p.What(a)
			if x.Level != a/each {
				t.Errorf("%+v: word %d is of level %d", c, a, x.Level)
			}
			y, _ := p.What(a % each)
			if x.Level = 0; x != y {
				t.Errorf("%+v: word %d is %+v, word %d of level 0 is %+v", c, a, x, a%each, y)
			}
		}
	}
}

// Examples

func TestExamples(t *testing.T) {
	p := made(t, sized(1, 2, 1))
	if got := p.Words(); got != 31 {
		t.Errorf("%d words", got)
	}
	if got := p.At(Place{Kind: Node, I: 1, J: Head}); got != 21 {
		t.Errorf("slot 1's Head is word %d", got)
	}
	if x, ok := p.What(21); x != (Place{Kind: Node, I: 1, J: Head}) || !ok {
		t.Errorf("word 21 is %+v, %v", x, ok)
	}
}
