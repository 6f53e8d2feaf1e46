package conf

import (
	"math"
	"slices"
	"testing"

	"burnbag/api"
)

// plain is a configuration that may be, of so many levels, with these threads' levels, and all else in its middle.
func plain(levels int, of ...int) api.Conf {
	c := api.Conf{Levels: levels, Threads: len(of), Slots: 9, Limbo: 7, Gens: 1000, Quota: 5}
	copy(c.Of[:], of)
	return c
}

// right is configurations that may be.
func right() []api.Conf {
	l := []api.Conf{
		plain(2, 0, 1, 0),
		plain(1, 0),
		plain(1, 0, 0, 0, 0, 0, 0, 0, 0),
		plain(4, 3),
		plain(4, 0, 1, 2, 3, 3, 2, 1, 0),
		plain(4, 3, 3, 3, 3, 3, 3, 3, 3),
		plain(4, 0, 0, 0, 0, 0, 0, 0, 3),
		plain(3, 2, 0, 2, 1, 0),
		plain(3, 1, 1),
		plain(2, 1, 0),
		plain(4, 1, 3, 2, 3, 0, 2, 0),
	}
	return append(l, sized(2, 1, 1, 0), sized(60, 40, 1<<20, 60))
}

// sized is a configuration of so many slots, cells, generations, and of this quota.
func sized(slots, limbo, gens, quota int) api.Conf {
	c := plain(2, 0, 1, 0)
	c.Slots, c.Limbo, c.Gens, c.Quota = slots, limbo, gens, quota
	return c
}

// wrong is configurations that may not be, each by one number alone.
func wrong() []api.Conf {
	var l []api.Conf
	add := func(change func(c *api.Conf)) {
		c := plain(3, 0, 1, 2, 2)
		change(&c)
		l = append(l, c)
	}
	for _, n := range []int{0, 5, 6, -1, -3, math.MinInt, math.MaxInt, 1<<32 + 1, 2} {
		// With 2 levels threads 2 and 3 are at a level that there isn't.
		add(func(c *api.Conf) { c.Levels = n })
	}
	for _, n := range []int{0, 9, 10, -1, -8, math.MinInt, math.MaxInt, 1 << 32, 3, 2} {
		// With 3 threads, or 2, one that there isn't has a level above 0.
		add(func(c *api.Conf) { c.Threads = n })
	}
	for _, n := range []int{1, 0, 61, 62, -1, -60, math.MinInt, math.MaxInt, 1<<32 + 2} {
		add(func(c *api.Conf) { c.Slots = n })
	}
	for _, n := range []int{0, 41, 60, -1, -40, math.MinInt, math.MaxInt, 1<<32 + 1} {
		add(func(c *api.Conf) { c.Limbo = n })
	}
	for _, n := range []int{0, 1<<20 + 1, 1 << 21, -1, -1 << 20, math.MinInt, math.MaxInt, 1<<32 + 1} {
		add(func(c *api.Conf) { c.Gens = n })
	}
	for _, n := range []int{61, 62, -1, -60, math.MinInt, math.MaxInt, 1 << 32} {
		add(func(c *api.Conf) { c.Quota = n })
	}
	for thread := range api.MaxThreads {
		for _, n := range []int{3, 4, -1, -2, math.MinInt, math.MaxInt, 1 << 32} {
			add(func(c *api.Conf) { c.Of[thread] = n })
		}
	}
	for thread := 4; thread < api.MaxThreads; thread++ {
		// Level 1 there is, but not this thread.
		add(func(c *api.Conf) { c.Of[thread] = 1 })
	}
	return append(l, api.Conf{})
}

// asked is threads and levels that are asked about, those that there are and those that there aren't.
func asked() []int {
	return []int{math.MinInt, math.MinInt + 1, -256, -8, -4, -3, -2, -1, 0, 1, 2, 3, 4, 5, 6, 7, 8, 9, 10, 256, 1 << 32, 1<<32 + 1, math.MaxInt - 1, math.MaxInt}
}

// members is the threads whose levels are wanted, by the configuration's array itself.
func members(c api.Conf, wanted func(level int) bool) []int {
	var l []int
	for thread := 0; thread < c.Threads; thread++ {
		if wanted(c.Of[thread]) {
			l = append(l, thread)
		}
	}
	return l
}

// checkFalse holds that a configuration that may not be has no threads and no levels.
func checkFalse(t *testing.T, c api.Conf) {
	t.Helper()
	for _, n := range asked() {
		if len(At(c, n)) != 0 || len(UpTo(c, n)) != 0 {
			t.Errorf("%+v, level %d: threads %v, and %v up to it", c, n, At(c, n), UpTo(c, n))
		}
		if got := Level(c, n); got != -1 {
			t.Errorf("%+v, thread %d: level %d", c, n, got)
		}
		for _, m := range asked() {
			if Writes(c, n, m) || Reads(c, n, m) {
				t.Errorf("%+v: thread %d writes (%v), reads (%v) at %d", c, n, Writes(c, n, m), Reads(c, n, m), m)
			}
		}
	}
}

// 4.1

func TestMay(t *testing.T) {
	for _, c := range right() {
		if !May(c) {
			t.Errorf("%+v may not be", c)
		}
	}
	for _, c := range wrong() {
		if May(c) {
			t.Errorf("%+v may be", c)
		}
	}
}

func TestMayEnds(t *testing.T) {
	// From each number's least to its greatest, and one beyond on both sides; threads are all at level 0.
	ends := []struct {
		name        string
		least, most int
		put         func(c *api.Conf, n int)
	}{
		{"Levels", 1, 4, func(c *api.Conf, n int) { c.Levels = n }},
		{"Threads", 1, 8, func(c *api.Conf, n int) { c.Threads = n }},
		{"Slots", 2, 60, func(c *api.Conf, n int) { c.Slots = n }},
		{"Limbo", 1, 40, func(c *api.Conf, n int) { c.Limbo = n }},
		{"Gens", 1, 1048576, func(c *api.Conf, n int) { c.Gens = n }},
		{"Quota", 0, 60, func(c *api.Conf, n int) { c.Quota = n }},
	}
	for _, e := range ends {
		for _, n := range []int{e.least - 1, e.least, e.least + 1, (e.least + e.most) / 2, e.most - 1, e.most, e.most + 1} {
			c := plain(2, 0, 0, 0)
			e.put(&c, n)
			if want := e.least <= n && n <= e.most; May(c) != want {
				t.Errorf("%s %d: %v", e.name, n, !want)
			}
		}
	}
}

func TestMayLevels(t *testing.T) {
	for levels := 1; levels <= 4; levels++ {
		for threads := 1; threads <= 8; threads++ {
			for thread := range 8 {
				for level := -1; level <= 5; level++ {
					c := plain(levels, make([]int, threads)...)
					c.Of[thread] = level
					want := level == 0 || level > 0 && level < levels && thread < threads
					if May(c) != want {
						t.Errorf("%d levels, %d threads, thread %d of level %d: %v", levels, threads, thread, level, !want)
					}
				}
			}
		}
	}
}

func TestLevel(t *testing.T) {
	for _, c := range right() {
		for _, thread := range asked() {
			want := -1
			if 0 <= thread && thread < c.Threads {
				want = c.Of[thread]
			}
			if got := Level(c, thread); got != want {
				t.Errorf("%+v, thread %d: level %d, not %d", c, thread, got, want)
			}
		}
	}
}

func TestAt(t *testing.T) {
	for _, c := range right() {
		for _, level := range asked() {
			want := members(c, func(l int) bool { return l == level })
			if got := At(c, level); !slices.Equal(got, want) {
				t.Errorf("%+v: at %d: %v, not %v", c, level, got, want)
			}
		}
	}
}

func TestUpTo(t *testing.T) {
	for _, c := range right() {
		for _, level := range asked() {
			want := members(c, func(l int) bool { return l <= level })
			if got := UpTo(c, level); !slices.Equal(got, want) {
				t.Errorf("%+v: up to %d: %v, not %v", c, level, got, want)
			}
		}
	}
}

func TestWritesAndReads(t *testing.T) {
	for _, c := range right() {
		for _, thread := range asked() {
			for _, level := range asked() {
				there := 0 <= thread && thread < c.Threads && 0 <= level && level < c.Levels
				if want := there && c.Of[thread] == level; Writes(c, thread, level) != want {
					t.Errorf("%+v: thread %d writes at %d: %v", c, thread, level, !want)
				}
				if want := there && c.Of[thread] >= level; Reads(c, thread, level) != want {
					t.Errorf("%+v: thread %d reads at %d: %v", c, thread, level, !want)
				}
			}
		}
	}
}

func TestNothingOfWrong(t *testing.T) {
	for _, c := range wrong() {
		checkFalse(t, c)
	}
}

func TestListsAreNew(t *testing.T) {
	c := plain(2, 0, 1, 0)
	at, up := At(c, 0), UpTo(c, 1)
	at[0], up[0] = 77, 78
	if got := At(c, 0); !slices.Equal(got, []int{0, 2}) {
		t.Errorf("At after its list was written to: %v", got)
	}
	if got := UpTo(c, 1); !slices.Equal(got, []int{0, 1, 2}) {
		t.Errorf("UpTo after its list was written to: %v", got)
	}
}

// 4.2

func TestBare(t *testing.T) {
	for _, c := range right() {
		for _, level := range asked() {
			want := c
			for thread, l := range c.Of {
				if thread < c.Threads && l > level {
					want.Of[thread] = c.Levels - 1
				}
			}
			if got := Bare(c, level); got != want {
				t.Errorf("%+v, bare above %d: %+v", c, level, got)
			}
		}
	}
}

func TestBareByHand(t *testing.T) {
	c := plain(4, 0, 1, 2, 3, 1, 0)
	cases := []struct {
		level int
		of    [8]int
	}{
		{-1, [8]int{3, 3, 3, 3, 3, 3}},
		{math.MinInt, [8]int{3, 3, 3, 3, 3, 3}},
		{0, [8]int{0, 3, 3, 3, 3, 0}},
		{1, [8]int{0, 1, 3, 3, 1, 0}},
		{2, [8]int{0, 1, 2, 3, 1, 0}},
		{3, [8]int{0, 1, 2, 3, 1, 0}},
		{4, [8]int{0, 1, 2, 3, 1, 0}},
		{math.MaxInt, [8]int{0, 1, 2, 3, 1, 0}},
	}
	for _, x := range cases {
		want := c
		want.Of = x.of
		if got := Bare(c, x.level); got != want {
			t.Errorf("bare above %d: %+v, not %+v", x.level, got, want)
		}
	}
}

func TestBareOfWrong(t *testing.T) {
	for _, c := range wrong() {
		for _, level := range asked() {
			if got := Bare(c, level); got != c {
				t.Errorf("%+v, bare above %d: %+v", c, level, got)
			}
		}
	}
}

func TestBareHidesWhichLevelIsAbove(t *testing.T) {
	// Whatever the levels of those above are, below nothing is left of it.
	for a := 2; a < 4; a++ {
		for b := 2; b < 4; b++ {
			got, want := Bare(plain(4, 0, a, 1, b), 1), Bare(plain(4, 0, 3, 1, 2), 1)
			if got != want {
				t.Errorf("threads of %d and %d are told from those of 3 and 2: %+v, %+v", a, b, got, want)
			}
		}
	}
}

// 4.3

func TestWhatFollows(t *testing.T) {
	for _, c := range append(right(), wrong()...) {
		for _, thread := range asked() {
			for _, level := range asked() {
				if Writes(c, thread, level) && !Reads(c, thread, level) {
					t.Errorf("%+v: thread %d writes at %d, and doesn't read there", c, thread, level)
				}
			}
		}
		var below []int
		for level := range 5 {
			below = append(below, At(c, level)...)
			slices.Sort(below)
			if got := UpTo(c, level); !slices.Equal(got, below) {
				t.Errorf("%+v: up to %d: %v, but at it and below: %v", c, level, got, below)
			}
		}
	}
}

// Examples

func TestExamples(t *testing.T) {
	c := plain(2, 0, 1, 0)
	if got := At(c, 0); !slices.Equal(got, []int{0, 2}) {
		t.Errorf("at 0: %v", got)
	}
	if got := UpTo(c, 1); !slices.Equal(got, []int{0, 1, 2}) {
		t.Errorf("up to 1: %v", got)
	}
}
