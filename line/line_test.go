package line

import (
	"container/list"
	"fmt"
	"math"
	"slices"
	"testing"

	"burnbag/api"
)

// card is a struct of things of several types.
type card struct {
	name string
	at   [2]int
	pair api.Pair
	in   bool
}

// numbers is numbers up to the ends of int64, nought among them, no two of them the same.
func numbers() []int64 {
	return []int64{7, 0, -1, math.MaxInt64, math.MinInt64, 1 << 32, 1, -7}
}

// texts is texts, the empty one among them, no two of them the same.
func texts() []string {
	return []string{"a", "", "ab", "b", "aa", "a\x00", "\xff", "A"}
}

// cards is structs, each of which differs from the one of noughts in one field at least.
func cards() []card {
	return []card{
		{name: "a"}, {}, {at: [2]int{0, 1}}, {at: [2]int{1, 0}}, {pair: api.Pair{A: 1}}, {pair: api.Pair{B: 1}}, {in: true},
		{name: "a", at: [2]int{3, 4}, pair: api.Pair{A: 5, B: 6}, in: true},
	}
}

// anything is things of several types behind one interface, nil among them.
func anything() []any {
	return []any{1, nil, int64(1), "1", 1.0, api.Pair{A: 1}, true, api.ErrFull}
}

// steps is numbers from 1 on.
func steps(n int) []int {
	var l []int
	for i := range n {
		l = append(l, i+1)
	}
	return l
}

// check holds a line against what should be in it: how many, all of them, the first one, and each that goes, to the end.
func check[T comparable](t *testing.T, about string, q Line[T], want []T) {
	t.Helper()
	if all := q.All(); !slices.Equal(all, want) {
		t.Fatalf("%s: all is %v, not %v", about, all, want)
	}
	rest := q
	for i, x := range want {
		if n := rest.Len(); n != len(want)-i {
			t.Fatalf("%s: there are %d of %v, of which %d went", about, n, want, i)
		}
		for range 2 {
			if first, ok := rest.Peek(); !ok || first != x {
				t.Fatalf("%s: the first of %v, of which %d went, is %v %v", about, want, i, first, ok)
			}
		}
		next, went, ok := rest.Pop()
		if !ok || went != x {
			t.Fatalf("%s: %v %v goes from %v, of which %d went", about, went, ok, want, i)
		}
		rest = next
	}
	checkEmpty(t, about, rest)
}

// checkEmpty holds a line against one with nothing in it.
func checkEmpty[T comparable](t *testing.T, about string, q Line[T]) {
	t.Helper()
	var none T
	for range 2 {
		if first, ok := q.Peek(); ok || first != none {
			t.Fatalf("%s: the first of none is %v %v", about, first, ok)
		}
		next, went, ok := q.Pop()
		if ok || went != none {
			t.Fatalf("%s: %v %v goes from none", about, went, ok)
		}
		if q.Len() != 0 || len(q.All()) != 0 || next.Len() != 0 || len(next.All()) != 0 {
			t.Fatalf("%s: %v and %v of none", about, q.All(), next.All())
		}
		q = next
	}
}

// pushed is a line with things put behind, one by one.
func pushed[T comparable](q Line[T], l ...T) Line[T] {
	for _, x := range l {
		q = q.Push(x)
	}
	return q
}

// popped is a line of which some things went.
func popped[T comparable](q Line[T], n int) Line[T] {
	for range n {
		q, _, _ = q.Pop()
	}
	return q
}

// pushedInTurns is a line of things that are put behind, where what is ahead goes meanwhile.
func pushedInTurns[T comparable](ahead Line[T], l []T) Line[T] {
	n := ahead.Len()
	q := ahead
	for i, x := range l {
		q = q.Push(x)
		if i < n {
			q = popped(q, 1)
		}
	}
	return popped(q, n-min(n, len(l)))
}

// laid is a list within a longer one, which its capacity takes in.
func laid[T comparable](l []T, behind ...T) []T {
	whole := append(slices.Clone(l), behind...)
	return whole[:len(l)]
}

// made is lines of the same things, each made in another way; some had another thing ahead.
func made[T comparable](l []T, other T) map[string]Line[T] {
	var never Line[T]
	half := len(l) / 2
	ahead := slices.Repeat([]T{other}, 5)
	base := pushed(never, l[:half]...)
	lines := map[string]Line[T]{
		"at once":                 Of(l...),
		"one by one":              pushed(never, l...),
		"behind Of of nothing":    pushed(Of[T](), l...),
		"half at once":            pushed(Of(l[:half]...), l[half:]...),
		"of a list with room":     Of(laid(l, other, other, other)...),
		"of what another has":     Of(Of(l...).All()...),
		"of a longer one":         popped(Of(slices.Concat(ahead, l)...), len(ahead)),
		"of one that was pushed":  popped(pushed(Of(ahead...), l...), len(ahead)),
		"behind one that is gone": pushed(popped(Of(ahead...), len(ahead)), l...),
		"in turns":                pushedInTurns(Of(ahead...), l),
		"one of two of one":       pushed(base, l[half:]...),
	}
	// The other one of the two is made behind it, and forgotten.
	pushed(base, ahead...)
	return lines
}

// checkMade holds all lines that are made of things against them, and against each other.
func checkMade[T comparable](t *testing.T, l []T) {
	t.Helper()
	for n := range len(l) {
		for from := range n + 1 {
			want, lines := l[from:n], made(l[from:n], l[n])
			for how, q := range lines {
				check(t, fmt.Sprintf("%v %s", want, how), q, want)
				for other, o := range lines {
					if !q.Same(o) {
						t.Fatalf("%v %s isn't the same as %s", want, how, other)
					}
				}
			}
		}
	}
}

func TestLinesOfThingsOfAnyType(t *testing.T) {
	checkMade(t, numbers())
	checkMade(t, texts())
	checkMade(t, cards())
	checkMade(t, anything())
	checkMade(t, []api.Pair{{A: 1, B: 2}, {}, {A: 2, B: 1}, {A: 1}, {B: 1}})
	checkMade(t, []uint8{255, 0, 1, 128})
	checkMade(t, []bool{true, false, true, true, false})
	checkMade(t, []float64{0.5, 0, math.Inf(1), -1})
	checkMade(t, [][3]int{{1, 2, 3}, {}, {3, 2, 1}, {0, 0, 1}})
	checkMade(t, []error{api.ErrFull, nil, api.ErrNone, api.OK})
	checkMade(t, []*card{{name: "a"}, nil, {name: "a"}, {}})
	checkMade(t, make([]struct{}, 6))
	checkMade(t, make([]int, 6))
}

func TestALineThatWasNeverMade(t *testing.T) {
	var q Line[int]
	checkEmpty(t, "never made", q)
	check(t, "never made, then pushed", q.Push(4), []int{4})
	checkEmpty(t, "never made, then pushed", q)
	if !q.Same(Of[int]()) || !Of[int]().Same(q) || !q.Same(q) || q.Same(Of(0)) || Of(0).Same(q) {
		t.Error("it is the same as a line of nothing, and as no other")
	}
	next, _, _ := q.Pop()
	check(t, "never made, then popped, then pushed", next.Push(4).Push(5), []int{4, 5})
	checkEmpty(t, "never made", q)

	var names Line[string]
	checkEmpty(t, "never made, of texts", names)
	check(t, "never made, of texts, then pushed", names.Push("").Push("a"), []string{"", "a"})
	var told Line[card]
	checkEmpty(t, "never made, of structs", told)
	check(t, "never made, of structs, then pushed", told.Push(card{}).Push(cards()[7]), []card{{}, cards()[7]})
}

func TestOf(t *testing.T) {
	var none []int
	checkEmpty(t, "of nothing", Of[int]())
	checkEmpty(t, "of nil", Of(none...))
	checkEmpty(t, "of an empty list", Of([]int{}...))
	checkEmpty(t, "of an empty list with room", Of(steps(5)[:0]...))
	checkEmpty(t, "of the end of a list", Of(steps(5)[5:]...))
	check(t, "of one", Of(7), []int{7})
	check(t, "of nought", Of(0), []int{0})
	check(t, "of the empty text", Of(""), []string{""})
	check(t, "of some", Of(3, 4, 4, 0, 3), []int{3, 4, 4, 0, 3})
	check(t, "of part of a list", Of(steps(9)[3:6]...), []int{4, 5, 6})
	check(t, "of many", Of(steps(5000)...), steps(5000))
}

func TestPush(t *testing.T) {
	var q Line[int]
	for i, x := range steps(300) {
		q = q.Push(x)
		check(t, "pushed", q, steps(i+1))
	}
	check(t, "nought", Of(1).Push(0), []int{1, 0})
	check(t, "one that is there", Of(5, 6).Push(5).Push(5), []int{5, 6, 5, 5})
	check(t, "behind nil", Of([]string(nil)...).Push("x"), []string{"x"})
}

func TestPop(t *testing.T) {
	for n := range 40 {
		q := Of(steps(n)...)
		for gone := range n {
			next, x, ok := q.Pop()
			if !ok || x != gone+1 {
				t.Fatalf("%d of %d went, then %d %v", gone, n, x, ok)
			}
			check(t, "popped", next, steps(n)[gone+1:])
			q = next
		}
		checkEmpty(t, "all went", q)
		next, _, _ := q.Pop()
		check(t, "all went, then pushed", next.Push(-1), []int{-1})
	}
}

func TestPeekTakesNothing(t *testing.T) {
	for n := range 20 {
		q := Of(steps(n)...)
		for range 5 {
			if x, ok := q.Peek(); ok != (n > 0) || x != min(n, 1) {
				t.Fatalf("%d: %d %v", n, x, ok)
			}
			check(t, "peeked", q, steps(n))
		}
	}
}

// spoil changes all things of a list, and all that lies behind its length.
func spoil(l []int) {
	l = l[:cap(l)]
	for i := range l {
		l[i] = -4242
	}
}

func TestAllIsACopy(t *testing.T) {
	for n := range 40 {
		for how, q := range made(steps(n), -1) {
			next, more, want := popped(q, 1), q.Push(77), steps(n)
			kept := q.All()
			for _, line := range []Line[int]{q, next, more} {
				all := line.All()
				spoil(all)
				_ = append(all[:0], 1234, 5678)
			}
			check(t, how, q, want)
			check(t, how+", without the first", next, want[min(n, 1):])
			check(t, how+", with one more", more, append(steps(n), 77))
			if !slices.Equal(kept, want) {
				t.Fatalf("%s: what was told of %v is %v", how, want, kept)
			}
		}
	}
}

func TestAllIsNotChangedByItsLine(t *testing.T) {
	for n := range 40 {
		for how, q := range made(steps(n), -1) {
			all := append(q.All(), 99)
			pushed(q, 5, 6, 7)
			pushed(popped(q, 1), 8, 9)
			if !slices.Equal(all, append(steps(n), 99)) {
				t.Fatalf("%s: what was told of %d, and then added to, is %v", how, n, all)
			}
		}
	}
}

func TestOfKeepsNothingOfItsList(t *testing.T) {
	for n := range 40 {
		for room := range 4 {
			whole := steps(n + room)
			q := Of(whole[:n]...)
			more := q.Push(77)
			spoil(whole)
			check(t, "its list was changed", q, steps(n))
			check(t, "its list was changed, with one more", more, append(steps(n), 77))
			check(t, "its list was changed, then one more", q.Push(78), append(steps(n), 78))
		}
	}
}

func TestOfChangesNothingOfItsList(t *testing.T) {
	for n := range 40 {
		for room := range 4 {
			whole := steps(n + room)
			q := Of(whole[:n]...)
			pushed(q, -1, -2, -3, -4)
			pushed(popped(q, 1), -5, -6, -7, -8)
			spoil(q.All())
			if !slices.Equal(whole, steps(n+room)) {
				t.Fatalf("the list of %d, with room for %d, is %v", n, room, whole)
			}
		}
	}
}

// shorts is all lists of few numbers up to a length.
func shorts(length int) [][]int {
	lists := [][]int{nil}
	for from := 0; from < len(lists); from++ {
		if len(lists[from]) == length {
			break
		}
		for x := range 3 {
			lists = append(lists, append(slices.Clone(lists[from]), x))
		}
	}
	return lists
}

// checkSame holds whether two lines are the same, either way round, against whether they are.
func checkSame[T comparable](t *testing.T, about string, q, o Line[T], want bool) {
	t.Helper()
	if q.Same(o) != want || o.Same(q) != want {
		t.Fatalf("%s: %v and %v: the same should be %v", about, q.All(), o.All(), want)
	}
}

func TestSameOfAllShortLines(t *testing.T) {
	lists := shorts(4)
	if len(lists) != 1+3+9+27+81 {
		t.Fatalf("%d lists", len(lists))
	}
	for i, a := range lists {
		for j, b := range lists {
			checkSame(t, "at once", Of(a...), Of(b...), i == j)
			checkSame(t, "one by one", pushed(Of[int](), a...), Of(b...), i == j)
			checkSame(t, "of a longer one", popped(Of(append([]int{2, 1}, a...)...), 2), pushed(Of[int](), b...), i == j)
		}
	}
}

func TestSame(t *testing.T) {
	for n := range 30 {
		q := Of(steps(n)...)
		for how, o := range made(steps(n), -1) {
			checkSame(t, how, q, o, true)
			checkSame(t, how+", with one more", q, o.Push(n+1), false)
			checkSame(t, how+", with one more nought", q, o.Push(0), false)
			checkSame(t, how+", both with one more", q.Push(0), o.Push(0), true)
			checkSame(t, how+", each with another one more", q.Push(0), o.Push(1), false)
			checkSame(t, how+", with one less", q, popped(o, 1), n == 0)
			checkSame(t, how+", both with one less", popped(q, 1), popped(o, 1), true)
			checkSame(t, how+", with one less and one more", q, popped(o.Push(1), 1), n <= 1)
			check(t, how, o, steps(n))
		}
		check(t, "held against others", q, steps(n))
	}
}

func TestSameOfOtherThings(t *testing.T) {
	for n := 1; n < 30; n++ {
		for i := range n {
			l := steps(n)
			l[i] = -l[i]
			checkSame(t, "another one", Of(steps(n)...), Of(l...), false)
			l = steps(n)
			l[0], l[i] = l[i], l[0]
			checkSame(t, "another order", Of(steps(n)...), Of(l...), i == 0)
			l = slices.Insert(steps(n), i, steps(n)[i])
			checkSame(t, "one twice", Of(steps(n)...), Of(l...), false)
			checkSame(t, "one twice, the last one gone", Of(steps(n)...), Of(l[:n]...), i == n-1)
		}
	}
	for _, few := range [][2][]int{{{4, 4, 5}, {4, 5, 5}}, {{4, 4, 5}, {4, 5, 4}}, {{4, 4}, {4, 4, 4}}, {{0}, {0, 0}}, {{0}, nil}} {
		checkSame(t, "one more than once", Of(few[0]...), Of(few[1]...), false)
	}
	checkSame(t, "one more than once", Of(4, 4, 5, 4), pushed(Of(4), 4, 5, 4), true)
}

// checkApart holds each two lines of one thing against each other, when no two of the things are the same.
func checkApart[T comparable](t *testing.T, l []T) {
	t.Helper()
	for i, x := range l {
		for j, y := range l {
			checkSame(t, "one", Of(x), Of[T]().Push(y), i == j)
			checkSame(t, "behind one", Of(l[0], x), Of(l[0], y), i == j)
			checkSame(t, "ahead of one", Of(x, l[0]), Of(y, l[0]), i == j)
			checkSame(t, "the other way round", Of(x, y), Of(y, x), i == j)
		}
	}
}

func TestSameOfThingsOfAnyType(t *testing.T) {
	checkApart(t, numbers())
	checkApart(t, texts())
	checkApart(t, cards())
	checkApart(t, anything())
	checkApart(t, []error{api.ErrFull, nil, api.ErrNone, api.OK})
	checkApart(t, []*card{{name: "a"}, nil, {name: "a"}, {}})
}

func TestSameOfThingsThatCannotBeCompared(t *testing.T) {
	few, words := []int{1}, map[string]int{"a": 1}
	checkSame[any](t, "a list", Of[any](few), Of[any](few), false)
	checkSame[any](t, "a map behind one", Of[any](1, words), Of[any](1, words), false)
	checkSame[any](t, "a list and a number", Of[any](few), Of[any](1), false)
	checkSame[any](t, "a list ahead of one", Of[any](few, 1), Of[any](few, 2), false)
	checkSame[any](t, "a list and nothing", Of[any](few), Of[any](), false)
	q := Of[any](few, 2)
	if q.Same(q) {
		t.Error("a line with a list in it is the same as itself")
	}
	next, x, ok := q.Push(words).Pop()
	if l, is := x.([]int); !ok || !is || !slices.Equal(l, []int{1}) || next.Len() != 2 {
		t.Errorf("a list as the first one: %v %v %d", x, ok, next.Len())
	}
	checkSame(t, "no number", Of(math.NaN()), Of(math.NaN()), false)
}

func TestTwoLinesOfOneByPush(t *testing.T) {
	for n := range 70 {
		for how, q := range made(steps(n), -1) {
			a, b := q.Push(100), q.Push(200)
			check(t, how+", the one", a, append(steps(n), 100))
			check(t, how+", the other one", b, append(steps(n), 200))
			check(t, how+", itself", q, steps(n))
		}
	}
}

func TestTwoLinesOfOneByPushBehindPop(t *testing.T) {
	for n := range 70 {
		for how, q := range made(steps(n), -1) {
			next, rest := popped(q, 1), steps(n)[min(n, 1):]
			a, b, c := next.Push(100), next.Push(200), q.Push(300)
			d := popped(q, 1).Push(400)
			check(t, how+", the one", a, append(slices.Clone(rest), 100))
			check(t, how+", the other one", b, append(slices.Clone(rest), 200))
			check(t, how+", with its first", c, append(steps(n), 300))
			check(t, how+", popped again", d, append(slices.Clone(rest), 400))
			check(t, how+", without its first", next, rest)
			check(t, how+", itself", q, steps(n))
		}
	}
}

func TestTwoLinesOfOneByPushBehindPush(t *testing.T) {
	for n := range 70 {
		for how, q := range made(steps(n), -1) {
			more := q.Push(50)
			a, b, c := more.Push(100), more.Push(200), q.Push(300)
			d, e := c.Push(400), a.Push(500)
			check(t, how+", the one", a, append(steps(n), 50, 100))
			check(t, how+", the other one", b, append(steps(n), 50, 200))
			check(t, how+", beside", c, append(steps(n), 300))
			check(t, how+", behind beside", d, append(steps(n), 300, 400))
			check(t, how+", behind the one", e, append(steps(n), 50, 100, 500))
			check(t, how+", with one more", more, append(steps(n), 50))
			check(t, how+", itself", q, steps(n))
		}
	}
}

func TestLinesOfTextsAndStructsAreEachByItself(t *testing.T) {
	for n := range 20 {
		names, told := Of(slices.Repeat(texts(), 3)[:n]...), Of(slices.Repeat(cards(), 3)[:n]...)
		a, b := names.Push("one"), names.Push("other")
		check(t, "texts", a, append(slices.Repeat(texts(), 3)[:n:n], "one"))
		check(t, "texts", b, append(slices.Repeat(texts(), 3)[:n:n], "other"))
		c, d := told.Push(card{name: "one"}), told.Push(card{name: "other"})
		check(t, "structs", c, append(slices.Repeat(cards(), 3)[:n:n], card{name: "one"}))
		check(t, "structs", d, append(slices.Repeat(cards(), 3)[:n:n], card{name: "other"}))
	}
}

// family is lines that were made of each other, and what should be in each.
type family struct {
	lines []Line[int]
	want  [][]int
	last  int
}

// add adds a line.
func (f *family) add(q Line[int], want []int) {
	f.lines = append(f.lines, q)
	f.want = append(f.want, want)
}

// next adds the line with a thing put behind that no other line has, and the one without its first, of some line each.
func (f *family) next(which int) {
	q, want := f.lines[which], f.want[which]
	for range 2 {
		f.last++
		f.add(q.Push(f.last), append(slices.Clone(want), f.last))
	}
	f.add(popped(q, 1), want[min(len(want), 1):])
}

func TestLinesThatAreHandedOnStayAsTheyWere(t *testing.T) {
	for n := range 6 {
		for how, q := range made(steps(n), -1) {
			f := &family{last: 1000}
			f.add(q, steps(n))
			for which := range 1 + 3 + 9 + 27 + 81 {
				f.next(which)
			}
			for which, line := range f.lines {
				check(t, fmt.Sprintf("%s, line %d of its family", how, which), line, f.want[which])
			}
		}
	}
}

// handOn does all with a line that can be done.
func handOn(q Line[int]) {
	q.Peek()
	q = q.Push(-1)
	q, _, _ = q.Pop()
	spoil(q.All())
	q = q.Push(-2)
	for q.Len() > 0 {
		q, _, _ = q.Pop()
	}
	q.Push(-3).Push(-4).Same(q)
}

func TestALineThatIsHandedOnStaysAsItWas(t *testing.T) {
	for n := range 70 {
		for how, q := range made(steps(n), -1) {
			handOn(q)
			check(t, how, q, steps(n))
		}
	}
}

// TestWhatComesFirstGoesFirst puts numbers behind in waves of all lengths, and has more or less of them go in each: they go as they came, each once.
func TestWhatComesFirstGoesFirst(t *testing.T) {
	var q Line[int]
	came, went := 0, 0
	for wave := range 400 {
		for range wave * 7 % 41 {
			q = q.Push(came)
			came++
		}
		for range wave * 11 % 43 {
			next, x, ok := q.Pop()
			if ok != (went < came) || ok && x != went {
				t.Fatalf("wave %d: %d %v goes, when %d went of %d", wave, x, ok, went, came)
			}
			if ok {
				went++
			}
			q = next
		}
		if q.Len() != came-went {
			t.Fatalf("wave %d: %d are left, when %d went of %d", wave, q.Len(), went, came)
		}
	}
	for went < came {
		next, x, ok := q.Pop()
		if !ok || x != went {
			t.Fatalf("%d %v goes, when %d went of %d", x, ok, went, came)
		}
		q = next
		went++
	}
	checkEmpty(t, "all went", q)
}

// TestAgainstAList takes a long walk of pushes and pops, holds each against the library's list, and all lines on the way at its end against what they were.
func TestAgainstAList(t *testing.T) {
	f, model, state := &family{}, list.New(), uint64(1)
	var q Line[int]
	for turn := range 6000 {
		state = state*6364136223846793005 + 1442695040888963407
		// The walk goes up for a while, and down for a while, so that the line is long, and empty, again and again.
		if up := uint64(3); state>>40%8 < up+uint64(turn/100%2)*2 {
			q = q.Push(turn)
			model.PushBack(turn)
		} else {
			next, x, ok := q.Pop()
			if first := model.Front(); ok != (first != nil) || ok && x != model.Remove(first) {
				t.Fatalf("turn %d: %d %v goes", turn, x, ok)
			}
			q = next
		}
		f.add(q, inList(model))
		if !slices.Equal(q.All(), f.want[turn]) {
			t.Fatalf("turn %d: %v, not %v", turn, q.All(), f.want[turn])
		}
	}
	for turn, line := range f.lines {
		if !slices.Equal(line.All(), f.want[turn]) {
			t.Fatalf("the line of turn %d is %v at the end, and was %v", turn, line.All(), f.want[turn])
		}
	}
}

// inList is what is in a list of the library.
func inList(l *list.List) []int {
	var out []int
	for e := l.Front(); e != nil; e = e.Next() {
		out = append(out, e.Value.(int))
	}
	return out
}

// TestALongLine has many things wait at one time.
func TestALongLine(t *testing.T) {
	const many = 4000
	q := pushed(Of[int](), steps(many)...)
	if q.Len() != many || !q.Same(Of(steps(many)...)) {
		t.Fatalf("%d wait", q.Len())
	}
	a, b, c := q.Push(100), q.Push(200), popped(q, 1).Push(300)
	check(t, "the one", a, append(steps(many), 100))
	check(t, "the other one", b, append(steps(many), 200))
	check(t, "without its first", c, append(steps(many)[1:], 300))
	for gone := range many {
		next, x, ok := q.Pop()
		if !ok || x != gone+1 || next.Len() != many-gone-1 {
			t.Fatalf("%d %v goes when %d went", x, ok, gone)
		}
		q = next
	}
	checkEmpty(t, "all went", q)
}

func TestExample(t *testing.T) {
	q, x, ok := Of(3, 4).Push(5).Pop()
	if !ok || x != 3 || q.Len() != 2 {
		t.Errorf("of 3, 4, push 5, pop: %d %v, %d are left", x, ok, q.Len())
	}
	check(t, "what is left", q, []int{4, 5})
}
