package box_test

import (
	"math"
	"math/big"
	"math/rand/v2"
	"slices"
	"testing"

	"layout/api"
	"layout/box"
	"layout/geom"
)

const limit = api.MaxCoord

func point(x, y int) api.Point {
	return api.Point{X: x, Y: y}
}

func seg(ax, ay, bx, by int) api.Seg {
	return api.Seg{A: point(ax, ay), B: point(bx, by)}
}

func rect(x0, y0, x1, y1 int) api.Box {
	return api.Box{X0: x0, Y0: y0, X1: x1, Y1: y1}
}

// hugeNumbers returns numbers that are just, or far, out of every range. Most
// of them look small if they are cut off or wrap around.
func hugeNumbers() []int {
	return []int{limit + 1, -limit - 1, 1 << 29, 1 << 30, -1 << 30, 1 << 32, -1 << 32, 1<<32 + 1, 1 << 62, -1 << 62, math.MaxInt, math.MaxInt - limit, math.MinInt, math.MinInt + 1, math.MinInt + limit}
}

// points returns the points whose coordinates are from -1 to n.
func points(n int) []api.Point {
	list := []api.Point{}
	for x := -1; x <= n; x++ {
		for y := -1; y <= n; y++ {
			list = append(list, point(x, y))
		}
	}
	return list
}

// boxesOf returns the valid boxes whose sides stand at ascending numbers.
func boxesOf(numbers ...int) []api.Box {
	list := []api.Box{}
	for i, x0 := range numbers {
		for _, x1 := range numbers[i:] {
			for j, y0 := range numbers {
				for _, y1 := range numbers[j:] {
					list = append(list, rect(x0, y0, x1, y1))
				}
			}
		}
	}
	return list
}

// invalidBoxes returns boxes with a side of less than 0, or with a corner out
// of range.
func invalidBoxes() []api.Box {
	list := []api.Box{rect(1, 0, 0, 4), rect(0, 1, 4, 0), rect(4, 4, 0, 0), rect(3, 0, 2, 4), rect(0, 3, 4, 2), rect(limit, 0, -limit, 4)}
	for _, n := range hugeNumbers() {
		list = append(list, rect(n, 0, 4, 4), rect(0, n, 4, 4), rect(0, 0, n, 4), rect(0, 0, 4, n), rect(n, n, n, n))
	}
	return list
}

// randomNumber returns a coordinate, in many cases near a limit.
func randomNumber(random *rand.Rand) int {
	switch random.IntN(4) {
	case 0:
		return limit - random.IntN(4)
	case 1:
		return random.IntN(4) - limit
	default:
		return random.IntN(2*limit+1) - limit
	}
}

func randomPoint(random *rand.Rand) api.Point {
	return point(randomNumber(random), randomNumber(random))
}

func randomBox(random *rand.Rand) api.Box {
	p, q := randomPoint(random), randomPoint(random)
	return rect(min(p.X, q.X), min(p.Y, q.Y), max(p.X, q.X), max(p.Y, q.Y))
}

// P3.1
func TestValid(t *testing.T) {
	for _, b := range append(boxesOf(-limit, 1-limit, -1, 0, 1, limit-1, limit), rect(0, 0, 0, 0), rect(-3, 4, 5, 4)) {
		if !box.Valid(b) {
			t.Errorf("%v is not valid", b)
		}
	}
	for _, b := range invalidBoxes() {
		if box.Valid(b) {
			t.Errorf("%v is valid", b)
		}
	}
	for _, p := range points(3) {
		for _, q := range points(3) {
			want := p.X <= q.X && p.Y <= q.Y
			if got := box.Valid(rect(p.X, p.Y, q.X, q.Y)); got != want {
				t.Errorf("Valid of the box from %v to %v: %v", p, q, got)
			}
		}
	}
}

// P3.1
func TestMake(t *testing.T) {
	const size = api.MaxSize
	for _, c := range []struct {
		c    api.Point
		w, h int
		want api.Box
	}{
		{point(10, 10), 5, 4, rect(8, 8, 13, 12)}, // the chapter's example
		{point(0, 0), 0, 0, rect(0, 0, 0, 0)}, {point(7, -7), 0, 0, rect(7, -7, 7, -7)}, {point(0, 0), 1, 1, rect(0, 0, 1, 1)}, {point(-3, -3), 3, 7, rect(-4, -6, -1, 1)}, {point(-3, -3), 2, 1, rect(-4, -3, -2, -2)},
		{point(0, 0), size, size, rect(-size/2, -size/2, size/2, size/2)}, {point(0, 0), size - 1, 0, rect(1-size/2, 0, size/2, 0)}, // the greatest sizes
		{point(limit, -limit), 0, 0, rect(limit, -limit, limit, -limit)}, {point(-limit, -limit), 1, 1, rect(-limit, -limit, 1-limit, 1-limit)}, {point(limit-1, limit-1), 1, 2, rect(limit-1, limit-2, limit, limit)}, {point(limit-size/2, size/2-limit), size, size, rect(limit-size, -limit, limit, size-limit)}, // the result just fits
		{point(limit, 0), 1, 0, rect(0, 0, 0, 0)}, {point(0, limit), 0, 1, rect(0, 0, 0, 0)}, {point(-limit, 0), 2, 0, rect(0, 0, 0, 0)}, {point(0, -limit), 0, 2, rect(0, 0, 0, 0)}, {point(limit-1, 0), 3, 0, rect(0, 0, 0, 0)}, {point(0, 1+size/2-limit), size, size, rect(-size/2, 1-limit, size/2, 1-limit+size)}, {point(0, size/2-limit-1), size, size, rect(0, 0, 0, 0)}, // and it just does not
		{point(5, 5), -1, 3, rect(0, 0, 0, 0)}, {point(5, 5), 3, -1, rect(0, 0, 0, 0)}, {point(5, 5), -2, -2, rect(0, 0, 0, 0)}, {point(5, 5), size + 1, 3, rect(0, 0, 0, 0)}, {point(5, 5), 3, size + 1, rect(0, 0, 0, 0)}, // sizes out of range
		{point(limit+1, 0), 0, 0, rect(0, 0, 0, 0)}, {point(0, -limit-1), 3, 3, rect(0, 0, 0, 0)}, {point(limit+1, 0), 2, 2, rect(0, 0, 0, 0)}, {point(-limit-1, 0), 1, 1, rect(0, 0, 0, 0)}, // centers out of range
	} {
		if got := box.Make(c.c, c.w, c.h); got != c.want {
			t.Errorf("Make(%v, %d, %d): %v, want %v", c.c, c.w, c.h, got, c.want)
		}
	}
	for _, n := range hugeNumbers() {
		for _, b := range []api.Box{box.Make(point(n, 5), 3, 3), box.Make(point(5, n), 3, 3), box.Make(point(5, 5), n, 3), box.Make(point(5, 5), 3, n), box.Make(point(n, n), n, n)} {
			if b != (api.Box{}) {
				t.Errorf("Make with %d: %v", n, b)
			}
		}
	}
}

// P3.1 and P3.5
func TestMadeBoxes(t *testing.T) {
	random := rand.New(rand.NewPCG(3, 1))
	for _, c := range points(4) {
		for w := range 8 {
			for h := range 8 {
				checkMade(t, c, w, h)
			}
		}
	}
	made := 0
	for range 5000 {
		if checkMade(t, randomPoint(random), random.IntN(api.MaxSize+1), random.IntN(api.MaxSize+1)) {
			made++
		}
		checkMade(t, randomPoint(random), random.IntN(9), random.IntN(9))
	}
	if made < 100 {
		t.Errorf("only %d boxes are made", made)
	}
}

// checkMade checks Make and Center with a valid center and sizes in range, and
// reports whether there is a box.
func checkMade(t *testing.T, c api.Point, w, h int) bool {
	t.Helper()
	b := box.Make(c, w, h)
	left, above := w>>1, h>>1
	fits := c.X-left >= -limit && c.X-left+w <= limit && c.Y-above >= -limit && c.Y-above+h <= limit
	if !fits {
		if b != (api.Box{}) {
			t.Errorf("Make(%v, %d, %d): %v", c, w, h, b)
		}
		return false
	}
	if b.X0 != c.X-left || b.Y0 != c.Y-above || b.X1-b.X0 != w || b.Y1-b.Y0 != h {
		t.Errorf("Make(%v, %d, %d): %v", c, w, h, b)
	}
	if !box.Valid(b) || box.Center(b) != c || !box.Contains(b, c) {
		t.Errorf("%v has the center %v, not %v", b, box.Center(b), c)
	}
	return true
}

// floorHalf returns n / 2, rounded toward negative infinity.
func floorHalf(n int) int {
	return int(math.Floor(float64(n) / 2))
}

// P3.1
func TestCenter(t *testing.T) {
	for _, c := range []struct {
		b    api.Box
		want api.Point
	}{
		{rect(8, 8, 13, 12), point(10, 10)}, // the chapter's example
		{rect(0, 0, 1, 3), point(0, 1)}, {rect(-1, -3, 0, 0), point(-1, -2)}, {rect(-2, -1, 1, 2), point(-1, 0)}, {rect(-5, 4, -5, 4), point(-5, 4)}, {rect(-4, -7, -1, -2), point(-3, -5)},
		{rect(-limit, -limit, limit, limit), point(0, 0)}, {rect(-limit, -limit, limit-1, 1-limit), point(-1, -limit)}, {rect(limit-1, limit, limit, limit), point(limit-1, limit)},
	} {
		if got := box.Center(c.b); got != c.want {
			t.Errorf("Center(%v): %v, want %v", c.b, got, c.want)
		}
	}
	for _, b := range append(boxesOf(-4, -3, -2, -1, 0, 1, 2, 3), boxesOf(-limit, 1-limit, limit-1, limit)...) {
		if got, want := box.Center(b), point(floorHalf(b.X0+b.X1), floorHalf(b.Y0+b.Y1)); got != want {
			t.Errorf("Center(%v): %v, want %v", b, got, want)
		}
	}
	for _, b := range append(invalidBoxes(), rect(9, 9, 7, 12), rect(9, 9, 12, 7)) {
		if got := box.Center(b); got != (api.Point{}) {
			t.Errorf("Center(%v): %v", b, got)
		}
	}
}

// P3.2
func TestContains(t *testing.T) {
	for _, c := range []struct {
		b    api.Box
		p    api.Point
		want bool
	}{
		{rect(0, 0, 4, 4), point(2, 3), true}, {rect(0, 0, 4, 4), point(0, 0), true}, {rect(0, 0, 4, 4), point(4, 4), true}, {rect(0, 0, 4, 4), point(4, 1), true}, {rect(0, 0, 4, 4), point(1, 0), true}, // the border included
		{rect(0, 0, 4, 4), point(-1, 2), false}, {rect(0, 0, 4, 4), point(5, 2), false}, {rect(0, 0, 4, 4), point(2, -1), false}, {rect(0, 0, 4, 4), point(2, 5), false},
		{rect(3, 3, 3, 3), point(3, 3), true}, {rect(3, 3, 3, 3), point(3, 4), false}, {rect(3, 0, 3, 9), point(3, 9), true}, {rect(3, 0, 3, 9), point(4, 9), false}, // boxes without interior
		{rect(-limit, -limit, limit, limit), point(limit, -limit), true}, {rect(-limit, -limit, limit, limit-1), point(0, limit), false},
	} {
		if got := box.Contains(c.b, c.p); got != c.want {
			t.Errorf("Contains(%v, %v): %v", c.b, c.p, got)
		}
	}
	for _, b := range boxesOf(0, 1, 2, 3, 4) {
		for _, p := range points(5) {
			want := false
			for _, q := range pointsOf(b) {
				want = want || p == q
			}
			if got := box.Contains(b, p); got != want {
				t.Errorf("Contains(%v, %v): %v", b, p, got)
			}
		}
	}
}

// P3.2
func TestContainsOfInvalid(t *testing.T) {
	for _, b := range invalidBoxes() {
		for _, p := range append(points(4), point(b.X0, b.Y0), point(b.X1, b.Y1)) {
			if box.Contains(b, p) {
				t.Errorf("%v contains %v", b, p)
			}
		}
	}
	for _, n := range hugeNumbers() {
		for _, p := range []api.Point{point(n, 1), point(1, n), point(n, n)} {
			for _, b := range []api.Box{rect(0, 0, 4, 4), rect(-limit, -limit, limit, limit), rect(n, n, n, n)} {
				if box.Contains(b, p) {
					t.Errorf("%v contains %v", b, p)
				}
			}
		}
	}
}

// pointsOf returns the points of b with integer coordinates.
func pointsOf(b api.Box) []api.Point {
	list := []api.Point{}
	for x := b.X0; x <= b.X1; x++ {
		for y := b.Y0; y <= b.Y1; y++ {
			list = append(list, point(x, y))
		}
	}
	return list
}

// inner returns the points of the interior of b whose coordinates are
// multiples of one half, in halves. Two interiors with sides at integers have a
// point in common exactly if they have one of these.
func inner(b api.Box) map[api.Point]bool {
	set := map[api.Point]bool{}
	for x := 2*b.X0 + 1; x < 2*b.X1; x++ {
		for y := 2*b.Y0 + 1; y < 2*b.Y1; y++ {
			set[point(x, y)] = true
		}
	}
	return set
}

// P3.2
func TestInsideAndOverlap(t *testing.T) {
	for _, c := range []struct {
		a, b            api.Box
		inside, overlap bool
	}{
		{rect(0, 0, 4, 4), rect(4, 0, 8, 4), false, false}, // the chapter's example
		{rect(0, 0, 4, 4), rect(0, 4, 4, 8), false, false}, {rect(0, 0, 4, 4), rect(4, 4, 8, 8), false, false}, {rect(0, 0, 4, 4), rect(6, 0, 8, 4), false, false}, {rect(0, 0, 4, 4), rect(3, 3, 8, 8), false, true},
		{rect(0, 0, 4, 4), rect(0, 0, 4, 4), true, true}, {rect(1, 1, 3, 3), rect(0, 0, 4, 4), true, true}, {rect(0, 0, 4, 4), rect(1, 1, 3, 3), false, true}, {rect(0, 0, 4, 5), rect(0, 0, 4, 4), false, true}, {rect(1, -2, 2, 9), rect(-2, 1, 9, 2), false, true}, {rect(1, 1, 2, 2), rect(1, 1, 2, 2), true, true},
		{rect(2, 0, 2, 4), rect(0, 0, 4, 4), true, false}, {rect(0, 2, 4, 2), rect(0, 0, 4, 4), true, false}, {rect(2, 2, 2, 2), rect(0, 0, 4, 4), true, false}, {rect(4, 4, 4, 4), rect(0, 0, 4, 4), true, false}, {rect(2, 2, 2, 2), rect(2, 2, 2, 2), true, false}, {rect(2, 0, 2, 4), rect(2, 0, 2, 4), true, false}, // boxes without interior
		{rect(-limit, -limit, limit, limit), rect(limit-1, limit-1, limit, limit), false, true}, {rect(1-limit, 0, limit, 1), rect(-limit, -limit, limit, limit), true, true}, {rect(-limit, 0, 0, limit), rect(0, 0, limit, limit), false, false},
	} {
		inside, overlap := box.Inside(c.a, c.b), box.Overlap(c.a, c.b)
		if inside != c.inside || overlap != c.overlap {
			t.Errorf("%v, %v: inside %v, overlap %v", c.a, c.b, inside, overlap)
		}
	}
	list := boxesOf(0, 1, 2, 3)
	for _, a := range list {
		for _, b := range list {
			checkInsideAndOverlap(t, a, b)
		}
	}
}

// checkInsideAndOverlap checks P3.2 and P3.5 with the points of small boxes.
func checkInsideAndOverlap(t *testing.T, a, b api.Box) {
	t.Helper()
	inside := true
	for _, p := range pointsOf(a) {
		inside = inside && slices.Contains(pointsOf(b), p)
	}
	overlap, others := false, inner(b)
	for p := range inner(a) {
		overlap = overlap || others[p]
	}
	if got := box.Inside(a, b); got != inside {
		t.Errorf("Inside(%v, %v): %v", a, b, got)
	}
	if got := box.Overlap(a, b); got != overlap || box.Overlap(b, a) != overlap {
		t.Errorf("Overlap of %v and %v: %v, and %v", a, b, got, box.Overlap(b, a))
	}
}

// P3.2: in every place, also beside the same invalid box.
func TestInsideAndOverlapOfInvalid(t *testing.T) {
	for _, bad := range invalidBoxes() {
		for _, b := range append(boxesOf(-limit, 0, 2, 4, limit), bad) {
			if box.Inside(bad, b) || box.Inside(b, bad) {
				t.Errorf("one of %v and %v is inside the other", bad, b)
			}
			if box.Overlap(bad, b) || box.Overlap(b, bad) {
				t.Errorf("%v and %v overlap", bad, b)
			}
		}
	}
}

// P3.5: boxes without width or height overlap nothing, and the order of the
// arguments of Overlap does not matter.
func TestConsequencesOfOverlap(t *testing.T) {
	list := append(boxesOf(-limit, 1-limit, 0, limit), boxesOf(1, 2, 3)...)
	for _, a := range list {
		for _, b := range list {
			overlap := box.Overlap(a, b)
			if overlap != box.Overlap(b, a) {
				t.Errorf("Overlap of %v and %v depends on their order", a, b)
			}
			if flat := a.X0 == a.X1 || a.Y0 == a.Y1; overlap && flat {
				t.Errorf("%v, without interior, overlaps %v", a, b)
			}
			if apart := a.X1 <= b.X0 || b.X1 <= a.X0 || a.Y1 <= b.Y0 || b.Y1 <= a.Y0; overlap && apart {
				t.Errorf("%v overlaps %v", a, b)
			}
		}
	}
}

// P3.3
func TestUnion(t *testing.T) {
	bad := rect(9, 0, 0, 0)
	far := rect(0, 0, 4, limit+1)
	for _, c := range []struct {
		list []api.Box
		want api.Box
	}{
		{nil, api.Box{}}, {[]api.Box{}, api.Box{}}, {[]api.Box{bad}, api.Box{}}, {[]api.Box{bad, far, bad}, api.Box{}}, // no valid box
		{[]api.Box{rect(1, 2, 3, 4)}, rect(1, 2, 3, 4)}, {[]api.Box{rect(5, 5, 5, 5)}, rect(5, 5, 5, 5)}, {[]api.Box{rect(-4, -4, -2, -2)}, rect(-4, -4, -2, -2)},
		{[]api.Box{rect(1, 2, 3, 4), rect(5, 6, 7, 8)}, rect(1, 2, 7, 8)}, {[]api.Box{rect(1, 6, 3, 8), rect(5, 2, 7, 4)}, rect(1, 2, 7, 8)}, {[]api.Box{rect(1, 1, 9, 9), rect(2, 2, 3, 3)}, rect(1, 1, 9, 9)},
		{[]api.Box{rect(0, 0, 1, 1), rect(-3, -4, -3, -4), rect(5, 0, 5, 6)}, rect(-3, -4, 5, 6)}, // boxes without interior count
		{[]api.Box{bad, rect(5, 6, 7, 8), far}, rect(5, 6, 7, 8)}, {[]api.Box{rect(5, 6, 7, 8), bad, far, rect(8, 8, 9, 9)}, rect(5, 6, 9, 9)}, {[]api.Box{far, rect(-7, -8, -5, -6)}, rect(-7, -8, -5, -6)}, {[]api.Box{rect(0, 0, 0, 0), rect(5, 6, 7, 8)}, rect(0, 0, 7, 8)},
		{[]api.Box{rect(-limit, 0, -limit, 0), rect(limit, limit, limit, limit), rect(3, -limit, 3, 3)}, rect(-limit, -limit, limit, limit)},
	} {
		given := slices.Clone(c.list)
		if got := box.Union(c.list...); got != c.want {
			t.Errorf("Union(%v): %v, want %v", given, got, c.want)
		}
		if !slices.Equal(given, c.list) {
			t.Errorf("Union changes %v to %v", given, c.list)
		}
	}
	if got := box.Union(rect(1, 2, 3, 4), bad, rect(0, 3, 2, 9)); got != rect(0, 2, 3, 9) {
		t.Errorf("Union of three arguments: %v", got)
	}
}

// P3.3 and P3.5
func TestUnionOfMany(t *testing.T) {
	random := rand.New(rand.NewPCG(3, 2))
	bad := invalidBoxes()
	for range 2000 {
		list := []api.Box{}
		for range random.IntN(6) {
			list = append(list, randomBox(random))
		}
		valid := slices.Clone(list)
		for range random.IntN(4) {
			list = append(list, bad[random.IntN(len(bad))])
		}
		random.Shuffle(len(list), func(i, j int) { list[i], list[j] = list[j], list[i] })
		union := box.Union(list...)
		if !isUnion(union, valid) {
			t.Errorf("Union(%v): %v", list, union)
		}
		slices.Reverse(list)
		if got := box.Union(list...); got != union {
			t.Errorf("Union(%v): %v, but %v in the other order", list, got, union)
		}
	}
	// What lies behind the length of a slice does not count.
	hidden := []api.Box{rect(1, 1, 2, 2), rect(0, 0, 9, 9)}
	if got := box.Union(hidden[:1]...); got != rect(1, 1, 2, 2) || hidden[1] != rect(0, 0, 9, 9) {
		t.Errorf("Union of a part: %v", got)
	}
}

// isUnion reports whether u contains all boxes, which are valid, and each side
// of u is one of theirs, so that no smaller box contains them.
func isUnion(u api.Box, boxes []api.Box) bool {
	if len(boxes) == 0 {
		return u == api.Box{}
	}
	sides := [4]bool{}
	for _, b := range boxes {
		if b.X0 < u.X0 || b.Y0 < u.Y0 || b.X1 > u.X1 || b.Y1 > u.Y1 {
			return false
		}
		for i, same := range []bool{b.X0 == u.X0, b.Y0 == u.Y0, b.X1 == u.X1, b.Y1 == u.Y1} {
			sides[i] = sides[i] || same
		}
	}
	return sides == [4]bool{true, true, true, true}
}

// P3.3
func TestInflate(t *testing.T) {
	all := rect(-limit, -limit, limit, limit)
	for _, c := range []struct {
		b    api.Box
		by   int
		want api.Box
	}{
		{rect(1, 2, 3, 5), 0, rect(1, 2, 3, 5)}, {rect(1, 2, 3, 5), 4, rect(-3, -2, 7, 9)}, {rect(1, 2, 3, 5), -1, rect(2, 3, 2, 4)}, {rect(0, 0, 4, 4), -2, rect(2, 2, 2, 2)}, {rect(7, -7, 7, -7), 1, rect(6, -8, 8, -6)},
		{rect(1, 2, 3, 5), -2, api.Box{}}, {rect(0, 0, 4, 9), -3, api.Box{}}, {rect(0, 0, 9, 4), -3, api.Box{}}, {rect(7, 7, 7, 7), -1, api.Box{}}, // the result has a side of less than 0
		{rect(1-limit, 0, 0, 0), 1, rect(-limit, -1, 1, 1)}, {rect(-limit, 5, 0, 5), 1, api.Box{}}, {rect(5, -limit, 5, 0), 1, api.Box{}}, {rect(5, 0, limit, 5), 1, api.Box{}}, {rect(5, 0, 5, limit), 1, api.Box{}}, {rect(3, 3, 4, limit-1), 1, rect(2, 2, 5, limit)}, // near the limits
		{all, 0, all}, {all, 1, api.Box{}}, {all, -1, rect(1-limit, 1-limit, limit-1, limit-1)}, {all, -limit, rect(0, 0, 0, 0)}, {all, -limit - 1, api.Box{}}, {rect(0, 0, 0, 0), limit, all}, {rect(0, 0, 0, 0), limit + 1, api.Box{}}, {rect(5, 5, 5, 5), limit - 5, rect(10-limit, 10-limit, limit, limit)}, {rect(5, 5, 5, 5), limit - 4, api.Box{}},
	} {
		if got := box.Inflate(c.b, c.by); got != c.want {
			t.Errorf("Inflate(%v, %d): %v, want %v", c.b, c.by, got, c.want)
		}
	}
	for _, by := range hugeNumbers() {
		for _, b := range append(boxesOf(-limit, 1-limit, 0, limit-1, limit), rect(1, 2, 3, 5)) {
			if got := box.Inflate(b, by); got != (api.Box{}) {
				t.Errorf("Inflate(%v, %d): %v", b, by, got)
			}
		}
	}
}

// P3.3: the box is not valid, though the result may be.
func TestInflateInvalid(t *testing.T) {
	for _, b := range append(invalidBoxes(), rect(-limit-1, 0, 9, 9), rect(0, 0, 9, limit+1)) {
		for _, by := range append(hugeNumbers(), -limit, -9, -1, 0, 1, 9, limit) {
			if got := box.Inflate(b, by); got != (api.Box{}) {
				t.Errorf("Inflate(%v, %d): %v", b, by, got)
			}
		}
	}
}

// clip returns the open range of the numbers u with from < start + u * step < to,
// which is nil on a side without a limit, and whether there are any.
func clip(start, step, from, to int) (low, high *big.Rat, some bool) {
	if step == 0 {
		return nil, nil, from < start && start < to
	}
	at := func(n int) *big.Rat {
		return new(big.Rat).SetFrac64(int64(n-start), int64(step))
	}
	if step < 0 {
		from, to = to, from
	}
	return at(from), at(to), from != to
}

// enters is Hits of valid arguments. The points of s are s.A + u * (s.B - s.A)
// with u from 0 to 1; those of the interior have an open range of u, which is
// cut from the ranges of both coordinates.
func enters(b api.Box, s api.Seg) bool {
	lowX, highX, someX := clip(s.A.X, s.B.X-s.A.X, b.X0, b.X1)
	lowY, highY, someY := clip(s.A.Y, s.B.Y-s.A.Y, b.Y0, b.Y1)
	if !someX || !someY {
		return false
	}
	zero, one := new(big.Rat), big.NewRat(1, 1)
	for _, low := range []*big.Rat{lowX, lowY} {
		if low != nil && low.Cmp(one) >= 0 {
			return false
		}
		for _, high := range []*big.Rat{highX, highY} {
			if high != nil && (high.Cmp(zero) <= 0 || low != nil && low.Cmp(high) >= 0) {
				return false
			}
		}
	}
	return true
}

// checkHits checks P3.4 and the last sentence of P3.5 with valid arguments.
func checkHits(t *testing.T, b api.Box, s api.Seg) bool {
	t.Helper()
	want := enters(b, s)
	if got := box.Hits(b, s); got != want {
		t.Errorf("Hits(%v, %v): %v", b, s, got)
	}
	if got := box.Hits(b, api.Seg{A: s.B, B: s.A}); got != want {
		t.Errorf("Hits(%v, %v): %v in the other direction", b, s, got)
	}
	return want
}

// P3.4
func TestHits(t *testing.T) {
	all := rect(-limit, -limit, limit, limit)
	for _, c := range []struct {
		b    api.Box
		s    api.Seg
		want bool
	}{
		{rect(0, 0, 4, 4), seg(0, 4, 9, 4), false}, {rect(0, 0, 4, 4), seg(0, 3, 9, 3), true}, // the chapter's examples
		{rect(0, 0, 4, 4), seg(1, 1, 3, 2), true}, {rect(0, 0, 4, 4), seg(-1, 2, 5, 2), true}, {rect(0, 0, 4, 4), seg(2, -1, 2, 5), true}, {rect(0, 0, 4, 4), seg(0, 0, 4, 4), true}, {rect(0, 0, 4, 4), seg(0, 2, 4, 2), true}, {rect(0, 0, 4, 4), seg(2, 2, 9, 9), true},
		{rect(0, 0, 4, 4), seg(0, 0, 4, 0), false}, {rect(0, 0, 4, 4), seg(0, 0, 0, 9), false}, {rect(0, 0, 4, 4), seg(4, -9, 4, 9), false}, {rect(0, 0, 4, 4), seg(4, 2, 9, 2), false}, {rect(0, 0, 4, 4), seg(4, 2, 9, 9), false}, // along or to the border
		{rect(0, 0, 4, 4), seg(-2, 2, 2, -2), false}, {rect(0, 0, 4, 4), seg(-2, 3, 3, -2), true}, {rect(0, 0, 4, 4), seg(2, 6, 6, 2), false}, {rect(0, 0, 4, 4), seg(2, 5, 5, 2), true}, {rect(0, 0, 4, 4), seg(-1, 3, 1, 5), false}, {rect(0, 0, 4, 4), seg(3, -1, 5, 1), false}, {rect(0, 0, 4, 4), seg(4, 4, 9, 9), false}, // over or past a corner
		{rect(0, 0, 4, 4), seg(5, 0, 9, 4), false}, {rect(0, 0, 4, 4), seg(-3, 1, -1, 3), false}, {rect(0, 0, 4, 4), seg(1, 5, 3, 9), false}, {rect(0, 0, 4, 4), seg(-9, -9, -1, -1), false}, {rect(0, 0, 4, 4), seg(5, 5, 9, 9), false}, // the line would hit
		{rect(0, 0, 4, 4), seg(2, 2, 2, 2), true}, {rect(0, 0, 4, 4), seg(0, 2, 0, 2), false}, {rect(0, 0, 4, 4), seg(4, 2, 4, 2), false}, {rect(0, 0, 4, 4), seg(2, 0, 2, 0), false}, {rect(0, 0, 4, 4), seg(2, 4, 2, 4), false}, {rect(0, 0, 4, 4), seg(4, 4, 4, 4), false}, {rect(0, 0, 4, 4), seg(5, 2, 5, 2), false}, // single points
		{rect(2, 0, 2, 4), seg(0, 2, 4, 2), false}, {rect(0, 2, 4, 2), seg(1, 1, 3, 3), false}, {rect(2, 2, 2, 2), seg(0, 0, 4, 4), false}, {rect(2, 2, 2, 2), seg(2, 2, 2, 2), false}, {rect(2, 0, 2, 4), seg(2, 1, 2, 3), false}, // no interior
		{rect(0, 0, 1, 1), seg(0, 0, 1, 1), true}, {rect(0, 0, 1, 1), seg(-1, 1, 2, 0), true}, {rect(0, 0, 1, 1), seg(0, 1, 1, 2), false}, {rect(0, 0, 1, 1), seg(0, 1, 0, 0), false}, // an interior without integer coordinates
		{all, seg(limit, limit, limit-1, limit-1), true}, {all, seg(-limit, -limit, limit, -limit), false}, {all, seg(limit, -limit, limit, limit), false}, {rect(limit-1, limit-1, limit, limit), seg(-limit, -limit, limit, limit), true}, {rect(limit-2, limit-1, limit-1, limit), seg(-limit, -limit, limit, limit), false}, // the greatest products
	} {
		if got := box.Hits(c.b, c.s); got != c.want {
			t.Errorf("Hits(%v, %v): %v", c.b, c.s, got)
		}
		checkHits(t, c.b, c.s)
	}
	for _, b := range boxesOf(0, 1, 2, 3) {
		for _, p := range points(4) {
			for _, q := range points(4) {
				checkHits(t, b, api.Seg{A: p, B: q})
			}
		}
	}
}

// P3.4: all over the range of coordinates, and with segments that pass over a
// corner, or so near that only exact arithmetic tells whether they hit.
func TestHitsOfLongSegments(t *testing.T) {
	random := rand.New(rand.NewPCG(3, 3))
	count := [2]int{}
	for range 20000 {
		b := randomBox(random)
		checkHits(t, b, api.Seg{A: randomPoint(random), B: randomPoint(random)})
		if s := nearCorner(random, b); geom.Valid(s.A) && geom.Valid(s.B) {
			if checkHits(t, b, s) {
				count[1]++
			} else {
				count[0]++
			}
		}
	}
	if min(count[0], count[1]) < 1000 {
		t.Errorf("only %v segments miss or hit", count)
	}
}

// nearCorner returns a segment from both sides of a corner of b, whose ends
// may not be valid.
func nearCorner(random *rand.Rand, b api.Box) api.Seg {
	corner := point(b.X0, b.Y0)
	if random.IntN(2) == 0 {
		corner.X = b.X1
	}
	if random.IntN(2) == 0 {
		corner.Y = b.Y1
	}
	step := point(random.IntN(2000001)-1000000, random.IntN(2000001)-1000000)
	before, behind := random.IntN(100), random.IntN(100)
	return seg(corner.X-before*step.X+random.IntN(3)-1, corner.Y-before*step.Y+random.IntN(3)-1, corner.X+behind*step.X+random.IntN(3)-1, corner.Y+behind*step.Y+random.IntN(3)-1)
}

// P3.4: in every place, however the valid ones lie.
func TestHitsOfInvalid(t *testing.T) {
	for _, bad := range invalidBoxes() {
		for _, s := range []api.Seg{seg(1, 2, 3, 2), seg(2, 2, 2, 2), seg(-9, -9, 9, 9), seg(-limit, 2, limit, 2), seg(2, -limit, 2, limit), seg(0, 4, 4, 0)} {
			if box.Hits(bad, s) {
				t.Errorf("%v hits %v", s, bad)
			}
		}
	}
	for _, n := range hugeNumbers() {
		for _, bad := range []api.Point{point(n, 2), point(2, n), point(n, n), point(n, -n)} {
			for _, p := range []api.Point{point(2, 2), point(1, 3), point(-9, 2), point(2, 9), bad} {
				for _, b := range []api.Box{rect(0, 0, 4, 4), rect(-limit, -limit, limit, limit)} {
					if box.Hits(b, api.Seg{A: bad, B: p}) || box.Hits(b, api.Seg{A: p, B: bad}) {
						t.Errorf("the segment of %v and %v hits %v", bad, p, b)
					}
				}
			}
		}
	}
}
