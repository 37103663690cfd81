package poly_test

import (
	"cmp"
	"math"
	"math/rand/v2"
	"slices"
	"testing"

	"layout/api"
	"layout/poly"
)

const limit = api.MaxCoord

func point(x, y int) api.Point {
	return api.Point{X: x, Y: y}
}

func rect(x0, y0, x1, y1 int) api.Box {
	return api.Box{X0: x0, Y0: y0, X1: x1, Y1: y1}
}

// list returns the points with these coordinates, x and y in turn.
func list(coordinates ...int) []api.Point {
	points := []api.Point{}
	for pair := range slices.Chunk(coordinates, 2) {
		points = append(points, point(pair[0], pair[1]))
	}
	return points
}

// hugeNumbers returns numbers that are just, or far, out of the range of
// coordinates. Most of them look small if they are cut off or wrap around.
func hugeNumbers() []int {
	return []int{limit + 1, -limit - 1, 1 << 29, 1 << 30, -1 << 30, 1 << 32, -1 << 32, 1<<32 + 1, 1 << 62, -1 << 62, math.MaxInt, math.MaxInt - limit, math.MinInt, math.MinInt + 1, math.MinInt + limit}
}

// grid returns the points with coordinates from 0 to n - 1.
func grid(n int) []api.Point {
	points := []api.Point{}
	for x := range n {
		for y := range n {
			points = append(points, point(x, y))
		}
	}
	return points
}

// paths returns all paths of 1 to n of these points.
func paths(points []api.Point, n int) [][]api.Point {
	all, last := [][]api.Point{}, [][]api.Point{nil}
	for range n {
		next := [][]api.Point{}
		for _, l := range last {
			for _, p := range points {
				if len(l) == 0 || l[len(l)-1] != p {
					next = append(next, append(slices.Clone(l), p))
				}
			}
		}
		all, last = append(all, next...), next
	}
	return all
}

// zigzag returns a path of n points that turns at every inner one: its
// segments lead from the left to the right and back, from the top downward.
func zigzag(n int) []api.Point {
	l := []api.Point{}
	for i := range n {
		l = append(l, point(i%2*2000, i))
	}
	return l
}

// mirrored returns l with x and y exchanged.
func mirrored(l []api.Point) []api.Point {
	other := []api.Point{}
	for _, p := range l {
		other = append(other, point(p.Y, p.X))
	}
	return other
}

// repeated returns n equal points.
func repeated(n, x, y int) []api.Point {
	return slices.Repeat(list(x, y), n)
}

func reversed(l []api.Point) []api.Point {
	other := slices.Clone(l)
	slices.Reverse(other)
	return other
}

// pathsOutOfRange returns lists that have too few points, too many, or points
// that are not valid.
func pathsOutOfRange() [][]api.Point {
	lists := [][]api.Point{nil, {}, zigzag(api.MaxPath + 1), zigzag(2 * api.MaxPath), repeated(api.MaxPath+1, 3, 3)}
	for _, n := range hugeNumbers() {
		for place := range 4 {
			across, down := list(0, 0, 5, 5, 9, 0, 9, 9), list(0, 0, 5, 5, 9, 0, 9, 9)
			across[place].X, down[place].Y = n, n
			lists = append(lists, across, down)
		}
		lists = append(lists, list(n, 0), list(0, n), list(n, n), list(n, 0, -n, 0), list(0, 0, n, n), list(n, n, n, n))
	}
	return lists
}

// pathsWithRepeats returns lists of valid points that are no paths, as some
// neighbors are equal.
func pathsWithRepeats() [][]api.Point {
	lists := [][]api.Point{repeated(2, 0, 0), repeated(3, 4, -4), repeated(api.MaxPath, 1, 1), list(limit, -limit, limit, -limit)}
	for place := range 4 {
		l := list(0, 0, 5, 5, 9, 0, 9, 9)
		lists = append(lists, slices.Insert(slices.Clone(l), place, l[place]), slices.Insert(slices.Clone(l), place, l[place], l[place]))
	}
	long := zigzag(api.MaxPath)
	long[api.MaxPath-1] = long[api.MaxPath-2]
	return append(lists, long)
}

func invalidPaths() [][]api.Point {
	return append(pathsOutOfRange(), pathsWithRepeats()...)
}

// randomNumber returns a coordinate: small, near a limit, or anything.
func randomNumber(random *rand.Rand) int {
	switch random.IntN(6) {
	case 0:
		return limit - random.IntN(3)
	case 1:
		return random.IntN(3) - limit
	case 2:
		return random.IntN(2*limit+1) - limit
	default:
		return random.IntN(5) - 2
	}
}

// randomList returns 1 to n valid points, some of them equal to, or in line
// with, the ones before.
func randomList(random *rand.Rand, n int) []api.Point {
	l := []api.Point{}
	for range 1 + random.IntN(n) {
		p := point(randomNumber(random), randomNumber(random))
		if len(l) > 0 {
			last := l[len(l)-1]
			switch random.IntN(5) {
			case 0:
				p = last
			case 1:
				p.X = last.X
			case 2:
				p.Y = last.Y
			}
		}
		l = append(l, p)
	}
	return l
}

// randomPath returns a path of 1 to n points.
func randomPath(random *rand.Rand, n int) []api.Point {
	return slices.Compact(randomList(random, n))
}

// sides returns the cross product and the scalar product of the ways from q to
// p and from q to r; for valid points both are less than 2^60.
func sides(p, q, r api.Point) (across, along int) {
	across = (p.X-q.X)*(r.Y-q.Y) - (p.Y-q.Y)*(r.X-q.X)
	along = (p.X-q.X)*(r.X-q.X) + (p.Y-q.Y)*(r.Y-q.Y)
	return across, along
}

// bendsAt reports whether there is a bend at q between p and r: they do not lie
// on one line, or p and r lie on the same side of q.
func bendsAt(p, q, r api.Point) bool {
	across, along := sides(p, q, r)
	return across != 0 || along > 0
}

// simplified is Simplify of a list of valid points: it drops one point after
// another that is equal to the point before it or no bend.
func simplified(l []api.Point) []api.Point {
	simple := slices.Clone(l)
	for i := 1; i < len(simple); {
		if simple[i] == simple[i-1] || i+1 < len(simple) && simple[i] != simple[i+1] && !bendsAt(simple[i-1], simple[i], simple[i+1]) {
			simple = slices.Delete(simple, i, i+1)
			i = max(i-1, 1)
			continue
		}
		i++
	}
	return simple
}

// crossing reports whether the segments from a to b and from c to d cross:
// each separates the ends of the other one.
func crossing(a, b, c, d api.Point) bool {
	sign := func(p, q, r api.Point) int {
		across, _ := sides(p, q, r)
		return cmp.Compare(across, 0)
	}
	return sign(a, b, c)*sign(a, b, d) < 0 && sign(c, d, a)*sign(c, d, b) < 0
}

// P4.1
func TestValid(t *testing.T) {
	for _, l := range [][]api.Point{
		list(0, 0), list(-7, 9), list(limit, limit), list(-limit, limit, limit, -limit), list(0, 0, 1, 0), list(0, 0, 0, 1),
		list(0, 0, 5, 0, 0, 0), list(0, 0, 5, 0, 5, 5, 0, 0), list(1, 1, 2, 2, 1, 1, 2, 2), list(0, 0, 9, 0, 3, 0, 7, 0), // equal points that are no neighbors
		zigzag(2), zigzag(api.MaxPath - 1), zigzag(api.MaxPath),
	} {
		if !poly.Valid(l) {
			t.Errorf("%v is not valid", l)
		}
	}
	for _, l := range invalidPaths() {
		if poly.Valid(l) {
			t.Errorf("%v is valid", l)
		}
	}
	for _, p := range grid(3) {
		for _, q := range grid(3) {
			for _, r := range grid(3) {
				want := p != q && q != r
				if got := poly.Valid([]api.Point{p, q, r}); got != want {
					t.Errorf("Valid of %v, %v, %v: %v", p, q, r, got)
				}
			}
		}
	}
}

// P4.1: what is not a valid path has no length, bounds, bends and crossings,
// and is not orthogonal.
func TestInvalidPaths(t *testing.T) {
	for _, l := range invalidPaths() {
		if poly.Length(l) != 0 || poly.Bounds(l) != (api.Box{}) || poly.Bends(l) != 0 || poly.Orthogonal(l) {
			t.Errorf("%v: Length %d, Bounds %v, Bends %d, Orthogonal %v", l, poly.Length(l), poly.Bounds(l), poly.Bends(l), poly.Orthogonal(l))
		}
		for _, other := range [][]api.Point{list(0, 9, 9, 0), list(0, 3, 9, 4, 8, -9), mirrored(zigzag(api.MaxPath)), list(-limit, 3, limit, 3), l, mirrored(l), nil} {
			if poly.Crossings(l, other) != 0 || poly.Crossings(other, l) != 0 {
				t.Errorf("Crossings of %v and %v: %d and %d", l, other, poly.Crossings(l, other), poly.Crossings(other, l))
			}
		}
	}
}

// P4.2
func TestLengthAndBounds(t *testing.T) {
	for _, c := range []struct {
		l      []api.Point
		length int
		bounds api.Box
	}{
		{list(0, 0, 10, 0, 20, 0, 20, 30), 50, rect(0, 0, 20, 30)}, {list(0, 0, 10, 0, 5, 0), 15, rect(0, 0, 10, 0)}, // the chapter's examples
		{list(3, -4), 0, rect(3, -4, 3, -4)}, {list(limit, -limit), 0, rect(limit, -limit, limit, -limit)}, {list(0, 0), 0, rect(0, 0, 0, 0)},
		{list(1, 2, 4, 6), 7, rect(1, 2, 4, 6)}, {list(4, 6, 1, 2), 7, rect(1, 2, 4, 6)}, {list(4, 2, 1, 6), 7, rect(1, 2, 4, 6)}, {list(-1, -2, -4, -6), 7, rect(-4, -6, -1, -2)},
		{list(2, 0, 0, 3, -4, 1, -1, -5), 5 + 6 + 9, rect(-4, -5, 2, 3)}, {list(5, 5, 5, 8, 9, 8, 9, 5, 5, 5), 14, rect(5, 5, 9, 8)}, {list(7, 1, 7, 9), 8, rect(7, 1, 7, 9)}, {list(1, 7, 9, 7), 8, rect(1, 7, 9, 7)},
		{list(-limit, -limit, limit, limit), 4 * limit, rect(-limit, -limit, limit, limit)}, {list(limit, 5, -limit, 5, limit, 5), 4 * limit, rect(-limit, 5, limit, 5)},
		{zigzag(api.MaxPath), 2001 * (api.MaxPath - 1), rect(0, 0, 2000, api.MaxPath-1)},
		{slices.Repeat(list(-limit, -limit, limit, limit), api.MaxPath/2), 4 * limit * (api.MaxPath - 1), rect(-limit, -limit, limit, limit)}, // the longest path
	} {
		if got := poly.Length(c.l); got != c.length {
			t.Errorf("Length(%v): %d, want %d", c.l, got, c.length)
		}
		if got := poly.Bounds(c.l); got != c.bounds {
			t.Errorf("Bounds(%v): %v, want %v", c.l, got, c.bounds)
		}
	}
}

// P4.2
func TestLengthAndBoundsOfMany(t *testing.T) {
	random := rand.New(rand.NewPCG(4, 1))
	for range 3000 {
		l := randomPath(random, 12)
		length := 0
		for i := range len(l) - 1 {
			length += max(l[i].X, l[i+1].X) - min(l[i].X, l[i+1].X) + max(l[i].Y, l[i+1].Y) - min(l[i].Y, l[i+1].Y)
		}
		if got := poly.Length(l); got != length {
			t.Errorf("Length(%v): %d, want %d", l, got, length)
		}
		byX := func(p, q api.Point) int { return cmp.Compare(p.X, q.X) }
		byY := func(p, q api.Point) int { return cmp.Compare(p.Y, q.Y) }
		bounds := rect(slices.MinFunc(l, byX).X, slices.MinFunc(l, byY).Y, slices.MaxFunc(l, byX).X, slices.MaxFunc(l, byY).Y)
		if got := poly.Bounds(l); got != bounds {
			t.Errorf("Bounds(%v): %v, want %v", l, got, bounds)
		}
	}
}

// P4.3
func TestBends(t *testing.T) {
	const half = limit / 2
	for _, c := range []struct {
		l    []api.Point
		want int
	}{
		{list(0, 0, 10, 0, 20, 0, 20, 30), 1}, {list(0, 0, 10, 0, 5, 0), 1}, // the chapter's examples
		{list(3, 3), 0}, {list(3, 3, 9, 1), 0}, {list(0, 0, 1, 2, 3, 6), 0}, {list(3, 6, 1, 2, 0, 0), 0}, {list(0, 0, 1, 2, 3, 5), 1}, {list(0, 0, 0, 3, 0, 4, 0, 9), 0},
		{list(0, 0, 5, 0, 0, 0), 1}, {list(0, 0, 0, 5, 0, -5), 1}, {list(2, 2, 4, 4, 3, 3), 1}, {list(2, 2, 4, 4, 1, 1), 1}, {list(2, 2, 4, 4, 2, 2), 1}, {list(0, 0, 9, 0, 3, 0, 7, 0), 2}, // the path turns back
		{list(0, 0, 5, 0, 5, 5, 0, 5, 0, 0), 3}, {list(0, 0, 3, 0, 5, 0, 5, 2, 5, 5), 1}, {list(0, 0, 1, 0, 1, 1, 2, 1, 2, 2), 3}, {zigzag(api.MaxPath), api.MaxPath - 2},
		{list(-limit, -limit, 0, 0, limit, limit), 0}, {list(-limit, -limit, limit-1, limit-1, limit, limit), 0}, {list(-limit, -limit, 1, 0, limit, limit), 1}, {list(-limit, -limit, limit, limit, 0, 0), 1}, {list(-limit, limit, limit, limit-1, -limit, limit), 1}, {list(-limit, 0, 0, half, limit, limit), 0}, {list(-limit, 0, 1, half, limit, limit), 1}, {list(-limit, 0, limit-2, limit-1, limit, limit), 0}, {list(-limit, 0, limit-1, limit-1, limit, limit), 1},
	} {
		if got := poly.Bends(c.l); got != c.want {
			t.Errorf("Bends(%v): %d, want %d", c.l, got, c.want)
		}
	}
	random := rand.New(rand.NewPCG(4, 2))
	for range 5000 {
		checkBends(t, randomPath(random, 12))
	}
	for _, l := range paths(grid(4), 3) {
		checkBends(t, l)
	}
}

func checkBends(t *testing.T, l []api.Point) {
	t.Helper()
	want := 0
	for i := 1; i+1 < len(l); i++ {
		if bendsAt(l[i-1], l[i], l[i+1]) {
			want++
		}
	}
	if got := poly.Bends(l); got != want {
		t.Errorf("Bends(%v): %d, want %d", l, got, want)
	}
}

// P4.3
func TestOrthogonal(t *testing.T) {
	for _, c := range []struct {
		l    []api.Point
		want bool
	}{
		{list(0, 0, 10, 0, 20, 0, 20, 30), true}, // the chapter's example
		{list(5, -5), true}, {list(limit, -limit), true}, {list(0, 0, 9, 0), true}, {list(0, 0, 0, -9), true}, {list(0, 0, 9, 9), false}, {list(0, 0, 1, 9), false},
		{list(0, 0, 5, 0, 5, 5, 0, 5, 0, 0), true}, {list(0, 0, 5, 0, 2, 0, 2, 7), true}, // closed, and turning back
		{list(0, 0, 5, 1, 5, 5, 0, 5), false}, {list(0, 0, 5, 0, 6, 5, 0, 5), false}, {list(0, 0, 5, 0, 5, 5, 0, 6), false}, // one segment is slanted
		{list(-limit, limit, limit, limit, limit, -limit), true}, {list(-limit, limit, limit, limit-1), false}, {list(-limit, limit, 1-limit, -limit), false}, {zigzag(api.MaxPath), false}, {slices.Repeat(list(0, 0, 3, 0, 3, 3, 0, 3), api.MaxPath/4), true},
	} {
		if got := poly.Orthogonal(c.l); got != c.want {
			t.Errorf("Orthogonal(%v): %v", c.l, got)
		}
	}
	for _, l := range paths(grid(3), 4) {
		slanted := false
		for i := range len(l) - 1 {
			slanted = slanted || (l[i].X-l[i+1].X)*(l[i].Y-l[i+1].Y) != 0
		}
		if got := poly.Orthogonal(l); got != !slanted {
			t.Errorf("Orthogonal(%v): %v", l, got)
		}
	}
}

// P4.4
func TestSimplify(t *testing.T) {
	onLine := []api.Point{}
	for i := range api.MaxPath {
		onLine = append(onLine, point(3*i, 2*i))
	}
	for _, c := range []struct{ l, want []api.Point }{
		{list(0, 0, 10, 0, 20, 0, 20, 30), list(0, 0, 20, 0, 20, 30)}, // the chapter's example
		{list(4, 4), list(4, 4)}, {list(limit, -limit), list(limit, -limit)}, {list(4, 4, 5, 5), list(4, 4, 5, 5)}, {list(0, 0, 10, 0, 5, 0), list(0, 0, 10, 0, 5, 0)}, {list(0, 0, 5, 0, 0, 0), list(0, 0, 5, 0, 0, 0)},
		{list(0, 0, 1, 2, 3, 6), list(0, 0, 3, 6)}, {list(0, 0, 1, 2, 3, 5), list(0, 0, 1, 2, 3, 5)}, {list(0, 0, 1, 0, 2, 0, 9, 0, 7, 0, 6, 0, 3, 0), list(0, 0, 9, 0, 3, 0)},
		{repeated(2, 7, 7), list(7, 7)}, {repeated(9, 7, 7), list(7, 7)}, {repeated(api.MaxPath, -3, 4), list(-3, 4)}, // a single point is left
		{list(0, 0, 0, 0, 2, 0, 2, 0, 4, 0, 4, 0), list(0, 0, 4, 0)}, {list(0, 0, 5, 0, 5, 0, 5, 5), list(0, 0, 5, 0, 5, 5)}, {list(0, 0, 0, 0, 5, 5), list(0, 0, 5, 5)}, {list(0, 0, 5, 5, 5, 5, 5, 5), list(0, 0, 5, 5)}, {list(0, 0, 5, 0, 5, 0, 0, 0), list(0, 0, 5, 0, 0, 0)}, // equal neighbors
		{list(0, 0, 5, 0, 5, 5, 0, 5, 0, 0), list(0, 0, 5, 0, 5, 5, 0, 5, 0, 0)}, {list(2, 0, 5, 0, 5, 5, 0, 5, 0, 0, 2, 0), list(2, 0, 5, 0, 5, 5, 0, 5, 0, 0, 2, 0)}, // the ends of a closed path are no bends, but stay
		{onLine, list(0, 0, 3*(api.MaxPath-1), 2*(api.MaxPath-1))}, {zigzag(api.MaxPath), zigzag(api.MaxPath)},
		{list(-limit, -limit, 0, 0, limit, limit), list(-limit, -limit, limit, limit)}, {list(-limit, -limit, 1, 0, limit, limit), list(-limit, -limit, 1, 0, limit, limit)},
	} {
		if got := poly.Simplify(c.l); !slices.Equal(got, c.want) {
			t.Errorf("Simplify(%v): %v, want %v", c.l, got, c.want)
		}
	}
	for _, l := range pathsOutOfRange() {
		if got := poly.Simplify(l); len(got) != 0 {
			t.Errorf("Simplify(%v): %v", l, got)
		}
	}
}

// P4.4, also for lists with equal neighbors.
func TestSimplifyMany(t *testing.T) {
	random := rand.New(rand.NewPCG(4, 3))
	lists := append(pathsWithRepeats(), paths(grid(3), 4)...)
	for range 5000 {
		lists = append(lists, randomList(random, 14))
	}
	for _, l := range lists {
		given := slices.Clone(l)
		got := poly.Simplify(l)
		if want := simplified(given); !slices.Equal(got, want) {
			t.Errorf("Simplify(%v): %v, want %v", given, got, want)
		}
		if !slices.Equal(l, given) {
			t.Errorf("Simplify changes %v to %v", given, l)
		}
		checkSimple(t, slices.Compact(given), got)
	}
}

// checkSimple checks P4.8 for Simplify of a path.
func checkSimple(t *testing.T, l, simple []api.Point) {
	t.Helper()
	if !poly.Valid(l) || !poly.Valid(simple) || !slices.Equal(poly.Simplify(l), simple) {
		t.Fatalf("%v, and simple %v: not the same path", l, simple)
	}
	if l[0] != simple[0] || l[len(l)-1] != simple[len(simple)-1] {
		t.Errorf("%v and %v, simple, have different ends", l, simple)
	}
	if poly.Length(l) != poly.Length(simple) || poly.Bounds(l) != poly.Bounds(simple) || poly.Bends(l) != poly.Bends(simple) {
		t.Errorf("%v and %v, simple, have different properties", l, simple)
	}
	if poly.Bends(simple) != max(len(simple)-2, 0) {
		t.Errorf("%v, simple, does not bend everywhere", simple)
	}
	if got := poly.Simplify(simple); !slices.Equal(got, simple) {
		t.Errorf("Simplify changes %v, which is simple, to %v", simple, got)
	}
}

// P4.4: the result is new memory, and points behind the length of the list
// neither count nor change.
func TestSimplifyKeepsMemory(t *testing.T) {
	for _, n := range []int{1, 2, 3, 4} {
		all := list(0, 0, 5, 0, 5, 5, 9, 5, 9, 5, 9, 9)
		got := poly.Simplify(all[:n])
		for i := range got {
			got[i] = point(-1, -1)
		}
		for i := range got[:cap(got)] {
			got[:cap(got)][i] = point(-2, -2)
		}
		if want := list(0, 0, 5, 0, 5, 5, 9, 5, 9, 5, 9, 9); len(got) != n || !slices.Equal(all, want) {
			t.Errorf("Simplify of %d points returns %d, and the list is now %v", n, len(got), all)
		}
	}
	long := zigzag(api.MaxPath + 1)
	if got := poly.Simplify(long[:api.MaxPath]); !slices.Equal(got, long[:api.MaxPath]) {
		t.Errorf("Simplify of the longest path: %d points", len(got))
	}
}

// P4.5 and P4.9
func TestCrossings(t *testing.T) {
	for _, c := range []struct {
		a, b []api.Point
		want int
	}{
		{list(0, 0, 10, 10), list(0, 10, 10, 0), 1}, {list(0, 0, 10, 10), list(5, 5, 9, 0), 0}, // the chapter's examples
		{list(5, 5), list(0, 0, 10, 10), 0}, {list(5, 5), list(5, 5), 0}, {list(0, 0, 10, 10), list(20, 0, 20, 10), 0},
		{list(0, 0, 10, 0), list(3, 5, 3, 0, 6, 5), 0}, {list(0, 0, 10, 0), list(3, 5, 3, 0, 3, -5), 0}, {list(0, 0, 5, 0, 10, 0), list(5, 5, 5, -5), 0}, {list(0, 0, 5, 0, 10, 0), list(5, 5, 6, -5), 1}, // a common point that is an end
		{list(0, 0, 10, 0), list(2, 0, 8, 0), 0}, {list(0, 0, 10, 0), list(0, 0, 10, 0), 0}, {list(0, 0, 10, 0, 0, 0), list(5, 5, 5, -5), 2}, {list(0, 0, 10, 0, 0, 0), list(5, 5, 5, -5, 5, 5), 4}, // on one line, and turning back
		{list(0, 0, 10, 0), list(4, 1, 4, -1, 6, -1, 6, 1), 2}, {list(0, 0, 10, 0, 10, 5, 0, 5), list(5, -5, 5, 10), 2}, {list(0, 0, 4, 4, 4, 0, 0, 4), list(0, 0, 4, 4, 4, 0, 0, 4), 2}, // a path that crosses itself
		{list(-limit, -limit, limit, limit), list(-limit, limit, limit, -limit), 1}, {list(-limit, -limit, limit, limit), list(1-limit, -limit, limit, limit-1), 0}, {list(-limit, -limit, limit, limit), list(-limit, 1-limit, limit, limit-1), 1},
		{zigzag(4), mirrored(zigzag(3)), 3*2 - 1}, {zigzag(api.MaxPath), list(1000, -1, 1000, 2000), api.MaxPath - 1}, {zigzag(api.MaxPath), mirrored(zigzag(api.MaxPath)), (api.MaxPath-1)*(api.MaxPath-1) - 1}, // all but the first segments, which begin at one point
	} {
		if got := poly.Crossings(c.a, c.b); got != c.want {
			t.Errorf("Crossings(%v, %v): %d, want %d", c.a, c.b, got, c.want)
		}
		if got := poly.Crossings(c.b, c.a); got != c.want {
			t.Errorf("Crossings(%v, %v): %d, want %d", c.b, c.a, got, c.want)
		}
	}
}

// P4.5 and P4.9
func TestCrossingsOfMany(t *testing.T) {
	small := paths(grid(3), 3)
	for i, a := range small {
		for _, b := range small[i:] {
			checkCrossings(t, a, b)
		}
	}
	random := rand.New(rand.NewPCG(4, 4))
	for range 3000 {
		checkCrossings(t, randomPath(random, 7), randomPath(random, 7))
	}
}

func checkCrossings(t *testing.T, a, b []api.Point) {
	t.Helper()
	want := 0
	for i := range len(a) - 1 {
		for j := range len(b) - 1 {
			if crossing(a[i], a[i+1], b[j], b[j+1]) {
				want++
			}
		}
	}
	got := poly.Crossings(a, b)
	if got != want || poly.Crossings(b, a) != want {
		t.Errorf("Crossings of %v and %v: %d and %d, want %d", a, b, got, poly.Crossings(b, a), want)
	}
	if got > (len(a)-1)*(len(b)-1) {
		t.Errorf("Crossings(%v, %v): %d, more than pairs", a, b, got)
	}
}

// P4.6
func TestSame(t *testing.T) {
	lists := append(invalidPaths(), list(0, 0), list(0, 1), list(1, 0), list(0, 0, 1, 0), list(1, 0, 0, 0), list(0, 0, 1, 0, 1, 1), list(0, 0, 1, 0, 1, 2), list(0, 0, 1, 1, 1, 0), zigzag(api.MaxPath), zigzag(api.MaxPath-1), mirrored(zigzag(api.MaxPath)), reversed(zigzag(api.MaxPath)))
	for _, a := range lists {
		if !poly.Same(a, a) || !poly.Same(a, slices.Clone(a)) {
			t.Errorf("%v is not the same as itself", a)
		}
		for _, b := range lists {
			want := len(a) == len(b)
			for i := range min(len(a), len(b)) {
				want = want && a[i].X == b[i].X && a[i].Y == b[i].Y
			}
			if got := poly.Same(a, b); got != want {
				t.Errorf("Same(%v, %v): %v", a, b, got)
			}
		}
	}
	if !poly.Same(nil, []api.Point{}) || !poly.Same([]api.Point{}, nil) || !poly.Same(nil, nil) {
		t.Error("empty lists are not the same")
	}
	l := list(1, 2, 3, 4, 5, 6)
	if !poly.Same(l[:2], list(1, 2, 3, 4)) || poly.Same(l[:2], l) || poly.Same(l, l[:2]) || poly.Same(l[1:], l[:2]) {
		t.Error("Same of parts of a list")
	}
}

// P4.7
func TestOppositeDirection(t *testing.T) {
	random := rand.New(rand.NewPCG(4, 5))
	lists := append(paths(grid(3), 4), zigzag(api.MaxPath), list(limit, -limit))
	for range 3000 {
		lists = append(lists, randomPath(random, 12))
	}
	for _, l := range lists {
		other := reversed(l)
		if poly.Length(l) != poly.Length(other) || poly.Bounds(l) != poly.Bounds(other) || poly.Bends(l) != poly.Bends(other) {
			t.Errorf("%v differs from the path in the opposite direction", l)
		}
		if poly.Orthogonal(l) != poly.Orthogonal(other) || !slices.Equal(reversed(poly.Simplify(l)), poly.Simplify(other)) {
			t.Errorf("%v differs from the path in the opposite direction", l)
		}
	}
}

// P4.1 to P4.6: no function changes its arguments, nor uses what lies behind
// their length.
func TestArgumentsAreKept(t *testing.T) {
	bad := point(limit+1, 0)
	for _, n := range []int{0, 1, 2, 3, 4} {
		all := append(list(0, 0, 5, 0, 9, 0, 9, 0)[:n], bad, bad, bad)
		l := all[:n]
		short := slices.Clip(slices.Clone(l))
		if poly.Valid(l) != poly.Valid(short) || poly.Length(l) != poly.Length(short) || poly.Bounds(l) != poly.Bounds(short) || poly.Bends(l) != poly.Bends(short) || poly.Orthogonal(l) != poly.Orthogonal(short) {
			t.Errorf("what lies behind %v counts", l)
		}
		other := list(1, -1, 2, 1)
		if poly.Crossings(l, other) != poly.Crossings(short, other) || !poly.Same(l, short) || !slices.Equal(poly.Simplify(l), poly.Simplify(short)) {
			t.Errorf("what lies behind %v counts", l)
		}
		if !slices.Equal(l, short) || all[n] != bad || all[n+1] != bad || all[n+2] != bad || !slices.Equal(other, list(1, -1, 2, 1)) {
			t.Errorf("the arguments are now %v and %v", all, other)
		}
	}
}
