package geom_test

import (
	"math"
	"math/big"
	"math/rand/v2"
	"testing"

	"layout/api"
	"layout/geom"
)

const limit = api.MaxCoord

func point(x, y int) api.Point {
	return api.Point{X: x, Y: y}
}

func seg(ax, ay, bx, by int) api.Seg {
	return api.Seg{A: point(ax, ay), B: point(bx, by)}
}

// invalidNumbers returns coordinates that are just, or far, out of range. Most
// of them look valid, or make products wrap around, if they are not tested.
func invalidNumbers() []int {
	return []int{limit + 1, -limit - 1, 1 << 29, 1 << 32, -1 << 32, 1<<32 + 1, 1 << 62, math.MaxInt, math.MinInt, math.MinInt + 1}
}

// grid returns the points of a square with n points on a side.
func grid(n int) []api.Point {
	list := []api.Point{}
	for x := range n {
		for y := range n {
			list = append(list, point(x, y))
		}
	}
	return list
}

// corners returns the points at and near the limits of coordinates, and some
// between them.
func corners() []api.Point {
	list := []api.Point{}
	numbers := []int{-limit, 1 - limit, 0, limit - 1, limit}
	for _, x := range numbers {
		for _, y := range numbers {
			list = append(list, point(x, y))
		}
	}
	return list
}

// segments returns every segment whose ends are in points.
func segments(points []api.Point) []api.Seg {
	list := []api.Seg{}
	for _, a := range points {
		for _, b := range points {
			list = append(list, api.Seg{A: a, B: b})
		}
	}
	return list
}

// randomPoint returns a valid point.
func randomPoint(random *rand.Rand) api.Point {
	return point(random.IntN(2*limit+1)-limit, random.IntN(2*limit+1)-limit)
}

// nearLine returns a segment, and a point on it or next to it, all of them
// valid. Only exact arithmetic tells the two cases apart.
func nearLine(random *rand.Rand) (api.Seg, api.Point) {
	for {
		s := api.Seg{A: randomPoint(random), B: randomPoint(random)}
		parts := 1 + random.IntN(1000)
		step := point((s.B.X-s.A.X)/parts, (s.B.Y-s.A.Y)/parts)
		s.B = point(s.A.X+parts*step.X, s.A.Y+parts*step.Y)
		i := random.IntN(parts + 1)
		p := point(s.A.X+i*step.X+random.IntN(3)-1, s.A.Y+i*step.Y+random.IntN(3)-1)
		if geom.Valid(p) && geom.Valid(s.B) {
			return s, p
		}
	}
}

// sum returns the sum of the products of a and b.
func sum(products ...[2]int) *big.Int {
	total := new(big.Int)
	for _, p := range products {
		total.Add(total, new(big.Int).Mul(big.NewInt(int64(p[0])), big.NewInt(int64(p[1]))))
	}
	return total
}

// orientation is Orient of valid points, from twice the area of the triangle.
func orientation(a, b, c api.Point) int {
	return sum([2]int{a.X, b.Y - c.Y}, [2]int{b.X, c.Y - a.Y}, [2]int{c.X, a.Y - b.Y}).Sign()
}

func gcd(a, b int) int {
	for b != 0 {
		a, b = b, a%b
	}
	return max(a, -a)
}

// lies is On of valid arguments: p is one of the points with integer
// coordinates at equal distances from one end of s to the other.
func lies(p api.Point, s api.Seg) bool {
	if s.A == s.B {
		return p == s.A
	}
	parts := gcd(s.B.X-s.A.X, s.B.Y-s.A.Y)
	step := point((s.B.X-s.A.X)/parts, (s.B.Y-s.A.Y)/parts)
	i := 0
	if step.X != 0 {
		i = (p.X - s.A.X) / step.X
	} else {
		i = (p.Y - s.A.Y) / step.Y
	}
	return 0 <= i && i <= parts && p == point(s.A.X+i*step.X, s.A.Y+i*step.Y)
}

// relation is Meet and Cross of valid segments, from where on each segment the
// common point of their lines is.
func relation(s, t api.Seg) (meet, cross bool) {
	d, e := point(s.B.X-s.A.X, s.B.Y-s.A.Y), point(t.B.X-t.A.X, t.B.Y-t.A.Y)
	w := point(t.A.X-s.A.X, t.A.Y-s.A.Y)
	det := sum([2]int{d.X, e.Y}, [2]int{-d.Y, e.X})
	if det.Sign() == 0 { // common points of parallel segments include an end
		return lies(s.A, t) || lies(s.B, t) || lies(t.A, s) || lies(t.B, s), false
	}
	u := new(big.Rat).SetFrac(sum([2]int{w.X, e.Y}, [2]int{-w.Y, e.X}), det)
	v := new(big.Rat).SetFrac(sum([2]int{w.X, d.Y}, [2]int{-w.Y, d.X}), det)
	one := big.NewRat(1, 1)
	meet = u.Sign() >= 0 && v.Sign() >= 0 && u.Cmp(one) <= 0 && v.Cmp(one) <= 0
	cross = u.Sign() > 0 && v.Sign() > 0 && u.Cmp(one) < 0 && v.Cmp(one) < 0
	return meet, cross
}

// P2.1
func TestValid(t *testing.T) {
	numbers := []int{-limit, 1 - limit, -1, 0, 1, limit - 1, limit}
	for _, x := range numbers {
		for _, y := range numbers {
			if !geom.Valid(point(x, y)) {
				t.Errorf("(%d, %d) is not valid", x, y)
			}
		}
		for _, n := range invalidNumbers() {
			if geom.Valid(point(x, n)) || geom.Valid(point(n, x)) || geom.Valid(point(n, n)) {
				t.Errorf("%d is a valid coordinate beside %d", n, x)
			}
		}
	}
}

// P2.1
func TestOrient(t *testing.T) {
	for _, c := range []struct {
		a, b, c api.Point
		want    int
	}{
		{point(0, 0), point(2, 0), point(2, 2), 1}, // the chapter's example
		{point(0, 0), point(2, 0), point(2, -2), -1},
		{point(0, 0), point(1, 2), point(2, 4), 0}, {point(0, 0), point(1, 2), point(-3, -6), 0}, {point(0, 0), point(1, 2), point(2, 3), -1}, {point(0, 0), point(1, 2), point(2, 5), 1},
		{point(3, 3), point(3, 3), point(5, 7), 0}, {point(3, 3), point(5, 7), point(3, 3), 0}, {point(5, 7), point(3, 3), point(3, 3), 0}, {point(3, 3), point(3, 3), point(3, 3), 0},
		{point(-limit, -limit), point(limit, -limit), point(limit, limit), 1}, {point(-limit, -limit), point(-limit, limit), point(limit, limit), -1}, // the greatest products
		{point(-limit, -limit), point(limit, limit), point(limit-1, limit), 1}, {point(-limit, -limit), point(limit, limit), point(limit, limit-1), -1}, {point(-limit, limit), point(limit, -limit), point(0, 0), 0},
	} {
		if got := geom.Orient(c.a, c.b, c.c); got != c.want {
			t.Errorf("Orient(%v, %v, %v): %d, want %d", c.a, c.b, c.c, got, c.want)
		}
	}
	for _, points := range [][]api.Point{grid(5), corners()} {
		for _, a := range points {
			for _, b := range points {
				for _, c := range points {
					checkOrient(t, a, b, c)
				}
			}
		}
	}
	random := rand.New(rand.NewPCG(2, 1))
	for range 5000 {
		s, p := nearLine(random)
		checkOrient(t, s.A, s.B, p)
		checkOrient(t, randomPoint(random), randomPoint(random), randomPoint(random))
	}
}

func checkOrient(t *testing.T, a, b, c api.Point) {
	t.Helper()
	if got, want := geom.Orient(a, b, c), orientation(a, b, c); got != want {
		t.Errorf("Orient(%v, %v, %v): %d, want %d", a, b, c, got, want)
	}
}

// P2.1
func TestDistance(t *testing.T) {
	for _, c := range []struct {
		a, b api.Point
		want int
	}{
		{point(0, 0), point(3, -4), 7}, // the chapter's example
		{point(0, 0), point(0, 0), 0}, {point(5, -5), point(5, -5), 0}, {point(1, 2), point(1, 9), 7}, {point(1, 2), point(-6, 2), 7}, {point(-3, 4), point(2, -1), 10}, {point(2, -1), point(-3, 4), 10},
		{point(-limit, -limit), point(limit, limit), 4 * limit}, {point(limit, -limit), point(-limit, limit), 4 * limit}, {point(limit, 0), point(limit, 1), 1},
	} {
		if got := geom.Distance(c.a, c.b); got != c.want {
			t.Errorf("Distance(%v, %v): %d, want %d", c.a, c.b, got, c.want)
		}
	}
}

// P2.1 and P2.2: all but Valid return 0 or false if a point is not valid,
// wherever it is passed and however the valid ones lie.
func TestInvalidPoints(t *testing.T) {
	for _, n := range invalidNumbers() {
		for _, bad := range []api.Point{point(n, 0), point(0, n), point(n, n), point(n, -n), point(limit, n)} {
			checkInvalidInOrientAndDistance(t, bad)
			checkInvalidInOn(t, bad)
			checkInvalidInMeetAndCross(t, bad)
		}
	}
}

func checkInvalidInOrientAndDistance(t *testing.T, bad api.Point) {
	t.Helper()
	for _, p := range grid(3) {
		for _, q := range grid(3) {
			if geom.Orient(bad, p, q) != 0 || geom.Orient(p, bad, q) != 0 || geom.Orient(p, q, bad) != 0 || geom.Orient(p, bad, bad) != 0 {
				t.Errorf("Orient of %v, %v and the invalid %v is not 0", p, q, bad)
			}
		}
		if geom.Distance(bad, p) != 0 || geom.Distance(p, bad) != 0 || geom.Distance(bad, point(0, 0)) != 0 {
			t.Errorf("Distance of %v and the invalid %v is not 0", p, bad)
		}
	}
	if geom.Orient(bad, bad, bad) != 0 || geom.Distance(bad, bad) != 0 {
		t.Errorf("Orient or Distance of the invalid %v alone is not 0", bad)
	}
}

func checkInvalidInOn(t *testing.T, bad api.Point) {
	t.Helper()
	for _, p := range grid(3) {
		for _, s := range []api.Seg{{A: bad, B: p}, {A: p, B: bad}, {A: bad, B: bad}} {
			if geom.On(p, s) || geom.On(bad, s) {
				t.Errorf("%v or %v is on %v", p, bad, s)
			}
		}
		if geom.On(bad, api.Seg{A: p, B: p}) || geom.On(bad, api.Seg{A: point(-limit, -limit), B: p}) {
			t.Errorf("%v is on a segment to %v", bad, p)
		}
	}
}

func checkInvalidInMeetAndCross(t *testing.T, bad api.Point) {
	t.Helper()
	for _, p := range grid(3) {
		for _, s := range []api.Seg{{A: bad, B: p}, {A: p, B: bad}, {A: bad, B: bad}} {
			for _, u := range []api.Seg{s, {A: p, B: p}, {A: p, B: point(1, 1)}, {A: bad, B: point(1, 1)}, seg(0, 1, 2, 1), seg(1, 0, 1, 2), seg(-limit, limit, limit, -limit)} {
				if geom.Meet(s, u) || geom.Meet(u, s) {
					t.Errorf("%v and %v meet", s, u)
				}
				if geom.Cross(s, u) || geom.Cross(u, s) {
					t.Errorf("%v and %v cross", s, u)
				}
			}
		}
	}
}

// P2.2
func TestOn(t *testing.T) {
	for _, c := range []struct {
		p    api.Point
		s    api.Seg
		want bool
	}{
		{point(2, 1), seg(0, 0, 4, 2), true}, {point(2, 1), seg(4, 2, 0, 0), true}, {point(0, 0), seg(0, 0, 4, 2), true}, {point(4, 2), seg(0, 0, 4, 2), true}, // the ends included
		{point(6, 3), seg(0, 0, 4, 2), false}, {point(-2, -1), seg(0, 0, 4, 2), false}, {point(2, 2), seg(0, 0, 4, 2), false}, {point(1, 0), seg(0, 0, 4, 2), false},
		{point(3, 5), seg(3, 0, 3, 9), true}, {point(3, 10), seg(3, 0, 3, 9), false}, {point(4, 5), seg(3, 0, 3, 9), false}, {point(5, 3), seg(9, 3, 0, 3), true}, {point(10, 3), seg(9, 3, 0, 3), false},
		{point(1, 1), seg(1, 1, 1, 1), true}, {point(1, 2), seg(1, 1, 1, 1), false}, {point(0, 1), seg(1, 1, 1, 1), false}, // a single point
		{point(limit, limit), seg(-limit, -limit, limit, limit), true}, {point(limit-1, limit-1), seg(-limit, -limit, limit, limit), true}, {point(limit-1, limit), seg(-limit, -limit, limit, limit), false}, {point(0, 1), seg(-limit, -limit, limit, limit), false},
	} {
		if got := geom.On(c.p, c.s); got != c.want {
			t.Errorf("On(%v, %v): %v", c.p, c.s, got)
		}
	}
	for _, points := range [][]api.Point{grid(5), corners()} {
		for _, s := range segments(points) {
			for _, p := range points {
				checkOn(t, p, s)
			}
		}
	}
	random := rand.New(rand.NewPCG(2, 2))
	for range 5000 {
		s, p := nearLine(random)
		checkOn(t, p, s)
	}
}

func checkOn(t *testing.T, p api.Point, s api.Seg) {
	t.Helper()
	if got, want := geom.On(p, s), lies(p, s); got != want {
		t.Errorf("On(%v, %v): %v, want %v", p, s, got, want)
	}
}

// P2.2
func TestMeetAndCross(t *testing.T) {
	for _, c := range []struct {
		s, t        api.Seg
		meet, cross bool
	}{
		{seg(0, 0, 4, 4), seg(0, 4, 4, 0), true, true}, {seg(0, 0, 4, 0), seg(2, 0, 2, 5), true, false}, // the chapter's examples
		{seg(0, 0, 3, 3), seg(0, 3, 3, 0), true, true}, {seg(0, 0, 3, 1), seg(1, 0, 1, 1), true, true}, // common points without integer coordinates
		{seg(0, 0, 4, 0), seg(4, 0, 4, 4), true, false}, {seg(0, 0, 4, 0), seg(2, 5, 2, 0), true, false}, {seg(0, 0, 4, 0), seg(2, 1, 2, 5), false, false}, {seg(0, 0, 4, 0), seg(5, -1, 5, 1), false, false},
		{seg(0, 0, 4, 0), seg(2, 0, 6, 0), true, false}, {seg(0, 0, 4, 0), seg(1, 0, 3, 0), true, false}, {seg(0, 0, 4, 0), seg(4, 0, 6, 0), true, false}, {seg(0, 0, 4, 0), seg(5, 0, 6, 0), false, false}, {seg(0, 0, 4, 0), seg(0, 0, 4, 0), true, false}, {seg(0, 0, 4, 0), seg(4, 0, 0, 0), true, false}, // on one line
		{seg(0, 0, 4, 0), seg(0, 1, 4, 1), false, false}, {seg(0, 0, 2, 2), seg(1, 0, 3, 2), false, false}, // parallel
		{seg(0, 0, 4, 4), seg(2, 2, 2, 2), true, false}, {seg(0, 0, 4, 4), seg(2, 3, 2, 3), false, false}, {seg(0, 0, 4, 4), seg(5, 5, 5, 5), false, false}, {seg(1, 1, 1, 1), seg(1, 1, 1, 1), true, false}, {seg(1, 1, 1, 1), seg(2, 2, 2, 2), false, false}, // single points
		{seg(-limit, -limit, limit, limit), seg(-limit, limit, limit, -limit), true, true}, {seg(-limit, -limit, limit, limit), seg(limit-1, limit, limit, limit-1), true, true}, {seg(-limit, -limit, limit, limit), seg(limit-1, limit, -limit, 1-limit), false, false},
	} {
		meet, cross := geom.Meet(c.s, c.t), geom.Cross(c.s, c.t)
		if meet != c.meet || cross != c.cross {
			t.Errorf("%v, %v: meet %v, cross %v", c.s, c.t, meet, cross)
		}
	}
	for _, list := range [][]api.Seg{segments(grid(4)), segments(corners())} {
		for _, s := range list {
			for _, u := range list {
				checkMeetAndCross(t, s, u)
			}
		}
	}
	random := rand.New(rand.NewPCG(2, 3))
	for range 5000 {
		s, p := nearLine(random)
		checkMeetAndCross(t, s, api.Seg{A: p, B: randomPoint(random)})
		checkMeetAndCross(t, s, api.Seg{A: randomPoint(random), B: randomPoint(random)})
	}
}

// checkMeetAndCross checks P2.2 and the last sentence of P2.3.
func checkMeetAndCross(t *testing.T, s, u api.Seg) {
	t.Helper()
	meet, cross := relation(s, u)
	if got := geom.Meet(s, u); got != meet {
		t.Errorf("Meet(%v, %v): %v", s, u, got)
	}
	if got := geom.Cross(s, u); got != cross {
		t.Errorf("Cross(%v, %v): %v", s, u, got)
	}
	if geom.Cross(s, u) && !geom.Meet(s, u) {
		t.Errorf("%v and %v cross, but do not meet", s, u)
	}
}

// P2.3: also of points that are not valid.
func TestSymmetryOfOrient(t *testing.T) {
	points := append(grid(3), corners()...)
	points = append(points, point(limit+1, 0), point(0, math.MinInt))
	for _, a := range points {
		for _, b := range points {
			for _, c := range points {
				n := geom.Orient(a, b, c)
				if geom.Orient(b, c, a) != n || geom.Orient(a, c, b) != -n {
					t.Errorf("Orient(%v, %v, %v): %d, but %d and %d", a, b, c, n, geom.Orient(b, c, a), geom.Orient(a, c, b))
				}
				if geom.Orient(c, b, a) != -n || geom.Orient(b, a, c) != -n {
					t.Errorf("Orient(%v, %v, %v): %d, but %d and %d", a, b, c, n, geom.Orient(c, b, a), geom.Orient(b, a, c))
				}
			}
		}
	}
}

// P2.3: also of segments that are not valid.
func TestSymmetryOfMeetAndCross(t *testing.T) {
	points := append(grid(3), point(-limit, limit), point(limit, limit-1), point(limit+1, 0))
	list := segments(points)
	for _, s := range list {
		back := api.Seg{A: s.B, B: s.A}
		for _, u := range list {
			meet, cross := geom.Meet(s, u), geom.Cross(s, u)
			if geom.Meet(u, s) != meet || geom.Meet(back, u) != meet || geom.Meet(u, back) != meet {
				t.Errorf("Meet of %v and %v depends on an order", s, u)
			}
			if geom.Cross(u, s) != cross || geom.Cross(back, u) != cross || geom.Cross(u, back) != cross {
				t.Errorf("Cross of %v and %v depends on an order", s, u)
			}
			if cross && !meet {
				t.Errorf("%v and %v cross, but do not meet", s, u)
			}
		}
	}
}

// P2.4
func TestMetric(t *testing.T) {
	points := append(grid(4), corners()...)
	random := rand.New(rand.NewPCG(2, 4))
	for range 20 {
		points = append(points, randomPoint(random))
	}
	for _, a := range points {
		for _, b := range points {
			n := geom.Distance(a, b)
			if n != geom.Distance(b, a) || n < 0 || (n == 0) != (a == b) {
				t.Errorf("Distance(%v, %v): %d, and back %d", a, b, n, geom.Distance(b, a))
			}
			for _, c := range points {
				if geom.Distance(a, c) > n+geom.Distance(b, c) {
					t.Errorf("the distance of %v and %v is shorter over %v", a, c, b)
				}
			}
		}
	}
}

// P2.4: the distances of a point on a segment to both ends.
func TestDistancesOnSegments(t *testing.T) {
	for _, points := range [][]api.Point{grid(5), corners()} {
		for _, s := range segments(points) {
			for _, p := range points {
				checkDistancesOn(t, p, s)
			}
		}
	}
	random := rand.New(rand.NewPCG(2, 5))
	count := 0
	for range 5000 {
		s, p := nearLine(random)
		if checkDistancesOn(t, p, s) {
			count++
		}
	}
	if count < 100 {
		t.Errorf("only %d points on long segments", count)
	}
}

func checkDistancesOn(t *testing.T, p api.Point, s api.Seg) bool {
	t.Helper()
	if !geom.On(p, s) {
		return false
	}
	if total := geom.Distance(s.A, p) + geom.Distance(p, s.B); total != geom.Distance(s.A, s.B) {
		t.Errorf("%v is on %v, but its distances add up to %d", p, s, total)
	}
	return true
}
