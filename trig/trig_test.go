package trig_test

import (
	"math"
	"math/big"
	"math/rand/v2"
	"testing"

	"layout/api"
	"layout/geom"
	"layout/trig"
)

const (
	limit = api.MaxCoord
	size  = api.MaxSize
)

func point(x, y int) api.Point {
	return api.Point{X: x, Y: y}
}

// hugeNumbers returns numbers that are just, or far, out of every range. Most
// of them look small if they are cut off or wrap around.
func hugeNumbers() []int {
	return []int{limit + 1, -limit - 1, 1 << 29, 1 << 32, -1 << 32, 1<<32 + 1, 1 << 62, -1 << 62, math.MaxInt, math.MaxInt - limit, math.MinInt, math.MinInt + 1, math.MinInt + limit}
}

// angles returns all angles of some turns in both directions, and those at the
// limits of int.
func angles() []int {
	list := []int{}
	for d := -1100; d <= 1100; d++ {
		list = append(list, d)
	}
	for i := range 800 {
		list = append(list, math.MinInt+i, math.MaxInt-i, 1<<32+i, -1<<32-i)
	}
	return list
}

// centers returns points in the middle and at the limits of coordinates.
func centers() []api.Point {
	list := []api.Point{point(0, 0), point(5, -7), point(-123456, 654321)}
	numbers := []int{-limit, 1 - limit, size - limit, 0, limit - size, limit - 1, limit}
	for _, x := range numbers {
		for _, y := range numbers {
			list = append(list, point(x, y))
		}
	}
	return list
}

// radii returns the least and the greatest radii, and some between them.
func radii() []int {
	return []int{0, 1, 2, 3, 10, 999, 1000, 5000, 10000, 20001, 65536, size - 1, size}
}

// remainder returns what d leaves when it is divided by 360, from 0 to 359.
func remainder(d int) int {
	return int(new(big.Int).Mod(big.NewInt(int64(d)), big.NewInt(360)).Int64())
}

// radians returns the angle that d leaves when it is divided by 360.
func radians(d int) float64 {
	return float64(remainder(d)) * math.Pi / 180
}

// nearest returns the integer next to n / 10000, the one farther from zero if
// two are equally near.
func nearest(n int) int {
	best := 0
	distance := func(i int) int { return max(10000*i-n, n-10000*i) }
	for i := n/10000 - 1; i <= n/10000+1; i++ {
		switch d, least := distance(i), distance(best); {
		case d < least, d == least && i*i > best*best:
			best = i
		}
	}
	return best
}

// isInRange reports whether p is a valid point.
func isInRange(p api.Point) bool {
	return -limit <= p.X && p.X <= limit && -limit <= p.Y && p.Y <= limit
}

// P5.1
func TestSinAndCos(t *testing.T) {
	for _, c := range []struct{ d, sin, cos int }{
		{30, 5000, 8660}, {-90, -10000, 0}, {120, 8660, -5000}, // the chapter's examples
		{0, 0, 10000}, {1, 175, 9998}, {45, 7071, 7071}, {60, 8660, 5000}, {89, 9998, 175}, {90, 10000, 0}, {91, 9998, -175}, {135, 7071, -7071}, {150, 5000, -8660}, {179, 175, -9998},
		{180, 0, -10000}, {181, -175, -9998}, {210, -5000, -8660}, {225, -7071, -7071}, {269, -9998, -175}, {270, -10000, 0}, {271, -9998, 175}, {315, -7071, 7071}, {330, -5000, 8660}, {359, -175, 9998},
		{360, 0, 10000}, {361, 175, 9998}, {450, 10000, 0}, {719, -175, 9998}, {720030, 5000, 8660}, // whole turns do not count
		{-1, -175, 9998}, {-30, -5000, 8660}, {-91, -9998, -175}, {-180, 0, -10000}, {-181, 175, -9998}, {-270, 10000, 0}, {-359, 175, 9998}, {-360, 0, 10000}, {-361, -175, 9998}, {-720030, -5000, 8660},
		{math.MaxInt, 1219, 9925}, {math.MaxInt - 7, 0, 10000}, {math.MinInt, -1392, 9903}, {math.MinInt + 8, 0, 10000}, // 2^63 leaves 8
	} {
		if trig.Sin(c.d) != c.sin || trig.Cos(c.d) != c.cos {
			t.Errorf("Sin and Cos of %d: %d and %d, want %d and %d", c.d, trig.Sin(c.d), trig.Cos(c.d), c.sin, c.cos)
		}
	}
}

// P5.1: the sines of the table are the true ones, rounded.
func TestSinAndCosAreRounded(t *testing.T) {
	for _, d := range angles() {
		if got, want := trig.Sin(d), int(math.Round(10000*math.Sin(radians(d)))); got != want {
			t.Errorf("Sin(%d): %d, want %d", d, got, want)
		}
		if got, want := trig.Cos(d), int(math.Round(10000*math.Cos(radians(d)))); got != want {
			t.Errorf("Cos(%d): %d, want %d", d, got, want)
		}
	}
}

// P5.1
func TestSinAndCosOfRemainder(t *testing.T) {
	for _, d := range append(angles(), hugeNumbers()...) {
		r := remainder(d)
		if trig.Sin(d) != trig.Sin(r) || trig.Cos(d) != trig.Cos(r) {
			t.Errorf("Sin and Cos of %d: %d and %d, but of %d: %d and %d", d, trig.Sin(d), trig.Cos(d), r, trig.Sin(r), trig.Cos(r))
		}
	}
}

// P5.2
func TestPolar(t *testing.T) {
	for _, c := range []struct {
		c         api.Point
		radius, d int
		want      api.Point
	}{
		{point(0, 0), 1000, 30, point(866, 500)}, {point(0, 0), 1000, 90, point(0, 1000)}, // the chapter's examples
		{point(5, 7), 10, 0, point(15, 7)}, {point(5, 7), 10, 90, point(5, 17)}, {point(5, 7), 10, 180, point(-5, 7)}, {point(5, 7), 10, 270, point(5, -3)}, {point(5, 7), 10, -90, point(5, -3)}, {point(5, 7), 10, 720180, point(-5, 7)},
		{point(0, 0), 1, 30, point(1, 1)}, {point(0, 0), 1, 60, point(1, 1)}, {point(0, 0), 1, 120, point(-1, 1)}, {point(0, 0), 1, 210, point(-1, -1)}, {point(0, 0), 1, 300, point(1, -1)}, // 0.5 and -0.5
		{point(0, 0), 1, 29, point(1, 0)}, {point(0, 0), 1, 61, point(0, 1)}, {point(0, 0), 1, 209, point(-1, 0)}, {point(0, 0), 1, 241, point(0, -1)}, // just less
		{point(-7, -7), 1, 30, point(-6, -6)}, {point(7, 7), 1, 210, point(6, 6)}, {point(0, 0), 3, 60, point(2, 3)}, {point(0, 0), 3, 240, point(-2, -3)}, // what is added to the center is rounded, not the sum
		{point(0, 0), 5000, 45, point(3536, 3536)}, {point(0, 0), 5000, 225, point(-3536, -3536)}, {point(0, 0), 15000, 135, point(-10607, 10607)}, // 3535.5 and 10606.5
		{point(3, -4), 0, 77, point(3, -4)}, {point(limit, -limit), 0, 0, point(limit, -limit)}, {point(limit, -limit), 0, math.MinInt, point(limit, -limit)}, // the least radius
		{point(0, 0), size, 0, point(size, 0)}, {point(0, 0), size, 45, point(741448, 741448)}, {point(0, 0), size, 225, point(-741448, -741448)}, {point(0, 0), size, math.MaxInt, point(1040712, 127821)}, // the greatest one
		{point(limit, 5), 1, 180, point(limit-1, 5)}, {point(limit-1, 5), 1, 0, point(limit, 5)}, {point(5, -limit), 1, 90, point(5, 1-limit)}, {point(size-limit, limit), size, 180, point(-limit, limit)}, {point(limit, limit), 1, 61, point(0, 0)}, {point(limit, limit-1), 1, 61, point(limit, limit)}, // the result just fits
		{point(limit, 5), 1, 0, point(0, 0)}, {point(-limit, 5), 1, 180, point(0, 0)}, {point(5, limit), 1, 90, point(0, 0)}, {point(5, -limit), 1, 270, point(0, 0)}, {point(limit, 5), 1, 60, point(0, 0)}, {point(size-limit-1, 5), size, 180, point(0, 0)}, // and it just does not
		{point(5, 5), -1, 0, point(0, 0)}, {point(5, 5), -1, 90, point(0, 0)}, {point(5, 5), size + 1, 0, point(0, 0)}, {point(5, 5), -size, 30, point(0, 0)}, // radii out of range
		{point(limit+1, 5), 1, 180, point(0, 0)}, {point(5, -limit-1), 1, 90, point(0, 0)}, {point(limit+1, 5), 0, 0, point(0, 0)}, {point(-limit-1, 5), size, 0, point(0, 0)}, // centers out of range
	} {
		if got := trig.Polar(c.c, c.radius, c.d); got != c.want {
			t.Errorf("Polar(%v, %d, %d): %v, want %v", c.c, c.radius, c.d, got, c.want)
		}
	}
}

// P5.2
func TestPolarOfMany(t *testing.T) {
	for _, c := range centers() {
		for _, radius := range radii() {
			for d := -1; d <= 360; d++ {
				checkPolar(t, c, radius, d)
			}
		}
	}
	random := rand.New(rand.NewPCG(5, 2))
	for range 20000 {
		c := point(random.IntN(2*limit+1)-limit, random.IntN(2*limit+1)-limit)
		checkPolar(t, c, random.IntN(size+1), int(random.Uint64()))
	}
}

func checkPolar(t *testing.T, c api.Point, radius, d int) {
	t.Helper()
	want := point(c.X+nearest(radius*trig.Cos(d)), c.Y+nearest(radius*trig.Sin(d)))
	if !isInRange(want) {
		want = point(0, 0)
	}
	if got := trig.Polar(c, radius, d); got != want {
		t.Errorf("Polar(%v, %d, %d): %v, want %v", c, radius, d, got, want)
	}
}

// P5.2: the zero point if a center or a radius is out of range, wherever the
// result would lie.
func TestPolarOutOfRange(t *testing.T) {
	for _, d := range angles()[:800] {
		for _, n := range append(hugeNumbers(), -1, -2, -size, size+1, 2*size) {
			for _, c := range []api.Point{point(0, 0), point(5, -7), point(limit, limit)} {
				if got := trig.Polar(c, n, d); got != point(0, 0) {
					t.Errorf("Polar(%v, %d, %d): %v", c, n, d, got)
				}
			}
		}
		for _, n := range hugeNumbers() {
			for _, c := range []api.Point{point(n, 5), point(5, n), point(n, n), point(n, limit)} {
				for _, radius := range []int{0, 1, size, n} {
					if got := trig.Polar(c, radius, d); got != point(0, 0) {
						t.Errorf("Polar(%v, %d, %d): %v", c, radius, d, got)
					}
				}
			}
		}
	}
}

// P5.3
func TestSymmetry(t *testing.T) {
	for _, d := range angles() {
		if d != math.MinInt && (trig.Sin(-d) != -trig.Sin(d) || trig.Cos(-d) != trig.Cos(d)) {
			t.Errorf("Sin and Cos of %d and %d: %d and %d, %d and %d", d, -d, trig.Sin(d), trig.Cos(d), trig.Sin(-d), trig.Cos(-d))
		}
		if d <= math.MaxInt-180 && (trig.Sin(d+180) != -trig.Sin(d) || trig.Cos(d+180) != -trig.Cos(d)) {
			t.Errorf("Sin and Cos of %d and %d are not opposite", d, d+180)
		}
		if d <= math.MaxInt-90 && trig.Sin(d+90) != trig.Cos(d) {
			t.Errorf("Sin(%d) is not Cos(%d)", d+90, d)
		}
		squares := trig.Sin(d)*trig.Sin(d) + trig.Cos(d)*trig.Cos(d)
		if squares < 100000000-15000 || squares > 100000000+15000 {
			t.Errorf("the squares of Sin(%d) and Cos(%d) add up to %d", d, d, squares)
		}
	}
}

// P5.4
func TestOppositePoints(t *testing.T) {
	for _, c := range []api.Point{point(0, 0), point(5, -7), point(-123456, 654321), point(limit-size, size-limit)} {
		for _, radius := range radii() {
			for d := -180; d <= 360; d++ {
				p, q := trig.Polar(c, radius, d), trig.Polar(c, radius, d+180)
				if p.X+q.X != 2*c.X || p.Y+q.Y != 2*c.Y {
					t.Errorf("%v is not the midpoint of %v and %v", c, p, q)
				}
			}
		}
	}
}

// P5.4
func TestGreaterRadius(t *testing.T) {
	random := rand.New(rand.NewPCG(5, 4))
	for d := range 360 {
		for radius := range 200 {
			checkFarther(t, point(9, -9), radius, radius+1, d)
		}
		for range 200 {
			radius := random.IntN(size)
			checkFarther(t, point(random.IntN(limit)-limit/2, 0), radius, radius+1, d)
			checkFarther(t, point(0, 0), radius, size, d)
		}
	}
}

// checkFarther checks that neither coordinate of the point with the greater
// radius is nearer to that of c.
func checkFarther(t *testing.T, c api.Point, less, greater, d int) {
	t.Helper()
	p, q := trig.Polar(c, less, d), trig.Polar(c, greater, d)
	if !geom.On(point(p.X, c.Y), api.Seg{A: c, B: point(q.X, c.Y)}) || !geom.On(point(c.X, p.Y), api.Seg{A: c, B: point(c.X, q.Y)}) {
		t.Errorf("from %v at %d degrees: %v with the radius %d, but %v with %d", c, d, p, less, q, greater)
	}
}
