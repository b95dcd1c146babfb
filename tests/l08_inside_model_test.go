package tests

import (
	"math/rand/v2"
	"slices"

	"loop.example/g00987/impl"
)

// passedBeyond says whether a side contains a point with the height of a center whose first coordinate is greater, without
// the functions under test. Where it is equal the division is exact, and where it is not, the difference is at least
// 1/800, as a side is at most 400 high, which is far more than is rounded away.
func passedBeyond(a, b impl.Point, x, y int) bool {
	centerX, centerY := float64(x)+0.5, float64(y)+0.5
	fromA, fromB := centerY-float64(a.Y), centerY-float64(b.Y)
	if fromA > 0 && fromB > 0 || fromA < 0 && fromB < 0 {
		return false
	}
	return float64(a.X)+fromA*float64(b.X-a.X)/float64(b.Y-a.Y) > centerX
}

// isInside says whether a path contains a dot without the functions under test.
func isInside(path []impl.Point, x, y int) bool {
	if !isPath(path) || !isCoord(x) || !isCoord(y) {
		return false
	}
	sides := 0
	for i, b := range path {
		a := path[(i+len(path)-1)%len(path)]
		if passedBeyond(a, b, x, y) {
			sides++
		}
	}
	return sides%2 == 1
}

// areaOf is the area in the direction of the path, twice, from trapezoids between the sides and the line of height 0.
func areaOf(path []impl.Point) int {
	area := 0
	if isPath(path) {
		for i, b := range path {
			a := path[(i+len(path)-1)%len(path)]
			area += (a.X - b.X) * (a.Y + b.Y)
		}
	}
	return area
}

// insideOnPage counts the dots of the page that a path contains.
func insideOnPage(path []impl.Point) int {
	dots := 0
	for n := range 32 * 32 {
		if isInside(path, n%32, n/32) {
			dots++
		}
	}
	return dots
}

func shiftedPath(path []impl.Point, dx, dy int) []impl.Point {
	if !isCoord(dx) || !isCoord(dy) {
		return nil
	}
	var shifted []impl.Point
	for _, p := range path {
		moved := impl.Point{X: p.X + dx, Y: p.Y + dy}
		if !inRange(p) || !inRange(moved) {
			return nil
		}
		shifted = append(shifted, moved)
	}
	return shifted
}

// otherDirection has the same first point.
func otherDirection(path []impl.Point) []impl.Point {
	turned := slices.Clone(path)
	if len(turned) > 1 {
		slices.Reverse(turned[1:])
	}
	return turned
}

// beginningAt has the same sides in the same direction.
func beginningAt(path []impl.Point, first int) []impl.Point {
	return append(slices.Clone(path[first:]), path[:first]...)
}

func rectOf(x0, y0, x1, y1 int) []impl.Point {
	return points(x0, y0, x1, y0, x1, y1, x0, y1)
}

// gridPath is one of all the paths of points with coordinates from 0 to width-1.
func gridPath(n, size, width int) []impl.Point {
	var path []impl.Point
	for range size {
		path = append(path, impl.Point{X: n % width, Y: n / width % width})
		n /= width * width
	}
	return path
}

// randomPath has points from low to low+width, close together if width is small, so that many sides meet a center.
func randomPath(r *rand.Rand, size, low, width int) []impl.Point {
	var path []impl.Point
	for range size {
		path = append(path, impl.Point{X: low + r.IntN(width+1), Y: low + r.IntN(width+1)})
	}
	return path
}

// manyPaths are of all sizes, on the page, across its sides and as far as points can be.
func manyPaths() [][]impl.Point {
	r := rand.New(rand.NewPCG(8, 1))
	var list [][]impl.Point
	for _, in := range [][2]int{{0, 3}, {0, 32}, {-1, 8}, {-10, 50}, {28, 6}, {-200, 400}, {-200, 10}, {190, 10}} {
		for size := range 9 {
			for range 6 {
				list = append(list, randomPath(r, size, in[0], in[1]))
			}
		}
	}
	return append(list, shapes()...)
}

// shapes are named by what is uncommon in them.
func shapes() [][]impl.Point {
	square := rectOf(2, 2, 8, 8)
	return [][]impl.Point{
		nil, points(3, 4), points(3, 4, 3, 4), points(3, 4, 9, 11), points(5, 5, 5, 5, 5, 5), // no dots
		points(1, 1, 5, 5, 9, 9), points(1, 3, 9, 3, 4, 3), points(3, 1, 3, 9, 3, 4), points(1, 1, 7, 4, 1, 1, 7, 4), // no area
		square, rectOf(-200, -200, 200, 200), rectOf(0, 0, 32, 32), rectOf(31, 31, 32, 32), rectOf(32, 0, 40, 32), rectOf(0, -9, 32, 0), // rectangles
		points(0, 0, 8, 0, 0, 8), points(5, 0, 10, 5, 5, 10, 0, 5), points(0, 0, 200, 1, 0, 2), points(-200, -200, 200, -199, 200, 200), // slants
		points(2, 2, 8, 8, 8, 2, 2, 8), points(5, 0, 8, 9, 0, 3, 10, 3, 2, 9), // across itself
		points(5, 5, 9, 5, 9, 9, 5, 5, 1, 5, 1, 1), points(2, 2, 6, 2, 6, 6, 2, 2, 2, 9), // a point twice
		append(slices.Clone(square), square...), append(slices.Clone(square), otherDirection(square)...), // around twice
		append(slices.Clone(square), rectOf(4, 4, 6, 6)...), points(2, 2, 5, 2, 8, 2, 8, 5, 8, 8, 5, 8, 2, 8, 2, 5), // with a hole, and with points amid the sides
		points(2, 2, 2, 2, 8, 2, 8, 2, 8, 8, 8, 8, 2, 8, 2, 8), points(2, 2, 8, 2, 8, 8, 20, 8, 8, 8, 2, 8), // sides of no length, and a side there and back
	}
}
