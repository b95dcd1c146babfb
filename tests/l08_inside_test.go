package tests

import (
	"math"
	"slices"
	"strings"
	"testing"

	"loop.example/g00987/impl"
)

// insideDrawn draws which of the first dots of a page a path contains, in as many rows as columns.
func insideDrawn(path []impl.Point, size int) string {
	var drawn strings.Builder
	for y := range size {
		for x := range size {
			if impl.InsidePath(path, x, y) {
				drawn.WriteByte('#')
			} else {
				drawn.WriteByte('.')
			}
		}
		drawn.WriteByte(' ')
	}
	return strings.TrimSpace(drawn.String())
}

// checkInside compares the dots of some columns and rows with the model.
func checkInside(t *testing.T, path []impl.Point, places []int) {
	t.Helper()
	for _, y := range places {
		for _, x := range places {
			if got := impl.InsidePath(path, x, y); got != isInside(path, x, y) {
				t.Fatalf("InsidePath(%v, %d, %d) is %v", path, x, y, got)
			}
		}
	}
}

// placesAround are columns and rows at the points of a path, and some on and beside the page.
func placesAround(path []impl.Point) []int {
	list := []int{-200, -199, -64, -1, 0, 3, 16, 31, 32, 199, 200}
	for _, p := range path {
		list = append(list, p.X-1, p.X, p.Y-1, p.Y, (p.X+p.Y)/2)
	}
	slices.Sort(list)
	return slices.Compact(list)
}

// checkNoPath checks that nothing is made of a path that is not valid.
func checkNoPath(t *testing.T, path []impl.Point) {
	t.Helper()
	for _, y := range []int{-1, 0, 3, 200} {
		for _, x := range []int{-200, 0, 3, 31} {
			if impl.InsidePath(path, x, y) {
				t.Fatalf("InsidePath(%v, %d, %d) is true", path, x, y)
			}
		}
	}
	if area, dots := impl.AreaTwice(path), impl.CountInside(path); area != 0 || dots != 0 {
		t.Fatalf("%v has the area %d, twice, and %d dots", path, area, dots)
	}
}

func TestInsideOfShapes(t *testing.T) {
	list := []struct {
		path []impl.Point
		want string
	}{
		// Without dots.
		{nil, ".... .... .... ...."},
		{points(1, 1), ".... .... .... ...."},
		{points(1, 1, 4, 4), ".... .... .... ...."},
		{points(0, 0, 4, 0, 2, 0), ".... .... .... ...."},
		{points(2, 0, 2, 4, 2, 1), ".... .... .... ...."},
		{points(3, 3, 3, 3, 3, 3), ".... .... .... ...."},
		// Horizontal and vertical sides, and sides of no length.
		{rectOf(1, 1, 4, 3), ".... .### .### ...."},
		{rectOf(2, 1, 3, 2), ".... ..#. .... ...."},
		{rectOf(-3, -5, 2, 1), "##.. .... .... ...."},
		{rectOf(0, 0, 4, 4), "#### #### #### ####"},
		{points(1, 1, 1, 1, 4, 1, 4, 1, 4, 3, 4, 3, 1, 3, 1, 3), ".... .### .### ...."},
		// The centers on a slant are in what lies behind it in the row, so that each dot is in one of two halves.
		{points(0, 0, 4, 0, 4, 4), "#### .### ..## ...#"},
		{points(0, 0, 4, 4, 0, 4), ".... #... ##.. ###."},
		{points(4, 0, 4, 4, 0, 4), "...# ..## .### ####"},
		{points(4, 0, 0, 4, 0, 0), "###. ##.. #... ...."},
		// Slants that pass amid two centers.
		{points(0, 0, 4, 0, 4, 2), ".### ...# .... ...."},
		{points(0, 0, 4, 2, 0, 2), "#... ###. .... ...."},
		// All corners have heights between two rows.
		{points(2, 0, 4, 2, 2, 4, 0, 2), ".#.. ###. ###. .#.."},
		{points(0, 0, 2, 2, 4, 0, 4, 3, 0, 3), "...# #.## #### ...."},
		// Across itself, and twice through a point or along a side.
		{points(0, 0, 4, 4, 4, 0, 0, 4), "...# #.## #.## ...#"},
		{points(2, 2, 4, 2, 4, 4, 2, 2, 0, 2, 0, 0), ".... #... ..## ...#"},
		{points(0, 0, 4, 0, 4, 2, 2, 2, 2, 4, 2, 2, 0, 2), "#### #### .... ...."},
		// Around twice, in one direction, in both, and around a part alone.
		{append(rectOf(0, 0, 4, 4), rectOf(0, 0, 4, 4)...), ".... .... .... ...."},
		{append(rectOf(0, 0, 4, 4), otherDirection(rectOf(0, 0, 4, 4))...), ".... .... .... ...."},
		{append(rectOf(0, 0, 4, 4), rectOf(0, 0, 2, 2)...), "..## ..## #### ####"},
		{append(rectOf(0, 0, 4, 4), otherDirection(rectOf(0, 0, 2, 2))...), "..## ..## #### ####"},
		// A hole.
		{points(0, 0, 6, 0, 0, 6, 0, 0, 1, 1, 4, 1, 1, 4, 1, 1), "#### #..# #.#. ##.."},
	}
	for _, c := range list {
		for first := range max(1, len(c.path)) {
			path := beginningAt(c.path, first)
			if got := insideDrawn(path, 4); got != c.want {
				t.Errorf("%v: %s, want %s", path, got, c.want)
			}
			if got := insideDrawn(otherDirection(path), 4); got != c.want {
				t.Errorf("%v: %s, want %s", otherDirection(path), got, c.want)
			}
		}
	}
}

func TestInsideOfManyPaths(t *testing.T) {
	for _, path := range manyPaths() {
		checkInside(t, path, placesAround(path))
	}
}

// Small paths have most of the sides that go through centers.
func TestInsideOfAllSmallPaths(t *testing.T) {
	for _, c := range []struct{ size, width, count int }{{1, 4, 16}, {2, 4, 256}, {3, 4, 4096}, {4, 3, 6561}} {
		places := []int{-1, 0, 1, 2, 3, 4}
		for n := range c.count {
			checkInside(t, gridPath(n, c.size, c.width), places)
		}
	}
}

// checkBeside checks what lies before and behind a side in the row of a dot. Before it are the dots whose centers it passes beyond.
func checkBeside(t *testing.T, a, b impl.Point, x, y int, beyond bool) {
	t.Helper()
	for _, ends := range [][2]impl.Point{{a, b}, {b, a}} {
		from, to := ends[0], ends[1]
		before := []impl.Point{from, to, {X: -200, Y: to.Y}, {X: -200, Y: from.Y}}
		behind := []impl.Point{from, to, {X: 200, Y: to.Y}, {X: 200, Y: from.Y}}
		if got := impl.InsidePath(before, x, y); got != beyond {
			t.Errorf("before the side from %v to %v, the dot %d, %d is %v", from, to, x, y, got)
		}
		if got := impl.InsidePath(behind, x, y); got == beyond {
			t.Errorf("behind the side from %v to %v, the dot %d, %d is %v", from, to, x, y, got)
		}
	}
}

func TestSidesAtACenter(t *testing.T) {
	list := []struct {
		a, b impl.Point
		x, y int
		want bool
	}{
		// The point of the side has the first coordinate of the center.
		{impl.Point{X: 0, Y: 0}, impl.Point{X: 1, Y: 1}, 0, 0, false},
		{impl.Point{X: 1, Y: 0}, impl.Point{X: 0, Y: 1}, 0, 0, false},
		{impl.Point{X: 0, Y: 0}, impl.Point{X: 9, Y: 9}, 4, 4, false},
		{impl.Point{X: 9, Y: 0}, impl.Point{X: 0, Y: 9}, 4, 4, false},
		{impl.Point{X: 5, Y: 2}, impl.Point{X: 6, Y: 3}, 5, 2, false},
		{impl.Point{X: 4, Y: 1}, impl.Point{X: 5, Y: 4}, 4, 2, false},
		{impl.Point{X: 4, Y: 2}, impl.Point{X: 7, Y: 3}, 5, 2, false},
		{impl.Point{X: -3, Y: -3}, impl.Point{X: -2, Y: -2}, -3, -3, false},
		{impl.Point{X: -200, Y: -200}, impl.Point{X: 200, Y: 200}, 33, 33, false},
		{impl.Point{X: 200, Y: -200}, impl.Point{X: -199, Y: 199}, 0, -1, false},
		// One half less, and one half more.
		{impl.Point{X: 5, Y: 0}, impl.Point{X: 5, Y: 9}, 5, 4, false},
		{impl.Point{X: 5, Y: 0}, impl.Point{X: 5, Y: 9}, 4, 4, true},
		{impl.Point{X: 0, Y: 0}, impl.Point{X: 2, Y: 1}, 1, 0, false},
		{impl.Point{X: 0, Y: 0}, impl.Point{X: 2, Y: 1}, 0, 0, true},
		{impl.Point{X: 2, Y: 0}, impl.Point{X: 0, Y: 1}, 1, 0, false},
		{impl.Point{X: 2, Y: 0}, impl.Point{X: 0, Y: 1}, 0, 0, true},
		{impl.Point{X: -200, Y: 7}, impl.Point{X: 200, Y: 8}, 0, 7, false},
		{impl.Point{X: -200, Y: 7}, impl.Point{X: 200, Y: 8}, -1, 7, true},
		// As little as possible before and behind the center.
		{impl.Point{X: 0, Y: -200}, impl.Point{X: 1, Y: 199}, 0, 0, true},
		{impl.Point{X: 0, Y: -200}, impl.Point{X: 1, Y: 199}, 0, -1, false},
		{impl.Point{X: 0, Y: -200}, impl.Point{X: 1, Y: 199}, 0, -2, false},
		{impl.Point{X: 1, Y: -200}, impl.Point{X: 0, Y: 199}, 0, 0, false},
		{impl.Point{X: 1, Y: -200}, impl.Point{X: 0, Y: 199}, 0, -2, true},
	}
	for _, c := range list {
		checkBeside(t, c.a, c.b, c.x, c.y, c.want)
	}
}

func TestEverySlantOfASide(t *testing.T) {
	through := 0
	for n := range 6 * 6 * 6 * 6 {
		side := gridPath(n, 2, 6)
		a, b := side[0], side[1]
		for y := min(a.Y, b.Y); y < max(a.Y, b.Y); y++ {
			for x := -1; x < 7; x++ {
				checkBeside(t, a, b, x, y, passedBeyond(a, b, x, y))
				if (b.X-a.X)*(2*y+1-2*a.Y) == (2*x+1-2*a.X)*(b.Y-a.Y) {
					through++
					checkBeside(t, a, b, x, y, false)
				}
			}
		}
	}
	if through < 100 {
		t.Errorf("only %d centers are on a side", through)
	}
}

// Promise 8: a path in the other direction contains the same dots.
func TestOtherDirectionHasTheSameDots(t *testing.T) {
	for _, path := range manyPaths() {
		checkOtherDirection(t, path, placesAround(path))
	}
	for n := range 4 * 4 * 4 * 4 * 4 * 4 {
		checkOtherDirection(t, gridPath(n, 3, 4), []int{-1, 0, 1, 2, 3})
	}
	for n := range 3 * 3 * 3 * 3 * 3 * 3 * 3 * 3 {
		checkOtherDirection(t, gridPath(n, 4, 3), []int{-1, 0, 1, 2})
	}
}

func checkOtherDirection(t *testing.T, path []impl.Point, places []int) {
	t.Helper()
	other := slices.Clone(path)
	slices.Reverse(other)
	for _, y := range places {
		for _, x := range places {
			if got := impl.InsidePath(other, x, y); got != impl.InsidePath(path, x, y) {
				t.Fatalf("InsidePath(%v, %d, %d) is %v, unlike in the other direction", other, x, y, got)
			}
		}
	}
	if got := impl.AreaTwice(other); got != -impl.AreaTwice(path) {
		t.Fatalf("AreaTwice(%v) is %d, in the other direction %d", other, got, impl.AreaTwice(path))
	}
}

func TestOtherDirectionHasAsManyDotsOnThePage(t *testing.T) {
	for _, path := range append(manyPaths(), invalidPaths()...) {
		other := slices.Clone(path)
		slices.Reverse(other)
		want := insideOnPage(path)
		if got, turned := impl.CountInside(path), impl.CountInside(other); got != want || turned != want {
			t.Fatalf("%v contains %d dots, in the other direction %d, want %d", path, got, turned, want)
		}
	}
}

// invalidPaths have a point past the limits in the first, in a middle and in the last place, or too many points.
// With the points at the limits, or with fewer points, they would contain the dots of the page.
func invalidPaths() [][]impl.Point {
	around := func() []impl.Point { return points(-200, -200, 0, -200, 200, -200, 200, 200, 0, 200, -200, 200) }
	list := [][]impl.Point{
		append(around(), points(-200, 200, -200, 200, -200, 200)...), make([]impl.Point, 9),
		append(rectOf(0, 0, 32, 32), points(0, 0, 0, 0, 0, 0, 0, 0, 0, 0)...), slices.Repeat(rectOf(0, 0, 32, 32), 1001),
		{{X: -201}}, {{Y: 201}}, {{X: math.MinInt, Y: math.MinInt}}, {{X: 5, Y: 6}, {X: 7, Y: math.MaxInt}},
	}
	for at := range around() {
		for _, n := range edgeCoords() {
			if isCoord(n) {
				continue
			}
			for _, bad := range []impl.Point{{X: n, Y: around()[at].Y}, {X: around()[at].X, Y: n}, {X: n, Y: n}} {
				path := around()
				path[at] = bad
				list = append(list, path)
			}
		}
	}
	return list
}

func TestInvalidPathsContainNothing(t *testing.T) {
	for _, path := range invalidPaths() {
		checkNoPath(t, path)
	}
}

func TestPathsOfTheMostPoints(t *testing.T) {
	for size := range 20 {
		path := append(rectOf(0, 0, 5, 4), slices.Repeat(points(0, 2), max(0, size-4))...)[:size]
		if size > 8 {
			checkNoPath(t, path)
			continue
		}
		if dots, area := impl.CountInside(path), impl.AreaTwice(path); size >= 4 && (dots != 20 || area != 40 || !impl.InsidePath(path, 4, 3)) {
			t.Errorf("%v has the area %d, twice, and %d dots", path, area, dots)
		}
		checkInside(t, path, placesAround(path))
	}
}

func TestColumnsAndRowsAtTheLimits(t *testing.T) {
	all := rectOf(-200, -200, 200, 200)
	for _, n := range []int{-200, -199, 198, 199} {
		for _, m := range []int{-200, 0, 199} {
			if !impl.InsidePath(all, n, m) || !impl.InsidePath(all, m, n) {
				t.Errorf("dot %d, %d: %v, and %v the other way around", n, m, impl.InsidePath(all, n, m), impl.InsidePath(all, m, n))
			}
		}
	}
	for _, n := range []int{math.MinInt, math.MinInt + 1, math.MinInt + 100, -201, 200, 201, math.MaxInt - 100, math.MaxInt - 1, math.MaxInt} {
		for _, m := range edgeCoords() {
			if impl.InsidePath(all, n, m) || impl.InsidePath(all, m, n) {
				t.Errorf("dot %d, %d: %v, and %v the other way around", n, m, impl.InsidePath(all, n, m), impl.InsidePath(all, m, n))
			}
		}
	}
	wide := []int{-1 << 62, -1 << 61, 1 << 61, 1 << 62, 1<<62 + 3, 1<<63 - 7, math.MinInt + 3, 1 << 32, 1<<32 + 3, -1<<32 + 3}
	for _, path := range append(shapes(), all, rectOf(-200, -3, 4, 7), points(-200, 200, 200, 200, 3, -200)) {
		checkInside(t, path, append(edgeCoords(), wide...))
	}
}

func TestRectanglesContainTheirArea(t *testing.T) {
	sides := []int{0, 1, 2, 7, 16, 30, 31, 32}
	eachBox(sides, func(b impl.Box) {
		if !isBox(b) {
			return
		}
		area := (b.X1 - b.X0) * (b.Y1 - b.Y0)
		path := rectOf(b.X0, b.Y0, b.X1, b.Y1)
		checkDotsAndArea(t, path, area, 2*area)
		checkDotsAndArea(t, otherDirection(path), area, -2*area)
	})
}

func checkDotsAndArea(t *testing.T, path []impl.Point, dots, area int) {
	t.Helper()
	if got := impl.CountInside(path); got != dots {
		t.Errorf("CountInside(%v) is %d, want %d", path, got, dots)
	}
	if got := impl.AreaTwice(path); got != area {
		t.Errorf("AreaTwice(%v) is %d, want %d", path, got, area)
	}
}

func TestRectanglesAcrossTheSidesOfThePage(t *testing.T) {
	list := []struct{ x0, y0, x1, y1, dots, area int }{
		{-200, -200, 200, 200, 1024, 320000},
		{-1, -1, 33, 33, 1024, 2312},
		{-5, 3, 4, 9, 24, 108},
		{3, -5, 9, 4, 24, 108},
		{30, 3, 40, 9, 12, 120},
		{3, 30, 9, 40, 12, 120},
		{-9, -9, 1, 1, 1, 200},
		{31, 31, 200, 200, 1, 57122},
		{-200, 5, 200, 6, 32, 800},
		{5, -200, 6, 200, 32, 800},
		// Beside the page and along its sides.
		{-9, 3, 0, 9, 0, 108},
		{3, -9, 9, 0, 0, 108},
		{32, 3, 40, 9, 0, 96},
		{3, 32, 9, 40, 0, 96},
		{-200, -200, -190, -190, 0, 200},
		{190, 190, 200, 200, 0, 200},
		{40, 40, 40, 40, 0, 0},
	}
	for _, c := range list {
		path := rectOf(c.x0, c.y0, c.x1, c.y1)
		checkDotsAndArea(t, path, c.dots, c.area)
		checkDotsAndArea(t, otherDirection(path), c.dots, -c.area)
	}
}

func TestAreaTwice(t *testing.T) {
	list := []struct {
		path []impl.Point
		want int
	}{
		{nil, 0},
		{points(7, -3), 0},
		{points(7, -3, 5, 8), 0},
		{points(1, 1, 5, 5, 9, 9), 0},
		{points(0, 0, 8, 0, 0, 8), 64},
		{points(3, 4, 9, 5, 2, 8), 25},
		{points(-3, -4, -9, -5, -2, -8), 25},
		{points(0, 0, 1, 0, 0, 1), 1},
		{points(100, 100, 101, 100, 100, 101), 1},
		{points(0, 0, 4, 4, 4, 0, 0, 4), 0},
		{append(rectOf(2, 2, 6, 6), rectOf(2, 2, 6, 6)...), 64},
		{append(rectOf(2, 2, 6, 6), otherDirection(rectOf(2, 2, 6, 6))...), 0},
		{rectOf(-200, -200, 200, 200), 320000},
		{slices.Repeat(rectOf(-200, -200, 200, 200), 2), 640000},
		{points(-200, -200, 200, -200, 200, 200), 160000},
	}
	for _, c := range list {
		for first := range max(1, len(c.path)) {
			path := beginningAt(c.path, first)
			if got := impl.AreaTwice(path); got != c.want {
				t.Errorf("AreaTwice(%v) is %d, want %d", path, got, c.want)
			}
			if got := impl.AreaTwice(otherDirection(path)); got != -c.want {
				t.Errorf("AreaTwice(%v) is %d, want %d", otherDirection(path), got, -c.want)
			}
		}
	}
	for _, path := range append(manyPaths(), invalidPaths()...) {
		if got := impl.AreaTwice(path); got != areaOf(path) {
			t.Errorf("AreaTwice(%v) is %d, want %d", path, got, areaOf(path))
		}
	}
}
