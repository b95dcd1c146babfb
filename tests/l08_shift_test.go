package tests

import (
	"math"
	"math/rand/v2"
	"slices"
	"testing"

	"loop.example/g00987/impl"
)

func checkShift(t *testing.T, path []impl.Point, dx, dy int, want []impl.Point) {
	t.Helper()
	if got := impl.ShiftPath(path, dx, dy); !slices.Equal(got, want) {
		t.Fatalf("ShiftPath(%v, %d, %d) is %v, want %v", path, dx, dy, got, want)
	}
}

func TestShiftPath(t *testing.T) {
	list := []struct {
		path   []impl.Point
		dx, dy int
		want   []impl.Point
	}{
		{points(2, 2, 6, 2, 6, 6, 2, 6), 1, 0, points(3, 2, 7, 2, 7, 6, 3, 6)},
		{points(2, 2, 6, 2, 6, 6, 2, 6), -3, 5, points(-1, 7, 3, 7, 3, 11, -1, 11)},
		{points(2, 9), 0, 0, points(2, 9)},
		{points(4, 4, 4, 4), 1, 2, points(5, 6, 5, 6)},
		{points(200, -200, -200, 200), 0, 0, points(200, -200, -200, 200)},
		// It only just fits on each side, or only just does not.
		{points(3, 4, 190, 4), 10, 0, points(13, 4, 200, 4)},
		{points(3, 4, 190, 4), 11, 0, nil},
		{points(-190, 4, 3, 4), -10, 0, points(-200, 4, -7, 4)},
		{points(-190, 4, 3, 4), -11, 0, nil},
		{points(4, 3, 4, 190), 0, 10, points(4, 13, 4, 200)},
		{points(4, 3, 4, 190), 0, 11, nil},
		{points(4, -190, 4, 3), 0, -10, points(4, -200, 4, -7)},
		{points(4, -190, 4, 3), 0, -11, nil},
		{points(200, 4), 1, 0, nil},
		{points(4, -200), 0, -1, nil},
		// The shift is at its limit, or one past it, even for a path that would be valid behind it.
		{points(-200, -200, 0, 0), 200, 200, points(0, 0, 200, 200)},
		{points(200, 200, 0, 0), -200, -200, points(0, 0, -200, -200)},
		{points(-200, -200), 201, 0, nil},
		{points(-200, -200), 0, 201, nil},
		{points(200, 200), -201, 0, nil},
		{points(200, 200), 0, -201, nil},
		// Points that are not valid before it, but would be behind it.
		{points(201, 4), -1, 0, nil},
		{points(-201, 4), 1, 0, nil},
		{points(4, 201), 0, -1, nil},
		{points(4, -201), 0, 1, nil},
		{points(4, 4, 205, 205, 4, 5), -5, -5, nil},
		{points(math.MaxInt, 4), 1, 0, nil},
		{points(math.MinInt, math.MinInt), -1, -1, nil},
		// Nothing to shift.
		{nil, 0, 0, nil},
		{nil, 200, -200, nil},
		{nil, 201, math.MinInt, nil},
		{[]impl.Point{}, 5, 5, nil},
	}
	for _, c := range list {
		checkShift(t, c.path, c.dx, c.dy, c.want)
	}
}

func TestShiftPathAtTheLimits(t *testing.T) {
	for _, path := range append(manyPaths(), rectOf(-200, 0, 0, 200), points(200, -200), points(-200, 200)) {
		for _, dx := range edgeCoords() {
			for _, dy := range edgeCoords() {
				checkShift(t, path, dx, dy, shiftedPath(path, dx, dy))
			}
		}
	}
}

func TestShiftPathRejectsAnInvalidPointAtAnyPlace(t *testing.T) {
	for _, n := range edgeCoords() {
		for _, size := range []int{1, 2, 3, 8, 9} {
			for _, at := range []int{0, size / 2, size - 1} {
				for _, p := range []impl.Point{{X: n, Y: 5}, {X: 5, Y: n}, {X: n, Y: n}} {
					path := pathOfSize(size)
					path[at] = p
					for _, d := range [][2]int{{0, 0}, {1, 0}, {-1, 0}, {0, 1}, {0, -1}, {100, -100}, {-1, -1}} {
						checkShift(t, path, d[0], d[1], shiftedPath(path, d[0], d[1]))
					}
				}
			}
		}
	}
}

// The document limits the number of points for the other functions of the chapter alone.
func TestShiftPathOfManyPoints(t *testing.T) {
	for _, size := range []int{8, 9, 10, 100, 5000} {
		path := slices.Repeat(points(3, 4), size)
		checkShift(t, path, -5, 6, slices.Repeat(points(-2, 10), size))
		path[size-1].X = -196
		checkShift(t, path, -5, 6, nil)
		path[size-1].X = -201
		checkShift(t, path, 5, 6, nil)
	}
}

func TestShiftedPathsContainTheShiftedDots(t *testing.T) {
	r := rand.New(rand.NewPCG(8, 2))
	shifted := 0
	for _, path := range manyPaths() {
		for _, d := range [][2]int{{0, 0}, {1, 0}, {0, -1}, {-1, 1}, {200, -200}, {r.IntN(41) - 20, r.IntN(41) - 20}, {r.IntN(401) - 200, r.IntN(401) - 200}} {
			moved := impl.ShiftPath(path, d[0], d[1])
			if len(moved) != len(path) {
				continue
			}
			shifted++
			checkShiftedDots(t, path, moved, d[0], d[1])
		}
	}
	if shifted < 500 {
		t.Errorf("only %d paths are shifted", shifted)
	}
}

func checkShiftedDots(t *testing.T, path, moved []impl.Point, dx, dy int) {
	t.Helper()
	for _, y := range placesAround(path) {
		for _, x := range placesAround(path) {
			if !isCoord(x) || !isCoord(y) || !isCoord(x+dx) || !isCoord(y+dy) {
				continue
			}
			if got := impl.InsidePath(moved, x+dx, y+dy); got != impl.InsidePath(path, x, y) {
				t.Fatalf("%v, shifted by %d and %d: the dot %d, %d is %v then", path, dx, dy, x, y, got)
			}
		}
	}
	if got := impl.AreaTwice(moved); got != impl.AreaTwice(path) {
		t.Fatalf("%v, shifted by %d and %d, has the area %d, twice", path, dx, dy, got)
	}
}

// insideCalls calls each function of the chapter.
func insideCalls(path []impl.Point, dx, dy int) (bool, int, int, []impl.Point) {
	return impl.InsidePath(path, dx, dy), impl.AreaTwice(path), impl.CountInside(path), impl.ShiftPath(path, dx, dy)
}

func TestPathsAreLeftAlone(t *testing.T) {
	for _, path := range append(manyPaths(), append(invalidPaths(), pathOfSize(9), []impl.Point{})...) {
		for _, spare := range []int{0, 1, 20} {
			for _, d := range [][2]int{{0, 0}, {3, -2}, {200, 200}, {-201, 0}} {
				room := roomFor(path, spare, impl.Point{X: -77777, Y: 77777})
				before := slices.Clone(room[:cap(room)])
				_, _, _, got := insideCalls(room, d[0], d[1])
				if !slices.Equal(room[:cap(room)], before) {
					t.Fatalf("the calls with %v changed it to %v", before, room[:cap(room)])
				}
				if memoryOf("the shifted path", got).meets(memoryOf("the path", room)) {
					t.Fatalf("ShiftPath(%v, %d, %d) shares memory with its argument", path, d[0], d[1])
				}
			}
		}
	}
}

func TestShiftedPathsStayAsTheyWere(t *testing.T) {
	for _, d := range [][2]int{{0, 0}, {1, 2}} {
		path := rectOf(2, 2, 6, 6)
		want := shiftedPath(path, d[0], d[1])
		first := impl.ShiftPath(path, d[0], d[1])
		second := impl.ShiftPath(path, d[0], d[1])
		if memoryOf("the first", first).meets(memoryOf("the second", second)) {
			t.Errorf("two paths shifted by %v share memory", d)
		}
		path[0].X, second[1].Y = 99, 99
		if !slices.Equal(first, want) {
			t.Errorf("shifted by %v: %v, want %v", d, first, want)
		}
	}
}

func TestInsideKeepsNoState(t *testing.T) {
	list := append(shapes(), invalidPaths()...)
	for range 2 {
		for _, path := range list {
			inside, area, dots, shifted := insideCalls(path, 4, 3)
			if inside != isInside(path, 4, 3) || area != areaOf(path) || dots != insideOnPage(path) || !slices.Equal(shifted, shiftedPath(path, 4, 3)) {
				t.Fatalf("%v: %v, %d, %d, %v", path, inside, area, dots, shifted)
			}
		}
		slices.Reverse(list)
	}
}
