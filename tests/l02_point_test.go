package tests

import (
	"math"
	"slices"
	"testing"

	"loop.example/g00987/impl"
)

// edgeCoords are the ends of the coordinates, those next to them, and the ends of int, where sums and signs wrap around.
func edgeCoords() []int {
	return []int{
		math.MinInt, math.MinInt + 1, -impl.MaxCoord - 1, -impl.MaxCoord, -impl.MaxCoord + 1, -1,
		0, 1, impl.MaxCoord - 1, impl.MaxCoord, impl.MaxCoord + 1, math.MaxInt - 1, math.MaxInt,
	}
}

func isCoord(n int) bool {
	return n >= -200 && n <= 200
}

func isBox(b impl.Box) bool {
	return isCoord(b.X0) && isCoord(b.Y0) && isCoord(b.X1) && isCoord(b.Y1) && b.X0 <= b.X1 && b.Y0 <= b.Y1
}

func largestBox() impl.Box {
	return impl.Box{X0: -200, Y0: -200, X1: 200, Y1: 200}
}

// hasDot says where a dot lies without the functions under test.
func hasDot(b impl.Box, x, y int) bool {
	return isBox(b) && x >= b.X0 && x < b.X1 && y >= b.Y0 && y < b.Y1
}

func eachBox(coords []int, visit func(impl.Box)) {
	for _, x0 := range coords {
		for _, y0 := range coords {
			for _, x1 := range coords {
				for _, y1 := range coords {
					visit(impl.Box{X0: x0, Y0: y0, X1: x1, Y1: y1})
				}
			}
		}
	}
}

// badBoxes are not valid, each for one reason or for several.
func badBoxes() []impl.Box {
	list := []impl.Box{
		{X0: 1}, {Y0: 1}, {X1: -1}, {Y1: -1},
		{X0: 5, Y0: 0, X1: 4, Y1: 9}, {X0: 0, Y0: 5, X1: 9, Y1: 4}, {X0: 9, Y0: 9, X1: 0, Y1: 0},
		{X0: 200, Y0: -200, X1: -200, Y1: 200}, {X0: -200, Y0: 200, X1: 200, Y1: -200},
		{X0: -201, Y0: 0, X1: 9, Y1: 9}, {X0: 0, Y0: -201, X1: 9, Y1: 9},
		{X0: 0, Y0: 0, X1: 201, Y1: 9}, {X0: 0, Y0: 0, X1: 9, Y1: 201},
		{X0: math.MinInt, Y0: 0, X1: 9, Y1: 9}, {X0: 0, Y0: math.MinInt, X1: 9, Y1: 9},
		{X0: 0, Y0: 0, X1: math.MaxInt, Y1: 9}, {X0: 0, Y0: 0, X1: 9, Y1: math.MaxInt},
		{X0: 0, Y0: 0, X1: math.MinInt, Y1: 9}, {X0: 0, Y0: 0, X1: 9, Y1: math.MinInt},
		{X0: math.MaxInt, Y0: 0, X1: 9, Y1: 9}, {X0: 0, Y0: math.MaxInt, X1: 9, Y1: 9},
		{X0: math.MinInt, Y0: math.MinInt, X1: math.MaxInt, Y1: math.MaxInt},
		{X0: math.MaxInt, Y0: math.MaxInt, X1: math.MinInt, Y1: math.MinInt},
		{X0: math.MinInt, Y0: math.MinInt, X1: math.MinInt, Y1: math.MinInt},
		{X0: math.MaxInt, Y0: math.MaxInt, X1: math.MaxInt, Y1: math.MaxInt},
		{X0: 201, Y0: 0, X1: 201, Y1: 0}, {X0: 0, Y0: -201, X1: 0, Y1: -201},
	}
	return list
}

func TestPointLimitsAndZeroBox(t *testing.T) {
	if impl.PageSize != 32 || impl.MaxCoord != 200 {
		t.Errorf("limits are %d and %d", impl.PageSize, impl.MaxCoord)
	}
	zero := impl.Box{}
	if !impl.BoxOk(zero) || impl.CountDots(zero) != 0 || impl.InBox(zero, 0, 0) {
		t.Errorf("the zero Box: valid %v, %d dots, with a dot %v", impl.BoxOk(zero), impl.CountDots(zero), impl.InBox(zero, 0, 0))
	}
}

func TestPointOk(t *testing.T) {
	for _, x := range edgeCoords() {
		for _, y := range edgeCoords() {
			if got := impl.PointOk(impl.Point{X: x, Y: y}); got != (isCoord(x) && isCoord(y)) {
				t.Errorf("PointOk of (%d, %d) is %v", x, y, got)
			}
		}
	}
}

func TestBoxOk(t *testing.T) {
	eachBox(edgeCoords(), func(b impl.Box) {
		if got := impl.BoxOk(b); got != isBox(b) {
			t.Errorf("BoxOk(%v) is %v", b, got)
		}
	})
	for _, b := range badBoxes() {
		if impl.BoxOk(b) {
			t.Errorf("BoxOk(%v) is true", b)
		}
	}
}

func TestBoxOf(t *testing.T) {
	list := []struct {
		points []impl.Point
		want   impl.Box
	}{
		{nil, impl.Box{}},
		{[]impl.Point{}, impl.Box{}},
		{[]impl.Point{{X: 0, Y: 0}}, impl.Box{}},
		{[]impl.Point{{X: 7, Y: -3}}, impl.Box{X0: 7, Y0: -3, X1: 7, Y1: -3}},
		{[]impl.Point{{X: -200, Y: 200}}, impl.Box{X0: -200, Y0: 200, X1: -200, Y1: 200}},
		{[]impl.Point{{X: 7, Y: 5}, {X: 7, Y: 5}}, impl.Box{X0: 7, Y0: 5, X1: 7, Y1: 5}},
		{[]impl.Point{{X: 3, Y: 4}, {X: 1, Y: 9}}, impl.Box{X0: 1, Y0: 4, X1: 3, Y1: 9}},
		{[]impl.Point{{X: 2, Y: 6}, {X: 9, Y: 6}}, impl.Box{X0: 2, Y0: 6, X1: 9, Y1: 6}},
		{[]impl.Point{{X: 2, Y: 6}, {X: 2, Y: 1}}, impl.Box{X0: 2, Y0: 1, X1: 2, Y1: 6}},
		{[]impl.Point{{X: -8, Y: -9}, {X: -2, Y: -4}}, impl.Box{X0: -8, Y0: -9, X1: -2, Y1: -4}},
		{[]impl.Point{{X: 5, Y: 5}, {X: 8, Y: 6}, {X: 6, Y: 2}, {X: 1, Y: 9}}, impl.Box{X0: 1, Y0: 2, X1: 8, Y1: 9}},
		{[]impl.Point{{X: 200, Y: -200}, {X: 0, Y: 0}, {X: -200, Y: 200}}, largestBox()},
	}
	for _, c := range list {
		if got := impl.BoxOf(c.points); got != c.want {
			t.Errorf("BoxOf(%v) is %v, want %v", c.points, got, c.want)
		}
	}
}

func TestBoxOfIsTheSmallest(t *testing.T) {
	for n := range 4 * 4 * 4 * 4 * 4 * 4 {
		var points []impl.Point
		for range 3 {
			points = append(points, impl.Point{X: n%4 - 2, Y: n/4%4 - 2})
			n /= 16
		}
		b := impl.BoxOf(points)
		atX0, atY0, atX1, atY1, inside := false, false, false, false, true
		for _, p := range points {
			inside = inside && p.X >= b.X0 && p.X <= b.X1 && p.Y >= b.Y0 && p.Y <= b.Y1
			atX0, atX1 = atX0 || p.X == b.X0, atX1 || p.X == b.X1
			atY0, atY1 = atY0 || p.Y == b.Y0, atY1 || p.Y == b.Y1
		}
		if !inside || !atX0 || !atY0 || !atX1 || !atY1 || !impl.BoxOk(b) {
			t.Errorf("BoxOf(%v) is %v", points, b)
		}
	}
}

func TestBoxOfRejectsAnInvalidPointAtAnyPlace(t *testing.T) {
	for _, n := range edgeCoords() {
		if isCoord(n) {
			continue
		}
		for _, bad := range []impl.Point{{X: n, Y: 4}, {X: 4, Y: n}, {X: n, Y: n}} {
			for size := 1; size <= 6; size++ {
				for place := range size {
					points := slices.Repeat([]impl.Point{{X: 1, Y: 2}, {X: 5, Y: 9}}, 3)[:size]
					points[place] = bad
					if got := impl.BoxOf(points); got != (impl.Box{}) {
						t.Errorf("BoxOf(%v) is %v", points, got)
					}
				}
			}
		}
	}
}

func TestBoxOfLeavesItsPoints(t *testing.T) {
	points := make([]impl.Point, 3, 5)
	copy(points, []impl.Point{{X: 9, Y: 1}, {X: 2, Y: 8}, {X: 4, Y: 4}})
	before := slices.Clone(points[:5])
	impl.BoxOf(points)
	if !slices.Equal(points[:5], before) {
		t.Errorf("BoxOf changed its points to %v", points[:5])
	}
}

func TestMeetBox(t *testing.T) {
	list := []struct{ a, b, want impl.Box }{
		{impl.Box{X0: 1, Y0: 4, X1: 3, Y1: 9}, impl.Box{X0: 2, Y0: 0, X1: 8, Y1: 5}, impl.Box{X0: 2, Y0: 4, X1: 3, Y1: 5}},
		{impl.Box{X0: 0, Y0: 0, X1: 9, Y1: 9}, impl.Box{X0: 2, Y0: 3, X1: 4, Y1: 5}, impl.Box{X0: 2, Y0: 3, X1: 4, Y1: 5}},
		{impl.Box{X0: -5, Y0: -5, X1: 1, Y1: 1}, impl.Box{X0: 0, Y0: 0, X1: 9, Y1: 9}, impl.Box{X0: 0, Y0: 0, X1: 1, Y1: 1}},
		{largestBox(), largestBox(), largestBox()},
		{largestBox(), impl.Box{X0: -200, Y0: -200, X1: -199, Y1: -199}, impl.Box{X0: -200, Y0: -200, X1: -199, Y1: -199}},
		{largestBox(), impl.Box{X0: 199, Y0: 199, X1: 200, Y1: 200}, impl.Box{X0: 199, Y0: 199, X1: 200, Y1: 200}},
		// Boxes that touch at a side or at a corner only.
		{impl.Box{X0: 1, Y0: 4, X1: 3, Y1: 9}, impl.Box{X0: 3, Y0: 4, X1: 7, Y1: 9}, impl.Box{}},
		{impl.Box{X0: 1, Y0: 4, X1: 3, Y1: 9}, impl.Box{X0: 1, Y0: 9, X1: 3, Y1: 12}, impl.Box{}},
		{impl.Box{X0: 1, Y0: 4, X1: 3, Y1: 9}, impl.Box{X0: 3, Y0: 9, X1: 7, Y1: 12}, impl.Box{}},
		{impl.Box{X0: 1, Y0: 4, X1: 3, Y1: 9}, impl.Box{X0: 3, Y0: 1, X1: 7, Y1: 4}, impl.Box{}},
		{impl.Box{X0: 1, Y0: 4, X1: 3, Y1: 9}, impl.Box{X1: 1, Y1: 9}, impl.Box{}},
		// Boxes that lie apart in one direction or in both.
		{impl.Box{X0: 1, Y0: 4, X1: 3, Y1: 9}, impl.Box{X0: 5, Y0: 4, X1: 7, Y1: 9}, impl.Box{}},
		{impl.Box{X0: 1, Y0: 4, X1: 3, Y1: 9}, impl.Box{X0: 1, Y0: 11, X1: 3, Y1: 12}, impl.Box{}},
		{impl.Box{X0: -200, Y0: -200, X1: -199, Y1: -199}, impl.Box{X0: 199, Y0: 199, X1: 200, Y1: 200}, impl.Box{}},
		// Boxes without dots, inside of a box with dots or equal to each other.
		{impl.Box{X0: 0, Y0: 0, X1: 9, Y1: 9}, impl.Box{X0: 5, Y0: 2, X1: 5, Y1: 7}, impl.Box{}},
		{impl.Box{X0: 0, Y0: 0, X1: 9, Y1: 9}, impl.Box{X0: 2, Y0: 5, X1: 7, Y1: 5}, impl.Box{}},
		{impl.Box{X0: 0, Y0: 0, X1: 9, Y1: 9}, impl.Box{X0: 5, Y0: 5, X1: 5, Y1: 5}, impl.Box{}},
		{impl.Box{X0: 5, Y0: 2, X1: 5, Y1: 7}, impl.Box{X0: 5, Y0: 2, X1: 5, Y1: 7}, impl.Box{}},
		{impl.Box{X0: 5, Y0: 5, X1: 5, Y1: 5}, impl.Box{X0: 5, Y0: 5, X1: 5, Y1: 5}, impl.Box{}},
		{impl.Box{X0: 0, Y0: 0, X1: 9, Y1: 9}, impl.Box{}, impl.Box{}},
		{largestBox(), impl.Box{}, impl.Box{}},
		{impl.Box{}, impl.Box{}, impl.Box{}},
	}
	for _, c := range list {
		if got := impl.MeetBox(c.a, c.b); got != c.want {
			t.Errorf("MeetBox(%v, %v) is %v, want %v", c.a, c.b, got, c.want)
		}
		if got := impl.MeetBox(c.b, c.a); got != c.want {
			t.Errorf("MeetBox(%v, %v) is %v, want %v", c.b, c.a, got, c.want)
		}
	}
}

func TestMeetBoxHasTheDotsOfBoth(t *testing.T) {
	var boxes []impl.Box
	eachBox([]int{-2, -1, 0, 1, 2}, func(b impl.Box) {
		if isBox(b) {
			boxes = append(boxes, b)
		}
	})
	for _, a := range boxes {
		for _, b := range boxes {
			checkMeet(t, a, b)
		}
	}
}

func checkMeet(t *testing.T, a, b impl.Box) {
	t.Helper()
	got := impl.MeetBox(a, b)
	dots := 0
	for y := -3; y <= 2; y++ {
		for x := -3; x <= 2; x++ {
			both := hasDot(a, x, y) && hasDot(b, x, y)
			if both {
				dots++
			}
			if hasDot(got, x, y) != both || impl.InBox(got, x, y) != both {
				t.Errorf("MeetBox(%v, %v) is %v: wrong at column %d, row %d", a, b, got, x, y)
			}
		}
	}
	if !impl.BoxOk(got) || impl.CountDots(got) != dots || dots == 0 && got != (impl.Box{}) {
		t.Errorf("MeetBox(%v, %v) is %v, for %d dots", a, b, got, dots)
	}
}

func TestMeetBoxRejectsInvalidBoxes(t *testing.T) {
	good := append([]impl.Box{largestBox(), {X0: 2, Y0: 2, X1: 6, Y1: 6}, {}}, badBoxes()...)
	for _, bad := range badBoxes() {
		for _, b := range good {
			if got := impl.MeetBox(bad, b); got != (impl.Box{}) {
				t.Errorf("MeetBox(%v, %v) is %v", bad, b, got)
			}
			if got := impl.MeetBox(b, bad); got != (impl.Box{}) {
				t.Errorf("MeetBox(%v, %v) is %v", b, bad, got)
			}
		}
	}
}

func TestCountDots(t *testing.T) {
	list := []struct {
		b    impl.Box
		want int
	}{
		{impl.Box{X0: 1, Y0: 4, X1: 3, Y1: 9}, 10},
		{impl.Box{X0: -3, Y0: -2, X1: 4, Y1: 3}, 35},
		{impl.Box{X1: 1, Y1: 1}, 1},
		{impl.Box{X0: 199, Y0: 199, X1: 200, Y1: 200}, 1},
		{impl.Box{X1: 32, Y1: 32}, 1024},
		{largestBox(), 160000},
		{impl.Box{X0: 7, Y0: 2, X1: 7, Y1: 9}, 0},
		{impl.Box{X0: 2, Y0: 7, X1: 9, Y1: 7}, 0},
		{impl.Box{X0: 200, Y0: 200, X1: 200, Y1: 200}, 0},
		{impl.Box{X0: -200, Y0: -200, X1: -200, Y1: 200}, 0},
	}
	for _, c := range list {
		if got := impl.CountDots(c.b); got != c.want {
			t.Errorf("CountDots(%v) is %d, want %d", c.b, got, c.want)
		}
	}
	for _, b := range badBoxes() {
		if got := impl.CountDots(b); got != 0 {
			t.Errorf("CountDots(%v) is %d", b, got)
		}
	}
}

func TestCountDotsOfEdges(t *testing.T) {
	eachBox(edgeCoords(), func(b impl.Box) {
		want := 0
		if isBox(b) {
			want = (b.X1 - b.X0) * (b.Y1 - b.Y0)
		}
		if got := impl.CountDots(b); got != want {
			t.Errorf("CountDots(%v) is %d, want %d", b, got, want)
		}
	})
}

func TestInBoxAtTheSides(t *testing.T) {
	list := []impl.Box{
		{X0: 1, Y0: 4, X1: 3, Y1: 9}, {X0: -3, Y0: -7, X1: -1, Y1: 5}, {X0: -1, Y0: -1, X1: 0, Y1: 0},
		{X1: 1, Y1: 1}, {X0: 7, Y0: 2, X1: 7, Y1: 9}, {X0: 2, Y0: 7, X1: 9, Y1: 7}, {X0: 5, Y0: 5, X1: 5, Y1: 5},
		largestBox(), {X0: 200, Y0: 200, X1: 200, Y1: 200}, {X0: -200, Y0: -200, X1: -200, Y1: -200}, {},
	}
	for _, b := range list {
		columns := append(edgeCoords(), b.X0-1, b.X0, b.X0+1, b.X1-2, b.X1-1, b.X1, b.X1+1)
		rows := append(edgeCoords(), b.Y0-1, b.Y0, b.Y0+1, b.Y1-2, b.Y1-1, b.Y1, b.Y1+1)
		for _, x := range columns {
			for _, y := range rows {
				if got := impl.InBox(b, x, y); got != hasDot(b, x, y) {
					t.Errorf("InBox(%v, %d, %d) is %v", b, x, y, got)
				}
			}
		}
	}
}

func TestInBoxCountsAllDots(t *testing.T) {
	dots := 0
	for y := -202; y <= 202; y++ {
		for x := -202; x <= 202; x++ {
			if impl.InBox(largestBox(), x, y) {
				dots++
			}
		}
	}
	if dots != 160000 {
		t.Errorf("the largest box has %d dots", dots)
	}
}

func TestInBoxRejectsInvalidBoxes(t *testing.T) {
	places := append(edgeCoords(), 2, 3, 4, 5, 8)
	for _, b := range badBoxes() {
		for _, x := range places {
			for _, y := range places {
				if impl.InBox(b, x, y) {
					t.Errorf("InBox(%v, %d, %d) is true", b, x, y)
				}
			}
		}
	}
}
