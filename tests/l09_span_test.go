package tests

import (
	"math"
	"slices"
	"testing"

	"loop.example/g00987/impl"
)

func checkRow(t *testing.T, path []impl.Point, y int, want []impl.Span) {
	t.Helper()
	if got := impl.SpansAt(path, y); !slices.Equal(got, want) {
		t.Fatalf("SpansAt(%v, %d) is %v, want %v", path, y, got, want)
	}
}

// checkNoSpans uses rows that the path goes through if its points are within the limits.
func checkNoSpans(t *testing.T, path []impl.Point) {
	t.Helper()
	for _, y := range append(edgeCoords(), 3, 5, 31) {
		checkRow(t, path, y, nil)
	}
}

// checkExact compares the spans of a row with InsidePath, and not with the model.
func checkExact(t *testing.T, path []impl.Point, y int) {
	t.Helper()
	list := impl.SpansAt(path, y)
	for x := -impl.MaxCoord; x <= impl.MaxCoord; x++ {
		if inside := impl.InsidePath(path, x, y); spansHave(list, x) != inside {
			t.Fatalf("SpansAt(%v, %d) is %v, but InsidePath is %v in column %d", path, y, list, inside, x)
		}
	}
	end := -impl.MaxCoord - 1
	for _, s := range list {
		if s.From <= end || s.To <= s.From || s.To > impl.MaxCoord+1 {
			t.Fatalf("SpansAt(%v, %d) is %v: the span %v behind column %d", path, y, list, s, end)
		}
		if impl.InsidePath(path, s.From-1, y) || impl.InsidePath(path, s.To, y) {
			t.Fatalf("SpansAt(%v, %d) is %v: the span %v could be longer", path, y, list, s)
		}
		end = s.To
	}
	if !impl.SpansOk(list) {
		t.Fatalf("SpansAt(%v, %d) is %v, which is not valid", path, y, list)
	}
}

// checkAllWays checks a row of a path that begins at any of its points and has any of both directions.
func checkAllWays(t *testing.T, path []impl.Point, y int, want []impl.Span) {
	t.Helper()
	for first := range max(1, len(path)) {
		turned := beginningAt(path, first)
		checkRow(t, turned, y, want)
		checkRow(t, otherDirection(turned), y, want)
	}
}

func TestSpansOfSimpleShapes(t *testing.T) {
	triangle, notch := points(0, 0, 8, 0, 0, 8), points(0, 0, 8, 0, 8, 9, 6, 9, 6, 2, 2, 2, 2, 9, 0, 9)
	list := []struct {
		path []impl.Point
		y    int
		want []impl.Span
	}{
		// No dots.
		{nil, 0, nil},
		{points(3, 3), 3, nil},
		{points(3, 3), 2, nil},
		{points(1, 1, 5, 5), 3, nil},
		{points(1, 1, 9, 2), 1, nil},
		{points(2, 1, 2, 9), 3, nil},
		{points(5, 5, 5, 5, 5, 5), 5, nil},
		{points(1, 3, 9, 3, 4, 3), 3, nil},
		{points(3, 1, 3, 9, 3, 4), 3, nil},
		{points(1, 1, 5, 5, 9, 9), 6, nil},
		// Above the shape, in its first and its last row, and below it.
		{rectOf(2, 2, 6, 6), 1, nil},
		{rectOf(2, 2, 6, 6), 2, spans(2, 6)},
		{rectOf(2, 2, 6, 6), 5, spans(2, 6)},
		{rectOf(2, 2, 6, 6), 6, nil},
		{rectOf(-5, -3, -1, -2), -4, nil},
		{rectOf(-5, -3, -1, -2), -3, spans(-5, -1)},
		{rectOf(-5, -3, -1, -2), -2, nil},
		{rectOf(4, 4, 5, 5), 4, spans(4, 5)},
		{rectOf(-1, -1, 1, 1), -1, spans(-1, 1)},
		{rectOf(-1, -1, 1, 1), 0, spans(-1, 1)},
		// Sides of no length, points amid the sides, and a side there and back.
		{points(2, 2, 2, 2, 6, 2, 6, 2, 6, 6, 6, 6, 2, 6, 2, 6), 3, spans(2, 6)},
		{points(2, 2, 4, 2, 6, 2, 6, 4, 6, 6, 4, 6, 2, 6, 2, 4), 3, spans(2, 6)},
		{points(2, 2, 6, 2, 6, 5, 20, 5, 6, 5, 6, 6, 2, 6), 4, spans(2, 6)},
		{points(2, 2, 6, 2, 6, 5, 20, 1, 6, 5, 6, 6, 2, 6), 4, spans(2, 6)},
		// A center on a slant belongs to what lies at its right.
		{triangle, -1, nil},
		{triangle, 0, spans(0, 7)},
		{triangle, 2, spans(0, 5)},
		{triangle, 6, spans(0, 1)},
		{triangle, 7, nil},
		{points(8, 0, 8, 8, 0, 8), 0, spans(7, 8)},
		{points(8, 0, 8, 8, 0, 8), 7, spans(0, 8)},
		{points(2, 0, 4, 2, 2, 4, 0, 2), 0, spans(1, 2)},
		{points(2, 0, 4, 2, 2, 4, 0, 2), 1, spans(0, 3)},
		// A slant amid two centers.
		{points(0, 0, 4, 2, 0, 2), 0, spans(0, 1)},
		{points(0, 0, 4, 2, 0, 2), 1, spans(0, 3)},
		// Two parts.
		{notch, 1, spans(0, 8)},
		{notch, 2, spans(0, 2, 6, 8)},
		{notch, 8, spans(0, 2, 6, 8)},
	}
	for _, c := range list {
		checkAllWays(t, c.path, c.y, c.want)
	}
}

func TestSpansOfPathsAcrossThemselves(t *testing.T) {
	bowTie, crossedAtACenter := points(0, 0, 8, 8, 8, 0, 0, 8), points(0, 0, 9, 9, 9, 0, 0, 9)
	zigzag := points(0, 0, 2, 10, 4, 0, 6, 10, 8, 0, 10, 10, 12, 0, 14, 10)
	list := []struct {
		path []impl.Point
		y    int
		want []impl.Span
	}{
		{bowTie, 0, spans(7, 8)},
		{bowTie, 1, spans(0, 1, 6, 8)},
		{bowTie, 3, spans(0, 3, 4, 8)},
		{bowTie, 4, spans(0, 3, 4, 8)},
		{bowTie, 7, spans(7, 8)},
		{crossedAtACenter, 3, spans(0, 3, 5, 9)},
		{crossedAtACenter, 4, spans(0, 9)},
		{crossedAtACenter, 5, spans(0, 3, 5, 9)},
		// All of the eight sides pass the row.
		{zigzag, 4, spans(1, 3, 5, 6, 7, 9, 11, 13)},
		// Twice through a point, and twice along a side.
		{points(5, 5, 9, 5, 9, 9, 5, 5, 1, 5, 1, 1), 3, spans(1, 3)},
		{points(5, 5, 9, 5, 9, 9, 5, 5, 1, 5, 1, 1), 4, spans(1, 4)},
		{points(5, 5, 9, 5, 9, 9, 5, 5, 1, 5, 1, 1), 6, spans(6, 9)},
		{points(2, 2, 6, 2, 6, 6, 2, 2, 0, 9), 3, spans(3, 6)},
		{points(2, 2, 6, 2, 6, 6, 2, 2, -2, 9, -2, 2), 3, spans(-2, 1, 3, 6)},
		{points(0, 0, 4, 0, 4, 4, 8, 4, 8, 0, 4, 0, 4, 4, 0, 4), 2, spans(0, 8)},
		// Around twice, in one direction, in both, and around a part alone.
		{slices.Repeat(rectOf(0, 0, 4, 4), 2), 2, nil},
		{append(rectOf(0, 0, 4, 4), otherDirection(rectOf(0, 0, 4, 4))...), 2, nil},
		{slices.Repeat(points(0, 0, 8, 0, 0, 8), 2), 2, nil},
		{append(rectOf(0, 0, 4, 4), rectOf(0, 0, 2, 2)...), 1, spans(2, 4)},
		{append(rectOf(0, 0, 4, 4), rectOf(0, 0, 2, 2)...), 2, spans(0, 4)},
		{append(rectOf(0, 0, 4, 4), rectOf(0, 0, 4, 2)...), 1, nil},
		{append(rectOf(0, 0, 4, 4), rectOf(0, 0, 4, 2)...), 2, spans(0, 4)},
		// A hole.
		{points(0, 0, 6, 0, 0, 6, 0, 0, 1, 1, 4, 1, 1, 4, 1, 1), 0, spans(0, 5)},
		{points(0, 0, 6, 0, 0, 6, 0, 0, 1, 1, 4, 1, 1, 4, 1, 1), 1, spans(0, 1, 3, 4)},
		{points(0, 0, 6, 0, 0, 6, 0, 0, 1, 1, 4, 1, 1, 4, 1, 1), 2, spans(0, 1, 2, 3)},
		{points(0, 0, 6, 0, 0, 6, 0, 0, 1, 1, 4, 1, 1, 4, 1, 1), 3, spans(0, 2)},
	}
	for _, c := range list {
		checkAllWays(t, c.path, c.y, c.want)
	}
}

// Two sides that pass amid the same two centers leave no dot between them.
func TestSpansThatWouldTouchOrBeEmpty(t *testing.T) {
	gap, spike := points(0, 0, 3, 0, 4, 9, 5, 0, 8, 0, 8, 9, 0, 9), points(3, 9, 4, 0, 5, 9)
	list := []struct {
		path []impl.Point
		y    int
		want []impl.Span
	}{
		{gap, 0, spans(0, 3, 5, 8)},
		{gap, 4, spans(0, 3, 4, 8)},
		{gap, 5, spans(0, 8)},
		{gap, 8, spans(0, 8)},
		{spike, 0, nil},
		{spike, 3, nil},
		{spike, 4, spans(3, 4)},
		{spike, 8, spans(3, 5)},
		{points(3, 0, 3, 9, 4, 9), 0, nil},
		{points(3, 0, 3, 9, 4, 9), 4, nil},
		{points(3, 0, 3, 9, 4, 9), 5, spans(3, 4)},
		{points(4, 0, 4, 9, 3, 9), 3, nil},
		{points(4, 0, 4, 9, 3, 9), 4, spans(3, 4)},
		// Beside another span.
		{points(0, 0, 2, 0, 2, 9, 19, 9, 20, 0, 20, 9, 0, 9), 0, spans(0, 2)},
		{points(0, 0, 2, 0, 2, 9, 19, 9, 20, 0, 20, 9, 0, 9), 8, spans(0, 2, 19, 20)},
		{points(-9, 9, -8, 0, -7, 9, 0, 9, 0, 0, 2, 0, 2, 9), 0, spans(0, 2)},
		// Three sides amid the same two centers, and a fourth one elsewhere.
		{points(4, 0, 5, 9, 4, 0, 3, 9, 9, 9, 9, 0), 2, spans(4, 9)},
		{points(4, 0, 5, 9, 4, 0, 3, 9, 9, 9, 9, 0), 5, spans(3, 9)},
		{points(4, 0, 5, 9, 3, 0, 7, 9), 2, spans(4, 5)},
	}
	for _, c := range list {
		checkAllWays(t, c.path, c.y, c.want)
	}
}

func TestSpansOfManyPaths(t *testing.T) {
	for _, path := range manyPaths() {
		for _, y := range placesAround(path) {
			checkRow(t, path, y, spansOfRow(path, y))
		}
	}
}

// Small paths have most of the sides that go through centers, and the most that meet at one.
func TestSpansOfAllSmallPaths(t *testing.T) {
	for _, c := range []struct{ size, width, count int }{{1, 4, 16}, {2, 4, 256}, {3, 4, 4096}, {4, 3, 6561}} {
		for n := range c.count {
			path := gridPath(n, c.size, c.width)
			for y := -1; y <= 4; y++ {
				want := gathered(-2, 5, func(x int) bool { return isInside(path, x, y) })
				checkRow(t, path, y, want)
			}
		}
	}
}

// Promise 9: the spans of a row contain exactly the dots inside the path.
func TestSpansContainExactlyTheDotsInside(t *testing.T) {
	lists := append(manyPaths(), invalidPaths()...)
	lists = append(lists, points(0, 0, 2, 10, 4, 0, 6, 10, 8, 0, 10, 10, 12, 0, 14, 10), rectOf(-200, -3, 4, 7), rectOf(-4, -7, 200, 3))
	for _, path := range lists {
		for _, y := range append(placesAround(path), -201, 201, math.MinInt, math.MaxInt) {
			checkExact(t, path, y)
		}
	}
	for n := range 4 * 4 * 4 * 4 * 4 * 4 {
		checkExact(t, gridPath(n, 3, 4), 1)
	}
}

func TestSpansOfPathsOfTheMostPoints(t *testing.T) {
	for size := range 20 {
		path := append(rectOf(0, 0, 5, 8), slices.Repeat(points(0, 2), max(0, size-4))...)[:size]
		if size > 8 {
			checkNoSpans(t, path)
		} else if size >= 4 {
			checkRow(t, path, 3, spans(0, 5))
		}
		checkRow(t, path, 3, spansOfRow(path, 3))
	}
}

func TestSpansOfInvalidPaths(t *testing.T) {
	for _, path := range invalidPaths() {
		checkNoSpans(t, path)
	}
	for _, size := range []int{1, 2, 3, 8, 9, 100} {
		for _, n := range edgeCoords() {
			for _, at := range []int{0, size / 2, size - 1} {
				path := slices.Repeat(rectOf(-200, -200, 200, 200), 25)[:size]
				path[at].X = n
				checkRow(t, path, 3, spansOfRow(path, 3))
				path[at] = impl.Point{X: 5, Y: n}
				checkRow(t, path, 3, spansOfRow(path, 3))
			}
		}
	}
}

func TestSpansInColumnsAtTheLimits(t *testing.T) {
	list := []struct {
		path []impl.Point
		y    int
		want []impl.Span
	}{
		{rectOf(-200, -200, 200, 200), 3, spans(-200, 200)},
		{rectOf(-200, 0, -199, 9), 3, spans(-200, -199)},
		{rectOf(199, 0, 200, 9), 3, spans(199, 200)},
		{rectOf(-200, 0, 5, 9), 3, spans(-200, 5)},
		{rectOf(5, 0, 200, 9), 3, spans(5, 200)},
		{rectOf(-199, 0, 199, 9), 3, spans(-199, 199)},
		{rectOf(-200, 0, -200, 9), 3, nil},
		{rectOf(200, 0, 200, 9), 3, nil},
		{rectOf(-201, 0, 5, 9), 3, nil},
		{rectOf(5, 0, 201, 9), 3, nil},
		{points(-200, 7, 200, 8, 200, 7), 7, spans(0, 200)},
		{points(-200, 7, 200, 8, -200, 8), 7, spans(-200, 0)},
		{points(-200, -200, 200, -200, 200, 200), -200, spans(-200, 200)},
		{points(-200, -200, 200, -200, 200, 200), 199, spans(199, 200)},
		{points(-200, -200, 200, 200, -200, 200), -200, nil},
		{points(-200, -200, 200, 200, -200, 200), 199, spans(-200, 199)},
		{points(-200, -200, 200, 200, 200, -200, -200, 200), 0, spans(-200, -1, 0, 200)},
	}
	for _, c := range list {
		checkAllWays(t, c.path, c.y, c.want)
	}
}

func TestSpansInRowsAtTheLimits(t *testing.T) {
	all := rectOf(-200, -200, 200, 200)
	for _, y := range []int{-200, -199, 0, 198, 199} {
		checkRow(t, all, y, spans(-200, 200))
	}
	outside := []int{math.MinInt, math.MinInt + 1, -1<<32 + 3, -202, -201, 200, 201, 1<<32 + 3, 1 << 62, math.MaxInt - 1, math.MaxInt}
	for _, y := range outside {
		for _, path := range append(shapes(), all, points(0, -200, 9, 200, -9, 200)) {
			checkRow(t, path, y, nil)
		}
	}
}

func TestSpansLeaveThePathAlone(t *testing.T) {
	for _, path := range append(manyPaths(), append(invalidPaths(), pathOfSize(9), []impl.Point{})...) {
		for _, spare := range []int{0, 1, 20} {
			room := roomFor(path, spare, impl.Point{X: -77777, Y: 77777})
			before := slices.Clone(room[:cap(room)])
			for _, y := range []int{3, -201} {
				got := impl.SpansAt(room, y)
				if !slices.Equal(room[:cap(room)], before) {
					t.Fatalf("SpansAt(%v, %d) changed the path to %v", before, y, room[:cap(room)])
				}
				if memoryOf("the spans", got).meets(memoryOf("the path", room)) {
					t.Fatalf("SpansAt(%v, %d) shares memory with the path", path, y)
				}
			}
		}
	}
}

func TestSpansStayAsTheyWere(t *testing.T) {
	path := rectOf(2, 2, 6, 6)
	first, second := impl.SpansAt(path, 3), impl.SpansAt(path, 3)
	if memoryOf("the first", first).meets(memoryOf("the second", second)) {
		t.Error("the spans of two calls share memory")
	}
	path[0].X, second[0].From = 99, 99
	if !slices.Equal(first, spans(2, 6)) {
		t.Errorf("the spans became %v", first)
	}
}

func TestSpansAtKeepsNoState(t *testing.T) {
	list := append(shapes(), invalidPaths()...)
	for range 2 {
		for _, path := range list {
			checkRow(t, path, 4, spansOfRow(path, 4))
		}
		slices.Reverse(list)
	}
}
