package tests

import (
	"math"
	"slices"
	"testing"

	"loop.example/g00987/impl"
)

// checkRowOf is checkRow for what an object paints.
func checkRowOf(t *testing.T, o impl.Object, y int, want []impl.Span) {
	t.Helper()
	if got := impl.ObjectRow(o, y); !slices.Equal(got, want) {
		t.Fatalf("ObjectRow(%v, %d) is %v, want %v", o, y, got, want)
	}
}

// checkObject compares what is known of an object with the model.
func checkObject(t *testing.T, o impl.Object) {
	t.Helper()
	if got := impl.ObjectOk(o); got != isObject(o) {
		t.Fatalf("ObjectOk(%v) is %v", o, got)
	}
	if got := impl.ObjectBox(o); got != paintedBox(o) {
		t.Fatalf("ObjectBox(%v) is %v, want %v", o, got, paintedBox(o))
	}
	if got := impl.ObjectDots(o); got != paintedDots(o) {
		t.Fatalf("ObjectDots(%v) is %d, want %d", o, got, paintedDots(o))
	}
	for _, y := range rowsAround(o) {
		checkRowOf(t, o, y, paintedRow(o, y))
	}
}

// checkPaintsNothing checks an object that is not valid, or whose box has no dots.
func checkPaintsNothing(t *testing.T, o impl.Object) {
	t.Helper()
	if box := impl.ObjectBox(o); box != (impl.Box{}) {
		t.Fatalf("%v has the box %v", o, box)
	}
	checkNoDots(t, o)
}

func checkNoDots(t *testing.T, o impl.Object) {
	t.Helper()
	if dots := impl.ObjectDots(o); dots != 0 {
		t.Fatalf("%v has %d dots", o, dots)
	}
	for y := -205; y <= 205; y++ {
		checkRowOf(t, o, y, nil)
	}
	for _, y := range edgeCoords() {
		checkRowOf(t, o, y, nil)
	}
}

// checkPaintedDots compares an object with InsidePath, and not with the model.
func checkPaintedDots(t *testing.T, o impl.Object) {
	t.Helper()
	dots := 0
	for y := -40; y <= 72; y++ {
		row := impl.ObjectRow(o, y)
		if !isSpans(row) {
			t.Fatalf("ObjectRow(%v, %d) is %v, which is not valid", o, y, row)
		}
		for _, s := range row {
			dots += s.To - s.From
		}
		for x := -40; x <= 72; x++ {
			onPage := x >= 0 && x < 32 && y >= 0 && y < 32
			want := onPage && hasDot(o.Clip, x, y) && impl.InsidePath(o.Path, x, y)
			if spansHave(row, x) != want {
				t.Fatalf("ObjectRow(%v, %d) is %v: the dot in column %d should be %v", o, y, row, x, want)
			}
		}
		if len(row) > 0 && (row[0].From < 0 || row[len(row)-1].To > 32) {
			t.Fatalf("ObjectRow(%v, %d) is %v, which leaves the page", o, y, row)
		}
	}
	if got := impl.ObjectDots(o); got != dots {
		t.Fatalf("ObjectDots(%v) is %d, but its rows have %d", o, got, dots)
	}
}

// Promise 10: an object paints the dots that are inside its path, its clip and the page.
func TestObjectsPaintTheDotsInPathClipAndPage(t *testing.T) {
	for _, o := range append(goodObjects(), badObjects()...) {
		if isObject(o) != impl.ObjectOk(o) {
			t.Fatalf("ObjectOk(%v) is %v", o, impl.ObjectOk(o))
		}
		if isObject(o) {
			checkPaintedDots(t, o)
		} else {
			checkPaintsNothing(t, o)
		}
	}
	for n := 0; n < 4*4*4*4*4*4; n += 7 {
		path := impl.ShiftPath(gridPath(n, 3, 4), -1+n%3*16, -2+n%2*16)
		checkPaintedDots(t, objectOf(path, boxAt(0, 0, 17, 33)))
	}
}

func TestObjectsOfManyPathsAndClips(t *testing.T) {
	for _, o := range goodObjects() {
		checkObject(t, o)
	}
}

func TestObjectOk(t *testing.T) {
	counts := map[bool]int{}
	for _, base := range []impl.Object{objectOf(rectOf(2, 2, 6, 6), pageBox()), {Path: pathOfSize(8), Gray: 255, Clip: largestBox()}, {Path: pathOfSize(3)}} {
		eachObject(base, func(o impl.Object) {
			got := impl.ObjectOk(o)
			if got != isObject(o) {
				t.Fatalf("ObjectOk(%.300v) is %v", o, got)
			}
			counts[got]++
		})
	}
	if counts[true] < 100 || counts[false] < 100 {
		t.Errorf("%d are valid, %d are not", counts[true], counts[false])
	}
}

func TestObjectOkAtTheLimits(t *testing.T) {
	list := []struct {
		change func(o *impl.Object)
		want   bool
	}{
		{func(o *impl.Object) {}, true},
		{func(o *impl.Object) { o.Path = nil }, false},
		{func(o *impl.Object) { o.Path = o.Path[:2] }, false},
		{func(o *impl.Object) { o.Path = o.Path[:3] }, true},
		{func(o *impl.Object) { o.Path = pathOfSize(8) }, true},
		{func(o *impl.Object) { o.Path = pathOfSize(9) }, false},
		{func(o *impl.Object) { o.Path = make([]impl.Point, 3) }, true},
		{func(o *impl.Object) { o.Path[0].X = 200 }, true},
		{func(o *impl.Object) { o.Path[0].X = 201 }, false},
		{func(o *impl.Object) { o.Path[1].Y = -200 }, true},
		{func(o *impl.Object) { o.Path[1].Y = -201 }, false},
		{func(o *impl.Object) { o.Path[3].X = -201 }, false},
		{func(o *impl.Object) { o.Path[3].Y = math.MaxInt }, false},
		{func(o *impl.Object) { o.Path[2].X = math.MinInt }, false},
		{func(o *impl.Object) { o.Gray = -1 }, false},
		{func(o *impl.Object) { o.Gray = 0 }, true},
		{func(o *impl.Object) { o.Gray = 255 }, true},
		{func(o *impl.Object) { o.Gray = 256 }, false},
		{func(o *impl.Object) { o.Gray = math.MinInt }, false},
		{func(o *impl.Object) { o.Gray = math.MaxInt }, false},
		{func(o *impl.Object) { o.Clip = impl.Box{} }, true},
		{func(o *impl.Object) { o.Clip = largestBox() }, true},
		{func(o *impl.Object) { o.Clip = boxAt(40, 40, 45, 45) }, true},
		{func(o *impl.Object) { o.Clip = boxAt(7, 7, 7, 7) }, true},
		{func(o *impl.Object) { o.Clip.X1 = 201 }, false},
		{func(o *impl.Object) { o.Clip.Y0 = -201 }, false},
		{func(o *impl.Object) { o.Clip = boxAt(7, 0, 6, 9) }, false},
		{func(o *impl.Object) { o.Clip = boxAt(0, 7, 9, 6) }, false},
	}
	for i, c := range list {
		o := objectOf(rectOf(2, 2, 6, 6), pageBox())
		c.change(&o)
		if got := impl.ObjectOk(o); got != c.want {
			t.Errorf("%d: ObjectOk(%v) is %v", i, o, got)
		}
		if !c.want {
			checkPaintsNothing(t, o)
		}
	}
}

func TestInvalidObjectsPaintNothing(t *testing.T) {
	for _, o := range badObjects() {
		if impl.ObjectOk(o) {
			t.Errorf("ObjectOk(%v) is true", o)
		}
		checkPaintsNothing(t, o)
	}
	eachObject(objectOf(rectOf(-200, -200, 200, 200), pageBox()), func(o impl.Object) {
		if !isObject(o) {
			checkPaintsNothing(t, o)
		}
	})
}

func TestClipsOutsideOfThePagePaintNothing(t *testing.T) {
	for _, clip := range outsideClips() {
		for _, path := range [][]impl.Point{rectOf(-200, -200, 200, 200), rectOf(0, 0, 32, 32), rectOf(-9, -9, 45, 45), points(-200, -200, 200, -200, 200, 200)} {
			o := objectOf(path, clip)
			if !impl.ObjectOk(o) {
				t.Errorf("ObjectOk(%v) is false", o)
			}
			checkPaintsNothing(t, o)
		}
	}
}

func TestPathsOutsideOfThePageOrTheClipPaintNothing(t *testing.T) {
	// Outside of the page, on each side, touching it, and as far as they can be.
	for _, path := range [][]impl.Point{
		rectOf(-9, 4, -3, 11), rectOf(40, 4, 45, 11), rectOf(4, -9, 11, -3), rectOf(4, 40, 11, 45),
		rectOf(-9, 4, 0, 11), rectOf(32, 4, 41, 11), rectOf(4, -9, 11, 0), rectOf(4, 32, 11, 41),
		rectOf(-200, -200, -190, -190), rectOf(190, 190, 200, 200), points(-200, -200, 0, 0, -200, 200), points(32, 16, 200, -200, 200, 200),
	} {
		for _, clip := range goodClips() {
			checkPaintsNothing(t, objectOf(path, clip))
		}
	}
	// Outside of the clip, apart from it and touching it.
	for _, clip := range []impl.Box{boxAt(20, 4, 25, 11), boxAt(16, 4, 25, 11), boxAt(4, 4, 8, 16), boxAt(8, 16, 16, 25), boxAt(8, 4, 16, 8), boxAt(16, 16, 20, 20)} {
		checkPaintsNothing(t, objectOf(points(8, 8, 16, 8, 8, 16), clip))
	}
	// Outside of the clip, although the box of the path is not.
	checkNoDots(t, objectOf(points(8, 8, 16, 8, 8, 16), boxAt(14, 14, 16, 16)))
	checkNoDots(t, objectOf(points(-9, -9, 3, -9, -9, 3), largestBox()))
	// Without dots.
	for _, path := range [][]impl.Point{points(5, 5, 5, 5, 5, 5), points(1, 3, 9, 3, 4, 3), points(3, 1, 3, 9, 3, 4), points(1, 1, 5, 5, 9, 9), slices.Repeat(rectOf(2, 2, 8, 8), 2)} {
		checkNoDots(t, objectOf(path, pageBox()))
	}
}

func TestObjectBox(t *testing.T) {
	square := rectOf(2, 2, 6, 6)
	list := []struct {
		o    impl.Object
		want impl.Box
	}{
		{objectOf(square, pageBox()), boxAt(2, 2, 6, 6)},
		{objectOf(square, largestBox()), boxAt(2, 2, 6, 6)},
		{objectOf(square, boxAt(4, 0, 40, 4)), boxAt(4, 2, 6, 4)},
		{objectOf(square, boxAt(3, 3, 5, 5)), boxAt(3, 3, 5, 5)},
		{objectOf(square, boxAt(-9, -9, 3, 5)), boxAt(2, 2, 3, 5)},
		{objectOf(square, boxAt(5, 5, 6, 6)), boxAt(5, 5, 6, 6)},
		{objectOf(square, boxAt(6, 2, 9, 6)), impl.Box{}},
		{objectOf(square, boxAt(2, 6, 6, 9)), impl.Box{}},
		{objectOf(square, boxAt(0, 2, 2, 6)), impl.Box{}},
		{objectOf(square, boxAt(2, 0, 6, 2)), impl.Box{}},
		{objectOf(square, boxAt(3, 3, 3, 9)), impl.Box{}},
		{objectOf(square, impl.Box{}), impl.Box{}},
		// The box of the path, in which it paints only some dots, or none.
		{objectOf(points(2, 9, 7, 1, 5, 6), pageBox()), boxAt(2, 1, 7, 9)},
		{objectOf(points(9, 2, 1, 7, 6, 5), boxAt(2, 3, 8, 6)), boxAt(2, 3, 8, 6)},
		{objectOf(points(8, 8, 16, 8, 8, 16), boxAt(14, 14, 16, 16)), boxAt(14, 14, 16, 16)},
		{objectOf(slices.Repeat(square, 2), pageBox()), boxAt(2, 2, 6, 6)},
		{objectOf(points(1, 1, 9, 9, 5, 5), pageBox()), boxAt(1, 1, 9, 9)},
		{objectOf(points(5, 1, 5, 9, 5, 3), pageBox()), impl.Box{}},
		{objectOf(points(1, 5, 9, 5, 3, 5), pageBox()), impl.Box{}},
		// Across the edges of the page.
		{objectOf(rectOf(-200, -200, 200, 200), largestBox()), pageBox()},
		{objectOf(rectOf(-9, 4, 5, 11), largestBox()), boxAt(0, 4, 5, 11)},
		{objectOf(rectOf(27, 4, 41, 11), largestBox()), boxAt(27, 4, 32, 11)},
		{objectOf(rectOf(4, -9, 11, 5), largestBox()), boxAt(4, 0, 11, 5)},
		{objectOf(rectOf(4, 27, 11, 41), largestBox()), boxAt(4, 27, 11, 32)},
		{objectOf(rectOf(-9, -9, 45, 45), boxAt(-3, -3, 7, 40)), boxAt(0, 0, 7, 32)},
		{objectOf(rectOf(-9, -9, 0, 45), largestBox()), impl.Box{}},
		{objectOf(rectOf(32, 32, 45, 45), largestBox()), impl.Box{}},
		{objectOf(rectOf(40, 40, 45, 45), boxAt(40, 40, 45, 45)), impl.Box{}},
		{objectOf(rectOf(40, 40, 45, 45), pageBox()), impl.Box{}},
		{objectOf(rectOf(31, 31, 200, 200), largestBox()), boxAt(31, 31, 32, 32)},
		{objectOf(rectOf(-200, -200, 1, 1), largestBox()), boxAt(0, 0, 1, 1)},
		// Not valid.
		{objectOf(square[:2], pageBox()), impl.Box{}},
		{objectOf(pathOfSize(9), pageBox()), impl.Box{}},
		{impl.Object{Path: square, Gray: 256, Clip: pageBox()}, impl.Box{}},
		{impl.Object{}, impl.Box{}},
	}
	for _, c := range list {
		if got := impl.ObjectBox(c.o); got != c.want {
			t.Errorf("ObjectBox(%v) is %v, want %v", c.o, got, c.want)
		}
	}
}

func TestObjectBoxIsWhereTheBoxesMeet(t *testing.T) {
	for _, o := range append(goodObjects(), badObjects()...) {
		want := impl.Box{}
		if impl.ObjectOk(o) {
			want = impl.MeetBox(impl.MeetBox(impl.BoxOf(o.Path), o.Clip), pageBox())
		}
		if got := impl.ObjectBox(o); got != want {
			t.Fatalf("ObjectBox(%v) is %v, want %v", o, got, want)
		}
	}
}

// twoLegs has two spans in the rows from 2 to 8, from 0 to 2 and from 6 to 8, and one in those above.
func twoLegs() []impl.Point {
	return points(0, 0, 8, 0, 8, 9, 6, 9, 6, 2, 2, 2, 2, 9, 0, 9)
}

func TestObjectRowCutsSpans(t *testing.T) {
	list := []struct {
		clip impl.Box
		y    int
		want []impl.Span
	}{
		{pageBox(), 1, spans(0, 8)},
		{pageBox(), 5, spans(0, 2, 6, 8)},
		{largestBox(), 5, spans(0, 2, 6, 8)},
		// Cut on one side, on both and on neither.
		{boxAt(1, 0, 32, 32), 5, spans(1, 2, 6, 8)},
		{boxAt(0, 0, 7, 32), 5, spans(0, 2, 6, 7)},
		{boxAt(1, 0, 7, 32), 5, spans(1, 2, 6, 7)},
		{boxAt(1, 0, 7, 32), 1, spans(1, 7)},
		{boxAt(3, 0, 4, 32), 1, spans(3, 4)},
		{boxAt(7, 0, 8, 32), 5, spans(7, 8)},
		// Cut away.
		{boxAt(2, 0, 32, 32), 5, spans(6, 8)},
		{boxAt(5, 0, 32, 32), 5, spans(6, 8)},
		{boxAt(6, 0, 32, 32), 5, spans(6, 8)},
		{boxAt(0, 0, 6, 32), 5, spans(0, 2)},
		{boxAt(0, 0, 2, 32), 5, spans(0, 2)},
		{boxAt(2, 0, 6, 32), 5, nil},
		{boxAt(2, 0, 6, 32), 1, spans(2, 6)},
		{boxAt(3, 0, 4, 32), 5, nil},
		// The first and the last row of the clip.
		{boxAt(0, 3, 32, 6), 2, nil},
		{boxAt(0, 3, 32, 6), 3, spans(0, 2, 6, 8)},
		{boxAt(0, 3, 32, 6), 5, spans(0, 2, 6, 8)},
		{boxAt(0, 3, 32, 6), 6, nil},
		// The first and the last row of the path.
		{largestBox(), -1, nil},
		{largestBox(), 0, spans(0, 8)},
		{largestBox(), 8, spans(0, 2, 6, 8)},
		{largestBox(), 9, nil},
		{largestBox(), math.MinInt, nil},
		{largestBox(), math.MaxInt, nil},
		{impl.Box{}, 0, nil},
		{impl.Box{}, 5, nil},
	}
	for _, c := range list {
		checkRowOf(t, objectOf(twoLegs(), c.clip), c.y, c.want)
	}
}

func TestObjectRowAtTheEdgesOfThePage(t *testing.T) {
	list := []struct {
		dx, dy int
		y      int
		want   []impl.Span
	}{
		{-1, 0, 5, spans(0, 1, 5, 7)},
		{-2, 0, 5, spans(4, 6)},
		{-2, 0, 1, spans(0, 6)},
		{-7, 0, 5, spans(0, 1)},
		{-8, 0, 5, nil},
		{25, 0, 5, spans(25, 27, 31, 32)},
		{26, 0, 5, spans(26, 28)},
		{26, 0, 1, spans(26, 32)},
		{31, 0, 5, spans(31, 32)},
		{32, 0, 5, nil},
		{0, -1, -1, nil},
		{0, -1, 0, spans(0, 8)},
		{0, -1, 1, spans(0, 2, 6, 8)},
		{0, -8, -1, nil},
		{0, -8, 0, spans(0, 2, 6, 8)},
		{0, -8, 1, nil},
		{0, -9, -1, nil},
		{0, -9, 0, nil},
		{0, 31, 30, nil},
		{0, 31, 31, spans(0, 8)},
		{0, 31, 32, nil},
		{0, 32, 31, nil},
		{0, 32, 32, nil},
		{25, 24, 31, spans(25, 27, 31, 32)},
		{-2, -8, 0, spans(4, 6)},
	}
	for _, c := range list {
		checkRowOf(t, objectOf(shiftedPath(twoLegs(), c.dx, c.dy), largestBox()), c.y, c.want)
	}
}

func TestObjectRowAroundItsBox(t *testing.T) {
	edge := 0
	for _, o := range goodObjects() {
		b := impl.ObjectBox(o)
		if b == (impl.Box{}) {
			continue
		}
		for _, y := range []int{b.Y0, b.Y1 - 1} {
			want := impl.MeetSpans(impl.SpansAt(o.Path, y), b.X0, b.X1)
			checkRowOf(t, o, y, want)
			edge += len(want)
		}
		checkRowOf(t, o, b.Y0-1, nil)
		checkRowOf(t, o, b.Y1, nil)
	}
	if edge < 500 {
		t.Errorf("only %d spans are in the first and last rows", edge)
	}
}

func TestObjectDots(t *testing.T) {
	square := rectOf(2, 2, 8, 8)
	list := []struct {
		o    impl.Object
		want int
	}{
		{objectOf(square, pageBox()), 36},
		{objectOf(square, boxAt(4, 0, 40, 4)), 8},
		{objectOf(otherDirection(square), boxAt(7, 7, 9, 9)), 1},
		{objectOf(rectOf(-200, -200, 200, 200), largestBox()), 1024},
		{objectOf(rectOf(-200, -200, 200, 200), boxAt(-5, 3, 4, 9)), 24},
		{objectOf(rectOf(30, 30, 40, 40), largestBox()), 4},
		{objectOf(rectOf(-9, -9, 1, 1), largestBox()), 1},
		{objectOf(twoLegs(), pageBox()), 44},
		{objectOf(points(0, 0, 8, 0, 0, 8), pageBox()), 28},
		{objectOf(points(0, 0, 8, 0, 0, 8), boxAt(0, 0, 4, 4)), 16},
		{objectOf(points(0, 0, 8, 0, 0, 8), boxAt(4, 4, 8, 8)), 0},
		{objectOf(points(-4, -4, 4, -4, -4, 4), largestBox()), 0},
		{objectOf(points(-4, -4, 8, -4, -4, 8), largestBox()), 6},
		// Across itself, twice through a point and twice around.
		{objectOf(points(0, 0, 4, 4, 4, 0, 0, 4), pageBox()), 8},
		{objectOf(points(2, 2, 4, 2, 4, 4, 2, 2, 0, 2, 0, 0), pageBox()), 4},
		{objectOf(slices.Repeat(square, 2), pageBox()), 0},
		{objectOf(append(rectOf(0, 0, 4, 4), rectOf(0, 0, 2, 2)...), pageBox()), 12},
		{objectOf(append(rectOf(0, 0, 4, 4), rectOf(0, 0, 2, 2)...), boxAt(1, 1, 4, 4)), 8},
		{impl.Object{Path: square, Gray: 0, Clip: pageBox()}, 36},
		{impl.Object{Path: square, Gray: 255, Clip: pageBox()}, 36},
		{impl.Object{Path: square, Gray: 256, Clip: pageBox()}, 0},
		{objectOf(square[:2], pageBox()), 0},
		{objectOf(square, boxAt(9, 0, 1, 32)), 0},
	}
	for _, c := range list {
		if got := impl.ObjectDots(c.o); got != c.want {
			t.Errorf("ObjectDots(%v) is %d, want %d", c.o, got, c.want)
		}
	}
}

func TestObjectDotsIsCountInsideOnTheWholePage(t *testing.T) {
	for _, path := range manyPaths() {
		o := objectOf(path, largestBox())
		if impl.ObjectOk(o) && impl.ObjectDots(o) != impl.CountInside(path) {
			t.Errorf("ObjectDots(%v) is %d, but %d are inside", o, impl.ObjectDots(o), impl.CountInside(path))
		}
	}
}

func TestObjectsOfTheMostPoints(t *testing.T) {
	for size := range 20 {
		path := append(rectOf(0, 0, 5, 8), slices.Repeat(points(0, 2), max(0, size-4))...)[:size]
		o := objectOf(path, boxAt(2, 2, 40, 40))
		if size < 3 || size > 8 {
			checkPaintsNothing(t, o)
		} else if size >= 4 {
			checkRowOf(t, o, 3, spans(2, 5))
		}
		checkObject(t, o)
	}
}

func TestObjectsOfARunPaint(t *testing.T) {
	page, _ := impl.RunPage(blockTokens("4 5 20 20 rect clip 9 gray 1 2 shift 0 0 9 9 rect fill 1 turn 200 gray 0 0 9 9 rect fill"))
	if len(page.Objects) != 2 || impl.ObjectDots(page.Objects[0]) != 36 || impl.ObjectDots(page.Objects[1]) != 0 {
		t.Errorf("the objects are %v", page.Objects)
	}
	checkRowOf(t, page.Objects[0], 5, spans(4, 10))
}
