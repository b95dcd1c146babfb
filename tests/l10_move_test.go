package tests

import (
	"math"
	"math/rand/v2"
	"slices"
	"testing"

	"loop.example/g00987/impl"
)

// checkMove compares with the model.
func checkMove(t *testing.T, o impl.Object, dx, dy int) (impl.Object, bool) {
	t.Helper()
	want, right := movedObject(o, dx, dy)
	got, ok := impl.MoveObject(o, dx, dy)
	if ok != right || !sameObject(got, want) {
		t.Fatalf("MoveObject(%.300v, %d, %d) is %.300v, %v, want %.300v, %v", o, dx, dy, got, ok, want, right)
	}
	return got, ok
}

// someMoves are in each direction, up to the limits and past them.
func someMoves() [][2]int {
	list := [][2]int{{0, 0}, {1, 0}, {-1, 0}, {0, 1}, {0, -1}, {7, -5}, {-20, 11}, {100, 100}, {-100, -100}}
	for _, n := range edgeCoords() {
		list = append(list, [2]int{n, 0}, [2]int{0, n}, [2]int{n, n})
	}
	return list
}

func TestMoveObject(t *testing.T) {
	square := rectOf(2, 2, 6, 6)
	list := []struct {
		o      impl.Object
		dx, dy int
		want   impl.Object
	}{
		{objectOf(square, boxAt(4, 0, 40, 4)), -1, 0, objectOf(rectOf(1, 2, 5, 6), boxAt(3, 0, 39, 4))},
		{objectOf(square, boxAt(4, 0, 40, 4)), 0, 5, objectOf(rectOf(2, 7, 6, 11), boxAt(4, 5, 40, 9))},
		{objectOf(square, pageBox()), -9, -40, objectOf(rectOf(-7, -38, -3, -34), boxAt(-9, -40, 23, -8))},
		{objectOf(square, pageBox()), 0, 0, objectOf(square, pageBox())},
		{objectOf(square, impl.Box{}), 3, 4, objectOf(rectOf(5, 6, 9, 10), boxAt(3, 4, 3, 4))},
		{objectOf(rectOf(-200, -200, 200, 200), largestBox()), 0, 0, objectOf(rectOf(-200, -200, 200, 200), largestBox())},
		{objectOf(rectOf(-200, -200, 0, 0), boxAt(-200, -200, 0, 0)), 200, 200, objectOf(rectOf(0, 0, 200, 200), boxAt(0, 0, 200, 200))},
		{objectOf(rectOf(0, 0, 200, 200), boxAt(0, 0, 200, 200)), -200, -200, objectOf(rectOf(-200, -200, 0, 0), boxAt(-200, -200, 0, 0))},
		{impl.Object{Path: points(3, 4, 5, 6, 7, 1), Gray: 0, Clip: pageBox()}, 1, 2, impl.Object{Path: points(4, 6, 6, 8, 8, 3), Gray: 0, Clip: boxAt(1, 2, 33, 34)}},
		{impl.Object{Path: points(3, 4, 5, 6, 7, 1), Gray: 255, Clip: pageBox()}, 1, 2, impl.Object{Path: points(4, 6, 6, 8, 8, 3), Gray: 255, Clip: boxAt(1, 2, 33, 34)}},
	}
	for _, c := range list {
		if got, ok := impl.MoveObject(c.o, c.dx, c.dy); !ok || !sameObject(got, c.want) {
			t.Errorf("MoveObject(%v, %d, %d) is %v, %v, want %v", c.o, c.dx, c.dy, got, ok, c.want)
		}
		checkMove(t, c.o, c.dx, c.dy)
	}
}

// checkRoom checks that an object has exactly this much room for a move in one direction.
func checkRoom(t *testing.T, o impl.Object, x, y, room int) {
	t.Helper()
	if moved, ok := checkMove(t, o, x*room, y*room); !ok || !impl.ObjectOk(moved) {
		t.Errorf("%v cannot be moved by %d and %d", o, x*room, y*room)
	}
	if got, ok := checkMove(t, o, x*(room+1), y*(room+1)); ok || !sameObject(got, o) {
		t.Errorf("%v is moved by %d and %d, to %v", o, x*(room+1), y*(room+1), got)
	}
}

func TestMovesThatOnlyJustFit(t *testing.T) {
	// The path is closer to the limits than the clip.
	path := objectOf(rectOf(-190, -180, 170, 160), boxAt(2, 3, 5, 7))
	// The clip is closer to them.
	clip := objectOf(rectOf(2, 3, 5, 7), boxAt(-190, -180, 170, 160))
	// The first, a middle and the last point alone.
	first, middle, last := rectOf(2, 3, 5, 7), rectOf(2, 3, 5, 7), rectOf(2, 3, 5, 7)
	first[0], middle[2], last[3] = impl.Point{X: -190, Y: 160}, impl.Point{X: -190, Y: 160}, impl.Point{X: -190, Y: 160}
	for _, o := range []impl.Object{path, clip} {
		checkRoom(t, o, 1, 0, 30)
		checkRoom(t, o, -1, 0, 10)
		checkRoom(t, o, 0, 1, 40)
		checkRoom(t, o, 0, -1, 20)
		checkRoom(t, o, 1, 1, 30)
		checkRoom(t, o, -1, -1, 10)
		checkRoom(t, o, 1, -1, 20)
		checkRoom(t, o, -1, 1, 10)
	}
	for _, list := range [][]impl.Point{first, middle, last} {
		checkRoom(t, objectOf(list, boxAt(2, 3, 5, 7)), -1, 0, 10)
		checkRoom(t, objectOf(list, boxAt(2, 3, 5, 7)), 0, 1, 40)
	}
	// A clip without dots moves too.
	for _, sign := range []int{-1, 1} {
		n := 199 * sign
		o := objectOf(rectOf(-1, -1, 1, 1), boxAt(n, n, n, n))
		checkRoom(t, o, sign, 0, 1)
		checkRoom(t, o, 0, sign, 1)
		checkRoom(t, o, -sign, -sign, 199)
	}
}

func TestMovesAtTheLimits(t *testing.T) {
	low := objectOf(rectOf(-200, -200, -199, -199), boxAt(-200, -200, -199, -199))
	high := objectOf(rectOf(199, 199, 200, 200), boxAt(199, 199, 200, 200))
	square := objectOf(rectOf(2, 2, 6, 6), pageBox())
	for _, c := range []struct {
		o      impl.Object
		dx, dy int
		want   bool
	}{
		{low, 200, 200, true},
		{low, 201, 0, false},
		{low, 0, 201, false},
		{low, 200, 201, false},
		{low, 399, 399, false},
		{high, -200, -200, true},
		{high, -201, 0, false},
		{high, 0, -201, false},
		{high, -200, -201, false},
		{high, -399, -399, false},
		{square, math.MinInt, 0, false},
		{square, 0, math.MinInt, false},
		{square, math.MaxInt, 0, false},
		{square, 0, math.MaxInt, false},
		{square, math.MinInt, math.MaxInt, false},
	} {
		got, ok := checkMove(t, c.o, c.dx, c.dy)
		if ok != c.want || !ok && !sameObject(got, c.o) {
			t.Errorf("MoveObject(%v, %d, %d) is %v, %v", c.o, c.dx, c.dy, got, ok)
		}
	}
	for _, o := range []impl.Object{low, high, square, objectOf(rectOf(-200, -200, 0, 0), impl.Box{}), objectOf(rectOf(0, 0, 200, 200), boxAt(0, 0, 200, 200))} {
		for _, dx := range edgeCoords() {
			for _, dy := range edgeCoords() {
				checkMove(t, o, dx, dy)
			}
		}
	}
}

func TestMovesOfInvalidObjects(t *testing.T) {
	// They would be valid behind the move.
	list := []struct {
		o      impl.Object
		dx, dy int
	}{
		{objectOf(points(201, 2, 6, 2, 6, 6), pageBox()), -1, 0},
		{objectOf(points(2, 2, -201, 2, 6, 6), pageBox()), 1, 0},
		{objectOf(points(2, 2, 6, 2, 6, 201), pageBox()), 0, -1},
		{objectOf(points(2, 2, 6, -201, 6, 6), pageBox()), 0, 1},
		{objectOf(rectOf(2, 2, 6, 6), boxAt(0, 0, 201, 9)), -1, 0},
		{objectOf(rectOf(2, 2, 6, 6), boxAt(-201, 0, 9, 9)), 1, 0},
		{objectOf(rectOf(2, 2, 6, 6), boxAt(0, 0, 9, 201)), 0, -1},
		{objectOf(rectOf(2, 2, 6, 6), boxAt(0, -201, 9, 9)), 0, 1},
		{objectOf(points(math.MinInt, 2, math.MinInt, 3, math.MinInt, 6), boxAt(math.MinInt, 0, math.MinInt, 9)), math.MinInt, 0},
	}
	for _, c := range list {
		if got, ok := checkMove(t, c.o, c.dx, c.dy); ok || !sameObject(got, c.o) {
			t.Errorf("MoveObject(%v, %d, %d) is %v, %v", c.o, c.dx, c.dy, got, ok)
		}
	}
	for _, o := range badObjects() {
		for _, d := range someMoves() {
			if got, ok := checkMove(t, o, d[0], d[1]); ok || !sameObject(got, o) {
				t.Errorf("MoveObject(%v, %d, %d) is %v, %v", o, d[0], d[1], got, ok)
			}
		}
	}
	eachObject(objectOf(rectOf(2, 2, 6, 6), pageBox()), func(o impl.Object) {
		for _, d := range [][2]int{{0, 0}, {1, -1}, {-1, 1}, {200, 0}, {-201, 0}} {
			checkMove(t, o, d[0], d[1])
		}
	})
}

func TestMovesOfManyObjects(t *testing.T) {
	moved := 0
	for _, o := range goodObjects() {
		for _, d := range someMoves() {
			if _, ok := checkMove(t, o, d[0], d[1]); ok {
				moved++
			}
		}
	}
	if moved < 500 {
		t.Errorf("only %d objects are moved", moved)
	}
}

// within says that the second box contains the first one.
func within(a, b impl.Box) bool {
	return a.X0 >= b.X0 && a.Y0 >= b.Y0 && a.X1 <= b.X1 && a.Y1 <= b.Y1
}

// boxAround has no rule for paths of no points, as the functions under test do.
func boxAround(path []impl.Point) impl.Box {
	b := boxAt(path[0].X, path[0].Y, path[0].X, path[0].Y)
	for _, p := range path {
		b = boxAt(min(b.X0, p.X), min(b.Y0, p.Y), max(b.X1, p.X), max(b.Y1, p.Y))
	}
	return b
}

func checkMovedDots(t *testing.T, o, moved impl.Object, dx, dy int) {
	t.Helper()
	for y := range 32 {
		want := impl.ObjectRow(o, y)
		for i := range want {
			want[i].From, want[i].To = want[i].From+dx, want[i].To+dx
		}
		checkRowOf(t, moved, y+dy, want)
	}
	if got := impl.ObjectDots(moved); got != impl.ObjectDots(o) {
		t.Fatalf("%v, moved by %d and %d, paints %d dots, before it %d", o, dx, dy, got, impl.ObjectDots(o))
	}
}

func TestMovedObjectsPaintTheMovedDots(t *testing.T) {
	r := rand.New(rand.NewPCG(10, 2))
	uncut, clipped := 0, 0
	list := goodObjects()
	for n := 0; n < 4*4*4*4*4*4; n += 5 {
		list = append(list, objectOf(impl.ShiftPath(gridPath(n, 3, 4), 8, 12), boxAt(-3, -3, 35, 35)))
	}
	for _, o := range list {
		for _, d := range [][2]int{{0, 0}, {1, 0}, {0, -1}, {-1, 1}, {r.IntN(9) - 4, r.IntN(9) - 4}, {r.IntN(41) - 20, r.IntN(41) - 20}} {
			moved, ok := impl.MoveObject(o, d[0], d[1])
			if !ok {
				continue
			}
			switch around := boxAround(o.Path); {
			// Neither the clip nor the page cuts anything away, before and behind the move.
			case within(around, o.Clip) && within(around, pageBox()) && within(boxAround(moved.Path), pageBox()):
				uncut++
				checkMovedDots(t, o, moved, d[0], d[1])
			// The clip cuts the same away, as it moves too.
			case within(o.Clip, pageBox()) && within(moved.Clip, pageBox()):
				clipped++
				checkMovedDots(t, o, moved, d[0], d[1])
			}
		}
	}
	if uncut < 1000 || clipped < 500 {
		t.Errorf("%d objects are moved and not cut, %d are cut by their clips", uncut, clipped)
	}
}

// Out of the page and back again nothing is lost, as an object is not cut where it is.
func TestMovedObjectsComeBack(t *testing.T) {
	for _, o := range goodObjects() {
		for _, d := range someMoves() {
			moved, ok := impl.MoveObject(o, d[0], d[1])
			if !ok {
				continue
			}
			if back, ok := impl.MoveObject(moved, -d[0], -d[1]); !ok || !sameObject(back, o) {
				t.Fatalf("%v, moved by %d and %d and back, is %v, %v", o, d[0], d[1], back, ok)
			}
		}
	}
}

// objectCalls calls each function of the chapter and returns the memory of the results.
func objectCalls(o impl.Object, y, dx, dy int) []memory {
	impl.ObjectOk(o)
	impl.ObjectBox(o)
	impl.ObjectDots(o)
	row := impl.ObjectRow(o, y)
	moved, _ := impl.MoveObject(o, dx, dy)
	return []memory{memoryOf("the row", row), memoryOf("the moved path", moved.Path)}
}

func TestObjectsAreLeftAlone(t *testing.T) {
	objects := append(goodObjects(), badObjects()...)
	objects = append(objects, impl.Object{Path: []impl.Point{}}, objectOf(pathOfSize(20), pageBox()))
	for _, o := range objects {
		for _, spare := range []int{0, 1, 20} {
			// Not at all, a little, as far as only some of the objects can, and too far.
			for _, d := range [][2]int{{0, 0}, {3, -2}, {200, 200}, {-201, 0}} {
				room := objectWithRoom(o, spare)
				full := room.Path[:cap(room.Path)]
				before := slices.Clone(full)
				for _, got := range objectCalls(room, 4, d[0], d[1]) {
					if got.meets(memoryOf("the path", room.Path)) {
						t.Fatalf("%s of %.300v, moved by %v, shares memory with the object", got.what, o, d)
					}
				}
				if !slices.Equal(full, before) || len(room.Path) != len(o.Path) || !sameObject(room, o) {
					t.Fatalf("the calls with %.300v, moved by %v, changed it to %.300v", before, d, full)
				}
			}
		}
	}
}

func TestMovedObjectsStayAsTheyWere(t *testing.T) {
	// They are moved by nothing, moved, and not moved for a bad move and a bad object.
	for _, c := range []struct{ gray, dx, dy int }{{9, 0, 0}, {9, 1, 2}, {9, 201, 0}, {9, 0, 199}, {256, 0, 0}, {256, 1, 2}} {
		o := impl.Object{Path: rectOf(2, 2, 6, 6), Gray: c.gray, Clip: pageBox()}
		want, _ := movedObject(objectWithRoom(o, 0), c.dx, c.dy)
		first, _ := impl.MoveObject(o, c.dx, c.dy)
		second, _ := impl.MoveObject(o, c.dx, c.dy)
		if memoryOf("the first", first.Path).meets(memoryOf("the second", second.Path)) {
			t.Errorf("two objects moved by %d and %d share memory", c.dx, c.dy)
		}
		o.Path[0].X, second.Path[1].Y = 99, 99
		if !sameObject(first, want) {
			t.Errorf("moved by %d and %d: %v, want %v", c.dx, c.dy, first, want)
		}
		first.Path[2].X = 77
		if o.Path[2].X == 77 || second.Path[2].X == 77 {
			t.Errorf("moved by %d and %d: a change of the result is a change elsewhere", c.dx, c.dy)
		}
	}
}

func TestObjectRowsStayAsTheyWere(t *testing.T) {
	o := objectOf(twoLegs(), boxAt(1, 0, 9, 9))
	first, second := impl.ObjectRow(o, 5), impl.ObjectRow(o, 5)
	if memoryOf("the first", first).meets(memoryOf("the second", second)) {
		t.Error("the rows of two calls share memory")
	}
	o.Path[0].X, second[0].From = 99, 99
	if !slices.Equal(first, spans(1, 2, 6, 8)) {
		t.Errorf("the row became %v", first)
	}
}

func TestObjectsKeepNoState(t *testing.T) {
	list := append(badObjects(), objectOf(rectOf(2, 2, 6, 6), pageBox()), objectOf(twoLegs(), boxAt(1, 0, 7, 32)), objectOf(rectOf(-9, -9, 9, 9), boxAt(-5, -5, 5, 5)))
	for range 2 {
		for _, o := range list {
			checkObject(t, o)
			checkMove(t, o, 1, 2)
		}
		slices.Reverse(list)
	}
}
