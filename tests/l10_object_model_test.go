package tests

import (
	"math"
	"math/rand/v2"
	"slices"
	"testing"

	"loop.example/g00987/impl"
)

func boxAt(x0, y0, x1, y1 int) impl.Box {
	return impl.Box{X0: x0, Y0: y0, X1: x1, Y1: y1}
}

func objectOf(path []impl.Point, clip impl.Box) impl.Object {
	return impl.Object{Path: path, Gray: 9, Clip: clip}
}

// isPainted says whether an object paints a dot without the functions under test.
func isPainted(o impl.Object, x, y int) bool {
	return isObject(o) && hasDot(pageBox(), x, y) && hasDot(o.Clip, x, y) && isInside(o.Path, x, y)
}

func paintedRow(o impl.Object, y int) []impl.Span {
	if y < 0 || y > 31 {
		return nil
	}
	return gathered(0, 31, func(x int) bool { return isPainted(o, x, y) })
}

// paintedBox says what ObjectBox returns without the functions under test.
func paintedBox(o impl.Object) impl.Box {
	if !isObject(o) {
		return impl.Box{}
	}
	b := clippedTo(o.Clip, o.Path)
	return clippedTo(pageBox(), points(b.X0, b.Y0, b.X1, b.Y1))
}

func paintedDots(o impl.Object) int {
	dots := 0
	for n := range 32 * 32 {
		if isPainted(o, n%32, n/32) {
			dots++
		}
	}
	return dots
}

// movedObject says what MoveObject returns without the functions under test.
func movedObject(o impl.Object, dx, dy int) (impl.Object, bool) {
	clip := boxAt(o.Clip.X0+dx, o.Clip.Y0+dy, o.Clip.X1+dx, o.Clip.Y1+dy)
	moved := impl.Object{Path: shiftedPath(o.Path, dx, dy), Gray: o.Gray, Clip: clip}
	if !isObject(o) || !isObject(moved) {
		return o, false
	}
	return moved, true
}

// rowsAround are rows above, on and below the first and the last row that an object can paint, and rows at the limits.
func rowsAround(o impl.Object) []int {
	b := paintedBox(o)
	return append(edgeCoords(), -2, 2, 16, 30, 31, 32, 33, b.Y0-1, b.Y0, b.Y0+1, b.Y1-2, b.Y1-1, b.Y1, b.Y1+1, 1<<32+3, -1<<32+3)
}

// outsideClips are valid and have no dot of the page.
func outsideClips() []impl.Box {
	return []impl.Box{
		// Apart from the page, on each side, at each corner and as far as a box can be.
		boxAt(-9, 4, -3, 11), boxAt(40, 4, 45, 11), boxAt(4, -9, 11, -3), boxAt(4, 40, 11, 45), boxAt(-9, -9, -3, -3), boxAt(40, 40, 45, 45),
		boxAt(-9, 40, -3, 45), boxAt(40, -9, 45, -3), boxAt(-200, -200, -199, -199), boxAt(199, 199, 200, 200), boxAt(-200, -200, -1, 200), boxAt(33, -200, 200, 200),
		// Touching its edges from the outside, and its corners.
		boxAt(-9, 4, 0, 11), boxAt(32, 4, 41, 11), boxAt(4, -9, 11, 0), boxAt(4, 32, 11, 41), boxAt(-9, -9, 0, 0), boxAt(32, 32, 41, 41), boxAt(32, -9, 41, 0), boxAt(-9, 32, 0, 41),
		boxAt(-200, -200, 0, 200), boxAt(32, -200, 200, 200), boxAt(-200, -200, 200, 0), boxAt(-200, 32, 200, 200),
		// Without dots.
		{}, boxAt(5, 5, 5, 5), boxAt(5, 2, 5, 9), boxAt(2, 5, 9, 5), boxAt(0, 0, 0, 32), boxAt(0, 32, 32, 32), boxAt(-200, 7, 200, 7), boxAt(200, 200, 200, 200), boxAt(-200, -200, -200, -200),
	}
}

// partClips have some of the dots of the page, or all.
func partClips() []impl.Box {
	return []impl.Box{
		pageBox(), largestBox(), boxAt(-1, -1, 33, 33), boxAt(0, 0, 200, 200), boxAt(-200, -200, 32, 32), // contain the page
		boxAt(4, 5, 9, 11), boxAt(0, 0, 1, 1), boxAt(31, 31, 32, 32), boxAt(0, 7, 32, 8), boxAt(7, 0, 8, 32), // inside of it
		boxAt(-9, 4, 5, 11), boxAt(27, 4, 41, 11), boxAt(4, -9, 11, 5), boxAt(4, 27, 11, 41), // partly outside, on each side
		boxAt(-9, -9, 5, 5), boxAt(27, 27, 41, 41), boxAt(27, -9, 41, 5), boxAt(-9, 27, 5, 41), // at each corner
		boxAt(-200, -200, 1, 1), boxAt(31, 31, 200, 200), boxAt(-200, 3, 200, 6), boxAt(3, -200, 6, 200),
	}
}

func goodClips() []impl.Box {
	return append(partClips(), outsideClips()...)
}

// badObjects are not valid, each for one reason, and the last ones for several. Without it most of them would paint the page.
func badObjects() []impl.Object {
	full := rectOf(0, 0, 32, 32)
	var list []impl.Object
	for _, path := range append(invalidPaths(), nil, full[:1], full[:2], pathOfSize(2), pathOfSize(9)) {
		list = append(list, objectOf(path, pageBox()))
	}
	for _, clip := range badBoxes() {
		list = append(list, objectOf(full, clip))
	}
	for _, gray := range []int{-1, 256, -256, 1 << 32, math.MinInt, math.MaxInt} {
		list = append(list, impl.Object{Path: full, Gray: gray, Clip: pageBox()})
	}
	all := impl.Object{Path: points(math.MinInt, math.MaxInt, math.MaxInt, math.MinInt), Gray: math.MinInt, Clip: boxAt(math.MaxInt, math.MaxInt, math.MinInt, math.MinInt)}
	return append(list, impl.Object{}, impl.Object{Gray: 9, Clip: pageBox()}, impl.Object{Path: full, Gray: -1, Clip: boxAt(9, 9, 0, 0)}, all)
}

// goodObjects are on the page, across its edges and outside of it, with clips that do and do not cut them.
func goodObjects() []impl.Object {
	var list []impl.Object
	for _, path := range shapes() {
		for _, clip := range goodClips() {
			list = append(list, objectOf(path, clip))
		}
	}
	r := rand.New(rand.NewPCG(10, 1))
	for _, path := range manyPaths() {
		low := impl.Point{X: r.IntN(48) - 12, Y: r.IntN(48) - 12}
		clip := boxAt(low.X, low.Y, low.X+r.IntN(32), low.Y+r.IntN(32))
		list = append(list, objectOf(path, pageBox()), objectOf(path, largestBox()), objectOf(path, clip))
	}
	list = append(list, impl.Object{Path: rectOf(2, 2, 6, 6), Clip: pageBox()}, impl.Object{Path: rectOf(2, 2, 6, 6), Gray: 255, Clip: pageBox()})
	return slices.DeleteFunc(list, func(o impl.Object) bool { return !isObject(o) })
}

func TestTheObjectsToTestWith(t *testing.T) {
	for _, o := range badObjects() {
		if isObject(o) {
			t.Errorf("%v is valid", o)
		}
	}
	for _, clip := range outsideClips() {
		if !isBox(clip) || paintedBox(objectOf(rectOf(-200, -200, 200, 200), clip)) != (impl.Box{}) {
			t.Errorf("the clip %v is not valid, or has dots of the page", clip)
		}
	}
	for _, clip := range partClips() {
		if paintedDots(objectOf(rectOf(-200, -200, 200, 200), clip)) == 0 {
			t.Errorf("the clip %v has no dots of the page", clip)
		}
	}
	painting := 0
	for _, o := range goodObjects() {
		if paintedDots(o) > 0 {
			painting++
		}
	}
	if painting < 500 {
		t.Errorf("only %d objects paint dots", painting)
	}
}
