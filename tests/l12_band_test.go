package tests

import (
	"slices"
	"testing"

	"loop.example/g00987/impl"
)

func TestIsHeight(t *testing.T) {
	for n := -300; n <= 300; n++ {
		if got := impl.IsHeight(n); got != isHeight(n) {
			t.Errorf("IsHeight(%d) is %v", n, got)
		}
	}
	for _, n := range badHeights() {
		if impl.IsHeight(n) {
			t.Errorf("IsHeight(%d) is true", n)
		}
	}
	for _, n := range []int{1, 2, 4, 8, 16, 32} {
		if !impl.IsHeight(n) {
			t.Errorf("IsHeight(%d) is false", n)
		}
	}
}

func TestCountBands(t *testing.T) {
	for height, want := range map[int]int{1: 32, 2: 16, 4: 8, 8: 4, 16: 2, 32: 1, 0: 0, -1: 0, 3: 0, 5: 0, 31: 0, 33: 0, 64: 0} {
		if got := impl.CountBands(height); got != want {
			t.Errorf("CountBands(%d) is %d, want %d", height, got, want)
		}
	}
	for n := -300; n <= 300; n++ {
		if got := impl.CountBands(n); got != bandsOf(n) {
			t.Errorf("CountBands(%d) is %d", n, got)
		}
	}
	for _, n := range badHeights() {
		if got := impl.CountBands(n); got != 0 {
			t.Errorf("CountBands(%d) is %d", n, got)
		}
	}
}

func checkTouches(t *testing.T, o impl.Object, height, band int, want bool) {
	t.Helper()
	if got := impl.TouchesBand(o, height, band); got != want {
		t.Fatalf("TouchesBand(%v) is %v for %s", o, got, bandName(height, band))
	}
}

func TestTouchesBand(t *testing.T) {
	legs := objectOf(shiftedPath(twoLegs(), 4, 3), pageBox())
	list := []struct {
		what   string
		o      impl.Object
		height int
		want   []int
	}{
		{"in one band", rowsObject(9, 5, 7), 4, []int{1}},
		{"in one band, in its first row", rowsObject(9, 4, 5), 4, []int{1}},
		{"in one band, in its last row", rowsObject(9, 7, 8), 4, []int{1}},
		{"in all rows of one band", rowsObject(9, 4, 8), 4, []int{1}},
		{"up to the last row of a band", rowsObject(9, 2, 8), 4, []int{0, 1}},
		{"up to the first row of a band", rowsObject(9, 2, 9), 4, []int{0, 1, 2}},
		{"from the first row of a band on", rowsObject(9, 8, 11), 4, []int{2}},
		{"from the last row of a band on", rowsObject(9, 7, 11), 4, []int{1, 2}},
		{"two rows in two bands", rowsObject(9, 15, 17), 16, []int{0, 1}},
		{"two rows in two bands of one row", rowsObject(9, 15, 17), 1, []int{15, 16}},
		{"all bands", rowsObject(9, 0, 32), 8, []int{0, 1, 2, 3}},
		{"all bands, from within the first to within the last", rowsObject(9, 7, 25), 8, []int{0, 1, 2, 3}},
		{"all bands, past the page", grayObject(9, rectOf(-200, -200, 200, 200)), 8, []int{0, 1, 2, 3}},
		{"the only band", rowsObject(9, 31, 32), 32, []int{0}},
		{"the first row of the page", rowsObject(9, 0, 1), 2, []int{0}},
		{"the last row of the page", rowsObject(9, 31, 32), 2, []int{15}},
		{"one dot", grayObject(9, rectOf(31, 31, 32, 32)), 8, []int{3}},
		{"one dot, past two edges", grayObject(9, rectOf(-9, -9, 1, 1)), 8, []int{0}},
		{"above the page", rowsObject(9, -8, 0), 8, nil},
		{"below the page", rowsObject(9, 32, 40), 8, nil},
		{"at the left of the page", grayObject(9, rectOf(-9, 3, 0, 30)), 8, nil},
		{"at the right of the page", grayObject(9, rectOf(32, 3, 40, 30)), 8, nil},
		{"a clip that cuts bands away", objectOf(rectOf(0, 0, 32, 32), boxAt(0, 8, 32, 16)), 8, []int{1}},
		{"a clip of one dot", objectOf(rectOf(0, 0, 32, 32), boxAt(9, 23, 10, 24)), 8, []int{2}},
		{"a clip beside the path", objectOf(rectOf(0, 0, 16, 32), boxAt(16, 0, 32, 32)), 8, nil},
		{"a clip beside the page", objectOf(rectOf(-9, -9, 45, 45), boxAt(32, 0, 45, 32)), 8, nil},
		{"a clip without dots", objectOf(rectOf(0, 0, 32, 32), boxAt(4, 9, 9, 9)), 8, nil},
		{"a clip without columns", objectOf(rectOf(0, 0, 32, 32), boxAt(4, 0, 4, 32)), 8, nil},
		{"the zero clip", objectOf(rectOf(0, 0, 32, 32), impl.Box{}), 8, nil},
		{"a box without dots", objectOf(points(5, 1, 5, 30, 5, 9), pageBox()), 8, nil},
		// The box counts, and not what is painted.
		{"nothing painted in the box", objectOf(points(1, 1, 9, 9, 5, 5), pageBox()), 4, []int{0, 1, 2}},
		{"nothing painted in one band", objectOf(append(rectOf(2, 2, 6, 4), points(2, 4, 2, 30, 2, 2)...), pageBox()), 8, []int{0, 1, 2, 3}},
		{"two legs", legs, 4, []int{0, 1, 2}},
		{"White", rowsObject(255, 3, 5), 4, []int{0, 1}},
		{"0", rowsObject(0, 3, 5), 4, []int{0, 1}},
		{"a value that is too great", rowsObject(256, 3, 5), 4, nil},
		{"a value that is too small", rowsObject(-1, 3, 5), 4, nil},
		{"too few points", objectOf(rectOf(0, 0, 32, 32)[:2], pageBox()), 4, nil},
		{"too many points", objectOf(pathOfSize(9), pageBox()), 4, nil},
		{"a point past the limits", objectOf(points(0, 0, 201, 0, 0, 32), pageBox()), 4, nil},
		{"a clip past the limits", objectOf(rectOf(0, 0, 32, 32), boxAt(0, 0, 32, 201)), 4, nil},
		{"the zero object", impl.Object{}, 4, nil},
	}
	for _, c := range list {
		for band := range bandsOf(c.height) {
			if got := impl.TouchesBand(c.o, c.height, band); got != slices.Contains(c.want, band) {
				t.Errorf("%s: %v for %s", c.what, got, bandName(c.height, band))
			}
		}
	}
}

// The rows are also those of a clip that cuts a higher path.
func TestTouchesBandOfAllRows(t *testing.T) {
	counts := map[int]int{}
	for from := -3; from < 35; from++ {
		for to := from + 1; to <= 35; to++ {
			first, last := max(from, 0), min(to, 32)-1
			for _, o := range []impl.Object{rowsObject(9, from, to), objectOf(points(2, -40, 30, -30, 9, 60), boxAt(1, from, 33, to))} {
				eachBand(func(height, band int) {
					want := first <= last && band >= first/height && band <= last/height
					checkTouches(t, o, height, band, want)
					if want {
						counts[height]++
					}
				})
			}
		}
	}
	for _, height := range bandHeights() {
		if counts[height] < 1000 {
			t.Errorf("%d times a band of height %d is touched", counts[height], height)
		}
	}
}

func TestTouchesBandOfManyObjects(t *testing.T) {
	list := append(crossingObjects(), badObjects()...)
	for i, o := range goodObjects() {
		if i%5 == 0 {
			list = append(list, o)
		}
	}
	for _, o := range list {
		eachBand(func(height, band int) { checkTouches(t, o, height, band, touches(o, height, band)) })
	}
}

func TestNoObjectTouchesAMissingBand(t *testing.T) {
	objects := append(badObjects()[:3], rowsObject(9, 0, 32), rowsObject(9, 0, 1), rowsObject(9, 31, 32), grayObject(9, rectOf(-200, -200, 200, 200)), objectOf(rectOf(-200, -200, 200, 200), largestBox()))
	eachMissingBand(func(height, band int) {
		for _, o := range objects {
			checkTouches(t, o, height, band, false)
		}
		if list := impl.ObjectsOfBand(objects, height, band); len(list) != 0 {
			t.Errorf("%d objects are in %s", len(list), bandName(height, band))
		}
	})
}

func TestObjectsWithoutDotsTouchNoBand(t *testing.T) {
	list := badObjects()
	for _, clip := range outsideClips() {
		list = append(list, objectOf(rectOf(-200, -200, 200, 200), clip))
	}
	eachObject(objectOf(rectOf(-200, -200, 200, 200), pageBox()), func(o impl.Object) {
		if !isObject(o) {
			list = append(list, o)
		}
	})
	eachBand(func(height, band int) {
		for _, o := range list {
			checkTouches(t, o, height, band, false)
		}
		if some := impl.ObjectsOfBand(list, height, band); len(some) != 0 {
			t.Errorf("%v are in %s", some, bandName(height, band))
		}
	})
}

// What a band has is what the bands of half its height have.
func TestBandsOfHalfTheHeight(t *testing.T) {
	for _, o := range append(coveringObjects(), crossingObjects()...) {
		eachBand(func(height, band int) {
			if height > 1 {
				halves := impl.TouchesBand(o, height/2, 2*band) || impl.TouchesBand(o, height/2, 2*band+1)
				checkTouches(t, o, height, band, halves)
			}
		})
		checkTouches(t, o, 32, 0, impl.ObjectBox(o) != impl.Box{})
	}
}

func checkObjectsOfBand(t *testing.T, list []impl.Object, height, band int) {
	t.Helper()
	want := touchingObjects(list, height, band)
	if got := impl.ObjectsOfBand(list, height, band); !slices.EqualFunc(got, want, sameObject) {
		t.Fatalf("ObjectsOfBand(%.300v) is %.300v, want %.300v, for %s", list, got, want, bandName(height, band))
	}
}

func TestObjectsOfBand(t *testing.T) {
	first, second, both, apart := rowsObject(1, 0, 3), rowsObject(2, 5, 6), rowsObject(3, 3, 5), rowsObject(4, 20, 22)
	bad := rowsObject(256, 0, 32)
	list := []struct {
		what string
		list []impl.Object
		band int
		want []impl.Object
	}{
		{"nil", nil, 0, nil},
		{"no objects", []impl.Object{}, 1, nil},
		{"the only one", []impl.Object{first}, 0, []impl.Object{first}},
		{"none of the band", []impl.Object{first}, 1, nil},
		{"all", []impl.Object{first, both}, 0, []impl.Object{first, both}},
		{"all, in the other order", []impl.Object{both, first}, 0, []impl.Object{both, first}},
		{"some among others", []impl.Object{first, second, both, apart}, 0, []impl.Object{first, both}},
		{"some among others", []impl.Object{first, second, both, apart}, 1, []impl.Object{second, both}},
		{"some among others", []impl.Object{both, apart, first, second}, 1, []impl.Object{both, second}},
		{"the last one", []impl.Object{first, second, both, apart}, 5, []impl.Object{apart}},
		{"the same one twice", []impl.Object{both, both}, 0, []impl.Object{both, both}},
		{"the same one twice, others between", []impl.Object{both, second, apart, both}, 1, []impl.Object{both, second, both}},
		{"one that is not valid, first", []impl.Object{bad, first, both}, 0, []impl.Object{first, both}},
		{"one that is not valid, between", []impl.Object{first, bad, both}, 0, []impl.Object{first, both}},
		{"one that is not valid, last", []impl.Object{first, both, bad}, 0, []impl.Object{first, both}},
		{"only one that is not valid", []impl.Object{bad}, 0, nil},
		{"the zero object", []impl.Object{{}, first, {}}, 0, []impl.Object{first}},
		{"one that paints nothing in its box", []impl.Object{objectOf(points(1, 1, 9, 9, 5, 5), pageBox())}, 1, []impl.Object{objectOf(points(1, 1, 9, 9, 5, 5), pageBox())}},
		{"one that is beside the page", []impl.Object{grayObject(5, rectOf(32, 0, 40, 32)), first}, 0, []impl.Object{first}},
	}
	for _, c := range list {
		if got := impl.ObjectsOfBand(c.list, 4, c.band); !slices.EqualFunc(got, c.want, sameObject) {
			t.Errorf("%s: %v in band %d, want %v", c.what, got, c.band, c.want)
		}
	}
}

func TestObjectsOfBandOfManyObjects(t *testing.T) {
	lists := append(bandLists(), withBadObjects()...)
	lists = append(lists, goodObjects()[:300], crossingObjects(), slices.Repeat(steps(2), 50), slices.Repeat(badObjects(), 3))
	for _, list := range lists {
		eachBand(func(height, band int) { checkObjectsOfBand(t, list, height, band) })
	}
}

// Each object is kept as it is, with its clip and its whole path.
func TestObjectsOfBandAreWhole(t *testing.T) {
	for _, list := range bandLists() {
		if some := impl.ObjectsOfBand(list, 32, 0); len(list) > 0 {
			all := slices.DeleteFunc(slices.Clone(list), func(o impl.Object) bool { return impl.ObjectBox(o) == impl.Box{} })
			if !slices.EqualFunc(some, all, sameObject) {
				t.Fatalf("the only band has %v, want %v", some, all)
			}
		}
	}
}
