package tests

import (
	"math/rand/v2"
	"slices"
	"testing"

	"loop.example/g00987/impl"
)

func checkAdd(t *testing.T, b impl.Band, o impl.Object) impl.Band {
	t.Helper()
	want, right := addedBand(b, o)
	got, ok := impl.AddToBand(b, o)
	if ok != right || !sameBand(got, want) {
		t.Fatalf("AddToBand of %s, %.500v, and %.300v is %.500v, %v, want %.500v, %v", bandText(b), b, o, got, ok, want, right)
	}
	return got
}

// merges says how often a band is merged while objects are added, where each of them is valid.
func merges(list []impl.Object, height, number int) int {
	count, cells := 0, 0
	for _, o := range touchingObjects(list, height, number) {
		cells += 2 + len(o.Path)
		if cells > 60 {
			count, cells = count+1, 2+len(o.Path)
		}
	}
	return count
}

// filledBand adds the objects one after another to a new band.
func filledBand(t *testing.T, list []impl.Object, height, number int) impl.Band {
	t.Helper()
	b, ok := impl.NewBand(height, number)
	for _, o := range list {
		if !ok {
			break
		}
		b, ok = impl.AddToBand(b, o)
	}
	if !ok || !impl.BandOk(b) || impl.BandCells(b) > impl.MaxCells {
		t.Fatalf("%s with %d objects added is %v, %v", bandName(height, number), len(list), b, ok)
	}
	return b
}

// longBandLists are of valid objects, so many that a band of each height is merged at least twice.
func longBandLists() [][]impl.Object {
	r := rand.New(rand.NewPCG(13, 1))
	var tall []impl.Object
	for i := range 60 {
		path := randomPath(r, 3+i%6, -8, 48)
		// Two points of the path make it as high as the page.
		path[0].Y, path[2].Y = -r.IntN(5), 32+r.IntN(5)
		path[0].X, path[2].X = r.IntN(16), 16+r.IntN(16)
		tall = append(tall, grayObject([]int{0, 255, 4 * i}[i%3], path))
	}
	mixed := slices.Concat(crossingObjects(), tall[:20], coveringObjects()[:60], tall[20:40])
	return [][]impl.Object{tall, mixed, coveringObjects(), steps(28), slices.Repeat(sizedObjects(8, 3, 5), 9)}
}

// Promise 13: with little memory, a band has the same rows as with much.
func TestWithLittleMemoryABandHasTheSameRows(t *testing.T) {
	for i, list := range longBandLists() {
		page := pagePainted(list)
		eachBand(func(height, number int) {
			if n := merges(list, height, number); n < 2 {
				t.Fatalf("list %d: %s is merged %d times", i, bandName(height, number), n)
			}
			b := filledBand(t, list, height, number)
			rows := impl.RowsOfBand(b)
			if want := impl.RenderBand(list, height, number); !equalRows(rows, want) || !impl.SameRows(rows, want) {
				t.Fatalf("list %d: the rows of %s are %v, want %v", i, bandName(height, number), rows, want)
			}
			checkRowsOfBand(t, b, rowsOfBand(page, height, number))
			if !impl.SameRows(b.Base, rows) && len(b.Objects) == 0 || !impl.SameRows(impl.MergeBand(b).Base, rows) {
				t.Fatalf("list %d: %s merged is %v, want %v", i, bandName(height, number), impl.MergeBand(b), rows)
			}
		})
	}
}

// The rows are right at each moment, and not only behind the last object.
func TestABandHasTheRightRowsWhileObjectsAreAdded(t *testing.T) {
	for _, list := range longBandLists()[:3] {
		for _, place := range [][2]int{{1, 0}, {1, 17}, {2, 15}, {4, 3}, {8, 2}, {16, 1}, {32, 0}} {
			height, number := place[0], place[1]
			b, _ := impl.NewBand(height, number)
			for i, o := range list {
				b = checkAdd(t, b, o)
				checkRowsOfBand(t, b, impl.RenderBand(list[:i+1], height, number))
			}
		}
	}
}

// A page that is printed with little memory has the rows that PaintAll paints.
func TestThePagesOfBandsWithLittleMemory(t *testing.T) {
	for _, list := range bandLists() {
		page, _ := impl.PaintAll(list)
		for _, height := range bandHeights() {
			var rows [][]int
			for number := range bandsOf(height) {
				rows = append(rows, impl.RowsOfBand(filledBand(t, list, height, number))...)
			}
			if !equalRows(rows, page) {
				t.Fatalf("%v in bands of height %d is %v, want %v", list, height, rows, page)
			}
		}
	}
}

// What is merged in between, or not, makes no difference to the rows.
func TestMergingInBetween(t *testing.T) {
	r := rand.New(rand.NewPCG(13, 3))
	list := longBandLists()[1]
	eachBand(func(height, number int) {
		want := impl.RenderBand(list, height, number)
		for _, often := range []int{1, 2, 9} {
			b, _ := impl.NewBand(height, number)
			for _, o := range list {
				b, _ = impl.AddToBand(b, o)
				if r.IntN(often) == 0 {
					b = impl.MergeBand(b)
				}
			}
			checkRowsOfBand(t, b, want)
		}
	})
}

func TestAddToBandUpToMaxCells(t *testing.T) {
	list := []struct {
		what          string
		before, added int
		merged        bool
		left          int
	}{
		{"to an empty band", 0, 8, false, 10},
		{"fits", 46, 8, false, 56},
		{"fits just", 50, 8, false, 60},
		{"fits just, with the fewest points", 55, 3, false, 60},
		{"one too much", 51, 8, true, 10},
		{"one too much, with the fewest points", 56, 3, true, 5},
		{"to a full band", 60, 8, true, 10},
		{"the fewest points to a full band", 60, 3, true, 5},
		{"four points to a full band", 60, 4, true, 6},
	}
	sizes := map[int][]int{0: nil, 46: {8, 8, 8, 3, 3, 4}, 50: {8, 8, 8, 8, 8}, 51: {8, 8, 8, 8, 3, 4}, 55: {8, 8, 8, 8, 8, 3}, 56: {8, 8, 8, 8, 8, 4}, 60: {8, 8, 8, 8, 8, 8}}
	for _, c := range list {
		before := sizedObjects(sizes[c.before]...)
		o := sizedObject(c.added, 100)
		eachBand(func(height, number int) {
			b := bandWith(height, number, before...)
			if impl.BandCells(b) != c.before {
				t.Fatalf("%s: %d cells", c.what, impl.BandCells(b))
			}
			want := bandWith(height, number, append(slices.Clone(before), o)...)
			if c.merged {
				want = impl.Band{Height: height, Number: number, Base: mergedBand(b).Base, Objects: []impl.Object{o}}
			}
			got, ok := impl.AddToBand(b, o)
			if !ok || !sameBand(got, want) || impl.BandCells(got) != c.left || !impl.BandOk(got) {
				t.Fatalf("%s, in %s: %v, %v, want %v", c.what, bandName(height, number), got, ok, want)
			}
		})
	}
}

// As many objects as fit stay, and the next one is the first on a merged band.
func TestWhenABandIsMerged(t *testing.T) {
	for _, c := range []struct{ size, fit int }{{3, 12}, {4, 10}, {5, 8}, {6, 7}, {7, 6}, {8, 6}} {
		b, _ := impl.NewBand(4, 5)
		for i := range 40 {
			b, _ = impl.AddToBand(b, sizedObject(c.size, i))
			if want := i%c.fit + 1; len(b.Objects) != want || b.Objects[0].Gray != i/c.fit*c.fit {
				t.Fatalf("behind object %d of %d points, the band has %d objects, want %d", i, c.size, len(b.Objects), want)
			}
		}
	}
}

func TestAddToBand(t *testing.T) {
	square := rowsObject(7, 4, 8)
	list := []struct {
		what  string
		b     impl.Band
		o     impl.Object
		count int
		ok    bool
	}{
		{"the first object", bandWith(4, 1), square, 1, true},
		{"behind another one", bandWith(4, 1, square), square, 2, true},
		{"touching in the first row", bandWith(4, 1), rowsObject(7, 1, 5), 1, true},
		{"touching in the last row", bandWith(4, 1), rowsObject(7, 7, 9), 1, true},
		{"above", bandWith(4, 1, square), rowsObject(7, 1, 4), 1, true},
		{"below", bandWith(4, 1, square), rowsObject(7, 8, 12), 1, true},
		{"beside the page", bandWith(4, 1), grayObject(7, rectOf(32, 4, 40, 8)), 0, true},
		{"a clip that cuts the band away", bandWith(4, 1), objectOf(rectOf(0, 0, 32, 32), boxAt(0, 8, 32, 16)), 0, true},
		{"no dots", bandWith(4, 1), objectOf(points(5, 5, 5, 5, 5, 5), pageBox()), 0, true},
		{"a box in which nothing is painted", bandWith(4, 1), objectOf(points(1, 1, 9, 9, 5, 5), pageBox()), 1, true},
		{"a box that touches, of an object that does not", bandWith(4, 2), objectOf(append(rectOf(2, 2, 6, 4), points(2, 4, 2, 30, 2, 2)...), pageBox()), 1, true},
		{"does not touch a full band", bandWith(4, 1, sizedObjects(8, 8, 8, 8, 8, 8)...), rowsObject(7, 8, 12), 6, true},
		{"not valid", bandWith(4, 1, square), grayObject(256, rectOf(0, 0, 32, 32)), 1, false},
		{"too few points", bandWith(4, 1, square), objectOf(rectOf(0, 0, 32, 32)[:2], pageBox()), 1, false},
		{"too many points", bandWith(4, 1, square), objectOf(pathOfSize(9), pageBox()), 1, false},
		{"not valid, and does not touch", bandWith(4, 1, square), grayObject(256, rectOf(0, 0, 32, 2)), 1, false},
		{"the zero object", bandWith(4, 1, square), impl.Object{}, 1, false},
		{"not valid, for a full band", bandWith(4, 1, sizedObjects(8, 8, 8, 8, 8, 8)...), grayObject(-1, rectOf(0, 0, 32, 32)), 6, false},
		{"the zero Band", impl.Band{}, square, 0, false},
		{"a band that is too full", bandWith(4, 1, sizedObjects(8, 8, 8, 8, 8, 3, 4)...), square, 7, false},
		{"a band with one row too few", impl.Band{Height: 4, Number: 1, Base: variedRows(3)}, square, 0, false},
		{"a band that is not valid, not touched", impl.Band{Height: 4, Number: 8, Base: variedRows(4)}, square, 0, false},
		{"neither is valid", impl.Band{}, impl.Object{}, 0, false},
	}
	for _, c := range list {
		got, ok := impl.AddToBand(c.b, c.o)
		if ok != c.ok || len(got.Objects) != c.count || !equalRows(got.Base, c.b.Base) {
			t.Errorf("%s: %v, %v", c.what, got, ok)
		}
		checkAdd(t, c.b, c.o)
		if added := c.count > len(c.b.Objects); added && !sameObject(got.Objects[c.count-1], c.o) {
			t.Errorf("%s: the last object is %v", c.what, got.Objects[c.count-1])
		}
	}
}

func TestAddToManyBands(t *testing.T) {
	objects := slices.Concat(badObjects()[:4], coveringObjects()[:8], sizedObjects(3, 8), []impl.Object{rowsObject(9, 15, 17), rowsObject(9, -9, 0)})
	for i, b := range goodBands() {
		for j := range 4 {
			checkAdd(t, b, objects[(i+5*j)%len(objects)])
		}
	}
	for _, o := range append(badObjects(), crossingObjects()...) {
		for _, list := range [][]impl.Object{nil, sizedObjects(8, 8), sizedObjects(8, 8, 8, 8, 8, 8)} {
			checkAdd(t, bandWith(4, 3, list...), o)
			checkAdd(t, bandWith(32, 0, list...), o)
		}
	}
	eachObject(rowsObject(9, 3, 30), func(o impl.Object) {
		checkAdd(t, bandWith(8, 3, steps(2)...), o)
	})
}

func TestNothingIsAddedToABandThatIsNotValid(t *testing.T) {
	objects := []impl.Object{rowsObject(9, 0, 32), grayObject(9, rectOf(-9, -9, 0, 0)), {}}
	for _, b := range badBands() {
		for _, o := range objects {
			if got, ok := impl.AddToBand(b, o); ok || !sameBand(got, b) {
				t.Fatalf("AddToBand of %s, %.600v, is %.600v, %v", bandText(b), b, got, ok)
			}
		}
	}
}

func TestBandsOfARunWithLittleMemory(t *testing.T) {
	tokens, _ := impl.ScanText("1 1 3 2 rect fill 9 gray 2 0 shift 1 1 3 2 rect fill")
	page, _ := impl.RunPage(tokens)
	list := slices.Repeat(page.Objects, 6)
	b := filledBand(t, list, 2, 1)
	if len(list) != 12 || len(b.Objects) != 2 || impl.BandCells(b) != 12 {
		t.Errorf("the band is %v, of %d objects", b, len(list))
	}
	checkRowsOfBand(t, b, impl.RenderBand(list, 2, 1))
	if rows := impl.RowsOfBand(b); !slices.Equal(drawn(rows, 8), []string{".##999..", "........"}) {
		t.Errorf("the rows are %v", rows)
	}
}
