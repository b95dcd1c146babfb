package tests

import (
	"math"
	"math/rand/v2"
	"slices"
	"testing"

	"loop.example/g00987/impl"
)

func TestNewBand(t *testing.T) {
	for _, height := range []int{1, 2, 4, 8, 16, 32} {
		last := 32/height - 1
		for _, number := range []int{0, last / 2, last} {
			b, ok := impl.NewBand(height, number)
			if !ok || b.Height != height || b.Number != number || len(b.Objects) != 0 || !equalRows(b.Base, evenRows(height, 255)) {
				t.Errorf("NewBand(%d, %d) is %v, %v", height, number, b, ok)
			}
		}
		for _, number := range []int{-1, last + 1, math.MinInt, math.MaxInt} {
			if b, ok := impl.NewBand(height, number); ok || !sameBand(b, impl.Band{}) {
				t.Errorf("NewBand(%d, %d) is %v, %v", height, number, b, ok)
			}
		}
	}
}

func TestNewBandOfEachBand(t *testing.T) {
	eachBand(func(height, number int) {
		b, ok := impl.NewBand(height, number)
		if want := (impl.Band{Height: height, Number: number, Base: evenRows(height, 255)}); !ok || !sameBand(b, want) {
			t.Errorf("NewBand(%d, %d) is %v, %v", height, number, b, ok)
		}
		if !impl.BandOk(b) || impl.BandCells(b) != 0 || !impl.SameRows(b.Base, impl.WhiteRows(height)) {
			t.Errorf("the new %s is not valid or not white", bandName(height, number))
		}
	})
}

func TestNewBandOfNoBand(t *testing.T) {
	eachMissingBand(func(height, number int) {
		if b, ok := impl.NewBand(height, number); ok || !sameBand(b, impl.Band{}) {
			t.Errorf("NewBand(%d, %d) is %v, %v", height, number, b, ok)
		}
	})
}

func TestBandOk(t *testing.T) {
	for _, b := range goodBands() {
		if !impl.BandOk(b) {
			t.Errorf("%s is not valid: %v", bandText(b), b)
		}
	}
	for _, b := range badBands() {
		if impl.BandOk(b) {
			t.Errorf("%s is valid: %v", bandText(b), b)
		}
	}
}

func TestBandOkOfEachPart(t *testing.T) {
	good := rowsObject(9, 2, 30)
	bad := impl.Object{Path: rectOf(0, 0, 32, 32), Gray: 256, Clip: pageBox()}
	list := []struct {
		what string
		b    impl.Band
		want bool
	}{
		{"no objects", bandWith(4, 7), true},
		{"an empty list", bandWith(4, 7, []impl.Object{}...), true},
		{"one object", bandWith(4, 7, good), true},
		{"an object that does not touch the band", bandWith(4, 7, rowsObject(9, 2, 28)), true},
		{"an object without dots", bandWith(4, 7, objectOf(rectOf(5, 5, 5, 5), impl.Box{})), true},
		{"one row too few", impl.Band{Height: 4, Base: variedRows(3)}, false},
		{"one row too many", impl.Band{Height: 4, Base: variedRows(5)}, false},
		{"no rows", impl.Band{Height: 4}, false},
		{"all rows", impl.Band{Height: 4, Base: variedRows(32)}, false},
		{"all rows, where they are the band", impl.Band{Height: 32, Base: variedRows(32)}, true},
		{"the values 0 and 255", impl.Band{Height: 2, Base: [][]int{evenRows(1, 0)[0], evenRows(1, 255)[0]}}, true},
		{"the value -1", impl.Band{Height: 2, Base: rowsWith(variedRows(2), 31, 1, -1)}, false},
		{"the value 256", impl.Band{Height: 2, Base: rowsWith(variedRows(2), 0, 0, 256)}, false},
		{"a row of 31", impl.Band{Height: 2, Base: rowsOf([]int{32, 31}, func(x, y int) int { return x })}, false},
		{"a row of 33", impl.Band{Height: 2, Base: rowsOf([]int{33, 32}, func(x, y int) int { return x })}, false},
		{"two rows of together 64", impl.Band{Height: 2, Base: rowsOf([]int{31, 33}, func(x, y int) int { return x })}, false},
		{"bad in the first place", bandWith(4, 7, bad, good, good), false},
		{"bad in a middle place", bandWith(4, 7, good, bad, good), false},
		{"bad in the last place", bandWith(4, 7, good, good, bad), false},
		{"two points", bandWith(4, 7, good, objectOf(rectOf(2, 2, 6, 6)[:2], pageBox())), false},
		{"nine points", bandWith(4, 7, objectOf(pathOfSize(9), pageBox()), good), false},
		{"MaxCells cells", bandWith(4, 7, sizedObjects(8, 8, 8, 8, 8, 3, 3)...), true},
		{"a cell less", bandWith(4, 7, sizedObjects(8, 8, 8, 8, 8, 7)...), true},
		{"a cell more", bandWith(4, 7, sizedObjects(8, 8, 8, 8, 8, 3, 4)...), false},
		{"twelve objects", bandWith(4, 7, slices.Repeat(sizedObjects(3), 12)...), true},
		{"thirteen objects", bandWith(4, 7, slices.Repeat(sizedObjects(3), 13)...), false},
		{"the zero Band", impl.Band{}, false},
		{"number -1", impl.Band{Height: 4, Number: -1, Base: variedRows(4)}, false},
		{"number 8", impl.Band{Height: 4, Number: 8, Base: variedRows(4)}, false},
		{"height 3", impl.Band{Height: 3, Base: variedRows(3)}, false},
		{"height 0", impl.Band{}, false},
		{"height 64", impl.Band{Height: 64, Base: variedRows(64)}, false},
		{"the least number", impl.Band{Height: 4, Number: math.MinInt, Base: variedRows(4)}, false},
		{"the greatest number", impl.Band{Height: 4, Number: math.MaxInt, Base: variedRows(4)}, false},
		{"the least height", impl.Band{Height: math.MinInt, Base: variedRows(4)}, false},
		{"the greatest height", impl.Band{Height: math.MaxInt, Base: variedRows(4)}, false},
	}
	for _, c := range list {
		if got := impl.BandOk(c.b); got != c.want || isBandValue(c.b) != c.want {
			t.Errorf("%s: %v", c.what, got)
		}
	}
}

// Each part of an object counts, and not only those that decide where it is painted.
func TestBandOkOfEachObject(t *testing.T) {
	eachObject(rowsObject(9, 3, 30), func(o impl.Object) {
		for _, b := range []impl.Band{bandWith(8, 3, o), bandWith(2, 0, rowsObject(1, 0, 1), o, rowsObject(2, 0, 1))} {
			if got := impl.BandOk(b); got != isObject(o) {
				t.Fatalf("a band with %v: %v", o, got)
			}
		}
	})
	for _, rows := range append(goodRows(), badRows()...) {
		for _, height := range bandHeights() {
			b := impl.Band{Height: height, Number: bandsOf(height) - 1, Base: rows}
			if got := impl.BandOk(b); got != (isRows(rows) && len(rows) == height) {
				t.Fatalf("a band of height %d on %.300v: %v", height, rows, got)
			}
		}
	}
}

func TestBandCells(t *testing.T) {
	list := []struct {
		what string
		b    impl.Band
		want int
	}{
		{"the zero Band", impl.Band{}, 0},
		{"no objects", bandWith(8, 3), 0},
		{"one object of three points", bandWith(8, 3, sizedObjects(3)...), 5},
		{"one object of four points", bandWith(8, 3, rowsObject(9, 0, 32)), 6},
		{"one object of eight points", bandWith(8, 3, sizedObjects(8)...), 10},
		{"two objects", bandWith(8, 3, sizedObjects(3, 8)...), 15},
		{"the same object twice", bandWith(8, 3, slices.Repeat(sizedObjects(4), 2)...), 12},
		{"several objects", bandWith(8, 3, sizedObjects(3, 4, 5, 6)...), 26},
		{"MaxCells", bandWith(8, 3, sizedObjects(8, 8, 8, 8, 8, 8)...), 60},
		{"one more", bandWith(8, 3, sizedObjects(8, 8, 8, 8, 8, 3, 4)...), 61},
		{"an object that does not touch the band", bandWith(8, 3, rowsObject(9, 0, 5)), 6},
		// Validity is not asked for.
		{"the zero object", bandWith(8, 3, impl.Object{}), 2},
		{"three zero objects", impl.Band{Objects: make([]impl.Object, 3)}, 6},
		{"an object of no points between others", bandWith(8, 3, sizedObject(3, 1), objectOf(nil, pageBox()), sizedObject(4, 1)), 13},
		{"one point", bandWith(8, 3, objectOf(points(1, 2), pageBox())), 3},
		{"nine points", bandWith(8, 3, objectOf(pathOfSize(9), pageBox())), 11},
		{"many points", bandWith(8, 3, objectOf(make([]impl.Point, 5000), pageBox()), sizedObject(3, 1)), 5007},
		{"many objects", bandWith(8, 3, slices.Repeat(sizedObjects(3), 1000)...), 5000},
		{"no such band", impl.Band{Height: math.MaxInt, Number: math.MinInt, Objects: sizedObjects(3)}, 5},
	}
	for _, c := range list {
		if got := impl.BandCells(c.b); got != c.want {
			t.Errorf("%s: %d, want %d", c.what, got, c.want)
		}
	}
	for _, b := range append(goodBands(), badBands()...) {
		if got := impl.BandCells(b); got != cellsOf(b.Objects) {
			t.Errorf("%s has %d cells, want %d", bandText(b), got, cellsOf(b.Objects))
		}
	}
	for _, o := range badObjects() {
		if got := impl.BandCells(bandWith(4, 0, o, o)); got != 4+2*len(o.Path) {
			t.Errorf("twice %v: %d cells", o, got)
		}
	}
}

func checkMerge(t *testing.T, b impl.Band) {
	t.Helper()
	want := mergedBand(b)
	if got := impl.MergeBand(b); !sameBand(got, want) {
		t.Fatalf("MergeBand of %s, %.600v, is %.600v, want %.600v", bandText(b), b, got, want)
	}
}

func checkRowsOfBand(t *testing.T, b impl.Band, want [][]int) {
	t.Helper()
	if got := impl.RowsOfBand(b); !equalRows(got, want) {
		t.Fatalf("RowsOfBand of %s, %.600v, is %.600v, want %.600v", bandText(b), b, got, want)
	}
}

func TestMergeBand(t *testing.T) {
	legs := grayObject(7, twoLegs())
	square, right := grayObject(5, rectOf(0, 3, 4, 6)), grayObject(6, rectOf(2, 4, 6, 8))
	list := []struct {
		what           string
		list           []impl.Object
		height, number int
		want           []string
	}{
		{"no objects", nil, 2, 3, []string{"33333333", "33333333"}},
		{"a row of an object", []impl.Object{legs}, 1, 1, []string{"77777777"}},
		{"touched in part", []impl.Object{legs}, 4, 2, []string{"77333377", "33333333", "33333333", "33333333"}},
		{"touched in the last row", []impl.Object{square}, 4, 0, []string{"33333333", "33333333", "33333333", "55553333"}},
		{"covered", []impl.Object{square, right}, 4, 1, []string{"55666633", "55666633", "33666633", "33666633"}},
		{"covered by the other one", []impl.Object{right, square}, 4, 1, []string{"55556633", "55556633", "33666633", "33666633"}},
		{"the first one again", []impl.Object{square, right, square}, 4, 1, []string{"55556633", "55556633", "33666633", "33666633"}},
		{"white", []impl.Object{square, grayObject(255, rectOf(1, 4, 6, 5))}, 2, 2, []string{"5.....33", "55553333"}},
		{"black", []impl.Object{grayObject(0, rectOf(1, 4, 6, 5))}, 2, 2, []string{"3#####33", "33333333"}},
		{"a clip", []impl.Object{objectOf(twoLegs(), boxAt(1, 3, 7, 5))}, 4, 1, []string{"39333393", "33333333", "33333333", "33333333"}},
		{"an object that does not touch", []impl.Object{square}, 4, 3, []string{"33333333", "33333333", "33333333", "33333333"}},
		{"one that does not and one that does", []impl.Object{square, grayObject(4, rectOf(1, 12, 3, 13))}, 4, 3, []string{"34433333", "33333333", "33333333", "33333333"}},
		{"the last band", []impl.Object{grayObject(4, rectOf(2, 31, 9, 50))}, 2, 15, []string{"33333333", "33444444"}},
		{"the last band but one", []impl.Object{grayObject(4, rectOf(2, 31, 9, 50))}, 2, 14, []string{"33333333", "33333333"}},
	}
	for _, c := range list {
		b := impl.Band{Height: c.height, Number: c.number, Base: evenRows(c.height, 3), Objects: c.list}
		m := impl.MergeBand(b)
		if m.Height != c.height || m.Number != c.number || len(m.Objects) != 0 || !slices.Equal(drawn(m.Base, 8), c.want) {
			t.Errorf("%s: %v, want %v", c.what, m, c.want)
		}
		checkRowsOfBand(t, b, m.Base)
	}
}

func TestMergeBandOfManyBands(t *testing.T) {
	for _, b := range goodBands() {
		checkMerge(t, b)
		checkRowsOfBand(t, b, mergedBand(b).Base)
	}
	eachBand(func(height, number int) {
		for i := 0; i+5 <= 60; i += 12 {
			checkMerge(t, bandWith(height, number, coveringObjects()[i:i+5]...))
		}
	})
}

// The rows are what PaintObject makes of Base, from the first row of the band on.
func TestMergeBandPaintsTheObjectsInOrder(t *testing.T) {
	for _, b := range goodBands() {
		rows, ok := b.Base, true
		for _, o := range b.Objects {
			if rows, ok = impl.PaintObject(rows, b.Height*b.Number, o); !ok {
				t.Fatalf("%v is not painted", o)
			}
		}
		checkRowsOfBand(t, b, rows)
		if m := impl.MergeBand(b); !equalRows(m.Base, rows) {
			t.Fatalf("MergeBand of %s is %v, want %v", bandText(b), m.Base, rows)
		}
	}
}

func TestBandsThatAreNotValidAreNotMerged(t *testing.T) {
	for _, b := range badBands() {
		if got := impl.MergeBand(b); !sameBand(got, b) {
			t.Errorf("MergeBand of %s, %.600v, is %.600v", bandText(b), b, got)
		}
		checkRowsOfBand(t, b, nil)
	}
}

// One object that is not valid stops all of them.
func TestNothingIsPaintedOnABandThatIsNotValid(t *testing.T) {
	for _, at := range []int{0, 1, 2} {
		b := bandWith(4, 1, slices.Insert(steps(2), at, impl.Object{})...)
		if got := impl.MergeBand(b); !equalRows(got.Base, variedRows(4)) || len(got.Objects) != 3 {
			t.Errorf("MergeBand is %v", got)
		}
	}
}

func TestRowsOfBand(t *testing.T) {
	b, _ := impl.NewBand(2, 3)
	checkRowsOfBand(t, b, evenRows(2, 255))
	b.Objects = []impl.Object{grayObject(4, rectOf(0, 6, 3, 7)), grayObject(5, rectOf(2, 5, 4, 9))}
	if rows := impl.RowsOfBand(b); len(rows) != 2 || !slices.Equal(drawn(rows, 6), []string{"4455..", "..55.."}) {
		t.Errorf("the rows are %v", rows)
	}
	b.Number = 16
	checkRowsOfBand(t, b, nil)
	checkRowsOfBand(t, impl.Band{}, nil)
	checkRowsOfBand(t, bandWith(8, 2), variedRows(8))
}

// Merging changes no row that a band shows, and merging what is merged changes nothing at all.
func TestMergingTwice(t *testing.T) {
	r := rand.New(rand.NewPCG(13, 2))
	bands := goodBands()
	for range 60 {
		height := bandHeights()[r.IntN(6)]
		from := r.IntN(190)
		bands = append(bands, bandWith(height, r.IntN(bandsOf(height)), coveringObjects()[from:from+6]...))
	}
	painted := 0
	for _, b := range bands {
		rows := impl.RowsOfBand(b)
		once := impl.MergeBand(b)
		twice := impl.MergeBand(once)
		if !sameBand(once, twice) || !equalRows(once.Base, rows) || !impl.BandOk(once) || impl.BandCells(once) != 0 {
			t.Fatalf("merging %v gives %v, and then %v", b, once, twice)
		}
		checkRowsOfBand(t, once, rows)
		checkRowsOfBand(t, twice, rows)
		if !equalRows(rows, b.Base) {
			painted++
		}
	}
	if painted < 150 {
		t.Errorf("merging paints on %d of %d bands", painted, len(bands))
	}
	for _, b := range badBands() {
		if twice := impl.MergeBand(impl.MergeBand(b)); !sameBand(twice, b) {
			t.Fatalf("merging %s twice gives %.600v", bandText(b), twice)
		}
	}
}

// A band that is merged in between takes the later objects above the earlier ones.
func TestObjectsAboveAMergedBand(t *testing.T) {
	eachBand(func(height, number int) {
		list := coveringObjects()[number%20 : number%20+12]
		whole := bandWith(height, number, list[:6]...)
		whole = mergedBand(whole)
		whole.Objects = list[6:]
		part := impl.MergeBand(bandWith(height, number, list[:6]...))
		for _, o := range list[6:] {
			part = impl.MergeBand(impl.Band{Height: height, Number: number, Base: part.Base, Objects: []impl.Object{o}})
		}
		checkRowsOfBand(t, part, mergedBand(whole).Base)
		checkRowsOfBand(t, whole, part.Base)
	})
}
