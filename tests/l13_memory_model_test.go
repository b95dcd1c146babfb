package tests

import (
	"math"
	"slices"
	"strconv"
	"testing"

	"loop.example/g00987/impl"
)

func cellsOf(list []impl.Object) int {
	cells := 0
	for _, o := range list {
		cells += 2 + len(o.Path)
	}
	return cells
}

// isBandValue says which bands are valid without the functions under test.
func isBandValue(b impl.Band) bool {
	if !isHeight(b.Height) || b.Number < 0 || b.Number >= bandsOf(b.Height) || len(b.Base) != b.Height || !isRows(b.Base) {
		return false
	}
	bad := slices.ContainsFunc(b.Objects, func(o impl.Object) bool { return !isObject(o) })
	return !bad && cellsOf(b.Objects) <= 60
}

func sameBand(a, b impl.Band) bool {
	return a.Height == b.Height && a.Number == b.Number && equalRows(a.Base, b.Base) && slices.EqualFunc(a.Objects, b.Objects, sameObject)
}

// bandWith has a Base of varied rows, on which each painted dot is a change.
func bandWith(height, number int, list ...impl.Object) impl.Band {
	return impl.Band{Height: height, Number: number, Base: variedRows(height), Objects: list}
}

// mergedBand says what MergeBand returns without the functions under test.
func mergedBand(b impl.Band) impl.Band {
	if !isBandValue(b) {
		return b
	}
	rows := fullRows(b.Height, func(x, y int) int {
		for _, o := range slices.Backward(b.Objects) {
			if isPainted(o, x, b.Height*b.Number+y) {
				return o.Gray
			}
		}
		return b.Base[y][x]
	})
	return impl.Band{Height: b.Height, Number: b.Number, Base: rows}
}

// addedBand says what AddToBand returns without the functions under test.
func addedBand(b impl.Band, o impl.Object) (impl.Band, bool) {
	if !isBandValue(b) || !isObject(o) {
		return b, false
	}
	if !touches(o, b.Height, b.Number) {
		return b, true
	}
	if cellsOf(b.Objects)+cellsOf([]impl.Object{o}) > 60 {
		b = mergedBand(b)
	}
	b.Objects = append(slices.Clone(b.Objects), o)
	return b, true
}

// sizedObject is valid, has a path of 3 to 8 points and touches each band.
func sizedObject(size, gray int) impl.Object {
	path := points(-5, -9, 40, -3, 31, 44, 16, 20, 4, 41, 1, 12, 8, 8, -3, 4)
	return grayObject(gray, path[:size])
}

// sizedObjects have as many points as the sizes say, and the values 1, 2 and so on.
func sizedObjects(sizes ...int) []impl.Object {
	var list []impl.Object
	for i, size := range sizes {
		list = append(list, sizedObject(size, i+1))
	}
	return list
}

// fullLists have exactly MaxCells cells, as few and as many objects as are possible among them.
func fullLists() [][]impl.Object {
	return [][]impl.Object{
		sizedObjects(8, 8, 8, 8, 8, 8),
		sizedObjects(3, 3, 3, 3, 3, 3, 3, 3, 3, 3, 3, 3),
		sizedObjects(4, 4, 4, 4, 4, 4, 4, 4, 4, 4),
		sizedObjects(3, 4, 5, 6, 7, 8, 3, 8),
		sizedObjects(8, 3, 8, 3, 8, 3, 8, 3),
	}
}

// longLists have one cell too many or more, the first ones just one.
func longLists() [][]impl.Object {
	return [][]impl.Object{
		sizedObjects(8, 8, 8, 8, 8, 3, 4),
		sizedObjects(3, 3, 3, 3, 3, 3, 3, 3, 3, 3, 3, 4),
		sizedObjects(4, 4, 4, 4, 4, 4, 4, 4, 4, 5),
		sizedObjects(8, 8, 8, 8, 8, 8, 3),
		sizedObjects(8, 8, 8, 8, 8, 8, 8),
		steps(13), steps(200),
	}
}

// goodBands are valid: all heights and numbers, with few and with as many objects as fit.
func goodBands() []impl.Band {
	var bands []impl.Band
	lists := append(fullLists(), nil, []impl.Object{}, steps(1), steps(9), coveringObjects()[:6], coveringObjects()[60:66], crossingObjects()[20:27])
	i := 0
	eachBand(func(height, number int) {
		white := impl.Band{Height: height, Number: number, Base: evenRows(height, 255)}
		bands = append(bands, white, bandWith(height, number), bandWith(height, number, lists[i%len(lists)]...))
		bands = append(bands, bandWith(height, number, lists[(i+4)%len(lists)]...), bandWith(height, number, rowsObject(7, 2, 30), rowsObject(8, 3, 5)))
		i++
	})
	return bands
}

// badPlaces are bands that would be valid if there were such a band.
func badPlaces() []impl.Band {
	var bands []impl.Band
	eachMissingBand(func(height, number int) {
		rows := 4
		if isHeight(height) || height > 0 && height <= 32 {
			rows = height
		}
		b := bandWith(rows, 0, steps(2)...)
		b.Height, b.Number = height, number
		bands = append(bands, b)
	})
	return bands
}

// badBases are bands in which only the rows of Base are not valid.
func badBases() []impl.Band {
	var bands []impl.Band
	for _, height := range bandHeights() {
		b := bandWith(height, bandsOf(height)-1, steps(3)...)
		for _, count := range []int{0, height - 1, height + 1, 2 * height, 33, 64} {
			if count != height {
				b.Base = variedRows(count)
				bands = append(bands, b)
			}
		}
		for _, at := range []int{0, height / 2, height - 1} {
			for _, length := range []int{0, 1, 31, 33, 64} {
				b.Base = variedRows(height)
				b.Base[at] = slices.Repeat([]int{7}, length)
				bands = append(bands, b)
			}
			for _, n := range []int{-1, 256, 1 << 32, math.MinInt, math.MaxInt} {
				b.Base = rowsWith(variedRows(height), (5*at+31)%32, at, n)
				bands = append(bands, b)
			}
		}
		b.Base = make([][]int, height)
		bands = append(bands, b)
	}
	return bands
}

// badBandObjects are bands with objects that are not valid, in the first place, a middle one and the last one, or with too many cells.
func badBandObjects() []impl.Band {
	var bands []impl.Band
	bad := badObjects()
	for i, o := range bad {
		height := bandHeights()[i%6]
		for _, at := range []int{0, 2, 4} {
			list := slices.Insert(sizedObjects(3, 4, 5, 3), at, o)
			bands = append(bands, bandWith(height, i%bandsOf(height), list...))
		}
		bands = append(bands, bandWith(height, 0, o))
	}
	for i, list := range longLists() {
		height := bandHeights()[i%6]
		bands = append(bands, bandWith(height, 0, list...), bandWith(height, bandsOf(height)-1, list...))
	}
	return append(bands, bandWith(4, 2, bad...))
}

// badBands are not valid, each of most of them for one reason.
func badBands() []impl.Band {
	bands := slices.Concat(badPlaces(), badBases(), badBandObjects())
	all := impl.Band{Height: math.MinInt, Number: math.MaxInt, Base: [][]int{nil, {math.MinInt}, {}}, Objects: make([]impl.Object, 40)}
	return append(bands, impl.Band{}, impl.Band{Height: 8}, impl.Band{Height: 1, Base: [][]int{nil}}, impl.Band{Base: variedRows(1)}, impl.Band{Height: math.MaxInt, Number: math.MaxInt}, all)
}

// someBadBands are enough for tests that call with each of them several times.
func someBadBands() []impl.Band {
	var some []impl.Band
	for i, b := range badBands() {
		if i%7 == 0 {
			some = append(some, b)
		}
	}
	return append(some, impl.Band{})
}

func bandText(b impl.Band) string {
	return bandName(b.Height, b.Number) + " with " + strconv.Itoa(len(b.Objects)) + " objects on " + strconv.Itoa(len(b.Base)) + " rows"
}

func TestTheBandsToTestWith(t *testing.T) {
	for _, b := range goodBands() {
		if !isBandValue(b) {
			t.Errorf("%s is not valid", bandText(b))
		}
	}
	for _, b := range badBands() {
		if isBandValue(b) {
			t.Errorf("%s is valid", bandText(b))
		}
	}
	for i, list := range fullLists() {
		if cellsOf(list) != 60 || i < 3 && cellsOf(longLists()[i]) != 61 {
			t.Errorf("list %d has %d cells, and the long one %d", i, cellsOf(list), cellsOf(longLists()[i]))
		}
	}
	eachBand(func(height, number int) {
		for size := 3; size <= 8; size++ {
			if o := sizedObject(size, 9); !isObject(o) || !touches(o, height, number) {
				t.Errorf("the object of %d points does not touch %s", size, bandName(height, number))
			}
		}
	})
}
