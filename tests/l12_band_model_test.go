package tests

import (
	"math"
	"slices"
	"strconv"
	"testing"

	"loop.example/g00987/impl"
)

func bandHeights() []int {
	return []int{1, 2, 4, 8, 16, 32}
}

func isHeight(n int) bool {
	return slices.Contains(bandHeights(), n)
}

// badHeights are no heights, most of them next to one, multiples of some, or of the same low bits.
func badHeights() []int {
	return []int{
		math.MinInt, math.MinInt + 1, math.MinInt + 8, -1 << 32, -1<<32 + 4, -64, -33, -32, -31, -16, -8, -4, -3, -2, -1, 0,
		3, 5, 6, 7, 9, 10, 12, 15, 17, 24, 31, 33, 63, 64, 65, 96, 128, 1024, 1 << 32, 1<<32 + 8, 1 << 62, math.MaxInt - 1, math.MaxInt,
	}
}

// bandsOf says how many bands there are without the functions under test.
func bandsOf(height int) int {
	return map[int]int{1: 32, 2: 16, 4: 8, 8: 4, 16: 2, 32: 1}[height]
}

func eachBand(visit func(height, band int)) {
	for _, height := range bandHeights() {
		for band := range bandsOf(height) {
			visit(height, band)
		}
	}
}

// eachMissingBand visits pairs that are no band, also those that would be one if products were cut to 64 or 32 bits.
func eachMissingBand(visit func(height, band int)) {
	for _, height := range bandHeights() {
		count := bandsOf(height)
		for _, band := range []int{-1, -2, -count, count, count + 1, 2 * count, 32, 200, 1 << 32, 1<<32 + 1, -1 << 32, math.MinInt, math.MinInt + 1, math.MaxInt, math.MaxInt - 1} {
			visit(height, band)
		}
		for bit := 57; bit < 63; bit++ {
			visit(height, 1<<bit)
			visit(height, 1<<bit+1)
			visit(height, -1<<bit)
		}
	}
	for _, height := range badHeights() {
		for _, band := range []int{math.MinInt, -1, 0, 1, 2, 31, 32, math.MaxInt} {
			visit(height, band)
		}
	}
}

// touches says what TouchesBand returns without the functions under test.
func touches(o impl.Object, height, band int) bool {
	if !isHeight(height) || band < 0 || band >= bandsOf(height) {
		return false
	}
	box := paintedBox(o)
	for n := range 32 * height {
		if hasDot(box, n%32, band*height+n/32) {
			return true
		}
	}
	return false
}

func touchingObjects(list []impl.Object, height, band int) []impl.Object {
	var some []impl.Object
	for _, o := range list {
		if touches(o, height, band) {
			some = append(some, o)
		}
	}
	return some
}

// pagePainted is the page with the valid ones of any number of objects, painted without the functions under test.
func pagePainted(list []impl.Object) [][]int {
	return fullRows(32, func(x, y int) int { return topGray(list, x, y) })
}

// rowsOfBand are those of the rows of a page that lie in a band.
func rowsOfBand(page [][]int, height, band int) [][]int {
	return page[band*height : band*height+height]
}

func bandName(height, band int) string {
	return "band " + strconv.Itoa(band) + " of height " + strconv.Itoa(height)
}

// rowsObject fills rows, and columns of which none is the first or the last one of the page.
func rowsObject(gray, from, to int) impl.Object {
	return grayObject(gray, rectOf(3, from, 29, to))
}

// crossingObjects begin above and end below the border between two bands, for each border of each height.
func crossingObjects() []impl.Object {
	var list []impl.Object
	for border := 1; border < 32; border++ {
		list = append(list, grayObject(border, rectOf(border%7, border-1, 20+border%12, border+1)))
		list = append(list, grayObject(200-border, points(border%5, border-2, 31, border, border%9, border+2)))
	}
	return list
}

// withBadObjects are lists with objects that are not valid in the first place, in a middle one, in the last one and in all of these.
func withBadObjects() [][]impl.Object {
	var lists [][]impl.Object
	bad := badObjects()
	for i, count := range []int{1, 2, 3, 11, 12, 13} {
		list := coveringObjects()[9*i : 9*i+count]
		for j, at := range []int{0, count / 2, count} {
			lists = append(lists, slices.Insert(slices.Clone(list), at, bad[(5*i+j)%len(bad)]))
		}
		around := slices.Concat(bad[:2], list[:count/2], bad[2:4], list[count/2:], bad[4:])
		lists = append(lists, around)
	}
	return append(lists, bad, bad[:1], make([]impl.Object, 14))
}

// bandLists are lists of which each is painted on bands of all heights.
func bandLists() [][]impl.Object {
	lists := append(manyObjects(), steps(12), crossingObjects()[:12], crossingObjects()[24:36], []impl.Object{rowsObject(7, 0, 32)})
	for _, o := range crossingObjects() {
		lists = append(lists, []impl.Object{o, rowsObject(70, 5, 22), o})
	}
	return lists
}

func TestTheListsToTestBandsWith(t *testing.T) {
	crossing, bad, covering := 0, 0, 0
	for _, list := range bandLists() {
		if len(list) > 12 {
			t.Fatalf("%d objects are more than a page has", len(list))
		}
		for _, o := range list {
			if !isObject(o) {
				t.Fatalf("%v is not valid", o)
			}
			if touches(o, 4, 3) && touches(o, 4, 4) {
				crossing++
			}
		}
		if len(list) > 1 && topGray(list, 16, 16) != topGray(list[:1], 16, 16) && topGray(list[:1], 16, 16) != 255 {
			covering++
		}
	}
	for _, list := range withBadObjects() {
		if slices.ContainsFunc(list, func(o impl.Object) bool { return !isObject(o) }) {
			bad++
		}
	}
	if crossing < 100 || covering < 10 || bad != len(withBadObjects()) {
		t.Errorf("%d objects touch two bands, %d are covered, and %d lists have objects that are not valid", crossing, covering, bad)
	}
}
