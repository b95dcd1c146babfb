package tests

import (
	"runtime"
	"slices"
	"sync"
	"testing"

	"loop.example/g00987/impl"
)

func checkRender(t *testing.T, list []impl.Object, height, band int, want [][]int) {
	t.Helper()
	if got := impl.RenderBand(list, height, band); !equalRows(got, want) {
		t.Fatalf("RenderBand(%.300v) is %v, want %v, for %s", list, got, want, bandName(height, band))
	}
}

func checkRenderAll(t *testing.T, list []impl.Object, height int, want [][]int) {
	t.Helper()
	if got := impl.RenderBands(list, height); !equalRows(got, want) {
		t.Fatalf("RenderBands(%.300v, %d) is %v, want %v", list, height, got, want)
	}
}

// Promise 12: the bands together are the whole page, whatever their height.
func TestBandsAreTheWholePage(t *testing.T) {
	for _, list := range bandLists() {
		page, ok := impl.PaintAll(list)
		if !ok || len(page) != 32 {
			t.Fatalf("PaintAll(%v) is %v, %v", list, page, ok)
		}
		for _, height := range bandHeights() {
			rows := impl.RenderBands(list, height)
			if !equalRows(rows, page) || !impl.SameRows(rows, page) || !impl.RowsOk(rows) {
				t.Fatalf("RenderBands(%v, %d) is %v, the whole page %v", list, height, rows, page)
			}
		}
	}
}

func TestBandsOfTheWholeListAreTheWholePage(t *testing.T) {
	for _, list := range bandLists() {
		page, _ := impl.PaintAll(list)
		for _, height := range bandHeights() {
			var rows [][]int
			for band := range impl.CountBands(height) {
				rows = append(rows, impl.RenderBand(list, height, band)...)
			}
			if !equalRows(rows, page) {
				t.Fatalf("the bands of %v of height %d are %v, the whole page %v", list, height, rows, page)
			}
		}
	}
}

// A band needs only the objects that touch it.
func TestBandsOfTheirObjects(t *testing.T) {
	for _, list := range append(bandLists(), withBadObjects()...) {
		eachBand(func(height, band int) {
			checkRender(t, impl.ObjectsOfBand(list, height, band), height, band, impl.RenderBand(list, height, band))
		})
	}
}

func TestRenderBandOfManyObjects(t *testing.T) {
	lists := append(bandLists(), withBadObjects()...)
	for _, list := range append(lists, paintingObjects()[:40], crossingObjects(), slices.Repeat(steps(5), 30)) {
		page := pagePainted(list)
		eachBand(func(height, band int) { checkRender(t, list, height, band, rowsOfBand(page, height, band)) })
	}
}

func TestRenderBandsOfManyObjects(t *testing.T) {
	lists := append(bandLists(), withBadObjects()...)
	for _, list := range append(lists, paintingObjects()[:40], crossingObjects(), slices.Repeat(steps(5), 30)) {
		page := pagePainted(list)
		for _, height := range bandHeights() {
			checkRenderAll(t, list, height, page)
		}
	}
}

func TestRenderBand(t *testing.T) {
	legs := grayObject(7, twoLegs())
	square, right := grayObject(5, rectOf(0, 3, 4, 6)), grayObject(6, rectOf(2, 4, 6, 8))
	bad := impl.Object{Path: rectOf(0, 0, 32, 32), Gray: 256, Clip: pageBox()}
	few := objectOf(rectOf(0, 0, 32, 32)[:2], pageBox())
	list := []struct {
		what         string
		list         []impl.Object
		height, band int
		want         []string
	}{
		{"nil", nil, 2, 3, []string{"........", "........"}},
		{"no objects", []impl.Object{}, 1, 31, []string{"........"}},
		{"a band of one row", []impl.Object{legs}, 1, 1, []string{"77777777"}},
		{"the last row of an object", []impl.Object{legs}, 1, 8, []string{"77....77"}},
		{"the row behind it", []impl.Object{legs}, 1, 9, []string{"........"}},
		{"the first band", []impl.Object{legs}, 4, 0, []string{"77777777", "77777777", "77....77", "77....77"}},
		{"a middle band", []impl.Object{legs}, 4, 1, []string{"77....77", "77....77", "77....77", "77....77"}},
		{"a band touched in part", []impl.Object{legs}, 4, 2, []string{"77....77", "........", "........", "........"}},
		{"a band that is not touched", []impl.Object{legs}, 4, 3, []string{"........", "........", "........", "........"}},
		{"two rows", []impl.Object{legs}, 2, 4, []string{"77....77", "........"}},
		{"one object above another", []impl.Object{square, right}, 4, 1, []string{"556666..", "556666..", "..6666..", "..6666.."}},
		{"the other one above", []impl.Object{right, square}, 4, 1, []string{"555566..", "555566..", "..6666..", "..6666.."}},
		{"only the first one touches", []impl.Object{square, right}, 4, 0, []string{"........", "........", "........", "5555...."}},
		{"the first one again", []impl.Object{square, right, square}, 4, 1, []string{"555566..", "555566..", "..6666..", "..6666.."}},
		{"White above another one", []impl.Object{square, grayObject(255, rectOf(1, 4, 3, 5))}, 2, 2, []string{"5..5....", "5555...."}},
		{"0 above another one", []impl.Object{square, grayObject(0, rectOf(1, 4, 3, 5))}, 2, 2, []string{"5##5....", "5555...."}},
		{"one that is not valid first", []impl.Object{bad, square, right}, 4, 1, []string{"556666..", "556666..", "..6666..", "..6666.."}},
		{"one that is not valid between", []impl.Object{square, few, right}, 4, 1, []string{"556666..", "556666..", "..6666..", "..6666.."}},
		{"one that is not valid last", []impl.Object{square, right, bad}, 4, 1, []string{"556666..", "556666..", "..6666..", "..6666.."}},
		{"only one that is not valid", []impl.Object{bad}, 2, 0, []string{"........", "........"}},
		{"a clip", []impl.Object{objectOf(twoLegs(), boxAt(1, 3, 7, 5))}, 4, 1, []string{".9....9.", "........", "........", "........"}},
		{"a box in which nothing is painted", []impl.Object{objectOf(points(1, 1, 9, 9, 5, 5), pageBox())}, 2, 2, []string{"........", "........"}},
		{"the last band", []impl.Object{grayObject(4, rectOf(2, 31, 9, 50))}, 2, 15, []string{"........", "..444444"}},
		{"the last band but one", []impl.Object{grayObject(4, rectOf(2, 31, 9, 50))}, 2, 14, []string{"........", "........"}},
		{"past the edges", []impl.Object{grayObject(4, points(-4, -4, 8, -4, -4, 8))}, 4, 0, []string{"444.....", "44......", "4.......", "........"}},
	}
	for _, c := range list {
		rows := impl.RenderBand(c.list, c.height, c.band)
		if !impl.RowsOk(rows) || !slices.Equal(drawn(rows, 8), c.want) {
			t.Errorf("%s: %v, want %v", c.what, rows, c.want)
		}
	}
}

func TestRenderBandWithoutObjects(t *testing.T) {
	for _, list := range [][]impl.Object{nil, {}, badObjects()} {
		eachBand(func(height, band int) { checkRender(t, list, height, band, evenRows(height, 255)) })
		for _, height := range bandHeights() {
			checkRenderAll(t, list, height, evenRows(32, 255))
		}
	}
}

func TestMissingBandsHaveNoRows(t *testing.T) {
	for _, list := range [][]impl.Object{nil, steps(3), {rowsObject(7, 0, 32)}, badObjects()} {
		eachMissingBand(func(height, band int) { checkRender(t, list, height, band, nil) })
		for _, height := range badHeights() {
			checkRenderAll(t, list, height, nil)
		}
	}
}

// An object is in the first, a middle and the last band that it touches with the rows that it has there.
func TestObjectsThatTouchTwoBands(t *testing.T) {
	for _, height := range []int{1, 2, 4, 8, 16} {
		for border := height; border < 32; border += height {
			list := []impl.Object{rowsObject(8, border-1, border+1)}
			above, below := evenRows(height, 255), evenRows(height, 255)
			for x := 3; x < 29; x++ {
				above[height-1][x], below[0][x] = 8, 8
			}
			checkRender(t, list, height, border/height-1, above)
			checkRender(t, list, height, border/height, below)
			page := evenRows(32, 255)
			copy(page[border-1], above[height-1])
			copy(page[border], below[0])
			checkRenderAll(t, list, height, page)
		}
	}
}

// There is no limit to the number of objects of a band, other than to that of a page.
func TestBandsOfManyObjects(t *testing.T) {
	for _, count := range []int{12, 13, 14, 100, 1000} {
		list := slices.Repeat([]impl.Object{rowsObject(8, 3, 9)}, count)
		list = append(list, rowsObject(6, 4, 30))
		page := pagePainted(list)
		for _, height := range bandHeights() {
			checkRenderAll(t, list, height, page)
			checkRender(t, list, height, 0, page[:height])
			if got := impl.ObjectsOfBand(list, height, 3/height); len(got) < count || len(got) > count+1 {
				t.Errorf("%d objects are in %s, want %d", len(got), bandName(height, 3/height), count)
			}
		}
	}
}

// The order of the objects in each band is that of the list, and not that of their rows.
func TestBandsKeepTheOrderOfTheirObjects(t *testing.T) {
	list := []impl.Object{rowsObject(1, 20, 32), rowsObject(2, 0, 24), rowsObject(3, 8, 12), rowsObject(4, 2, 30), rowsObject(5, 9, 10)}
	for range 5 {
		list = append(list[1:], list[0])
		page, _ := impl.PaintAll(list)
		for _, height := range bandHeights() {
			checkRenderAll(t, list, height, page)
			checkRenderAll(t, list, height, pagePainted(list))
		}
	}
}

func TestRenderBandsGivesTheSameRowsEachTime(t *testing.T) {
	before := runtime.GOMAXPROCS(0)
	defer runtime.GOMAXPROCS(before)
	for _, processors := range []int{1, 2, 3, 16, before} {
		runtime.GOMAXPROCS(processors)
		for _, list := range [][]impl.Object{nil, steps(12), coveringObjects()[:12], crossingObjects(), withBadObjects()[9]} {
			page := pagePainted(list)
			for i := range 120 {
				checkRenderAll(t, list, bandHeights()[i%6], page)
			}
		}
	}
}

func TestRenderBandsFromSeveralGoroutines(t *testing.T) {
	for _, list := range [][]impl.Object{coveringObjects()[:12], crossingObjects(), withBadObjects()[9]} {
		page := pagePainted(list)
		results := make([][][]int, 240)
		var callers sync.WaitGroup
		for i := range results {
			callers.Go(func() { results[i] = impl.RenderBands(list, bandHeights()[i%6]) })
		}
		callers.Wait()
		for i, rows := range results {
			if !equalRows(rows, page) {
				t.Fatalf("call %d, with height %d, is %v, want %v", i, bandHeights()[i%6], rows, page)
			}
		}
	}
}

func TestBandsOfARun(t *testing.T) {
	list, _ := impl.ScanText("9 gray 1 1 3 2 rect fill 0 gray 2 2 3 2 rect fill 255 gray 3 1 1 1 rect fill")
	page, _ := impl.RunPage(list)
	want := []string{"......", ".99...", ".9###.", "..###."}
	for _, height := range bandHeights() {
		rows := impl.RenderBands(page.Objects, height)
		if len(rows) != 32 || !slices.Equal(drawn(rows[:4], 6), want) {
			t.Errorf("with height %d the page is %v", height, rows)
		}
	}
	if rows := impl.RenderBand(page.Objects, 2, 1); !slices.Equal(drawn(rows, 6), want[2:]) {
		t.Errorf("the second band is %v", rows)
	}
}
