package tests

import (
	"slices"
	"testing"

	"loop.example/g00987/impl"
)

// objectsWithRoom copies objects, with spare capacity behind the list and behind each path.
func objectsWithRoom(list []impl.Object, spare int) []impl.Object {
	return pageWithRoom(impl.Page{Objects: list}, spare).Objects
}

// sharedLists are lists in which several objects have the same path, or a part of it.
func sharedLists() [][]impl.Object {
	path := append(rectOf(2, 2, 30, 30), rectOf(5, 5, 9, 9)...)
	return [][]impl.Object{
		{grayObject(1, path), grayObject(2, path), grayObject(3, path)},
		{grayObject(1, path), grayObject(2, path[:4]), grayObject(3, path[4:]), grayObject(4, path[1:5])},
		slices.Repeat([]impl.Object{rowsObject(9, 1, 31)}, 5),
	}
}

func listsOfObjects() [][]impl.Object {
	lists := append(withBadObjects(), nil, steps(1), steps(5), crossingObjects()[:20])
	return append(lists, coveringObjects()[:12], coveringObjects()[40:55])
}

// checkLeftAlone calls a function with objects that have spare capacity, and checks that it changes none of it.
func checkLeftAlone(t *testing.T, what string, list []impl.Object, call func(list []impl.Object)) {
	t.Helper()
	for _, spare := range []int{0, 1, 20} {
		room := objectsWithRoom(list, spare)
		before := toCapacity(impl.Page{Objects: room})
		call(room)
		if !samePage(toCapacity(impl.Page{Objects: room}), before) {
			t.Fatalf("%s changed %.300v", what, before.Objects)
		}
	}
}

func TestObjectsOfBandReturnsNewMemory(t *testing.T) {
	for _, list := range listsOfObjects() {
		eachBand(func(height, band int) {
			checkLeftAlone(t, "ObjectsOfBand", list, func(room []impl.Object) {
				got := impl.ObjectsOfBand(room, height, band)
				checkOwnMemory(t, "ObjectsOfBand", impl.Page{Objects: got}, impl.Page{Objects: room})
			})
		})
	}
	for _, list := range sharedLists() {
		eachBand(func(height, band int) {
			got := impl.ObjectsOfBand(list, height, band)
			checkOwnMemory(t, "ObjectsOfBand", impl.Page{Objects: got}, impl.Page{Objects: list})
			checkObjectsOfBand(t, list, height, band)
		})
	}
}

func TestRenderedRowsAreNewMemory(t *testing.T) {
	for _, list := range append(listsOfObjects(), sharedLists()...) {
		eachBand(func(height, band int) {
			checkLeftAlone(t, "RenderBand", list, func(room []impl.Object) {
				got := impl.RenderBand(room, height, band)
				checkOwnRows(t, "RenderBand", got, pageMemory(impl.Page{Objects: room}))
			})
		})
		for _, height := range append(bandHeights(), 0, 3) {
			checkLeftAlone(t, "RenderBands", list, func(room []impl.Object) {
				got := impl.RenderBands(room, height)
				checkOwnRows(t, "RenderBands", got, pageMemory(impl.Page{Objects: room}))
			})
		}
	}
}

func TestTouchesBandLeavesItsObject(t *testing.T) {
	for _, o := range append(badObjects(), crossingObjects()...) {
		eachBand(func(height, band int) {
			checkLeftAlone(t, "TouchesBand", []impl.Object{o}, func(room []impl.Object) {
				impl.TouchesBand(room[0], height, band)
			})
		})
	}
}

func TestMissingBandsLeaveTheirObjects(t *testing.T) {
	list := append(steps(3), badObjects()[0])
	eachMissingBand(func(height, band int) {
		checkLeftAlone(t, bandName(height, band), list, func(room []impl.Object) {
			impl.TouchesBand(room[0], height, band)
			impl.ObjectsOfBand(room, height, band)
			impl.RenderBand(room, height, band)
			impl.RenderBands(room, height)
		})
	})
}

// A change of an argument, or of a result, behind a call changes no other result: no goroutine goes on behind it.
func TestBandsStayAsTheyWere(t *testing.T) {
	want := pagePainted(coveringObjects()[:12])
	for i := range 60 {
		height := bandHeights()[i%6]
		list := objectsWithRoom(coveringObjects()[:12], 2)
		kept := impl.ObjectsOfBand(list, 32, 0)
		band := impl.RenderBand(list, height, 0)
		first, second := impl.RenderBands(list, height), impl.RenderBands(list, height)
		for j, o := range list {
			for k := range o.Path {
				o.Path[k] = impl.Point{X: -9, Y: 40}
			}
			list[j] = rowsObject(77, 0, 32)
		}
		for y := range second {
			second[y][3] = -5
		}
		if !equalRows(first, want) || !equalRows(band, want[:height]) || !slices.EqualFunc(kept, touchingObjects(coveringObjects()[:12], 32, 0), sameObject) {
			t.Fatalf("a result of height %d became %v", height, first)
		}
		kept[0].Path[0] = impl.Point{X: 99}
		band[0][0] = -7
		checkRenderAll(t, coveringObjects()[:12], height, want)
	}
}

func TestBandsKeepNoState(t *testing.T) {
	lists := [][]impl.Object{steps(4), nil, badObjects(), {rowsObject(7, 3, 30)}, crossingObjects()[10:14]}
	for range 3 {
		for i, list := range lists {
			page := pagePainted(list)
			for j, height := range []int{4, 3, 1, -1, 32, 0, 8, 64} {
				if isHeight(height) {
					checkRenderAll(t, list, height, page)
					checkRender(t, list, height, 0, page[:height])
				} else {
					checkRenderAll(t, list, height, nil)
					checkRender(t, list, height, 0, nil)
				}
				checkObjectsOfBand(t, list, height, (i+j)%5)
			}
		}
		slices.Reverse(lists)
	}
}
