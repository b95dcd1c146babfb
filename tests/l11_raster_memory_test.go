package tests

import (
	"slices"
	"testing"

	"loop.example/g00987/impl"
)

// rowsWithRoom copies rows, with spare capacity behind the list and behind each row.
func rowsWithRoom(rows [][]int, spare int) [][]int {
	room := roomFor(rows, spare, []int{-77777})
	for y, row := range room {
		room[y] = roomFor(row, spare, -77777)
	}
	return room
}

// rowsToCapacity copies rows and all of their spare capacity.
func rowsToCapacity(rows [][]int) [][]int {
	full := [][]int{}
	for _, row := range rows[:cap(rows)] {
		full = append(full, slices.Clone(row[:cap(row)]))
	}
	return full
}

// rowsMemory also says what is kept behind the end of the list.
func rowsMemory(rows [][]int) []memory {
	list := []memory{memoryOf("the list", rows)}
	for _, row := range rows[:cap(rows)] {
		list = append(list, memoryOf("a row", row))
	}
	return list
}

// checkOwnRows checks that no two rows share memory, and none with the other memory.
func checkOwnRows(t *testing.T, what string, rows [][]int, other []memory) {
	t.Helper()
	own := rowsMemory(rows)
	for i, m := range own {
		for _, n := range append(slices.Clone(own[i+1:]), other...) {
			if m.meets(n) {
				t.Fatalf("%s: %s of the result shares memory with %s", what, m.what, n.what)
			}
		}
	}
}

func TestPaintObjectReturnsNewMemory(t *testing.T) {
	objects := append(badObjects(), objectOf(rectOf(2, 2, 6, 6), pageBox()), objectOf(rectOf(0, 0, 32, 32), pageBox()), objectOf(points(2, 2, 6, 6, 9, 9), pageBox()), objectOf(pathOfSize(20), pageBox()))
	all := append(goodRows(), badRows()...)
	for i, base := range all {
		for j, first := range []int{0, 5, 32, -1, 33} {
			for _, spare := range []int{0, 1, 40} {
				rows, o := rowsWithRoom(base, spare), objectWithRoom(objects[(i+j)%len(objects)], spare)
				if j%2 == 0 {
					o = objectWithRoom(objectOf(rectOf(0, 0, 32, 32), pageBox()), spare)
				}
				before, path := rowsToCapacity(rows), slices.Clone(o.Path[:cap(o.Path)])
				got, ok := impl.PaintObject(rows, first, o)
				checkOwnRows(t, "PaintObject", got, append(rowsMemory(rows), memoryOf("the path", o.Path)))
				if !equalRows(rowsToCapacity(rows), before) || !slices.Equal(o.Path[:cap(o.Path)], path) || len(rows) != len(base) {
					t.Fatalf("PaintObject(%.300v, %d, %.300v), %v, changed its arguments", before, first, path, ok)
				}
			}
		}
	}
}

func TestPaintAllReturnsNewMemory(t *testing.T) {
	lists := append(manyObjects(), badObjects(), steps(13), append(steps(5), impl.Object{}))
	for _, base := range lists {
		for _, spare := range []int{0, 1, 20} {
			list := roomFor(base, spare, objectOf(rectOf(7, 7, 9, 9), pageBox()))
			for i, o := range list {
				list[i] = objectWithRoom(o, spare)
			}
			before := toCapacity(impl.Page{Objects: list})
			rows, ok := impl.PaintAll(list)
			checkOwnRows(t, "PaintAll", rows, pageMemory(impl.Page{Objects: list}))
			if !samePage(toCapacity(impl.Page{Objects: list}), before) {
				t.Fatalf("PaintAll(%.300v), %v, changed its list", before.Objects, ok)
			}
		}
	}
}

func TestRowsAreLeftAlone(t *testing.T) {
	for _, base := range append(goodRows(), badRows()...) {
		for _, spare := range []int{0, 3} {
			rows := rowsWithRoom(base, spare)
			before := rowsToCapacity(rows)
			impl.RowsOk(rows)
			impl.SameRows(rows, base)
			impl.SameRows(base, rows)
			impl.CountValue(rows, 9)
			if !equalRows(rowsToCapacity(rows), before) {
				t.Fatalf("%.300v is now %.300v", before, rows)
			}
		}
	}
}

func TestWhiteRowsAreNewMemory(t *testing.T) {
	for _, count := range []int{-1, 0, 1, 2, 32, 33} {
		first := impl.WhiteRows(count)
		second := impl.WhiteRows(count)
		checkOwnRows(t, "WhiteRows", first, rowsMemory(second))
		for y := range first {
			first[y][y] = y
			first[y] = append(first[y], -1)[:32]
		}
		if want, _ := impl.PaintAll(nil); !equalRows(second, want[:len(second)]) || !equalRows(second, evenRows(len(second), 255)) {
			t.Errorf("WhiteRows(%d) became %v", count, second)
		}
	}
}

// Rows that share their memory with each other are painted as if they did not.
func TestPaintObjectOfRowsThatShareMemory(t *testing.T) {
	same := slices.Repeat(variedRows(1), 32)
	flat := make([]int, 63)
	for i := range flat {
		flat[i] = i
	}
	var lapping [][]int
	for y := range 32 {
		lapping = append(lapping, flat[y:y+32])
	}
	reversed := slices.Clone(lapping)
	slices.Reverse(reversed)
	for _, rows := range [][][]int{same, lapping, reversed} {
		before := copiedRows(rows)
		for _, o := range []impl.Object{objectOf(rectOf(2, 2, 6, 6), pageBox()), grayObject(200, points(3, 30, 17, 2, 31, 30)), {Path: rectOf(0, 0, 32, 32), Gray: 256, Clip: pageBox()}} {
			want, right := rowsPainted(before, 0, o)
			got, ok := impl.PaintObject(rows, 0, o)
			if ok != right || !equalRows(got, want) || !equalRows(rows, before) {
				t.Errorf("%v on rows that share memory is %v, %v, want %v", o, got, ok, want)
			}
			checkOwnRows(t, "PaintObject", got, rowsMemory(rows))
		}
	}
}

// A change of a result is a change of neither an argument nor another result, also where nothing was painted.
func TestPaintedRowsStayAsTheyWere(t *testing.T) {
	for _, c := range []struct{ gray, first int }{{9, 0}, {9, 30}, {9, 33}, {256, 0}} {
		o := grayObject(c.gray, rectOf(2, 2, 6, 6))
		rows := variedRows(8)
		want, _ := rowsPainted(variedRows(8), c.first, o)
		first, _ := impl.PaintObject(rows, c.first, o)
		second, _ := impl.PaintObject(rows, c.first, o)
		for y := range second {
			second[y][3], rows[y][4] = -5, -6
		}
		if !equalRows(first, want) {
			t.Errorf("%v from row %d on became %v", o, c.first, first)
		}
		third, _ := impl.PaintAll(steps(3))
		fourth, _ := impl.PaintAll(steps(3))
		third[1][1] = 77
		if fourth[1][1] != 1 || fourth[2][1] != 1 || third[2][1] != 1 {
			t.Error("a change of a painted page is a change elsewhere")
		}
	}
}

func TestRastersKeepNoState(t *testing.T) {
	objects := append(badObjects()[:5], objectOf(rectOf(2, 2, 6, 6), pageBox()), grayObject(0, twoLegs()), grayObject(255, rectOf(-9, -9, 9, 9)))
	for range 2 {
		for i, o := range objects {
			checkPaint(t, variedRows(9), i, o)
			checkPaint(t, nil, i, o)
			checkPaintAll(t, objects[i:])
			checkPaintAll(t, nil)
			if !equalRows(impl.WhiteRows(i), evenRows(i, 255)) || impl.CountValue(variedRows(1), 5) != 1 || impl.SameRows(variedRows(i), variedRows(i+1)) {
				t.Error("a call has another result than before")
			}
		}
		slices.Reverse(objects)
	}
}
