package tests

import (
	"math"
	"slices"
	"testing"

	"loop.example/g00987/impl"
)

func TestWhite(t *testing.T) {
	if impl.White != 255 {
		t.Errorf("White is %d", impl.White)
	}
}

// eachRows visits rows of all numbers, and rows of which one has another length, or one value is another one.
func eachRows(visit func([][]int)) {
	for count := range 70 {
		visit(variedRows(count))
		visit(make([][]int, count))
	}
	visit(evenRows(5000, 255))
	for _, count := range []int{1, 2, 3, 31, 32, 33} {
		for _, at := range []int{0, count / 2, count - 1} {
			for length := range 70 {
				lengths := slices.Repeat([]int{32}, count)
				lengths[at] = length
				visit(rowsOf(lengths, func(x, y int) int { return x + y }))
			}
			for _, x := range []int{0, 1, 16, 30, 31} {
				for _, n := range grayEdges() {
					visit(rowsWith(variedRows(count), x, at, n))
				}
			}
		}
	}
}

func TestRowsOk(t *testing.T) {
	counts := map[bool]int{}
	check := func(rows [][]int) {
		got := impl.RowsOk(rows)
		if got != isRows(rows) {
			t.Fatalf("RowsOk(%.300v) is %v", rows, got)
		}
		counts[got]++
	}
	eachRows(check)
	for _, rows := range append(goodRows(), badRows()...) {
		check(rows)
	}
	if counts[true] < 300 || counts[false] < 300 {
		t.Errorf("%d are valid, %d are not", counts[true], counts[false])
	}
}

func TestRowsOkAtTheLimits(t *testing.T) {
	list := []struct {
		what string
		rows [][]int
		want bool
	}{
		{"nil", nil, true},
		{"no rows", [][]int{}, true},
		{"1 row", variedRows(1), true},
		{"32 rows", variedRows(32), true},
		{"33 rows", variedRows(33), false},
		{"a nil row", [][]int{nil}, false},
		{"an empty row", [][]int{{}}, false},
		{"a nil row behind a valid one", append(variedRows(1), nil), false},
		{"31 values", rowsOf([]int{31}, func(int, int) int { return 9 }), false},
		{"33 values", rowsOf([]int{33}, func(int, int) int { return 9 }), false},
		{"31 values in the last row", rowsOf([]int{32, 31}, func(int, int) int { return 9 }), false},
		{"33 values in the first row", rowsOf([]int{33, 32}, func(int, int) int { return 9 }), false},
		{"31 and 33 values", rowsOf([]int{31, 33}, func(int, int) int { return 9 }), false},
		{"all 0", evenRows(32, 0), true},
		{"all 255", evenRows(32, 255), true},
		{"all -1", evenRows(32, -1), false},
		{"all 256", evenRows(32, 256), false},
		{"all the least int", evenRows(1, math.MinInt), false},
		{"all the greatest int", evenRows(1, math.MaxInt), false},
	}
	for _, c := range list {
		if got := impl.RowsOk(c.rows); got != c.want {
			t.Errorf("%s: %v", c.what, got)
		}
	}
	for _, place := range [][2]int{{0, 0}, {31, 0}, {16, 15}, {0, 31}, {31, 31}} {
		for n, want := range map[int]bool{-1: false, 0: true, 255: true, 256: false, math.MinInt: false, math.MaxInt: false} {
			if got := impl.RowsOk(rowsWith(evenRows(32, 9), place[0], place[1], n)); got != want {
				t.Errorf("%d at %v: %v", n, place, got)
			}
		}
	}
}

func TestWhiteRows(t *testing.T) {
	for count := range 33 {
		rows := impl.WhiteRows(count)
		if !equalRows(rows, evenRows(count, 255)) {
			t.Errorf("WhiteRows(%d) is %v", count, rows)
		}
		if !impl.RowsOk(rows) || impl.CountValue(rows, impl.White) != 32*count {
			t.Errorf("WhiteRows(%d) is not valid, or not white", count)
		}
	}
	for _, count := range append(edgeCoords(), -32, 33, 34, 64, 1<<32, 1<<32+1, -1<<32+1) {
		if rows := impl.WhiteRows(count); (count < 0 || count > 32) && len(rows) != 0 {
			t.Errorf("WhiteRows(%d) has %d rows", count, len(rows))
		}
	}
}

func TestSameRows(t *testing.T) {
	varied := variedRows(5)
	reversed := variedRows(5)
	slices.Reverse(reversed)
	exchanged := variedRows(5)
	exchanged[1], exchanged[2] = exchanged[2], exchanged[1]
	list := []struct {
		what string
		a, b [][]int
		want bool
	}{
		{"nil and nil", nil, nil, true},
		{"nil and no rows", nil, [][]int{}, true},
		{"no rows and a nil row", [][]int{}, [][]int{nil}, false},
		{"nil and an empty row", nil, [][]int{{}}, false},
		{"a nil row and an empty row", [][]int{nil}, [][]int{{}}, true},
		{"nil rows and empty rows", [][]int{nil, {}, {1}}, [][]int{{}, nil, {1}}, true},
		{"one nil row and two", [][]int{nil}, [][]int{nil, nil}, false},
		{"a nil row and a row of 0", [][]int{nil}, [][]int{{0}}, false},
		{"the same values", varied, variedRows(5), true},
		{"32 rows", variedRows(32), variedRows(32), true},
		{"33 rows", variedRows(33), variedRows(33), true},
		{"one row less", varied, variedRows(4), false},
		{"one row more", varied, variedRows(6), false},
		{"no rows", varied, nil, false},
		{"white and black", evenRows(2, 255), evenRows(2, 0), false},
		{"other numbers of white rows", impl.WhiteRows(2), impl.WhiteRows(3), false},
		{"the other order", varied, reversed, false},
		{"two rows exchanged", varied, exchanged, false},
		{"a row of fewer values", [][]int{{1, 2}, {3}}, [][]int{{1, 2}, {3, 4}}, false},
		{"a first row of fewer values", [][]int{{1}, {3, 4}}, [][]int{{1, 2}, {3, 4}}, false},
		{"the same values in other rows", [][]int{{1, 2}, {3}}, [][]int{{1}, {2, 3}}, false},
		{"the same values in one row more", [][]int{{1, 2, 3}}, [][]int{{1, 2}, {3}}, false},
		{"a 0 more", [][]int{{1, 2}}, [][]int{{1, 2, 0}}, false},
		{"a row of 0 and no row", [][]int{{1, 2}, {0, 0}}, [][]int{{1, 2}}, false},
		{"an empty row and no row", [][]int{{1, 2}, {}}, [][]int{{1, 2}}, false},
		{"values of no valid rows", [][]int{{-1, 256}}, [][]int{{-1, 256}}, true},
		{"values of which only the low bits are the same", [][]int{{5}}, [][]int{{256 + 5}}, false},
		{"values of which only 32 bits are the same", [][]int{{5}}, [][]int{{1<<32 + 5}}, false},
		{"the ends of int", [][]int{{math.MinInt, math.MaxInt}}, [][]int{{math.MinInt, math.MaxInt}}, true},
		{"the ends of int, exchanged", [][]int{{math.MinInt, math.MaxInt}}, [][]int{{math.MaxInt, math.MinInt}}, false},
		{"n and -n", [][]int{{5}}, [][]int{{-5}}, false},
		{"values in another order", [][]int{{1, 2}}, [][]int{{2, 1}}, false},
	}
	for _, c := range list {
		if impl.SameRows(c.a, c.b) != c.want || impl.SameRows(c.b, c.a) != c.want {
			t.Errorf("%s: not %v", c.what, c.want)
		}
	}
}

func TestSameRowsLooksAtEachPlace(t *testing.T) {
	for _, count := range []int{1, 2, 32, 33} {
		rows := variedRows(count)
		if !impl.SameRows(rows, rows) || !impl.SameRows(rows, variedRows(count)) {
			t.Errorf("%d rows are not the same as themselves", count)
		}
		for y := range count {
			for x := range 32 {
				other := rowsWith(rows, x, y, rows[y][x]+1)
				if impl.SameRows(rows, other) || impl.SameRows(other, rows) {
					t.Fatalf("%d rows are the same where column %d of row %d is another one", count, x, y)
				}
			}
		}
		for y := range count {
			for _, length := range []int{0, 31, 33} {
				other := variedRows(count)
				other[y] = append(other[y], 0)[:length]
				if impl.SameRows(rows, other) || impl.SameRows(other, rows) {
					t.Fatalf("%d rows are the same where row %d has %d values", count, y, length)
				}
			}
		}
	}
}

func TestSameRowsOfShortLists(t *testing.T) {
	var lists [][][]int
	eachList([][]int{nil, {0}, {1}, {0, 0}, {0, 1}}, 3, func(rows [][]int) { lists = append(lists, rows) })
	same := 0
	for _, a := range append(lists, nil) {
		for _, b := range append(lists, [][]int{}) {
			want := equalRows(a, b)
			if got := impl.SameRows(a, b); got != want {
				t.Fatalf("SameRows(%v, %v) is %v", a, b, got)
			}
			if want {
				same++
			}
		}
	}
	if same != len(lists)+1 {
		t.Errorf("%d of %d are the same", same, len(lists))
	}
}

func TestCountValue(t *testing.T) {
	list := []struct {
		what string
		rows [][]int
		v    int
		want int
	}{
		{"no rows", nil, 0, 0},
		{"no rows", [][]int{}, 255, 0},
		{"rows without values", [][]int{nil, {}, nil}, 0, 0},
		{"everywhere", evenRows(32, 255), 255, 1024},
		{"everywhere", evenRows(32, 0), 0, 1024},
		{"everywhere but in one place", rowsWith(evenRows(32, 9), 31, 31, 8), 9, 1023},
		{"in the first place", rowsWith(evenRows(32, 9), 0, 0, 8), 8, 1},
		{"in the last place", rowsWith(evenRows(32, 9), 31, 31, 8), 8, 1},
		{"nowhere", evenRows(32, 255), 254, 0},
		{"nowhere", evenRows(32, 0), 255, 0},
		{"nowhere, although the low bits are the same", evenRows(32, 5), 256 + 5, 0},
		{"nowhere, although 32 bits are the same", evenRows(32, 5), 1<<32 + 5, 0},
		{"nowhere, although the size is the same", evenRows(1, 5), -5, 0},
		{"nowhere, the least int", variedRows(32), math.MinInt, 0},
		{"nowhere, the greatest int", variedRows(32), math.MaxInt, 0},
		// Rows that are not valid.
		{"33 rows", evenRows(33, 7), 7, 33 * 32},
		{"1000 rows", evenRows(1000, 7), 7, 32000},
		{"rows of other lengths", [][]int{{1}, {2, 1}, nil, {1, 1, 1}, slices.Repeat([]int{1}, 50)}, 1, 55},
		{"a value that no row has where it is valid", evenRows(3, -1), -1, 96},
		{"256", evenRows(2, 256), 256, 64},
		{"256 as 0", evenRows(2, 256), 0, 0},
		{"the least int", rowsWith(evenRows(3, 5), 4, 1, math.MinInt), math.MinInt, 1},
		{"the greatest int", rowsWith(evenRows(3, math.MinInt), 4, 1, math.MaxInt), math.MaxInt, 1},
	}
	for _, c := range list {
		if got := impl.CountValue(c.rows, c.v); got != c.want {
			t.Errorf("%s: CountValue of %d is %d, want %d", c.what, c.v, got, c.want)
		}
	}
}

func TestCountValueOfManyRows(t *testing.T) {
	for _, rows := range append(goodRows(), badRows()...) {
		counts := map[int]int{}
		for _, row := range rows {
			for _, n := range row {
				counts[n]++
			}
		}
		for _, v := range append(grayEdges(), 5, 9, 37, 400) {
			if got := impl.CountValue(rows, v); got != counts[v] {
				t.Fatalf("CountValue(%.300v, %d) is %d, want %d", rows, v, got, counts[v])
			}
		}
	}
	for _, rows := range goodRows() {
		sum := 0
		for v := range 256 {
			sum += impl.CountValue(rows, v)
		}
		if sum != 32*len(rows) {
			t.Errorf("%d values are counted of %d rows", sum, len(rows))
		}
	}
}
