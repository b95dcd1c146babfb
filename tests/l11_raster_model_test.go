package tests

import (
	"math"
	"slices"
	"testing"

	"loop.example/g00987/impl"
)

// isRows says which rows are valid without the functions under test.
func isRows(rows [][]int) bool {
	for _, row := range rows {
		if len(row) != 32 || slices.ContainsFunc(row, func(n int) bool { return !isGray(n) }) {
			return false
		}
	}
	return len(rows) <= 32
}

// rowsOf makes rows of these lengths, with a value for each place.
func rowsOf(lengths []int, value func(x, y int) int) [][]int {
	rows := [][]int{}
	for y, length := range lengths {
		row := []int{}
		for x := range length {
			row = append(row, value(x, y))
		}
		rows = append(rows, row)
	}
	return rows
}

func fullRows(count int, value func(x, y int) int) [][]int {
	return rowsOf(slices.Repeat([]int{32}, count), value)
}

func evenRows(count, n int) [][]int {
	return fullRows(count, func(int, int) int { return n })
}

// variedRows have other values in each place than in those around it, and in each row than in the others.
func variedRows(count int) [][]int {
	return fullRows(count, func(x, y int) int { return (5*x + 37*y) % 256 })
}

// rowsWithout are varied rows in which no value is n.
func rowsWithout(count, n int) [][]int {
	rows := variedRows(count)
	for _, row := range rows {
		for x := range row {
			if row[x] == n {
				row[x] = (n + 1) % 256
			}
		}
	}
	return rows
}

func rowsWith(rows [][]int, x, y, n int) [][]int {
	rows = copiedRows(rows)
	rows[y][x] = n
	return rows
}

func copiedRows(rows [][]int) [][]int {
	copied := [][]int{}
	for _, row := range rows {
		copied = append(copied, append([]int{}, row...))
	}
	return copied
}

// equalRows compares rows without the functions under test.
func equalRows(a, b [][]int) bool {
	if len(a) != len(b) {
		return false
	}
	for y := range a {
		if len(a[y]) != len(b[y]) {
			return false
		}
		for x := range a[y] {
			if a[y][x] != b[y][x] {
				return false
			}
		}
	}
	return true
}

// rowsPainted says what PaintObject returns without the functions under test.
func rowsPainted(rows [][]int, first int, o impl.Object) ([][]int, bool) {
	if !isRows(rows) || !isObject(o) || first < 0 || first > 32 {
		return rows, false
	}
	return fullRows(len(rows), func(x, y int) int {
		if isPainted(o, x, first+y) {
			return o.Gray
		}
		return rows[y][x]
	}), true
}

// topGray is what is seen of objects that cover each other, the later one above the earlier one, on White.
func topGray(list []impl.Object, x, y int) int {
	for _, o := range slices.Backward(list) {
		if isPainted(o, x, y) {
			return o.Gray
		}
	}
	return 255
}

// allPainted says what PaintAll returns without the functions under test.
func allPainted(list []impl.Object) ([][]int, bool) {
	if len(list) > 12 || slices.ContainsFunc(list, func(o impl.Object) bool { return !isObject(o) }) {
		return nil, false
	}
	return fullRows(32, func(x, y int) int { return topGray(list, x, y) }), true
}

// goodRows are valid.
func goodRows() [][][]int {
	lists := [][][]int{nil, {}}
	for _, count := range []int{1, 2, 3, 16, 31, 32} {
		lists = append(lists, variedRows(count), evenRows(count, 0), evenRows(count, 9), evenRows(count, 255))
	}
	return lists
}

// badRows are not valid, each for one reason, and the last ones for several.
func badRows() [][][]int {
	lists := [][][]int{{nil}, {{}}, {nil, {}, nil}, variedRows(33), evenRows(33, 255), evenRows(64, 0), evenRows(1000, 9), make([][]int, 32), make([][]int, 33)}
	for _, count := range []int{1, 2, 32} {
		for _, at := range []int{0, count / 2, count - 1} {
			for _, length := range []int{0, 1, 31, 33, 64, 1000} {
				lengths := slices.Repeat([]int{32}, count)
				lengths[at] = length
				lists = append(lists, rowsOf(lengths, func(x, y int) int { return (x + y) % 256 }))
			}
			gap := variedRows(count)
			gap[at] = nil
			lists = append(lists, gap)
			for _, x := range []int{0, 16, 31} {
				for _, n := range []int{-1, 256, 1 << 32, math.MinInt, math.MaxInt} {
					lists = append(lists, rowsWith(variedRows(count), x, at, n))
				}
			}
		}
	}
	return append(lists, rowsOf([]int{31, 33}, func(x, y int) int { return x - 1 }), evenRows(33, -1), evenRows(2, 256), evenRows(40, math.MinInt), rowsOf([]int{1, 2, 3}, func(x, y int) int { return 400 }))
}

// someFirsts are rows of the page, its end, and what lies past both.
func someFirsts() []int {
	return []int{
		math.MinInt, math.MinInt + 1, -1 << 32, -33, -32, -2, -1, 0, 1, 2, 5, 7, 8, 15, 16, 28, 30, 31, 32,
		33, 34, 64, 200, 1 << 32, 1<<32 + 5, math.MaxInt - 32, math.MaxInt - 1, math.MaxInt,
	}
}

func grayObject(gray int, path []impl.Point) impl.Object {
	return impl.Object{Path: path, Gray: gray, Clip: pageBox()}
}

// drawn shows the first columns of rows: a point for White, # for 0 and the digit of a value from 1 to 9.
func drawn(rows [][]int, width int) []string {
	var lines []string
	for _, row := range rows {
		line := ""
		for _, n := range row[:width] {
			switch {
			case n == 255:
				line += "."
			case n == 0:
				line += "#"
			case n > 0 && n < 10:
				line += string(rune('0' + n))
			default:
				line += "?"
			}
		}
		lines = append(lines, line)
	}
	return lines
}

func TestTheRowsToTestWith(t *testing.T) {
	for _, rows := range goodRows() {
		if !isRows(rows) {
			t.Errorf("%v are not valid", rows)
		}
	}
	for _, rows := range badRows() {
		if isRows(rows) {
			t.Errorf("%v are valid", rows)
		}
	}
	if rows := variedRows(32); equalRows(rows, evenRows(32, 255)) || equalRows(rows[:1], rows[1:2]) || rows[3][4] == rows[3][5] || rows[3][4] == rows[4][4] {
		t.Error("the varied rows are not varied")
	}
}
