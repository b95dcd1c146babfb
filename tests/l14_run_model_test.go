package tests

import (
	"math"
	"math/rand/v2"
	"slices"
	"testing"

	"loop.example/g00987/impl"
)

// runs takes the Value and the Count of each run.
func runs(numbers ...int) []impl.Run {
	var list []impl.Run
	for i := 0; i < len(numbers); i += 2 {
		list = append(list, impl.Run{Value: numbers[i], Count: numbers[i+1]})
	}
	return list
}

// runsOfCounts have another value in each place than in those close to it.
func runsOfCounts(counts ...int) []impl.Run {
	var list []impl.Run
	for i, count := range counts {
		list = append(list, impl.Run{Value: (37*i + 5) % 256, Count: count})
	}
	return list
}

// singleRuns are runs of one value each.
func singleRuns(size int) []impl.Run {
	return runsOfCounts(slices.Repeat([]int{1}, size)...)
}

func runsWith(list []impl.Run, at int, r impl.Run) []impl.Run {
	list = slices.Clone(list)
	list[at] = r
	return list
}

func valuesWith(row []int, x, n int) []int {
	row = slices.Clone(row)
	row[x] = n
	return row
}

// variedValues have another value in each place than in those close to it.
func variedValues(length int) []int {
	return rowsOf([]int{length}, func(x, _ int) int { return (5*x + 3) % 256 })[0]
}

func evenValues(length, n int) []int {
	return slices.Repeat([]int{n}, length)
}

func isValues(row []int) bool {
	return len(row) <= 32 && !slices.ContainsFunc(row, func(n int) bool { return !isGray(n) })
}

// isRuns says which lists are valid without the functions under test.
func isRuns(list []impl.Run) bool {
	for i, r := range list {
		if !isGray(r.Value) || r.Count < 1 || r.Count > 32 || i > 0 && r.Value == list[i-1].Value {
			return false
		}
	}
	return true
}

func sumOfCounts(list []impl.Run) int {
	sum := 0
	for _, r := range list {
		sum += r.Count
	}
	return sum
}

// runsOfValues says what RunsOf returns without the functions under test.
func runsOfValues(row []int) []impl.Run {
	if !isValues(row) {
		return nil
	}
	var list []impl.Run
	for _, n := range row {
		if last := len(list) - 1; last >= 0 && list[last].Value == n {
			list[last].Count++
		} else {
			list = append(list, impl.Run{Value: n, Count: 1})
		}
	}
	return list
}

// valuesOfRuns are the values that valid runs describe, however many there are.
func valuesOfRuns(list []impl.Run) []int {
	var values []int
	if !isRuns(list) {
		return nil
	}
	for _, r := range list {
		for range r.Count {
			values = append(values, r.Value)
		}
	}
	return values
}

// valuesOfShape are rows of a length that differ in where a run ends.
func valuesOfShape(length int) [][]int {
	shapes := [][]int{variedValues(length)}
	for _, n := range []int{0, 9, 255} {
		shapes = append(shapes, evenValues(length, n))
	}
	for width := 1; width < 6; width++ {
		blocks := variedValues(length)
		turns := variedValues(length)
		for x := range length {
			blocks[x] = x / width
			turns[x] = 255 * (x / width % 2)
		}
		shapes = append(shapes, blocks, turns)
	}
	for _, end := range []int{length / 3, length / 2, length - 2} {
		if end > 0 {
			shapes = append(shapes, append(evenValues(end, 7), variedValues(length-end)...), append(variedValues(length-end), evenValues(end, 201)...))
		}
	}
	return shapes
}

// goodValues are valid rows of each length.
func goodValues() [][]int {
	rows := [][]int{nil, {}}
	r := rand.New(rand.NewPCG(14, 1))
	for length := range 33 {
		rows = append(rows, valuesOfShape(length)...)
		for _, choices := range []int{2, 3, 256} {
			row := evenValues(length, 0)
			for x := range row {
				row[x] = r.IntN(choices) * 255 / (choices - 1)
			}
			rows = append(rows, row)
		}
	}
	return rows
}

// badValues are rows that are not valid, each for one reason, and the last ones for several.
func badValues() [][]int {
	var rows [][]int
	for _, length := range []int{33, 34, 63, 64, 65, 1000} {
		rows = append(rows, valuesOfShape(length)...)
	}
	for _, n := range []int{-1, 256, -256, 1 << 32, math.MinInt, math.MaxInt} {
		for _, length := range []int{1, 2, 3, 31, 32} {
			for _, at := range []int{0, length / 2, length - 1} {
				rows = append(rows, valuesWith(variedValues(length), at, n), valuesWith(evenValues(length, 9), at, n))
			}
			rows = append(rows, evenValues(length, n))
		}
	}
	return append(rows, evenValues(33, -1), evenValues(1000, 256), valuesWith(variedValues(33), 32, -1), []int{math.MinInt, math.MaxInt})
}

// goodRuns are valid, and the last ones have more values than a row.
func goodRuns() [][]impl.Run {
	lists := [][]impl.Run{nil, {}, runs(0, 1), runs(255, 32), runs(5, 3, 0, 1, 9, 2), runs(5, 1, 6, 1, 5, 1), runs(0, 31, 255, 1)}
	for _, row := range goodValues() {
		lists = append(lists, runsOfValues(row))
	}
	return append(lists, longRuns()...)
}

// longRuns are valid and have more values than a row.
func longRuns() [][]impl.Run {
	return [][]impl.Run{
		runs(5, 32, 6, 1), runs(5, 1, 6, 32), runs(5, 17, 6, 16), runs(0, 32, 255, 32), runsOfCounts(11, 11, 11), runsOfCounts(32, 1, 32, 1, 32),
		singleRuns(33), singleRuns(64), singleRuns(1000), runsOfCounts(slices.Repeat([]int{32}, 40)...),
	}
}

// badRunParts are runs of which one number is not valid.
func badRunParts() []impl.Run {
	var list []impl.Run
	for _, n := range []int{-1, 256, -256, 1 << 32, math.MinInt, math.MaxInt} {
		list = append(list, impl.Run{Value: n, Count: 1}, impl.Run{Value: n, Count: 32})
	}
	for _, n := range []int{0, -1, -32, 33, 64, 1 << 32, -1 << 32, math.MinInt, math.MaxInt} {
		list = append(list, impl.Run{Value: 200, Count: n}, impl.Run{Value: 0, Count: n}, impl.Run{Value: 255, Count: n})
	}
	return list
}

// badRuns are not valid, each for one reason, and the last ones for several.
func badRuns() [][]impl.Run {
	lists := [][]impl.Run{
		runs(5, 3, 5, 2), runs(0, 1, 0, 1), runs(255, 16, 255, 16), runs(5, 2, 5, 2, 5, 2),
		// The counts are those of one row, or of none.
		runs(5, 40, 6, -8), runs(5, -8, 6, 40), runs(5, 32, 6, 0), runs(5, 1, 6, -1), runs(5, math.MaxInt, 6, -math.MaxInt), runs(5, math.MaxInt, 6, math.MaxInt, 7, 34),
	}
	for _, size := range []int{1, 2, 3, 8, 32, 100} {
		for _, at := range []int{0, size / 2, size - 1} {
			for _, bad := range badRunParts() {
				lists = append(lists, runsWith(singleRuns(size), at, bad))
			}
			if at > 0 {
				list := singleRuns(size)
				list[at].Value = list[at-1].Value
				lists = append(lists, list)
			}
		}
		if size > 1 {
			list := singleRuns(size)
			list[0].Value = list[1].Value
			lists = append(lists, list)
		}
	}
	return append(lists, make([]impl.Run, 1), make([]impl.Run, 40), runs(-1, 0), runs(256, 33, 256, 33), runs(math.MinInt, math.MaxInt, math.MaxInt, math.MinInt), slices.Repeat(runs(math.MaxInt, math.MaxInt), 9))
}

func TestTheRunsToTestWith(t *testing.T) {
	for _, list := range goodRuns() {
		if !isRuns(list) {
			t.Errorf("%v is not valid", list)
		}
	}
	for _, list := range longRuns() {
		if sumOfCounts(list) <= 32 || len(valuesOfRuns(list)) != sumOfCounts(list) {
			t.Errorf("%v has %d values", list, sumOfCounts(list))
		}
	}
	for _, list := range badRuns() {
		if isRuns(list) {
			t.Errorf("%v is valid", list)
		}
	}
	lengths := map[int]bool{}
	for _, row := range goodValues() {
		lengths[len(row)] = true
		if !isValues(row) {
			t.Errorf("%v is not a row", row)
		}
	}
	if len(lengths) != 33 {
		t.Errorf("there are rows of %d lengths", len(lengths))
	}
	for _, row := range badValues() {
		if isValues(row) {
			t.Errorf("%v is a row", row)
		}
	}
}
