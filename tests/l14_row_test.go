package tests

import (
	"math"
	"slices"
	"testing"

	"loop.example/g00987/impl"
)

// checkRuns compares what is made of runs with the model.
func checkRuns(t *testing.T, list []impl.Run) {
	t.Helper()
	values := valuesOfRuns(list)
	want := values
	if len(values) > 32 {
		want = nil
	}
	if got := impl.RowOf(list); !slices.Equal(got, want) {
		t.Fatalf("RowOf(%.300v) is %v, want %v", list, got, want)
	}
	if got := impl.RunsLength(list); got != sumOfCounts(list) {
		t.Fatalf("RunsLength(%.300v) is %d, want %d", list, got, sumOfCounts(list))
	}
	for x, n := range values {
		if got := impl.RunAt(list, x); got != n {
			t.Fatalf("RunAt(%.300v, %d) is %d, want %d", list, x, got, n)
		}
	}
	checkNothingAt(t, list, math.MinInt, -33, -32, -2, -1, len(values), len(values)+1, len(values)+32, 1<<32, math.MaxInt-1, math.MaxInt)
}

func checkNothingAt(t *testing.T, list []impl.Run, indexes ...int) {
	t.Helper()
	for _, x := range indexes {
		if got := impl.RunAt(list, x); got != -1 {
			t.Fatalf("RunAt(%.300v, %d) is %d", list, x, got)
		}
	}
}

func TestRowOf(t *testing.T) {
	list := []struct {
		what string
		list []impl.Run
		want []int
	}{
		{"nil", nil, nil},
		{"no runs", []impl.Run{}, nil},
		{"one value", runs(7, 1), []int{7}},
		{"one run", runs(7, 4), []int{7, 7, 7, 7}},
		{"one run of 0", runs(0, 4), []int{0, 0, 0, 0}},
		{"several runs", runs(5, 3, 0, 1, 9, 2), []int{5, 5, 5, 0, 9, 9}},
		{"runs of one value", runs(5, 1, 0, 1, 5, 1), []int{5, 0, 5}},
		{"the count above the value", runs(2, 5, 5, 2), []int{2, 2, 2, 2, 2, 5, 5}},
		{"one run of PageSize values", runs(255, 32), evenValues(32, 255)},
		{"one run of one more", runs(255, 33), nil},
		{"two runs of PageSize values", runs(5, 31, 6, 1), append(evenValues(31, 5), 6)},
		{"two runs of one more", runs(5, 32, 6, 1), nil},
		{"two runs of one more, the first one shorter", runs(5, 1, 6, 32), nil},
		{"three runs of PageSize values", runs(5, 10, 6, 12, 5, 10), slices.Concat(evenValues(10, 5), evenValues(12, 6), evenValues(10, 5))},
		{"three runs of one more", runs(5, 11, 6, 11, 5, 11), nil},
		{"PageSize runs", singleRuns(32), valuesOfRuns(singleRuns(32))},
		{"one run more", singleRuns(33), nil},
		{"many runs", singleRuns(5000), nil},
		{"neighbors with the same value", runs(5, 1, 5, 1), nil},
		{"a value that is not valid", runs(5, 1, 256, 1), nil},
		{"a count of 0", runs(5, 1, 6, 0), nil},
		{"a count of -1", runs(5, 1, 6, -1), nil},
		{"counts that are not valid, PageSize in all", runs(5, 40, 6, -8), nil},
		{"a count that is too great", runs(5, math.MaxInt), nil},
		{"a count that is too small", runs(5, math.MinInt), nil},
		{"counts past the greatest int", runs(5, math.MaxInt, 6, math.MaxInt, 7, 12), nil},
	}
	for _, c := range list {
		if got := impl.RowOf(c.list); !slices.Equal(got, c.want) {
			t.Errorf("%s: RowOf(%.200v) is %v, want %v", c.what, c.list, got, c.want)
		}
	}
}

// Two runs are a row if they have no more than PageSize values together.
func TestRowOfTwoRuns(t *testing.T) {
	for first := -2; first <= 35; first++ {
		for second := -2; second <= 35; second++ {
			list := runs(5, first, 200, second)
			row := impl.RowOf(list)
			if (len(row) > 0) != (first >= 1 && second >= 1 && first+second <= 32) {
				t.Fatalf("RowOf(%v) is %v", list, row)
			}
			checkRuns(t, list)
		}
	}
}

func TestRunsLength(t *testing.T) {
	list := []struct {
		what string
		list []impl.Run
		want int
	}{
		{"nil", nil, 0},
		{"no runs", []impl.Run{}, 0},
		{"one value", runs(200, 1), 1},
		{"one run", runs(5, 3), 3},
		{"one run of PageSize values", runs(5, 32), 32},
		{"several runs", runs(5, 3, 0, 1, 9, 2), 6},
		{"several runs of PageSize values", runs(5, 10, 6, 12, 5, 10), 32},
		{"more than PageSize values", runs(5, 32, 6, 32), 64},
		{"many runs", singleRuns(5000), 5000},
		// Validity is not asked for.
		{"one value too many", runs(5, 33), 33},
		{"a count of 0", runs(5, 0), 0},
		{"a count of -1", runs(5, -1), -1},
		{"counts of which one is below 0", runs(5, 40, 6, -8), 32},
		{"neighbors with the same value", runs(5, 3, 5, 4), 7},
		{"values that are not valid", runs(-1, 3, 256, 4), 7},
		{"the least value and the greatest", runs(math.MinInt, 3, math.MaxInt, 4), 7},
		{"a bad run at the front", runs(5, 50, 6, 2, 7, 3), 55},
		{"a bad run in the middle", runs(5, 2, 6, 50, 7, 3), 55},
		{"a bad run at the end", runs(5, 2, 6, 3, 7, 50), 55},
		{"the greatest count", runs(5, math.MaxInt), math.MaxInt},
		{"the least count", runs(5, math.MinInt), math.MinInt},
		{"both of them", runs(5, math.MaxInt, 6, math.MinInt), -1},
		{"past the greatest int and back", runs(5, math.MaxInt, 6, 9, 7, -10), math.MaxInt - 1},
		{"past the least int and back", runs(5, math.MinInt, 6, -9, 7, 10), math.MinInt + 1},
	}
	for _, c := range list {
		if got := impl.RunsLength(c.list); got != c.want {
			t.Errorf("%s: RunsLength(%.200v) is %d, want %d", c.what, c.list, got, c.want)
		}
	}
}

func TestRunAt(t *testing.T) {
	three, long := runs(5, 3, 0, 1, 9, 2), runs(5, 32, 6, 32, 7, 1)
	list := []struct {
		what string
		list []impl.Run
		x    int
		want int
	}{
		{"the first index of the first run", three, 0, 5},
		{"a middle index of the first run", three, 1, 5},
		{"the last index of the first run", three, 2, 5},
		{"the only index of a run", three, 3, 0},
		{"the first index of the last run", three, 4, 9},
		{"the last index of the last run", three, 5, 9},
		{"-1", three, -1, -1},
		{"the length", three, 6, -1},
		{"one more", three, 7, -1},
		{"the least index", three, math.MinInt, -1},
		{"the greatest index", three, math.MaxInt, -1},
		{"no runs", nil, 0, -1},
		{"no runs, -1", []impl.Run{}, -1, -1},
		{"no runs, the greatest index", nil, math.MaxInt, -1},
		{"the last index of PageSize values", runs(5, 31, 6, 1), 31, 6},
		{"the length of PageSize values", runs(5, 31, 6, 1), 32, -1},
		{"one run, its first index", runs(255, 32), 0, 255},
		{"one run, its last index", runs(255, 32), 31, 255},
		{"one run, its length", runs(255, 32), 32, -1},
		// The runs may describe more values than a row of the page has.
		{"more than PageSize values, the first index", long, 0, 5},
		{"more than PageSize values, the last index of the first run", long, 31, 5},
		{"more than PageSize values, the first index of a middle run", long, 32, 6},
		{"more than PageSize values, the last index of a middle run", long, 63, 6},
		{"more than PageSize values, the last index", long, 64, 7},
		{"more than PageSize values, the length", long, 65, -1},
		{"more than PageSize values, one more", long, 66, -1},
		{"more than PageSize values, -1", long, -1, -1},
		{"many values, the last index", singleRuns(5000), 4999, (37*4999 + 5) % 256},
		// One run that is not valid leaves no values, also not those before it.
		{"a bad value at the front", runs(256, 1, 6, 1, 7, 1), 1, -1},
		{"a bad value behind", runs(5, 1, 6, 1, 256, 1), 0, -1},
		{"a bad value there", runs(5, 1, 300, 1, 7, 1), 1, -1},
		{"a bad count behind", runs(5, 1, 6, 1, 7, 33), 0, -1},
		{"a bad count there", runs(5, 33), 32, -1},
		{"a count of 0 at the front", runs(5, 0, 6, 1), 0, -1},
		{"a count of -1 at the front", runs(5, -1, 6, 1), 0, -1},
		{"neighbors with the same value behind", runs(5, 1, 6, 1, 7, 1, 7, 1), 0, -1},
		{"neighbors with the same value", runs(5, 1, 5, 1), 1, -1},
		{"the greatest count", runs(5, math.MaxInt), 0, -1},
		{"the least count", runs(5, math.MinInt, 6, 1), math.MaxInt, -1},
	}
	for _, c := range list {
		if got := impl.RunAt(c.list, c.x); got != c.want {
			t.Errorf("%s: RunAt(%.200v, %d) is %d, want %d", c.what, c.list, c.x, got, c.want)
		}
	}
}

func TestRunAtTheEndsOfEachRun(t *testing.T) {
	for _, list := range goodRuns() {
		first := 0
		for _, r := range list {
			last := first + r.Count - 1
			if impl.RunAt(list, first) != r.Value || impl.RunAt(list, last) != r.Value {
				t.Fatalf("RunAt(%.300v, ..) is %d at %d and %d at %d", list, impl.RunAt(list, first), first, impl.RunAt(list, last), last)
			}
			first = last + 1
		}
		checkNothingAt(t, list, -1, first, first+1)
	}
}

func TestRowsOfManyLists(t *testing.T) {
	check := func(list []impl.Run) { checkRuns(t, list) }
	for _, list := range append(goodRuns(), badRuns()...) {
		check(list)
	}
	eachList(runs(0, 1, 0, 2, 5, 1, 5, 15, 255, 16, 255, 17), 4, check)
	eachList(runs(-1, 1, 0, 0, 0, 1, 5, 32, 5, 33, 255, -1, 256, 2, 9, math.MaxInt, 9, math.MinInt, math.MinInt, 1, math.MaxInt, 1), 3, check)
}

func TestListsThatAreNotValidHaveNoValues(t *testing.T) {
	for _, list := range badRuns() {
		if row := impl.RowOf(list); len(row) != 0 {
			t.Fatalf("RowOf(%v) is %v", list, row)
		}
		checkNothingAt(t, list, math.MinInt, -1, 0, 1, 2, 7, 31, 32, 33, 1000, math.MaxInt)
	}
}

// checkRowReadBack uses no model.
func checkRowReadBack(t *testing.T, row []int) {
	t.Helper()
	list := impl.RunsOf(row)
	if got := impl.RowOf(list); !slices.Equal(got, row) {
		t.Fatalf("%v is read back as %v from its runs %v", row, got, list)
	}
	if !impl.RunsOk(list) || impl.RunsLength(list) != len(row) {
		t.Fatalf("the runs of %v are %v: %v, with %d values", row, list, impl.RunsOk(list), impl.RunsLength(list))
	}
	for x, n := range row {
		if got := impl.RunAt(list, x); got != n {
			t.Fatalf("RunAt(%v, %d) is %d, but the row is %v", list, x, got, row)
		}
	}
	checkNothingAt(t, list, math.MinInt, -len(row)-1, -2, -1, len(row), len(row)+1, len(row)+2, 2*len(row)+1, math.MaxInt)
}

// Promise 14: a row is read back from its runs.
func TestRowsAreReadBackFromTheirRuns(t *testing.T) {
	check := func(row []int) { checkRowReadBack(t, row) }
	lengths := map[int]int{}
	for _, row := range goodValues() {
		check(row)
		lengths[len(row)]++
	}
	for length := 0; length <= impl.PageSize; length++ {
		if lengths[length] < 10 {
			t.Errorf("there are %d rows of %d values", lengths[length], length)
		}
	}
	eachList([]int{0, 255}, 12, check)
	eachList([]int{0, 1, 254, 255}, 6, check)
}

func TestRowsOfPagesAreReadBackFromTheirRuns(t *testing.T) {
	for i := 0; i+12 <= 200; i += 12 {
		rows, ok := impl.PaintAll(coveringObjects()[i : i+12])
		if !ok {
			t.Fatal("a page is not painted")
		}
		for _, row := range rows {
			checkRowReadBack(t, row)
		}
	}
}

// A row that cannot be packed has no runs, and so it is not read back as another row.
func TestRowsThatAreNotValidAreNotReadBack(t *testing.T) {
	for _, row := range badValues() {
		list := impl.RunsOf(row)
		if len(list) != 0 || len(impl.RowOf(list)) != 0 || impl.RunsLength(list) != 0 {
			t.Fatalf("RunsOf(%v) is %v", row, list)
		}
		checkNothingAt(t, list, -1, 0, 1, len(row)-1)
	}
}

// The other way around, there is one list for each row.
func TestRunsAreReadBackFromTheirRows(t *testing.T) {
	count := 0
	check := func(list []impl.Run) {
		if !isRuns(list) || sumOfCounts(list) > 32 {
			return
		}
		if got := impl.RunsOf(impl.RowOf(list)); !slices.Equal(got, list) {
			t.Fatalf("%v is read back as %v from its row %v", list, got, impl.RowOf(list))
		}
		count++
	}
	for _, list := range goodRuns() {
		check(list)
	}
	eachList(runs(0, 1, 0, 2, 5, 1, 5, 7, 255, 16, 9, 31, 9, 32), 4, check)
	if count < 600 {
		t.Errorf("only %d lists are read back", count)
	}
}
