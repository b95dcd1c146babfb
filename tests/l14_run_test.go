package tests

import (
	"math"
	"slices"
	"testing"

	"loop.example/g00987/impl"
)

func TestRunsOk(t *testing.T) {
	list := []struct {
		what string
		list []impl.Run
		want bool
	}{
		{"nil", nil, true},
		{"no runs", []impl.Run{}, true},
		{"one run", runs(5, 3), true},
		{"the zero run", runs(0, 0), false},
		{"value -1", runs(-1, 3), false},
		{"value 0", runs(0, 3), true},
		{"value 255", runs(255, 3), true},
		{"value 256", runs(256, 3), false},
		{"the least value", runs(math.MinInt, 3), false},
		{"the greatest value", runs(math.MaxInt, 3), false},
		{"count -1", runs(5, -1), false},
		{"count 0", runs(5, 0), false},
		{"count 1", runs(5, 1), true},
		{"count PageSize", runs(5, 32), true},
		{"count PageSize + 1", runs(5, 33), false},
		{"the least count", runs(5, math.MinInt), false},
		{"the greatest count", runs(5, math.MaxInt), false},
		{"several runs", runs(5, 3, 0, 1, 9, 2), true},
		{"two neighbors with the same value", runs(5, 1, 5, 2), false},
		{"neighbors with the same value at the front", runs(5, 3, 5, 1, 9, 2, 0, 4), false},
		{"neighbors with the same value in the middle", runs(5, 3, 9, 1, 9, 2, 0, 4), false},
		{"neighbors with the same value at the end", runs(5, 3, 9, 1, 0, 2, 0, 4), false},
		{"the same value, but not in neighbors", runs(5, 3, 9, 3, 5, 3, 9, 3), true},
		{"the same count in all", runs(5, 3, 6, 3, 7, 3), true},
		{"the value of one is the count of the next", runs(5, 3, 3, 5, 5, 3), true},
		{"neighbors with the values 0 and 255", runs(0, 1, 255, 1, 0, 1), true},
		{"a bad value in the first run", runs(256, 3, 0, 1, 9, 2), false},
		{"a bad value in a middle run", runs(5, 3, -1, 1, 9, 2), false},
		{"a bad value in the last run", runs(5, 3, 0, 1, 256, 2), false},
		{"a bad count in the first run", runs(5, 0, 0, 1, 9, 2), false},
		{"a bad count in a middle run", runs(5, 3, 0, 33, 9, 2), false},
		{"a bad count in the last run", runs(5, 3, 0, 1, 9, 0), false},
		{"exactly PageSize values", runs(5, 16, 6, 16), true},
		// Only the count of each run is limited, not their sum or their number.
		{"more than PageSize values", runs(5, 32, 6, 1), true},
		{"PageSize runs of PageSize values", runsOfCounts(slices.Repeat([]int{32}, 32)...), true},
		{"more than PageSize runs", singleRuns(33), true},
		{"many runs", singleRuns(5000), true},
		{"many runs and a bad one", append(singleRuns(5000), impl.Run{Value: 5, Count: 33}), false},
	}
	for _, c := range list {
		if got := impl.RunsOk(c.list); got != c.want || isRuns(c.list) != c.want {
			t.Errorf("%s: RunsOk(%.200v) is %v", c.what, c.list, got)
		}
	}
}

func TestRunsOkOfEachNumber(t *testing.T) {
	for n := -300; n <= 600; n++ {
		for _, c := range []struct {
			r    impl.Run
			want bool
		}{{impl.Run{Value: n, Count: 7}, n >= 0 && n <= 255}, {impl.Run{Value: 7, Count: n}, n >= 1 && n <= 32}} {
			if got := impl.RunsOk([]impl.Run{c.r}); got != c.want {
				t.Errorf("RunsOk of %v is %v", c.r, got)
			}
		}
	}
}

func TestRunsOkOfManyLists(t *testing.T) {
	lists := append(goodRuns(), badRuns()...)
	var choices []impl.Run
	for _, value := range []int{math.MinInt, -1, 0, 1, 255, 256, math.MaxInt} {
		for _, count := range []int{math.MinInt, -1, 0, 1, 2, 32, 33, math.MaxInt} {
			choices = append(choices, impl.Run{Value: value, Count: count})
		}
	}
	visit := func(list []impl.Run) { lists = append(lists, list) }
	eachList(choices, 2, visit)
	eachList(runs(0, 0, 0, 1, 0, 32, 5, 1, 5, 33, 255, 2, 256, 1), 4, visit)
	for _, list := range lists {
		if got := impl.RunsOk(list); got != isRuns(list) {
			t.Fatalf("RunsOk(%v) is %v", list, got)
		}
	}
}

func checkRunsOf(t *testing.T, row []int) {
	t.Helper()
	want := runsOfValues(row)
	if got := impl.RunsOf(row); !slices.Equal(got, want) {
		t.Fatalf("RunsOf(%v) is %v, want %v", row, got, want)
	}
}

func TestRunsOf(t *testing.T) {
	full := append(evenValues(16, 5), evenValues(16, 6)...)
	list := []struct {
		what string
		row  []int
		want []impl.Run
	}{
		{"nil", nil, nil},
		{"no values", []int{}, nil},
		{"one value", []int{7}, runs(7, 1)},
		{"the value 0 alone", []int{0}, runs(0, 1)},
		{"two values", []int{7, 8}, runs(7, 1, 8, 1)},
		{"a value twice", []int{7, 7}, runs(7, 2)},
		{"a row of one value", evenValues(32, 255), runs(255, 32)},
		{"a row of 0", evenValues(32, 0), runs(0, 32)},
		{"a row of one value, but for the first", valuesWith(evenValues(32, 9), 0, 8), runs(8, 1, 9, 31)},
		{"a row of one value, but for the last", valuesWith(evenValues(32, 9), 31, 8), runs(9, 31, 8, 1)},
		{"a row of one value, but for one", valuesWith(evenValues(32, 9), 10, 8), runs(9, 10, 8, 1, 9, 21)},
		{"no two neighbors alike", []int{4, 5, 4, 5, 4}, runs(4, 1, 5, 1, 4, 1, 5, 1, 4, 1)},
		{"a run at the front", []int{5, 5, 5, 0, 9}, runs(5, 3, 0, 1, 9, 1)},
		{"a run in the middle", []int{5, 0, 0, 0, 9}, runs(5, 1, 0, 3, 9, 1)},
		{"a run at the end", []int{5, 0, 9, 9, 9}, runs(5, 1, 0, 1, 9, 3)},
		{"runs at the front and at the end", []int{5, 5, 5, 0, 9, 9}, runs(5, 3, 0, 1, 9, 2)},
		{"the same run again", []int{5, 5, 0, 0, 5, 5}, runs(5, 2, 0, 2, 5, 2)},
		{"0 and 255", []int{0, 255, 255, 0}, runs(0, 1, 255, 2, 0, 1)},
		{"rising values", []int{0, 1, 2}, runs(0, 1, 1, 1, 2, 1)},
		{"falling values", []int{2, 1, 0}, runs(2, 1, 1, 1, 0, 1)},
		{"PageSize values", full, runs(5, 16, 6, 16)},
		{"one value more", append(slices.Clone(full), 6), nil},
		{"one value more, of all the same", evenValues(33, 5), nil},
		{"many values", evenValues(5000, 5), nil},
	}
	for _, c := range list {
		if got := impl.RunsOf(c.row); !slices.Equal(got, c.want) {
			t.Errorf("%s: RunsOf(%.100v) is %v, want %v", c.what, c.row, got, c.want)
		}
		if len(c.row) < 100 {
			checkRunsOf(t, c.row)
		}
	}
}

// A value that is not valid leaves no runs, in whatever place it stands and whatever stands beside it.
func TestRunsOfValuesAtTheLimits(t *testing.T) {
	for _, n := range grayEdges() {
		for _, length := range []int{1, 2, 3, 4, 31, 32} {
			for x := range length {
				for _, row := range [][]int{variedValues(length), evenValues(length, 9), evenValues(length, 0), evenValues(length, 255)} {
					row = valuesWith(row, x, n)
					if got := impl.RunsOf(row); (len(got) > 0) != (n >= 0 && n <= 255) {
						t.Fatalf("RunsOf(%v) is %v", row, got)
					}
					checkRunsOf(t, row)
				}
			}
			checkRunsOf(t, evenValues(length, n))
		}
	}
}

func TestRunsOfEachLength(t *testing.T) {
	for length := range 100 {
		for _, row := range valuesOfShape(length) {
			if got := impl.RunsOf(row); (len(got) > 0) != (length >= 1 && length <= 32) {
				t.Fatalf("RunsOf of %d values is %v", length, got)
			}
			checkRunsOf(t, row)
		}
	}
}

func TestRunsOfManyRows(t *testing.T) {
	check := func(row []int) { checkRunsOf(t, row) }
	for _, row := range append(goodValues(), badValues()...) {
		check(row)
	}
	eachList([]int{0, 255}, 12, check)
	eachList([]int{0, 1, 255}, 7, check)
	eachList([]int{math.MinInt, -1, 0, 9, 255, 256, math.MaxInt}, 4, check)
}

// The runs are as long as possible: there are no more than the changes from one value to the next, and one.
func TestRunsAreAsLongAsPossible(t *testing.T) {
	for _, row := range goodValues() {
		got := impl.RunsOf(row)
		x, changes := 0, 0
		for i := 1; i < len(row); i++ {
			if row[i] != row[i-1] {
				changes++
			}
		}
		if len(got) != min(len(row), changes+1) {
			t.Fatalf("RunsOf(%v) is %v, but %d values change", row, got, changes)
		}
		for _, r := range got {
			if x > 0 && row[x-1] == r.Value || r.Count < 1 || !slices.Equal(row[x:x+r.Count], evenValues(r.Count, r.Value)) {
				t.Fatalf("RunsOf(%v) is %v: the run %v at %d", row, got, r, x)
			}
			x += r.Count
		}
		if x != len(row) {
			t.Fatalf("RunsOf(%v) is %v, which ends at %d", row, got, x)
		}
	}
}
