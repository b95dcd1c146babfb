package tests

import (
	"slices"
	"testing"

	"loop.example/g00987/impl"
)

// checkNewList calls a function with a list that has spare capacity, and checks that it changes none of it, and that no
// two results share memory with each other or with the list.
func checkNewList[A comparable, B any](t *testing.T, what string, base []A, behind A, call func(list []A) []B) {
	t.Helper()
	for _, spare := range []int{0, 1, 40} {
		list := roomFor(base, spare, behind)
		before := slices.Clone(list[:cap(list)])
		one, other := call(list), call(list)
		first, second := memoryOf("the first result", one), memoryOf("the second one", other)
		if !slices.Equal(list[:cap(list)], before) {
			t.Fatalf("%s changed %v to %v", what, before, list[:cap(list)])
		}
		if first.meets(second) || first.meets(memoryOf("the list", list)) {
			t.Fatalf("%s of %v shares memory", what, base)
		}
	}
}

func TestRunsAndRowsAreNewMemory(t *testing.T) {
	for _, row := range append(goodValues(), badValues()...) {
		checkNewList(t, "RunsOf", row, -77777, impl.RunsOf)
	}
	for _, list := range append(goodRuns(), badRuns()...) {
		checkNewList(t, "RowOf", list, impl.Run{Value: -77777, Count: 77777}, impl.RowOf)
	}
}

func TestRunsAreLeftAlone(t *testing.T) {
	for _, base := range append(goodRuns(), badRuns()...) {
		for _, spare := range []int{0, 1, 40} {
			// What is behind the list would be a valid next run.
			list := roomFor(base, spare, impl.Run{Value: 254, Count: 1})
			before := slices.Clone(list[:cap(list)])
			ok, length, at := impl.RunsOk(list), impl.RunsLength(list), impl.RunAt(list, sumOfCounts(list))
			for _, x := range []int{-1, 0, 5, 31, 32} {
				impl.RunAt(list, x)
			}
			if !slices.Equal(list[:cap(list)], before) {
				t.Fatalf("%v is now %v", before, list[:cap(list)])
			}
			if ok != isRuns(base) || length != sumOfCounts(base) || at != -1 {
				t.Fatalf("%v with %d runs behind it: %v, %d, %d", base, spare, ok, length, at)
			}
		}
	}
}

// The spare capacity behind a row and behind a list of runs is no part of them.
func TestRowsAndRunsEndWhereTheirListsEnd(t *testing.T) {
	for length := range 33 {
		row := roomFor(evenValues(length, 9), 7, 9)
		checkRunsOf(t, row)
		checkRowReadBack(t, row)
		checkRuns(t, roomFor(singleRuns(length), 7, impl.Run{Value: 254, Count: 1}))
	}
}

// A change of a result or of an argument is a change of no other result.
func TestRunsStayAsTheyWere(t *testing.T) {
	row := []int{5, 5, 5, 0, 9, 9}
	list := impl.RunsOf(row)
	again := impl.RunsOf(row)
	read := impl.RowOf(list)
	other := impl.RowOf(list)
	again[0].Value, other[0], row[1] = 77, 78, 79
	_, _ = append(again[:1], impl.Run{Value: 8, Count: 8}), append(other[:1], 88)
	if !slices.Equal(list, runs(5, 3, 0, 1, 9, 2)) || !slices.Equal(read, []int{5, 5, 5, 0, 9, 9}) {
		t.Errorf("the runs became %v, and the row %v", list, read)
	}
	list[2].Count = 1
	if !slices.Equal(read, []int{5, 5, 5, 0, 9, 9}) || impl.RunAt(list, 4) != 9 || impl.RunAt(list, 5) != -1 {
		t.Errorf("the row became %v, the runs %v", read, list)
	}
}

func TestRunsKeepNoState(t *testing.T) {
	lists := append(goodRuns(), badRuns()...)
	rows := append(goodValues(), badValues()...)
	for range 2 {
		for i, list := range lists {
			checkRuns(t, list)
			checkRunsOf(t, rows[i%len(rows)])
			if got := impl.RunsOk(list); got != isRuns(list) {
				t.Fatalf("RunsOk(%v) is %v", list, got)
			}
		}
		slices.Reverse(lists)
		slices.Reverse(rows)
	}
}
