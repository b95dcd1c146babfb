package tests

import (
	"math"
	"slices"
	"testing"

	"loop.example/g00987/impl"
)

func TestSpansOk(t *testing.T) {
	list := []struct {
		spans []impl.Span
		want  bool
	}{
		{nil, true},
		{[]impl.Span{}, true},
		{spans(4, 5), true},
		{spans(4, 4), false},
		{spans(4, 3), false},
		{spans(0, 0), false},
		{spans(1, 3, 4, 5), true},
		{spans(1, 3, 3, 5), false},
		{spans(1, 3, 2, 5), false},
		{spans(4, 5, 1, 3), false},
		{spans(1, 3, 1, 3), false},
		{spans(1, 3, 4, 4), false},
		{spans(1, 1, 4, 6), false},
		{spans(1, 3, 4, 5, 6, 7), true},
		{spans(1, 3, 4, 5, 5, 7), false},
		{spans(-9, -3, -2, 5, 6, 7), true},
		// The columns have no limits.
		{spans(-1000, 1000), true},
		{spans(math.MinInt, math.MaxInt), true},
		{spans(math.MinInt, math.MinInt+1, math.MaxInt-1, math.MaxInt), true},
		{spans(math.MinInt, -1, 0, math.MaxInt), true},
		{spans(math.MinInt, 0, 0, math.MaxInt), false},
		{spans(math.MaxInt, math.MinInt), false},
		{spans(math.MaxInt, math.MaxInt), false},
		{spans(math.MinInt, math.MinInt), false},
		{spans(math.MaxInt-1, math.MaxInt, math.MinInt, math.MinInt+1), false},
	}
	for _, c := range list {
		if got := impl.SpansOk(c.spans); got != c.want {
			t.Errorf("SpansOk(%v) is %v", c.spans, got)
		}
	}
	for size := range 20 {
		if got := impl.SpansOk(spansOfSize(size)); got != (size <= 8) {
			t.Errorf("SpansOk of %d spans is %v", size, got)
		}
	}
}

func TestSpansOkOfAllShortLists(t *testing.T) {
	lists := append(goodSpans(), badSpans()...)
	eachSpans(func(list []impl.Span) { lists = append(lists, list) })
	for _, list := range lists {
		if got := impl.SpansOk(list); got != isSpans(list) {
			t.Fatalf("SpansOk(%v) is %v", list, got)
		}
	}
}

// checkMeetSpans looks at the columns around each end of a span and of the range. Between two ends nothing changes.
func checkMeetSpans(t *testing.T, list []impl.Span, from, to int) {
	t.Helper()
	got := impl.MeetSpans(list, from, to)
	if !isSpans(list) {
		if len(got) != 0 {
			t.Fatalf("MeetSpans(%v, %d, %d) is %v", list, from, to, got)
		}
		return
	}
	if !isSpans(got) {
		t.Fatalf("MeetSpans(%v, %d, %d) is %v, which is not valid", list, from, to, got)
	}
	for _, x := range columnsAround(slices.Concat(list, got, spans(from, to))) {
		if spansHave(got, x) != (spansHave(list, x) && x >= from && x < to) {
			t.Fatalf("MeetSpans(%v, %d, %d) is %v: column %d", list, from, to, got, x)
		}
	}
}

func TestMeetSpans(t *testing.T) {
	two := spans(1, 4, 6, 9)
	list := []struct {
		spans    []impl.Span
		from, to int
		want     []impl.Span
	}{
		{two, 3, 7, spans(3, 4, 6, 7)},
		{two, 1, 9, two},
		{two, 0, 10, two},
		{two, -200, 200, two},
		{two, math.MinInt, math.MaxInt, two},
		{two, 2, 8, spans(2, 4, 6, 8)},
		{two, 1, 4, spans(1, 4)},
		{two, 1, 5, spans(1, 4)},
		{two, 1, 6, spans(1, 4)},
		{two, 1, 7, spans(1, 4, 6, 7)},
		{two, 3, 9, spans(3, 4, 6, 9)},
		{two, 4, 9, spans(6, 9)},
		{two, 5, 9, spans(6, 9)},
		{two, 6, 9, spans(6, 9)},
		{two, 7, 9, spans(7, 9)},
		{two, 7, 8, spans(7, 8)},
		// One column.
		{two, 1, 2, spans(1, 2)},
		{two, 3, 4, spans(3, 4)},
		{two, 8, 9, spans(8, 9)},
		{two, 0, 1, nil},
		{two, 4, 5, nil},
		{two, 5, 6, nil},
		{two, 9, 10, nil},
		// No column, before and behind the spans, between them and within one.
		{two, 4, 6, nil},
		{two, -5, 1, nil},
		{two, 9, 20, nil},
		{two, 2, 2, nil},
		{two, 5, 5, nil},
		{two, 3, 2, nil},
		{two, 9, 1, nil},
		{two, 200, -200, nil},
		{two, math.MaxInt, math.MinInt, nil},
		{two, math.MinInt, math.MinInt, nil},
		{two, math.MaxInt, math.MaxInt, nil},
		{nil, 0, 5, nil},
		{nil, math.MinInt, math.MaxInt, nil},
		// Spans and ranges up to the ends of int.
		{spans(math.MinInt, math.MaxInt), 3, 5, spans(3, 5)},
		{spans(math.MinInt, math.MaxInt), math.MinInt, math.MaxInt, spans(math.MinInt, math.MaxInt)},
		{spans(math.MinInt, math.MaxInt), 5, 3, nil},
		{spans(math.MinInt, -3, 3, math.MaxInt), -5, math.MaxInt, spans(-5, -3, 3, math.MaxInt)},
		{spans(math.MinInt, -3, 3, math.MaxInt), math.MinInt, 4, spans(math.MinInt, -3, 3, 4)},
		{spans(math.MinInt, math.MinInt+1), math.MinInt, math.MinInt + 1, spans(math.MinInt, math.MinInt+1)},
		{spans(math.MaxInt-1, math.MaxInt), math.MaxInt - 1, math.MaxInt, spans(math.MaxInt-1, math.MaxInt)},
		// All spans that a list can have, and one too many.
		{spansOfSize(8), -4, 30, spansOfSize(8)},
		{spansOfSize(8), -3, 19, spansOfSize(8)[1:]},
		{spansOfSize(9), -4, 30, nil},
	}
	for _, c := range list {
		if got := impl.MeetSpans(c.spans, c.from, c.to); !slices.Equal(got, c.want) {
			t.Errorf("MeetSpans(%v, %d, %d) is %v, want %v", c.spans, c.from, c.to, got, c.want)
		}
	}
}

func TestMeetSpansOfAllRanges(t *testing.T) {
	for _, list := range goodSpans() {
		for _, from := range columnsAround(list) {
			for _, to := range columnsAround(list) {
				checkMeetSpans(t, list, from, to)
			}
		}
	}
	eachSpans(func(list []impl.Span) {
		for _, c := range [][2]int{{0, 1}, {1, 2}, {-1, 3}, {2, 0}, {math.MinInt, math.MaxInt}, {math.MinInt, 0}, {1, math.MaxInt}} {
			checkMeetSpans(t, list, c[0], c[1])
		}
	})
}

// Unlike checkMeetSpans, this looks at all columns.
func TestMeetSpansHasExactlyTheColumnsInTheRange(t *testing.T) {
	for _, list := range [][]impl.Span{nil, spans(-4, 0), spans(1, 4, 6, 9), spans(-3, -2, -1, 0, 1, 3, 5, 9), spansOfSize(8)} {
		for from := -7; from <= 22; from++ {
			for to := -7; to <= 22; to++ {
				want := gathered(-9, 25, func(x int) bool { return spansHave(list, x) && x >= from && x < to })
				if got := impl.MeetSpans(list, from, to); !slices.Equal(got, want) {
					t.Fatalf("MeetSpans(%v, %d, %d) is %v, want %v", list, from, to, got, want)
				}
			}
		}
	}
}

func TestMeetSpansOfInvalidLists(t *testing.T) {
	for _, list := range badSpans() {
		for _, c := range [][2]int{{-200, 200}, {0, 9}, {3, 4}, {5, 5}, {9, 0}, {math.MinInt, math.MaxInt}, {math.MaxInt, math.MinInt}} {
			if got := impl.MeetSpans(list, c[0], c[1]); len(got) != 0 {
				t.Errorf("MeetSpans(%v, %d, %d) is %v", list, c[0], c[1], got)
			}
		}
	}
}

func TestMeetSpansOfRowsAreThoseOfTheDots(t *testing.T) {
	for _, path := range manyPaths() {
		for _, c := range [][2]int{{0, 32}, {-200, 201}, {3, 5}, {31, 32}, {-9, 16}} {
			want := gathered(c[0], c[1]-1, func(x int) bool { return isInside(path, x, 3) })
			if got := impl.MeetSpans(impl.SpansAt(path, 3), c[0], c[1]); !slices.Equal(got, want) {
				t.Fatalf("row 3 of %v from %d to %d is %v, want %v", path, c[0], c[1], got, want)
			}
		}
	}
}

func TestSpanDots(t *testing.T) {
	list := []struct {
		spans []impl.Span
		want  int
	}{
		{nil, 0},
		{[]impl.Span{}, 0},
		{spans(4, 5), 1},
		{spans(-4, 5), 9},
		{spans(-7, -5), 2},
		{spans(1, 4, 6, 9), 6},
		{spans(3, 4, 6, 7), 2},
		{spans(-200, 200), 400},
		{spans(-200, -1, 0, 200), 399},
		{spansOfSize(1), 1},
		{spansOfSize(2), 3},
		{spansOfSize(8), 12},
		{spansOfSize(9), 0},
		{spans(0, math.MaxInt), math.MaxInt},
		{spans(math.MinInt, -1), math.MaxInt},
		{spans(math.MinInt, math.MinInt+1, math.MaxInt-1, math.MaxInt), 2},
	}
	for _, c := range list {
		if got := impl.SpanDots(c.spans); got != c.want {
			t.Errorf("SpanDots(%v) is %d, want %d", c.spans, got, c.want)
		}
	}
	for _, list := range badSpans() {
		if got := impl.SpanDots(list); got != 0 {
			t.Errorf("SpanDots(%v) is %d", list, got)
		}
	}
}

func TestSpanDotsOfRowsIsTheNumberOfDots(t *testing.T) {
	for _, path := range append(manyPaths(), invalidPaths()...) {
		dots := 0
		for x := -200; x <= 200; x++ {
			if isInside(path, x, 3) {
				dots++
			}
		}
		if got := impl.SpanDots(impl.SpansAt(path, 3)); got != dots {
			t.Fatalf("row 3 of %v has %d dots, want %d", path, got, dots)
		}
	}
}

func TestInSpans(t *testing.T) {
	two, all := spans(-3, 4, 6, 7), spans(math.MinInt, math.MaxInt)
	list := []struct {
		spans []impl.Span
		x     int
		want  bool
	}{
		{two, -4, false},
		{two, -3, true},
		{two, 0, true},
		{two, 3, true},
		{two, 4, false},
		{two, 5, false},
		{two, 6, true},
		{two, 7, false},
		{two, math.MinInt, false},
		{two, math.MaxInt, false},
		{nil, 0, false},
		{nil, math.MaxInt, false},
		{all, math.MinInt, true},
		{all, 0, true},
		{all, math.MaxInt - 1, true},
		{all, math.MaxInt, false},
		{spans(math.MinInt+1, math.MaxInt), math.MinInt, false},
		// Lists that SpansOk rejects contain the columns of their spans too.
		{spans(5, 5), 5, false},
		{spans(5, 5), 4, false},
		{spans(5, 4), 4, false},
		{spans(5, 4), 5, false},
		{spans(0, math.MinInt), 0, false},
		{spans(0, math.MinInt), math.MaxInt, false},
		{spans(math.MaxInt, math.MinInt), 0, false},
		{spans(math.MinInt, math.MinInt), math.MinInt, false},
		{spans(math.MaxInt, math.MaxInt), math.MaxInt, false},
		{spans(1, 3, 3, 5), 3, true},
		{spans(1, 9, 3, 4), 8, true},
		{spans(6, 9, 1, 4), 1, true},
		{spans(6, 9, 1, 4), 8, true},
		{spans(6, 9, 1, 4), 4, false},
		{spans(9, 9, 1, 4), 3, true},
		{spansOfSize(9), 20, true},
		{spansOfSize(9), 21, false},
		{spansOfSize(1000), 2993, true},
	}
	for _, c := range list {
		if got := impl.InSpans(c.spans, c.x); got != c.want {
			t.Errorf("InSpans(%v, %d) is %v", c.spans, c.x, got)
		}
	}
	for _, list := range append(goodSpans(), badSpans()...) {
		for _, x := range columnsAround(list) {
			if got := impl.InSpans(list, x); got != spansHave(list, x) {
				t.Errorf("InSpans(%v, %d) is %v", list, x, got)
			}
		}
	}
}

// spanCalls calls each function that takes spans.
func spanCalls(list []impl.Span, from, to int) (bool, []impl.Span, int, bool) {
	return impl.SpansOk(list), impl.MeetSpans(list, from, to), impl.SpanDots(list), impl.InSpans(list, from)
}

func TestSpansAreLeftAlone(t *testing.T) {
	for _, list := range append(goodSpans(), badSpans()...) {
		for _, spare := range []int{0, 1, 20} {
			// The range of all columns cuts nothing away.
			for _, c := range [][2]int{{math.MinInt, math.MaxInt}, {-200, 200}, {0, 9}, {2, 3}, {9, 0}} {
				room := roomFor(list, spare, impl.Span{From: -77777, To: 77777})
				before := slices.Clone(room[:cap(room)])
				_, got, _, _ := spanCalls(room, c[0], c[1])
				if !slices.Equal(room[:cap(room)], before) {
					t.Fatalf("the calls with %v changed it to %v", before, room[:cap(room)])
				}
				if memoryOf("the result", got).meets(memoryOf("the spans", room)) {
					t.Fatalf("MeetSpans(%v, %d, %d) shares memory with its argument", list, c[0], c[1])
				}
			}
		}
	}
}

func TestMetSpansStayAsTheyWere(t *testing.T) {
	for _, c := range [][2]int{{-200, 200}, {1, 9}, {0, 8}} {
		list := spans(1, 4, 6, 9)
		first, second := impl.MeetSpans(list, c[0], c[1]), impl.MeetSpans(list, c[0], c[1])
		want := slices.Clone(first)
		if memoryOf("the first", first).meets(memoryOf("the second", second)) {
			t.Errorf("two results of MeetSpans from %d to %d share memory", c[0], c[1])
		}
		list[0].From, second[1].To = 99, 99
		if !slices.Equal(first, want) {
			t.Errorf("from %d to %d: %v, want %v", c[0], c[1], first, want)
		}
	}
}

func TestSpansKeepNoState(t *testing.T) {
	lists := append(goodSpans(), badSpans()...)
	for range 2 {
		for _, list := range lists {
			checkMeetSpans(t, list, -3, 7)
			ok, _, _, in := spanCalls(list, 2, 3)
			if ok != isSpans(list) || in != spansHave(list, 2) {
				t.Fatalf("%v: %v, %v", list, ok, in)
			}
		}
		slices.Reverse(lists)
	}
}
