package tests

import (
	"math"
	"slices"
	"testing"

	"loop.example/g00987/impl"
)

// spans takes the From and the To of each span.
func spans(columns ...int) []impl.Span {
	var list []impl.Span
	for i := 0; i < len(columns); i += 2 {
		list = append(list, impl.Span{From: columns[i], To: columns[i+1]})
	}
	return list
}

// spansOfSize has spans of one and two columns, as close as they can be.
func spansOfSize(size int) []impl.Span {
	var list []impl.Span
	for i := range size {
		list = append(list, impl.Span{From: 3*i - 4, To: 3*i - 3 + i%2})
	}
	return list
}

// isSpans says which lists are valid without the functions under test.
func isSpans(list []impl.Span) bool {
	for i, s := range list {
		if s.To <= s.From || i > 0 && s.From <= list[i-1].To {
			return false
		}
	}
	return len(list) <= 8
}

func spansHave(list []impl.Span, x int) bool {
	return slices.ContainsFunc(list, func(s impl.Span) bool { return x >= s.From && x < s.To })
}

// gathered makes spans, each as long as possible, of the columns from low to high that are chosen.
func gathered(low, high int, chosen func(x int) bool) []impl.Span {
	var list []impl.Span
	for x := low; x <= high; x++ {
		if !chosen(x) {
			continue
		}
		if last := len(list) - 1; last >= 0 && list[last].To == x {
			list[last].To++
		} else {
			list = append(list, impl.Span{From: x, To: x + 1})
		}
	}
	return list
}

func spansOfRow(path []impl.Point, y int) []impl.Span {
	return gathered(-200, 200, func(x int) bool { return isInside(path, x, y) })
}

// badSpans are not valid, each for one reason, and the last ones for several. Most of them contain columns.
func badSpans() [][]impl.Span {
	lists := [][]impl.Span{
		spansOfSize(9), spansOfSize(10), spansOfSize(1000),
		spans(5, 5), spans(5, 4), spans(0, 0), spans(0, -1), spans(200, -200),
		spans(math.MaxInt, math.MinInt), spans(math.MinInt, math.MinInt), spans(math.MaxInt, math.MaxInt), spans(math.MinInt+1, math.MinInt),
		spans(1, 2, 2, 3), spans(1, 3, 2, 4), spans(1, 9, 3, 4), spans(6, 9, 1, 4), spans(1, 4, 1, 4),
		spans(math.MinInt, math.MaxInt, 3, 4), spans(3, 4, math.MinInt, math.MaxInt), spans(math.MinInt, 0, 0, math.MaxInt),
	}
	for _, size := range []int{2, 3, 8} {
		for _, at := range []int{0, size / 2, size - 1} {
			for _, width := range []int{0, -1} {
				bad := spansOfSize(size)
				bad[at].To = bad[at].From + width
				lists = append(lists, bad)
			}
			if at > 0 {
				for _, lap := range []int{0, 1} {
					bad := spansOfSize(size)
					bad[at].From = bad[at-1].To - lap
					lists = append(lists, bad)
				}
			}
		}
	}
	return append(lists, spans(9, 3, 3, 9, 9, 10), slices.Repeat(spans(5, 4), 9), slices.Repeat(spans(1, 4), 50))
}

func goodSpans() [][]impl.Span {
	lists := [][]impl.Span{
		nil, {}, spans(0, 1), spans(-1, 0), spans(-200, 200), spans(1, 2, 3, 4), spans(1, 4, 6, 9), spans(-9, -3, 4, 5, 20, 31),
		spans(math.MinInt, math.MaxInt), spans(math.MinInt, math.MinInt+1), spans(math.MaxInt-1, math.MaxInt),
		spans(math.MinInt, -1, 0, math.MaxInt), spans(math.MinInt, math.MinInt+1, -1, 1, math.MaxInt-1, math.MaxInt),
	}
	for size := range 9 {
		lists = append(lists, spansOfSize(size))
	}
	return lists
}

// spanEnds are ends of spans that touch, lap over and lie apart, and the ends of int.
func spanEnds() []int {
	return []int{math.MinInt, math.MinInt + 1, -201, -1, 0, 1, 2, 200, math.MaxInt - 1, math.MaxInt}
}

// columnsAround are columns on, before and behind each end of a span, and the ends of int.
func columnsAround(list []impl.Span) []int {
	columns := spanEnds()
	for _, s := range list {
		columns = append(columns, s.From-1, s.From, s.From+1, s.To-1, s.To, s.To+1)
	}
	slices.Sort(columns)
	return slices.Compact(columns)
}

// eachSpans visits lists of one and of two spans between all of the ends, and of three between those close to 0.
func eachSpans(visit func([]impl.Span)) {
	eachList(spansBetween(spanEnds()), 2, visit)
	eachList(spansBetween([]int{0, 1, 2, 3}), 3, visit)
}

func spansBetween(ends []int) []impl.Span {
	var list []impl.Span
	for _, from := range ends {
		for _, to := range ends {
			list = append(list, impl.Span{From: from, To: to})
		}
	}
	return list
}

func TestTheSpansToTestWith(t *testing.T) {
	for _, list := range goodSpans() {
		if !isSpans(list) {
			t.Errorf("%v is not valid", list)
		}
	}
	for _, list := range badSpans() {
		if isSpans(list) {
			t.Errorf("%v is valid", list)
		}
	}
}
