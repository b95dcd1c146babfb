package tests

import (
	"math"
	"math/rand/v2"
	"slices"
	"testing"

	"loop.example/g00987/impl"
)

// checkPaint compares with the model.
func checkPaint(t *testing.T, rows [][]int, first int, o impl.Object) {
	t.Helper()
	want, right := rowsPainted(rows, first, o)
	got, ok := impl.PaintObject(rows, first, o)
	if ok != right || !equalRows(got, want) {
		t.Fatalf("PaintObject(%.300v, %d, %.300v) is %.300v, %v, want %.300v, %v", rows, first, o, got, ok, want, right)
	}
}

func checkPaintAll(t *testing.T, list []impl.Object) {
	t.Helper()
	want, right := allPainted(list)
	got, ok := impl.PaintAll(list)
	if ok != right || !equalRows(got, want) {
		t.Fatalf("PaintAll(%.300v) is %v, %v, want %v, %v", list, got, ok, want, right)
	}
}

// paintingObjects are some objects of all kinds, each with another gray value, 0 and 255 among them.
func paintingObjects() []impl.Object {
	var list []impl.Object
	for i, o := range goodObjects() {
		if i%7 == 0 {
			o.Gray = []int{0, 255, i % 256}[i%3]
			list = append(list, o)
		}
	}
	return list
}

// coveringObjects paint many dots of the page, so that most of them cover others in part.
func coveringObjects() []impl.Object {
	r := rand.New(rand.NewPCG(11, 1))
	var list []impl.Object
	for i := range 150 {
		o := grayObject([]int{0, 255, i % 256}[i%3], randomPath(r, 3+i%6, -8, 48))
		if i%4 == 0 {
			o.Clip = boxAt(i%16, i%11, 16+i%24, 20+i%13)
		}
		list = append(list, o)
	}
	return append(list, paintingObjects()[:50]...)
}

// checkChanges compares rows before and behind the painting with ObjectRow, and not with the model.
func checkChanges(t *testing.T, rows [][]int, first int, o impl.Object) {
	t.Helper()
	painted, ok := impl.PaintObject(rows, first, o)
	if !ok || len(painted) != len(rows) || !impl.RowsOk(painted) {
		t.Fatalf("PaintObject(%v, %d, %v) is %v, %v", rows, first, o, painted, ok)
	}
	dots := 0
	for y, row := range painted {
		spans := impl.ObjectRow(o, first+y)
		dots += impl.SpanDots(spans)
		for x, n := range row {
			want := rows[y][x]
			if spansHave(spans, x) {
				want = o.Gray
			}
			if n != want {
				t.Fatalf("%v painted from row %d on has %d in column %d of row %d, want %d", o, first, n, x, y, want)
			}
		}
	}
	// Where the rows had the value before, dots of the object may be among those that had it.
	if got := impl.CountValue(painted, o.Gray); impl.CountValue(rows, o.Gray) == 0 && got != dots {
		t.Fatalf("%v painted from row %d on has %d dots, want %d", o, first, got, dots)
	}
	again, ok := impl.PaintObject(painted, first, o)
	if !ok || !equalRows(again, painted) || !impl.SameRows(again, painted) {
		t.Fatalf("%v painted twice from row %d on is %v, before it %v", o, first, again, painted)
	}
}

// Promise 11: painting changes exactly the dots of the object.
func TestPaintingChangesExactlyTheDotsOfTheObject(t *testing.T) {
	for i, o := range paintingObjects() {
		checkChanges(t, rowsWithout(32, o.Gray), 0, o)
		checkChanges(t, impl.WhiteRows(32), 0, o)
		checkChanges(t, rowsWithout(i%33, o.Gray), i/3%33, o)
	}
	for _, o := range []impl.Object{grayObject(7, twoLegs()), grayObject(0, rectOf(-9, 5, 40, 12)), grayObject(255, points(3, 30, 17, 2, 31, 30))} {
		for first := range 33 {
			for count := range 33 {
				checkChanges(t, rowsWithout(count, o.Gray), first, o)
			}
		}
	}
}

func TestPaintedPagesHaveAllDotsOfTheObject(t *testing.T) {
	for _, o := range paintingObjects() {
		rows, ok := impl.PaintObject(rowsWithout(32, o.Gray), 0, o)
		if dots := impl.CountValue(rows, o.Gray); !ok || dots != impl.ObjectDots(o) {
			t.Fatalf("%v paints %d dots, want %d", o, dots, impl.ObjectDots(o))
		}
	}
}

func TestPaintObjectOfManyObjects(t *testing.T) {
	good := goodRows()
	for i, o := range paintingObjects() {
		checkPaint(t, variedRows(32), 0, o)
		checkPaint(t, good[i%len(good)], i/2%33, o)
	}
	for _, o := range []impl.Object{objectOf(rectOf(2, 2, 6, 6), pageBox()), objectOf(twoLegs(), boxAt(1, 3, 7, 40)), objectOf(rectOf(-200, -200, 200, 200), largestBox()), objectOf(nil, pageBox())} {
		for _, rows := range append(good, variedRows(33), [][]int{nil}) {
			for _, first := range someFirsts() {
				checkPaint(t, rows, first, o)
			}
		}
	}
}

func TestPaintObject(t *testing.T) {
	legs, square := grayObject(7, twoLegs()), grayObject(5, rectOf(2, 2, 6, 6))
	clipped := objectOf(twoLegs(), boxAt(1, 1, 7, 3))
	list := []struct {
		what  string
		rows  [][]int
		first int
		o     impl.Object
		want  []string
	}{
		{"from the first row on", impl.WhiteRows(4), 0, legs, []string{"77777777..", "77777777..", "77....77..", "77....77.."}},
		{"from a middle row on", impl.WhiteRows(3), 7, legs, []string{"77....77..", "77....77..", ".........."}},
		{"the last row of the object", impl.WhiteRows(1), 8, legs, []string{"77....77.."}},
		{"the row behind it", impl.WhiteRows(1), 9, legs, []string{".........."}},
		{"one row", impl.WhiteRows(1), 1, legs, []string{"77777777.."}},
		{"no rows", nil, 3, legs, nil},
		{"rows that end far above", impl.WhiteRows(1), 0, square, []string{".........."}},
		{"rows that end above", impl.WhiteRows(2), 0, square, []string{"..........", ".........."}},
		{"rows that end within", impl.WhiteRows(3), 0, square, []string{"..........", "..........", "..5555...."}},
		{"rows within", impl.WhiteRows(2), 3, square, []string{"..5555....", "..5555...."}},
		{"the same rows", impl.WhiteRows(4), 2, square, []string{"..5555....", "..5555....", "..5555....", "..5555...."}},
		{"rows that end below", impl.WhiteRows(3), 4, square, []string{"..5555....", "..5555....", ".........."}},
		{"rows around", impl.WhiteRows(6), 1, square, []string{"..........", "..5555....", "..5555....", "..5555....", "..5555....", ".........."}},
		{"rows below", impl.WhiteRows(2), 6, square, []string{"..........", ".........."}},
		{"rows past the last one of the page", impl.WhiteRows(4), 30, grayObject(4, rectOf(1, 0, 4, 90)), []string{".444......", ".444......", "..........", ".........."}},
		{"no row of the page", impl.WhiteRows(2), 32, grayObject(4, rectOf(1, 0, 4, 90)), []string{"..........", ".........."}},
		{"no row of the page, and a clip past its end", impl.WhiteRows(2), 32, objectOf(rectOf(-200, -200, 200, 200), largestBox()), []string{"..........", ".........."}},
		{"a clip", impl.WhiteRows(4), 0, clipped, []string{"..........", ".999999...", ".9....9...", ".........."}},
		{"over another value", evenRows(2, 3), 5, square, []string{"3355553333", "3333333333"}},
		{"over its own value", evenRows(2, 5), 5, square, []string{"5555555555", "5555555555"}},
		{"over several values", [][]int{append([]int{1, 2, 3, 4, 6, 7, 8, 9}, make([]int, 24)...)}, 5, square, []string{"12555589##"}},
		{"black", impl.WhiteRows(1), 5, grayObject(0, rectOf(2, 2, 6, 6)), []string{"..####...."}},
		{"black on black", evenRows(1, 0), 5, grayObject(0, rectOf(2, 2, 6, 6)), []string{"##########"}},
		{"white on black", evenRows(2, 0), 5, grayObject(255, rectOf(2, 2, 6, 6)), []string{"##....####", "##########"}},
		{"white on white", impl.WhiteRows(1), 5, grayObject(255, rectOf(2, 2, 6, 6)), []string{".........."}},
		{"an object without dots", impl.WhiteRows(1), 5, grayObject(7, points(2, 2, 6, 6, 9, 9)), []string{".........."}},
		{"an object outside of the page", impl.WhiteRows(1), 5, grayObject(7, rectOf(-9, -9, 0, 45)), []string{".........."}},
		{"across the left edge of the page", impl.WhiteRows(1), 5, grayObject(7, rectOf(-9, -9, 2, 45)), []string{"77........"}},
	}
	for _, c := range list {
		got, ok := impl.PaintObject(c.rows, c.first, c.o)
		if !ok || !slices.Equal(drawn(got, 10), c.want) {
			t.Errorf("%s: %q, %v, want %q", c.what, drawn(got, 10), ok, c.want)
		}
		checkPaint(t, c.rows, c.first, c.o)
	}
}

func TestPaintObjectUpToTheLastColumn(t *testing.T) {
	rows, ok := impl.PaintObject(impl.WhiteRows(2), 5, objectOf(rectOf(29, 2, 90, 6), largestBox()))
	want := rowsWith(rowsWith(rowsWith(evenRows(2, 255), 29, 0, 9), 30, 0, 9), 31, 0, 9)
	if !ok || !equalRows(rows, want) {
		t.Errorf("the rows are %v", rows)
	}
	rows, ok = impl.PaintObject(impl.WhiteRows(32), 0, objectOf(rectOf(-200, -200, 200, 200), largestBox()))
	if !ok || !equalRows(rows, evenRows(32, 9)) {
		t.Errorf("the rows of the whole page are %v", rows)
	}
}

// checkUnchanged checks that nothing is painted, and that the rows are returned as they are.
func checkUnchanged(t *testing.T, rows [][]int, first int, o impl.Object) {
	t.Helper()
	if got, ok := impl.PaintObject(rows, first, o); ok || !equalRows(got, rows) {
		t.Fatalf("PaintObject(%.300v, %d, %.300v) is %.300v, %v", rows, first, o, got, ok)
	}
}

func TestPaintObjectRejects(t *testing.T) {
	page := objectOf(rectOf(0, 0, 32, 32), pageBox())
	for _, first := range []int{-1, 33, math.MinInt, math.MaxInt, math.MinInt + 1, math.MaxInt - 1, -32, -33, 34, 200, 1 << 32, -1 << 32, 1<<32 + 5} {
		for _, rows := range append(goodRows(), badRows()...) {
			checkUnchanged(t, rows, first, page)
			checkUnchanged(t, rows, first, impl.Object{})
		}
	}
	for _, rows := range badRows() {
		for _, first := range []int{0, 5, 32} {
			checkUnchanged(t, rows, first, page)
			checkUnchanged(t, rows, first, grayObject(9, points(2, 2, 6, 6, 9, 9)))
			checkUnchanged(t, rows, first, impl.Object{})
		}
	}
	for _, o := range badObjects() {
		for _, first := range []int{-1, 0, 5, 32, 33} {
			checkUnchanged(t, variedRows(32), first, o)
			checkUnchanged(t, variedRows(3), first, o)
			checkUnchanged(t, nil, first, o)
			checkUnchanged(t, variedRows(33), first, o)
		}
	}
	eachRows(func(rows [][]int) {
		if !isRows(rows) {
			checkUnchanged(t, rows, 0, page)
		}
	})
	eachObject(page, func(o impl.Object) {
		if !isObject(o) {
			checkUnchanged(t, variedRows(2), 0, o)
		}
	})
}

func TestPaintObjectFromRowsOfThePage(t *testing.T) {
	o := objectOf(rectOf(0, 0, 32, 32), pageBox())
	for first := range 33 {
		for _, count := range []int{0, 1, 2, 31, 32} {
			rows, ok := impl.PaintObject(impl.WhiteRows(count), first, o)
			if want := 32 * min(count, 32-first); !ok || impl.CountValue(rows, 9) != want || len(rows) != count {
				t.Errorf("%d of %d rows are painted from row %d on, %v", impl.CountValue(rows, 9)/32, len(rows), first, ok)
			}
		}
	}
}

// Rows that are painted in parts are those that are painted at once.
func TestPaintingRowsInParts(t *testing.T) {
	for i, o := range paintingObjects() {
		rows := variedRows(32)
		at := i % 33
		above, _ := impl.PaintObject(rows[:at], 0, o)
		below, _ := impl.PaintObject(rows[at:], at, o)
		whole, ok := impl.PaintObject(rows, 0, o)
		if !ok || !equalRows(append(above, below...), whole) {
			t.Fatalf("%v, painted in parts of %d and %d rows, is not %v", o, at, 32-at, whole)
		}
	}
}

func TestObjectsThatCoverEachOther(t *testing.T) {
	square, inner, right, apart := rectOf(0, 0, 4, 4), rectOf(1, 1, 3, 3), rectOf(2, 1, 6, 3), rectOf(5, 0, 7, 2)
	list := []struct {
		what string
		list []impl.Object
		want []string
	}{
		{"no objects", nil, []string{"........", "........", "........", "........", "........"}},
		{"one", []impl.Object{grayObject(5, square)}, []string{"5555....", "5555....", "5555....", "5555....", "........"}},
		{"wholly", []impl.Object{grayObject(5, inner), grayObject(6, square)}, []string{"6666....", "6666....", "6666....", "6666....", "........"}},
		{"wholly, the smaller one later", []impl.Object{grayObject(6, square), grayObject(5, inner)}, []string{"6666....", "6556....", "6556....", "6666....", "........"}},
		{"by an object of the same dots", []impl.Object{grayObject(5, square), grayObject(6, otherDirection(square))}, []string{"6666....", "6666....", "6666....", "6666....", "........"}},
		{"in part", []impl.Object{grayObject(5, square), grayObject(6, right)}, []string{"5555....", "556666..", "556666..", "5555....", "........"}},
		{"in part, the other one later", []impl.Object{grayObject(6, right), grayObject(5, square)}, []string{"5555....", "555566..", "555566..", "5555....", "........"}},
		{"not at all", []impl.Object{grayObject(5, square), grayObject(6, apart)}, []string{"5555.66.", "5555.66.", "5555....", "5555....", "........"}},
		{"not at all, the other one later", []impl.Object{grayObject(6, apart), grayObject(5, square)}, []string{"5555.66.", "5555.66.", "5555....", "5555....", "........"}},
		{"not at all, touching", []impl.Object{grayObject(5, square), grayObject(6, rectOf(4, 0, 6, 2))}, []string{"555566..", "555566..", "5555....", "5555....", "........"}},
		{"the same one twice", []impl.Object{grayObject(5, square), grayObject(5, square)}, []string{"5555....", "5555....", "5555....", "5555....", "........"}},
		{"the same one twice, with one between", []impl.Object{grayObject(5, square), grayObject(6, right), grayObject(5, square)}, []string{"5555....", "555566..", "555566..", "5555....", "........"}},
		{"three", []impl.Object{grayObject(5, square), grayObject(6, right), grayObject(7, inner)}, []string{"5555....", "577666..", "577666..", "5555....", "........"}},
		{"three, in another order", []impl.Object{grayObject(7, inner), grayObject(6, right), grayObject(5, square)}, []string{"5555....", "555566..", "555566..", "5555....", "........"}},
		{"by White", []impl.Object{grayObject(5, square), grayObject(255, right)}, []string{"5555....", "55......", "55......", "5555....", "........"}},
		{"wholly by White", []impl.Object{grayObject(5, inner), grayObject(255, square)}, []string{"........", "........", "........", "........", "........"}},
		{"White by another one", []impl.Object{grayObject(255, square), grayObject(5, right)}, []string{"........", "..5555..", "..5555..", "........", "........"}},
		{"White with a hole in it", []impl.Object{grayObject(0, square), grayObject(255, append(slices.Clone(square), inner...))}, []string{"........", ".##.....", ".##.....", "........", "........"}},
		{"by 0", []impl.Object{grayObject(5, square), grayObject(0, right)}, []string{"5555....", "55####..", "55####..", "5555....", "........"}},
		{"0 by White", []impl.Object{grayObject(0, square), grayObject(255, inner)}, []string{"####....", "#..#....", "#..#....", "####....", "........"}},
		{"White by 0", []impl.Object{grayObject(255, square), grayObject(0, inner)}, []string{"........", ".##.....", ".##.....", "........", "........"}},
		{"in their clips only", []impl.Object{objectOf(square, boxAt(0, 0, 2, 9)), {Path: square, Gray: 4, Clip: boxAt(1, 3, 9, 9)}}, []string{"99......", "99......", "99......", "9444....", "........"}},
		{"without dots", []impl.Object{grayObject(5, inner), objectOf(square, boxAt(9, 9, 9, 9)), grayObject(6, points(0, 0, 2, 2, 4, 4))}, []string{"........", ".55.....", ".55.....", "........", "........"}},
	}
	for _, c := range list {
		rows, ok := impl.PaintAll(c.list)
		if !ok || len(rows) != 32 || !slices.Equal(drawn(rows[:5], 8), c.want) {
			t.Errorf("%s: %v, %v", c.what, rows, ok)
			continue
		}
		for y, row := range rows {
			for x, n := range row {
				if (y >= 5 || x >= 8) && n != 255 {
					t.Errorf("%s: %d in column %d of row %d", c.what, n, x, y)
				}
			}
		}
		checkPaintAll(t, c.list)
	}
}

// Where both paint a dot, the later object stands over the earlier one, and where one does, this one stands.
func TestLaterObjectsStandOverEarlierOnes(t *testing.T) {
	list := coveringObjects()
	both := 0
	for i := range list {
		a, b := list[i], list[(3*i+1)%len(list)]
		a.Gray, b.Gray = i%100, 100+i%100
		rows, ok := impl.PaintAll([]impl.Object{a, b})
		if !ok || len(rows) != 32 {
			t.Fatalf("PaintAll(%v, %v) is %v, %v", a, b, rows, ok)
		}
		for n := range 32 * 32 {
			x, y := n%32, n/32
			inA, inB := spansHave(impl.ObjectRow(a, y), x), spansHave(impl.ObjectRow(b, y), x)
			want := 255
			switch {
			case inB:
				want = b.Gray
			case inA:
				want = a.Gray
			}
			if inA && inB {
				both++
			}
			if rows[y][x] != want {
				t.Fatalf("PaintAll(%v, %v) has %d in column %d of row %d, want %d", a, b, rows[y][x], x, y, want)
			}
		}
	}
	if both < 3000 {
		t.Errorf("only %d dots are painted by both objects", both)
	}
}

// manyObjects are lists of up to 12 objects that cover each other.
func manyObjects() [][]impl.Object {
	list := coveringObjects()
	lists := [][]impl.Object{nil, {}}
	for i := range 60 {
		var some []impl.Object
		for j := range i % 13 {
			some = append(some, list[(31*i+57*j)%len(list)])
		}
		lists = append(lists, some)
	}
	return lists
}

func TestPaintAllOfManyObjects(t *testing.T) {
	for _, list := range manyObjects() {
		checkPaintAll(t, list)
	}
}

func TestPaintAllPaintsOneAfterTheOther(t *testing.T) {
	for _, list := range manyObjects() {
		want := impl.WhiteRows(32)
		for _, o := range list {
			want, _ = impl.PaintObject(want, 0, o)
		}
		if rows, ok := impl.PaintAll(list); !ok || !equalRows(rows, want) {
			t.Fatalf("PaintAll(%v) is %v, %v, want %v", list, rows, ok, want)
		}
	}
}

// steps are objects of which each leaves one column of all earlier ones to be seen, all of them valid.
func steps(count int) []impl.Object {
	var list []impl.Object
	for i := range count {
		list = append(list, grayObject(i, rectOf(i, 0, 32, 32)))
	}
	return list
}

func TestPaintAllCountsObjects(t *testing.T) {
	for _, count := range []int{0, 1, 2, 11, 12} {
		rows, ok := impl.PaintAll(steps(count))
		want := fullRows(32, func(x, y int) int { return min(x, count-1) })
		if count == 0 {
			want = evenRows(32, 255)
		}
		if !ok || !equalRows(rows, want) {
			t.Errorf("%d objects: %v, %v", count, rows, ok)
		}
	}
	for _, count := range []int{13, 14, 100, 5000} {
		if rows, ok := impl.PaintAll(slices.Repeat(steps(1), count)); ok || len(rows) != 0 {
			t.Errorf("%d objects: %d rows, %v", count, len(rows), ok)
		}
	}
	if rows, ok := impl.PaintAll(make([]impl.Object, 13)); ok || len(rows) != 0 {
		t.Errorf("13 objects that are not valid: %d rows, %v", len(rows), ok)
	}
}

func TestPaintAllRejectsAnInvalidObjectAtAnyPlace(t *testing.T) {
	for _, bad := range badObjects() {
		for _, count := range []int{1, 2, 3, 12, 13} {
			for at := range count {
				list := steps(count)
				list[at] = bad
				if rows, ok := impl.PaintAll(list); ok || len(rows) != 0 {
					t.Fatalf("%d objects with %v as number %d: %d rows, %v", count, bad, at, len(rows), ok)
				}
			}
		}
	}
	for _, at := range []int{0, 5, 11} {
		eachObject(objectOf(rectOf(0, 0, 32, 32), pageBox()), func(o impl.Object) {
			list := steps(12)
			list[at] = o
			checkPaintAll(t, list)
		})
	}
}

func TestPagesOfARunArePainted(t *testing.T) {
	list, _ := impl.ScanText("9 gray 1 1 3 2 rect fill 0 gray 2 2 3 2 rect fill 255 gray 3 1 1 1 rect fill")
	page, _ := impl.RunPage(list)
	rows, ok := impl.PaintAll(page.Objects)
	if want := []string{"......", ".99...", ".9###.", "..###.", "......"}; !ok || len(rows) != 32 || !slices.Equal(drawn(rows[:5], 6), want) {
		t.Errorf("the page is %v, %v", rows, ok)
	}
}
