package tests

import (
	"math"
	"testing"

	"loop.example/g00987/impl"
)

// edgeSteps are all valid quarters and scales, those next to them, and the ends of int.
func edgeSteps() []int {
	return []int{math.MinInt, math.MinInt + 1, -4, -1, 0, 1, 2, 3, 4, 5, 7, 8, math.MaxInt - 1, math.MaxInt}
}

func isTurn(t impl.Turn) bool {
	return t.Quarter >= 0 && t.Quarter <= 3 && t.Scale >= 1 && t.Scale <= 4 && isCoord(t.Dx) && isCoord(t.Dy)
}

// imageOf says where a point goes, limits aside, without the functions under test and without turning step by step.
func imageOf(t impl.Turn, p impl.Point) impl.Point {
	x, y := p.X*t.Scale, p.Y*t.Scale
	switch t.Quarter {
	case 1:
		x, y = -y, x
	case 2:
		x, y = -x, -y
	case 3:
		x, y = y, -x
	}
	return impl.Point{X: x + t.Dx, Y: y + t.Dy}
}

func inRange(p impl.Point) bool {
	return isCoord(p.X) && isCoord(p.Y)
}

func eachTurn(shifts []int, visit func(impl.Turn)) {
	for quarter := range 4 {
		for scale := 1; scale <= 4; scale++ {
			for _, dx := range shifts {
				for _, dy := range shifts {
					visit(impl.Turn{Quarter: quarter, Scale: scale, Dx: dx, Dy: dy})
				}
			}
		}
	}
}

func allTurns(shifts []int) []impl.Turn {
	var list []impl.Turn
	eachTurn(shifts, func(turn impl.Turn) { list = append(list, turn) })
	return list
}

// badTurns are not valid, each for one reason, and the last ones for several.
func badTurns() []impl.Turn {
	var list []impl.Turn
	for _, n := range edgeSteps() {
		if n < 0 || n > 3 {
			list = append(list, impl.Turn{Quarter: n, Scale: 1}, impl.Turn{Quarter: n, Scale: 4, Dx: 5, Dy: -6})
		}
		if n < 1 || n > 4 {
			list = append(list, impl.Turn{Scale: n}, impl.Turn{Quarter: 3, Scale: n, Dx: 5, Dy: -6})
		}
	}
	for _, n := range edgeCoords() {
		if !isCoord(n) {
			list = append(list, impl.Turn{Scale: 1, Dx: n}, impl.Turn{Scale: 1, Dy: n}, impl.Turn{Quarter: 2, Scale: 1, Dx: n, Dy: n})
		}
	}
	return append(list,
		impl.Turn{Quarter: math.MinInt, Scale: math.MinInt, Dx: math.MinInt, Dy: math.MinInt},
		impl.Turn{Quarter: math.MaxInt, Scale: math.MaxInt, Dx: math.MaxInt, Dy: math.MaxInt},
	)
}

func TestTurnOk(t *testing.T) {
	for _, quarter := range edgeSteps() {
		for _, scale := range edgeSteps() {
			for _, dx := range edgeCoords() {
				for _, dy := range edgeCoords() {
					turn := impl.Turn{Quarter: quarter, Scale: scale, Dx: dx, Dy: dy}
					if got := impl.TurnOk(turn); got != isTurn(turn) {
						t.Errorf("TurnOk(%+v) is %v", turn, got)
					}
				}
			}
		}
	}
	for _, turn := range badTurns() {
		if impl.TurnOk(turn) {
			t.Errorf("TurnOk(%+v) is true", turn)
		}
	}
}

func TestApplyTurn(t *testing.T) {
	list := []struct {
		turn    impl.Turn
		p, want impl.Point
	}{
		{impl.Turn{Quarter: 1, Scale: 2, Dx: 3, Dy: 4}, impl.Point{X: 1}, impl.Point{X: 3, Y: 6}},
		{impl.Turn{Scale: 1}, impl.Point{X: 7, Y: 5}, impl.Point{X: 7, Y: 5}},
		{impl.Turn{Quarter: 1, Scale: 1}, impl.Point{X: 7, Y: 5}, impl.Point{X: -5, Y: 7}},
		{impl.Turn{Quarter: 2, Scale: 1}, impl.Point{X: 7, Y: 5}, impl.Point{X: -7, Y: -5}},
		{impl.Turn{Quarter: 3, Scale: 1}, impl.Point{X: 7, Y: 5}, impl.Point{X: 5, Y: -7}},
		{impl.Turn{Scale: 4}, impl.Point{X: 7, Y: 5}, impl.Point{X: 28, Y: 20}},
		{impl.Turn{Quarter: 1, Scale: 4, Dx: 100, Dy: 1}, impl.Point{X: 7, Y: 5}, impl.Point{X: 80, Y: 29}},
		{impl.Turn{Quarter: 2, Scale: 3, Dx: -1, Dy: -2}, impl.Point{X: 7, Y: -5}, impl.Point{X: -22, Y: 13}},
		{impl.Turn{Quarter: 3, Scale: 2, Dx: 200, Dy: -100}, impl.Point{X: 7, Y: -5}, impl.Point{X: 190, Y: -114}},
		{impl.Turn{Scale: 1, Dx: 200, Dy: -200}, impl.Point{}, impl.Point{X: 200, Y: -200}},
		// A place past the limits on the way to an image within them does no harm.
		{impl.Turn{Scale: 4, Dx: -200}, impl.Point{X: 100}, impl.Point{X: 200}},
		{impl.Turn{Quarter: 2, Scale: 4, Dx: 200, Dy: -200}, impl.Point{X: 100, Y: -100}, impl.Point{X: -200, Y: 200}},
	}
	for _, c := range list {
		if got := impl.ApplyTurn(c.turn, c.p); got != c.want {
			t.Errorf("ApplyTurn(%+v, %v) is %v, want %v", c.turn, c.p, got, c.want)
		}
	}
}

func TestApplyTurnOfManyPoints(t *testing.T) {
	coords := append(edgeCoords(), -100, -51, -50, -49, 49, 50, 51, 66, 67, 99, 100, 101)
	eachTurn([]int{-200, -199, -1, 0, 1, 150, 200}, func(turn impl.Turn) {
		for _, x := range coords {
			for _, y := range coords {
				p := impl.Point{X: x, Y: y}
				want := p
				if moved := imageOf(turn, p); inRange(p) && inRange(moved) {
					want = moved
				}
				if got := impl.ApplyTurn(turn, p); got != want {
					t.Errorf("ApplyTurn(%+v, %v) is %v, want %v", turn, p, got, want)
				}
			}
		}
	})
}

// Each point is moved to a side of the range of coordinates, to just inside of it and to just outside of it.
func TestApplyTurnAtTheSides(t *testing.T) {
	list := []struct {
		turn  impl.Turn
		p     impl.Point
		moved impl.Point
	}{
		{impl.Turn{Scale: 4}, impl.Point{X: 50, Y: -50}, impl.Point{X: 200, Y: -200}},
		{impl.Turn{Scale: 4}, impl.Point{X: 49, Y: -49}, impl.Point{X: 196, Y: -196}},
		{impl.Turn{Scale: 4}, impl.Point{X: 51}, impl.Point{X: 204}},
		{impl.Turn{Scale: 4}, impl.Point{Y: -51}, impl.Point{Y: -204}},
		{impl.Turn{Scale: 1, Dx: 1}, impl.Point{X: 198}, impl.Point{X: 199}},
		{impl.Turn{Scale: 1, Dx: 1}, impl.Point{X: 199}, impl.Point{X: 200}},
		{impl.Turn{Scale: 1, Dx: 1}, impl.Point{X: 200}, impl.Point{X: 201}},
		{impl.Turn{Scale: 1, Dx: -1}, impl.Point{X: -198}, impl.Point{X: -199}},
		{impl.Turn{Scale: 1, Dx: -1}, impl.Point{X: -199}, impl.Point{X: -200}},
		{impl.Turn{Scale: 1, Dx: -1}, impl.Point{X: -200}, impl.Point{X: -201}},
		{impl.Turn{Scale: 1, Dy: 1}, impl.Point{Y: 199}, impl.Point{Y: 200}},
		{impl.Turn{Scale: 1, Dy: 1}, impl.Point{Y: 200}, impl.Point{Y: 201}},
		{impl.Turn{Scale: 1, Dy: -1}, impl.Point{Y: -199}, impl.Point{Y: -200}},
		{impl.Turn{Scale: 1, Dy: -1}, impl.Point{Y: -200}, impl.Point{Y: -201}},
		{impl.Turn{Quarter: 1, Scale: 1, Dx: -200}, impl.Point{Y: 0}, impl.Point{X: -200}},
		{impl.Turn{Quarter: 1, Scale: 1, Dx: -200}, impl.Point{Y: -1}, impl.Point{X: -199}},
		{impl.Turn{Quarter: 1, Scale: 1, Dx: -200}, impl.Point{Y: 1}, impl.Point{X: -201}},
		{impl.Turn{Quarter: 3, Scale: 3, Dy: 200}, impl.Point{X: -1}, impl.Point{Y: 203}},
		{impl.Turn{Scale: 4, Dx: 200, Dy: 200}, impl.Point{X: 200, Y: 200}, impl.Point{X: 1000, Y: 1000}},
		{impl.Turn{Quarter: 2, Scale: 4, Dx: -200, Dy: -200}, impl.Point{X: 200, Y: 200}, impl.Point{X: -1000, Y: -1000}},
	}
	for _, c := range list {
		want := c.p
		if inRange(c.moved) {
			want = c.moved
		}
		if got := impl.ApplyTurn(c.turn, c.p); got != want {
			t.Errorf("ApplyTurn(%+v, %v) is %v, want %v", c.turn, c.p, got, want)
		}
	}
}

func TestApplyTurnLeavesPointsUnchanged(t *testing.T) {
	points := []impl.Point{{}, {X: 1, Y: 2}, {X: -200, Y: 200}, {X: 201}, {X: math.MinInt, Y: math.MaxInt}}
	for _, turn := range badTurns() {
		for _, p := range points {
			if got := impl.ApplyTurn(turn, p); got != p {
				t.Errorf("ApplyTurn(%+v, %v) is %v", turn, p, got)
			}
		}
	}
	// The images of these points would be valid, if only by wrapping around.
	list := []struct {
		turn impl.Turn
		p    impl.Point
	}{
		{impl.Turn{Scale: 1, Dx: -1}, impl.Point{X: 201}},
		{impl.Turn{Scale: 1, Dx: 1}, impl.Point{X: -201}},
		{impl.Turn{Scale: 1, Dy: -200}, impl.Point{Y: 201}},
		{impl.Turn{Scale: 1, Dy: 200}, impl.Point{Y: -400}},
		{impl.Turn{Scale: 2}, impl.Point{X: math.MinInt}},
		{impl.Turn{Scale: 4, Dx: 3}, impl.Point{X: math.MinInt, Y: math.MinInt}},
		{impl.Turn{Scale: 4}, impl.Point{Y: 1 << 62}},
		{impl.Turn{Scale: 2, Dy: 2}, impl.Point{Y: math.MaxInt}},
	}
	for _, c := range list {
		if got := impl.ApplyTurn(c.turn, c.p); got != c.p {
			t.Errorf("ApplyTurn(%+v, %v) is %v", c.turn, c.p, got)
		}
	}
}

func TestJoinTurns(t *testing.T) {
	list := []struct{ a, b, want impl.Turn }{
		{impl.Turn{Quarter: 1, Scale: 2, Dx: 3, Dy: 4}, impl.Turn{Quarter: 3, Scale: 1, Dx: 1}, impl.Turn{Scale: 2, Dx: 5, Dy: -3}},
		{impl.Turn{Quarter: 3, Scale: 1, Dx: 1}, impl.Turn{Quarter: 1, Scale: 2, Dx: 3, Dy: 4}, impl.Turn{Scale: 2, Dx: 3, Dy: 6}},
		{impl.Turn{Scale: 2}, impl.Turn{Scale: 1, Dx: 5, Dy: 6}, impl.Turn{Scale: 2, Dx: 5, Dy: 6}},
		{impl.Turn{Scale: 1, Dx: 5, Dy: 6}, impl.Turn{Scale: 2}, impl.Turn{Scale: 2, Dx: 10, Dy: 12}},
		{impl.Turn{Quarter: 2, Scale: 1}, impl.Turn{Quarter: 2, Scale: 1}, impl.Turn{Scale: 1}},
		{impl.Turn{Quarter: 3, Scale: 1}, impl.Turn{Quarter: 3, Scale: 1}, impl.Turn{Quarter: 2, Scale: 1}},
		// Scales that multiply to 3 and to 4.
		{impl.Turn{Scale: 3}, impl.Turn{Scale: 1}, impl.Turn{Scale: 3}},
		{impl.Turn{Scale: 2, Dx: 1}, impl.Turn{Scale: 2, Dy: 1}, impl.Turn{Scale: 4, Dx: 2, Dy: 1}},
		{impl.Turn{Scale: 4, Dx: 1}, impl.Turn{Scale: 1, Dy: 1}, impl.Turn{Scale: 4, Dx: 1, Dy: 1}},
		{impl.Turn{Scale: 1, Dx: 1}, impl.Turn{Scale: 4, Dy: 1}, impl.Turn{Scale: 4, Dx: 4, Dy: 1}},
		// Shifts that join to the limits, just inside of them, and past them only before the last shift.
		{impl.Turn{Scale: 1, Dx: 150, Dy: -150}, impl.Turn{Scale: 1, Dx: 50, Dy: -50}, impl.Turn{Scale: 1, Dx: 200, Dy: -200}},
		{impl.Turn{Scale: 1, Dx: 150, Dy: -150}, impl.Turn{Scale: 1, Dx: 49, Dy: -49}, impl.Turn{Scale: 1, Dx: 199, Dy: -199}},
		{impl.Turn{Scale: 1, Dx: 50, Dy: -50}, impl.Turn{Scale: 4}, impl.Turn{Scale: 4, Dx: 200, Dy: -200}},
		{impl.Turn{Scale: 1, Dx: 100, Dy: -100}, impl.Turn{Scale: 4, Dx: -200, Dy: 200}, impl.Turn{Scale: 4, Dx: 200, Dy: -200}},
		{impl.Turn{Scale: 1, Dx: 200, Dy: -200}, impl.Turn{Scale: 1, Dx: -200, Dy: 200}, impl.Turn{Scale: 1}},
		{impl.Turn{Scale: 1, Dy: 200}, impl.Turn{Quarter: 1, Scale: 1, Dx: 200}, impl.Turn{Quarter: 1, Scale: 1}},
	}
	for _, c := range list {
		if got, ok := impl.JoinTurns(c.a, c.b); !ok || got != c.want {
			t.Errorf("JoinTurns(%+v, %+v) is %+v, %v, want %+v", c.a, c.b, got, ok, c.want)
		}
	}
}

func TestJoinTurnsPastTheLimits(t *testing.T) {
	list := []struct{ a, b impl.Turn }{
		{impl.Turn{Scale: 2}, impl.Turn{Scale: 3}},
		{impl.Turn{Scale: 3}, impl.Turn{Scale: 2}},
		{impl.Turn{Scale: 3}, impl.Turn{Scale: 3}},
		{impl.Turn{Scale: 4}, impl.Turn{Scale: 2}},
		{impl.Turn{Scale: 4}, impl.Turn{Scale: 4}},
		{impl.Turn{Scale: 1, Dx: 150}, impl.Turn{Scale: 1, Dx: 51}},
		{impl.Turn{Scale: 1, Dx: -150}, impl.Turn{Scale: 1, Dx: -51}},
		{impl.Turn{Scale: 1, Dy: 150}, impl.Turn{Scale: 1, Dy: 51}},
		{impl.Turn{Scale: 1, Dy: -150}, impl.Turn{Scale: 1, Dy: -51}},
		{impl.Turn{Scale: 1, Dx: 200}, impl.Turn{Scale: 1, Dx: 200}},
		{impl.Turn{Scale: 1, Dy: 200}, impl.Turn{Quarter: 1, Scale: 1, Dx: -1}},
		{impl.Turn{Scale: 1, Dx: 51}, impl.Turn{Scale: 4}},
		{impl.Turn{Scale: 1, Dy: -51}, impl.Turn{Scale: 4}},
		{impl.Turn{Scale: 1, Dx: 101}, impl.Turn{Scale: 4, Dx: -200}},
		{impl.Turn{Quarter: 1, Scale: 1, Dx: 200, Dy: 200}, impl.Turn{Quarter: 3, Scale: 4, Dx: 200, Dy: 200}},
	}
	for _, c := range list {
		if got, ok := impl.JoinTurns(c.a, c.b); ok || got != (impl.Turn{}) {
			t.Errorf("JoinTurns(%+v, %+v) is %+v, %v", c.a, c.b, got, ok)
		}
	}
}

// Promise 3, limits aside: three corners of a dot fix a transformation, and two more points show that it is fixed.
func TestJoinedTurnsDoOneAfterTheOther(t *testing.T) {
	list := allTurns([]int{-200, -50, -7, 0, 3, 51, 200})
	points := []impl.Point{{}, {X: 1}, {Y: 1}, {X: -200, Y: 200}, {X: 31, Y: -17}}
	for _, a := range list {
		for _, b := range list {
			shift := imageOf(b, imageOf(a, impl.Point{}))
			exists := a.Scale*b.Scale <= 4 && inRange(shift)
			got, ok := impl.JoinTurns(a, b)
			if ok != exists || ok != isTurn(got) || !ok && got != (impl.Turn{}) {
				t.Fatalf("JoinTurns(%+v, %+v) is %+v, %v", a, b, got, ok)
			}
			for _, p := range points {
				if ok && imageOf(got, p) != imageOf(b, imageOf(a, p)) {
					t.Fatalf("JoinTurns(%+v, %+v) is %+v: wrong at %v", a, b, got, p)
				}
			}
		}
	}
}

// Promise 3 for ApplyTurn: wherever neither step is stopped by a limit, nor is the joined one.
func TestJoinedTurnsApplyOneAfterTheOther(t *testing.T) {
	list := allTurns([]int{-40, 0, 9})
	compared := 0
	for _, a := range list {
		for _, b := range list {
			joined, ok := impl.JoinTurns(a, b)
			for _, p := range []impl.Point{{}, {X: 1, Y: 2}, {X: -9, Y: 12}, {X: 35, Y: -35}, {X: 50, Y: 50}} {
				between := imageOf(a, p)
				if !ok || !inRange(between) || !inRange(imageOf(b, between)) {
					continue
				}
				compared++
				if got, want := impl.ApplyTurn(joined, p), impl.ApplyTurn(b, impl.ApplyTurn(a, p)); got != want {
					t.Errorf("%+v, then %+v, at %v: joined %v, one after the other %v", a, b, p, got, want)
				}
			}
		}
	}
	if compared < 10000 {
		t.Errorf("only %d points were compared", compared)
	}
}

func TestJoinTurnsRejectsInvalidTurns(t *testing.T) {
	others := append([]impl.Turn{{Scale: 1}, {Quarter: 3, Scale: 4, Dx: -5, Dy: 6}, {Scale: 1, Dx: -200, Dy: 200}, {}}, badTurns()...)
	for _, bad := range badTurns() {
		for _, other := range others {
			if got, ok := impl.JoinTurns(bad, other); ok || got != (impl.Turn{}) {
				t.Errorf("JoinTurns(%+v, %+v) is %+v, %v", bad, other, got, ok)
			}
			if got, ok := impl.JoinTurns(other, bad); ok || got != (impl.Turn{}) {
				t.Errorf("JoinTurns(%+v, %+v) is %+v, %v", other, bad, got, ok)
			}
		}
	}
	// Joined, these would be valid.
	list := []struct{ a, b impl.Turn }{
		{impl.Turn{Scale: 1, Dx: 201}, impl.Turn{Scale: 1, Dx: -1}},
		{impl.Turn{Scale: 1, Dy: -1}, impl.Turn{Scale: 1, Dy: 201}},
		{impl.Turn{Quarter: 4, Scale: 1}, impl.Turn{Scale: 1}},
		{impl.Turn{Quarter: -1, Scale: 1}, impl.Turn{Quarter: 1, Scale: 1}},
		{impl.Turn{Scale: -1}, impl.Turn{Scale: -1}},
	}
	for _, c := range list {
		if got, ok := impl.JoinTurns(c.a, c.b); ok || got != (impl.Turn{}) {
			t.Errorf("JoinTurns(%+v, %+v) is %+v, %v", c.a, c.b, got, ok)
		}
	}
}

func TestBackTurn(t *testing.T) {
	list := []struct{ turn, want impl.Turn }{
		{impl.Turn{Scale: 1, Dx: 3, Dy: 4}, impl.Turn{Scale: 1, Dx: -3, Dy: -4}},
		{impl.Turn{Quarter: 1, Scale: 1, Dx: 3, Dy: 4}, impl.Turn{Quarter: 3, Scale: 1, Dx: -4, Dy: 3}},
		{impl.Turn{Quarter: 2, Scale: 1, Dx: 3, Dy: 4}, impl.Turn{Quarter: 2, Scale: 1, Dx: 3, Dy: 4}},
		{impl.Turn{Quarter: 3, Scale: 1, Dx: 3, Dy: 4}, impl.Turn{Quarter: 1, Scale: 1, Dx: 4, Dy: -3}},
		{impl.Turn{Scale: 1, Dx: 200, Dy: -200}, impl.Turn{Scale: 1, Dx: -200, Dy: 200}},
		{impl.Turn{Quarter: 1, Scale: 1, Dx: 200, Dy: -200}, impl.Turn{Quarter: 3, Scale: 1, Dx: 200, Dy: 200}},
		{impl.Turn{Quarter: 2, Scale: 1, Dx: 200, Dy: -200}, impl.Turn{Quarter: 2, Scale: 1, Dx: 200, Dy: -200}},
		{impl.Turn{Quarter: 3, Scale: 1, Dx: 200, Dy: -200}, impl.Turn{Quarter: 1, Scale: 1, Dx: -200, Dy: -200}},
		{impl.Turn{Quarter: 1, Scale: 1}, impl.Turn{Quarter: 3, Scale: 1}},
	}
	for _, c := range list {
		if got, ok := impl.BackTurn(c.turn); !ok || got != c.want {
			t.Errorf("BackTurn(%+v) is %+v, %v, want %+v", c.turn, got, ok, c.want)
		}
	}
}

func TestBackTurnTakesAllPointsBack(t *testing.T) {
	eachTurn([]int{-200, -199, -7, 0, 1, 199, 200}, func(turn impl.Turn) {
		got, ok := impl.BackTurn(turn)
		if turn.Scale != 1 {
			if ok || got != (impl.Turn{}) {
				t.Errorf("BackTurn(%+v) is %+v, %v", turn, got, ok)
			}
			return
		}
		if !ok || !isTurn(got) {
			t.Errorf("BackTurn(%+v) is %+v, %v", turn, got, ok)
		}
		for _, p := range []impl.Point{{}, {X: 1}, {Y: 1}, {X: 200, Y: -200}, {X: -3, Y: 8}} {
			if back := imageOf(got, imageOf(turn, p)); back != p {
				t.Errorf("BackTurn(%+v) is %+v, which takes %v back to %v", turn, got, p, back)
			}
		}
		there, ok1 := impl.JoinTurns(turn, got)
		here, ok2 := impl.JoinTurns(got, turn)
		if !ok1 || !ok2 || there != impl.Identity() || here != impl.Identity() {
			t.Errorf("%+v and back join to %+v, %v and to %+v, %v", turn, there, ok1, here, ok2)
		}
	})
}

func TestBackTurnRejectsInvalidTurns(t *testing.T) {
	for _, turn := range badTurns() {
		if got, ok := impl.BackTurn(turn); ok || got != (impl.Turn{}) {
			t.Errorf("BackTurn(%+v) is %+v, %v", turn, got, ok)
		}
	}
}

func TestIdentity(t *testing.T) {
	none := impl.Identity()
	if none != (impl.Turn{Scale: 1}) || !impl.TurnOk(none) {
		t.Errorf("Identity is %+v, valid %v", none, impl.TurnOk(none))
	}
	for _, x := range edgeCoords() {
		for _, y := range edgeCoords() {
			p := impl.Point{X: x, Y: y}
			if got := impl.ApplyTurn(none, p); got != p {
				t.Errorf("Identity takes %v to %v", p, got)
			}
		}
	}
	eachTurn([]int{-200, -3, 0, 5, 200}, func(turn impl.Turn) {
		first, ok1 := impl.JoinTurns(none, turn)
		last, ok2 := impl.JoinTurns(turn, none)
		if !ok1 || !ok2 || first != turn || last != turn {
			t.Errorf("Identity joins with %+v to %+v, %v and to %+v, %v", turn, first, ok1, last, ok2)
		}
	})
	if back, ok := impl.BackTurn(none); !ok || back != none {
		t.Errorf("BackTurn of Identity is %+v, %v", back, ok)
	}
}
