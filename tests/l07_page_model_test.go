package tests

import (
	"maps"
	"math"
	"math/rand/v2"
	"slices"
	"strconv"

	"loop.example/g00987/impl"
)

// operatorTakes says how many numbers each operator takes.
func operatorTakes() map[string]int {
	return map[string]int{
		"new": 0, "moveto": 2, "lineto": 2, "rect": 4, "fill": 0, "gray": 1, "clip": 0, "save": 0, "restore": 0, "shift": 2, "turn": 1, "scale": 1,
	}
}

func operatorNames() []string {
	return slices.Sorted(maps.Keys(operatorTakes()))
}

func isPath(path []impl.Point) bool {
	return len(path) <= 8 && !slices.ContainsFunc(path, func(p impl.Point) bool { return !inRange(p) })
}

func isGray(n int) bool {
	return n >= 0 && n <= 255
}

func isGraphics(g impl.Graphics) bool {
	return isStack(g.Stack) && isTurn(g.Turn) && isPath(g.Path) && isGray(g.Gray) && isBox(g.Clip)
}

func isObject(o impl.Object) bool {
	return len(o.Path) >= 3 && isPath(o.Path) && isGray(o.Gray) && isBox(o.Clip)
}

func isPage(p impl.Page) bool {
	if !isGraphics(p.Now) || len(p.Saved) > 4 || len(p.Objects) > 12 {
		return false
	}
	noGraphics := func(g impl.Graphics) bool { return !isGraphics(g) }
	noObject := func(o impl.Object) bool { return !isObject(o) }
	return !slices.ContainsFunc(p.Saved, noGraphics) && !slices.ContainsFunc(p.Objects, noObject)
}

func sameGraphics(a, b impl.Graphics) bool {
	return slices.Equal(a.Stack, b.Stack) && a.Turn == b.Turn && slices.Equal(a.Path, b.Path) && a.Gray == b.Gray && a.Clip == b.Clip
}

func sameObject(a, b impl.Object) bool {
	return slices.Equal(a.Path, b.Path) && a.Gray == b.Gray && a.Clip == b.Clip
}

func samePage(a, b impl.Page) bool {
	return sameGraphics(a.Now, b.Now) && slices.EqualFunc(a.Saved, b.Saved, sameGraphics) && slices.EqualFunc(a.Objects, b.Objects, sameObject)
}

func copyPage(p impl.Page) impl.Page {
	return pageWithRoom(p, 0)
}

func blankPage() impl.Page {
	return impl.Page{Now: impl.Graphics{Turn: impl.Turn{Scale: 1}, Clip: impl.Box{X1: 32, Y1: 32}}}
}

// joinedFirst is what does what the first one does and then the other one.
func joinedFirst(first, then impl.Turn) (impl.Turn, bool) {
	shift := imageOf(then, imageOf(first, impl.Point{}))
	joined := impl.Turn{Quarter: (first.Quarter + then.Quarter) % 4, Scale: first.Scale * then.Scale, Dx: shift.X, Dy: shift.Y}
	return joined, isTurn(first) && isTurn(joined)
}

// clippedTo is the common part of a box and the box around a path.
func clippedTo(box impl.Box, path []impl.Point) impl.Box {
	var xs, ys []int
	for _, p := range path {
		xs, ys = append(xs, p.X), append(ys, p.Y)
	}
	part := impl.Box{
		X0: max(box.X0, slices.Min(xs)), Y0: max(box.Y0, slices.Min(ys)),
		X1: min(box.X1, slices.Max(xs)), Y1: min(box.Y1, slices.Max(ys)),
	}
	if part.X0 >= part.X1 || part.Y0 >= part.Y1 {
		return impl.Box{}
	}
	return part
}

// operated says what an operator makes of a page, and whether it is possible, limits of the page aside, without the functions under test.
func operated(p impl.Page, name string, n []int) (impl.Page, bool) {
	g := &p.Now
	at := func(x, y int) impl.Point { return imageOf(g.Turn, impl.Point{X: x, Y: y}) }
	possible := true
	switch name {
	case "new":
		g.Path = nil
	case "moveto":
		g.Path = []impl.Point{at(n[0], n[1])}
	case "lineto":
		possible = len(g.Path) > 0
		g.Path = append(g.Path, at(n[0], n[1]))
	case "rect":
		x, y, w, h := n[0], n[1], n[2], n[3]
		possible = w >= 0 && w <= 200 && h >= 0 && h <= 200
		g.Path = []impl.Point{at(x, y), at(x+w, y), at(x+w, y+h), at(x, y+h)}
	case "fill":
		possible = len(g.Path) >= 3
		p.Objects = append(p.Objects, impl.Object{Path: g.Path, Gray: g.Gray, Clip: g.Clip})
		g.Path = nil
	case "gray":
		g.Gray = n[0]
	case "clip":
		if possible = len(g.Path) > 0; possible {
			g.Clip = clippedTo(g.Clip, g.Path)
		}
		g.Path = nil
	case "save":
		p.Saved = append(p.Saved, *g)
	case "restore":
		if possible = len(p.Saved) > 0; possible {
			last := p.Saved[len(p.Saved)-1]
			last.Stack = g.Stack
			p.Now, p.Saved = last, p.Saved[:len(p.Saved)-1]
		}
	case "shift":
		g.Turn, possible = joinedFirst(impl.Turn{Scale: 1, Dx: n[0], Dy: n[1]}, g.Turn)
	case "turn":
		g.Turn, possible = joinedFirst(impl.Turn{Quarter: n[0], Scale: 1}, g.Turn)
	case "scale":
		g.Turn, possible = joinedFirst(impl.Turn{Scale: n[0]}, g.Turn)
	}
	return p, possible
}

// pageResult says what a token makes of a page without the functions under test.
func pageResult(p impl.Page, token impl.Token) (impl.Page, bool) {
	if !isPage(p) || !isToken(token) {
		return p, false
	}
	next, possible := copyPage(p), false
	takes, isOperator := operatorTakes()[token.Name]
	switch rest := len(p.Now.Stack) - takes; {
	case token.Name == "":
		next.Now.Stack = append(next.Now.Stack, token.N)
		possible = true
	case isOperator && rest >= 0:
		next.Now.Stack = next.Now.Stack[:rest]
		next, possible = operated(next, token.Name, p.Now.Stack[rest:])
	case !isOperator:
		next.Now.Stack, possible = stackOpResult(p.Now.Stack, token.Name)
	}
	if !possible || !isPage(next) {
		return p, false
	}
	return copyPage(next), true
}

// pageOf is the page behind the tokens of a text without the functions under test.
func pageOf(text string) impl.Page {
	p := blankPage()
	for _, token := range flatOf(blockTokens(text)) {
		var ok bool
		if p, ok = pageResult(p, token); !ok {
			panic("not executed: " + text)
		}
	}
	return p
}

func points(coords ...int) []impl.Point {
	var list []impl.Point
	for i := 0; i < len(coords); i += 2 {
		list = append(list, impl.Point{X: coords[i], Y: coords[i+1]})
	}
	return list
}

// pathOfSize has no two equal points.
func pathOfSize(size int) []impl.Point {
	var list []impl.Point
	for i := range size {
		list = append(list, impl.Point{X: 3*i - 10, Y: i * i})
	}
	return list
}

func pageBox() impl.Box {
	return impl.Box{X1: 32, Y1: 32}
}

// eachGraphics visits graphics with one part changed, up to each limit and past it.
func eachGraphics(base impl.Graphics, visit func(impl.Graphics)) {
	for _, list := range append(goodStacks(), badStacks()...) {
		g := base
		g.Stack = list
		visit(g)
	}
	for _, turn := range append(badTurns(), allTurns([]int{-200, 0, 200})...) {
		g := base
		g.Turn = turn
		visit(g)
	}
	eachPath(func(path []impl.Point) {
		g := base
		g.Path = path
		visit(g)
	})
	for _, gray := range grayEdges() {
		g := base
		g.Gray = gray
		visit(g)
	}
	for _, box := range clipEdges() {
		g := base
		g.Clip = box
		visit(g)
	}
}

func eachObject(base impl.Object, visit func(impl.Object)) {
	eachPath(func(path []impl.Point) { visit(impl.Object{Path: path, Gray: base.Gray, Clip: base.Clip}) })
	for _, gray := range grayEdges() {
		visit(impl.Object{Path: base.Path, Gray: gray, Clip: base.Clip})
	}
	for _, box := range clipEdges() {
		visit(impl.Object{Path: base.Path, Gray: base.Gray, Clip: box})
	}
}

func eachPath(visit func([]impl.Point)) {
	for size := range 20 {
		visit(pathOfSize(size))
	}
	visit(make([]impl.Point, 5000))
	for _, size := range []int{1, 2, 3, 8, 9} {
		for _, at := range []int{0, size / 2, size - 1} {
			for _, n := range edgeCoords() {
				for _, p := range points(n, 0, 0, n, n, n) {
					path := pathOfSize(size)
					path[at] = p
					visit(path)
				}
			}
		}
	}
}

func grayEdges() []int {
	return []int{math.MinInt, math.MinInt + 1, -256, -2, -1, 0, 1, 127, 254, 255, 256, 257, 1 << 32, 1<<32 + 5, math.MaxInt - 1, math.MaxInt}
}

func clipEdges() []impl.Box {
	return append(badBoxes(), impl.Box{}, pageBox(), largestBox(), impl.Box{X0: -200, Y0: -200, X1: -200, Y1: -200},
		impl.Box{X0: 200, Y0: 200, X1: 200, Y1: 200}, impl.Box{X0: 5, Y0: 6, X1: 5, Y1: 6}, impl.Box{X0: 5, Y0: 6, X1: 9, Y1: 6})
}

// pageOfSizes has lists of these lengths, whose elements are valid.
func pageOfSizes(saved, objects int) impl.Page {
	p := blankPage()
	for i := range saved {
		p.Saved = append(p.Saved, impl.Graphics{Stack: stackOfSize(min(3*i, 12)), Turn: impl.Turn{Quarter: i % 4, Scale: 1}, Path: pathOfSize(min(i, 8)), Gray: i % 256, Clip: pageBox()})
	}
	for i := range objects {
		p.Objects = append(p.Objects, impl.Object{Path: pathOfSize(3 + i%6), Gray: i % 256, Clip: pageBox()})
	}
	return p
}

// eachPage visits pages with lists of all lengths, and those with one part changed in Now, in each of Saved and in each object.
func eachPage(visit func(impl.Page)) {
	for saved := range 8 {
		for objects := range 17 {
			visit(pageOfSizes(saved, objects))
		}
	}
	visit(pageOfSizes(5000, 0))
	visit(pageOfSizes(0, 5000))
	base := impl.Graphics{Stack: []int{5, 7}, Turn: impl.Turn{Scale: 1}, Path: pathOfSize(3), Gray: 9, Clip: pageBox()}
	eachGraphics(base, func(g impl.Graphics) {
		visit(impl.Page{Now: g})
		for at := range 4 {
			p := pageOfSizes(4, 1)
			p.Saved[at] = g
			visit(p)
		}
	})
	eachObject(impl.Object{Path: pathOfSize(4), Gray: 9, Clip: pageBox()}, func(o impl.Object) {
		for _, at := range []int{0, 1, 5, 11} {
			p := pageOfSizes(1, 12)
			p.Objects[at] = o
			visit(p)
		}
	})
}

// fullPage has everything at its limit.
func fullPage() impl.Page {
	full := func() impl.Graphics {
		return impl.Graphics{Stack: stackOfSize(12), Turn: impl.Turn{Quarter: 3, Scale: 4, Dx: -200, Dy: 200}, Path: pathOfSize(8), Gray: 255, Clip: largestBox()}
	}
	p := impl.Page{Now: full()}
	for range 4 {
		p.Saved = append(p.Saved, full())
	}
	for range 12 {
		p.Objects = append(p.Objects, impl.Object{Path: pathOfSize(8), Gray: 255, Clip: largestBox()})
	}
	return p
}

// goodPages are valid, with everything from none to the most.
func goodPages() []impl.Page {
	list := []impl.Page{fullPage(), {Now: impl.Graphics{Turn: impl.Turn{Scale: 1}}}}
	for _, text := range []string{
		"", "5", "1 2", "1 2 3 4", "3 -4 5 -6 7", "1 2 3 4 5 6 7 8 9 10 11", "1 2 3 4 5 6 7 8 9 10 11 12", "99 101 mul neg", "200 201", "-1", "0 0 200 200", "0 0 0 201",
		"2 3 moveto", "2 3 moveto 4 5", "2 3 moveto 4 5 lineto", "2 3 moveto 4 5 lineto 6 7 lineto 8 9", "1 2 3 4 rect", "1 2 3 4 rect 5 6", "0 0 200 200 rect 255",
		"1 2 moveto 6 repeat 3 4 lineto end 5 6", "1 2 moveto 7 repeat 3 4 lineto end 5 6", "1 2 3 4 rect 4 repeat 5 6 lineto end",
		"1 turn 5 6", "2 scale 3", "2 scale 2 scale 2", "3 -5 shift 1 2 3 4", "200 -200 shift 1 1", "3 turn 2 scale 7 8 shift 1 2 moveto 1 1 5 5",
		"4 4 8 8 rect clip 1 1 5 5", "4 4 8 8 rect clip 1 1 5 5 rect", "40 40 5 5 rect clip 1 2 moveto", "8 gray 9", "255 gray 256", "255 gray -1",
		"save", "5 save 6", "1 2 moveto save 3 4 lineto 9 9", "9 gray save 8 gray 1 turn save 3 scale 1 2 3 4 rect save", "save save save save", "5 1 2 moveto save save save save 3 4",
		"1 2 3 4 rect fill", "1 2 3 4 rect fill 5 6 7 8 rect", "1 2 3 4 rect save fill 1 2", "1 2 3 4 rect save fill save 7 gray",
		"9 repeat 1 2 3 4 rect fill end 2 repeat 5 6 7 8 rect fill end 1 1 2 2 rect", "9 repeat 1 2 3 4 rect fill end 3 repeat 5 6 7 8 rect fill end 1 1 2 2 rect 5",
	} {
		list = append(list, pageOf(text))
	}
	return list
}

// badPages are pages that are not valid, among which are some that a token would make valid.
func badPages() []impl.Page {
	list := []impl.Page{{}}
	change := func(f func(p *impl.Page)) {
		p := pageOf("9 gray 1 2 3 4 rect fill 1 2 moveto save 5 6 7 8 rect save 1 2 3 4")
		f(&p)
		list = append(list, p)
	}
	for _, n := range []int{-1, 256, math.MinInt, math.MaxInt} {
		change(func(p *impl.Page) { p.Now.Gray = n })
		change(func(p *impl.Page) { p.Saved[1].Gray = n })
		change(func(p *impl.Page) { p.Objects[0].Gray = n })
	}
	for _, n := range []int{-201, 201, math.MinInt, math.MaxInt} {
		change(func(p *impl.Page) { p.Now.Path[1].X = n })
		change(func(p *impl.Page) { p.Now.Path = points(0, n) })
		change(func(p *impl.Page) { p.Now.Turn.Dx = n })
		change(func(p *impl.Page) { p.Now.Clip.Y1 = n })
		change(func(p *impl.Page) { p.Saved[1].Path[3].Y = n })
		change(func(p *impl.Page) { p.Saved[1].Turn.Dy = n })
		change(func(p *impl.Page) { p.Saved[0].Clip.X0 = n })
		change(func(p *impl.Page) { p.Objects[0].Path[2].X = n })
		change(func(p *impl.Page) { p.Objects[0].Clip.X1 = n })
	}
	for _, n := range []int{-10000, 10000, math.MinInt, math.MaxInt} {
		change(func(p *impl.Page) { p.Now.Stack[3] = n })
		change(func(p *impl.Page) { p.Now.Stack[0] = n })
		change(func(p *impl.Page) { p.Saved[1].Stack = []int{n} })
	}
	for _, n := range []int{-1, 5, math.MinInt, math.MaxInt} {
		change(func(p *impl.Page) { p.Now.Turn.Scale = n })
		change(func(p *impl.Page) { p.Saved[1].Turn.Scale = n })
		change(func(p *impl.Page) { p.Now.Turn.Quarter = n })
		change(func(p *impl.Page) { p.Saved[1].Turn.Quarter = n })
	}
	change(func(p *impl.Page) { p.Now.Turn.Scale = 0 })
	change(func(p *impl.Page) { p.Now.Turn.Quarter = 4 })
	change(func(p *impl.Page) { p.Now.Stack = make([]int, 13) })
	change(func(p *impl.Page) { p.Saved[1].Stack = make([]int, 13) })
	change(func(p *impl.Page) { p.Now.Path = pathOfSize(9) })
	change(func(p *impl.Page) { p.Saved[1].Path = pathOfSize(9) })
	change(func(p *impl.Page) { p.Objects[0].Path = pathOfSize(2) })
	change(func(p *impl.Page) { p.Objects[0].Path = pathOfSize(9) })
	change(func(p *impl.Page) { p.Objects[0].Path = nil })
	change(func(p *impl.Page) { p.Objects = slices.Repeat(p.Objects, 13) })
	change(func(p *impl.Page) { p.Saved = slices.Repeat(p.Saved[:1], 5) })
	return list
}

// pageTokens are all operators, numbers and names of other kinds, and some tokens that are not valid.
func pageTokens() []impl.Token {
	list := []impl.Token{{Name: "repeat"}, {Name: "end"}, {Name: "xyz"}, {Name: "zzzzzzzz"}, {Name: "zzzzzzzzz"}, {Name: "Fill"}, {Name: "new "}}
	for _, name := range append(operatorNames(), stackOpNames()...) {
		list = append(list, impl.Token{Name: name}, impl.Token{Name: name, N: 1}, impl.Token{Name: name, N: math.MinInt})
	}
	for _, n := range edgeNumbers() {
		list = append(list, impl.Token{N: n})
	}
	return list
}

// runResult says what RunPage returns without the functions under test.
func runResult(list []impl.Token) (impl.Page, int) {
	if depthOfBlocks(list) < 0 || len(flatOf(list)) > 200 {
		return impl.Page{}, -1
	}
	p, flat := blankPage(), flatOf(list)
	for i, token := range flat {
		next, ok := pageResult(p, token)
		if !ok {
			return p, i
		}
		p = next
	}
	return p, len(flat)
}

// randomPart is one token, or an operator behind its numbers, most of which are small enough for it.
func randomPart(r *rand.Rand) string {
	upTo := func(n int) string { return strconv.Itoa(r.IntN(n+1)) + " " }
	around := func(n int) string { return strconv.Itoa(r.IntN(2*n+1)-n) + " " }
	place := func() string { return around(90) + around(90) }
	parts := []string{
		place() + "moveto", place() + "lineto", place() + "lineto", place() + "lineto", place() + "lineto", place() + upTo(90) + upTo(90) + "rect",
		place() + upTo(210) + upTo(210) + "rect fill", place() + upTo(60) + upTo(60) + "rect fill", "fill", "fill", "clip", upTo(20) + upTo(20) + "25 25 rect clip",
		"save", "save", "restore", "restore", "restore", "new", upTo(300) + "gray", upTo(4) + "turn", upTo(5) + "scale", around(30) + around(30) + "shift", around(220) + around(220) + "shift",
		around(1050), upTo(9), upTo(9), stackOpNames()[r.IntN(7)], stackOpNames()[r.IntN(7)], operatorNames()[r.IntN(12)], "pop", "pop pop pop pop", "xyz", "repeat", "end",
	}
	return parts[r.IntN(len(parts))]
}
