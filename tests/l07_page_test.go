package tests

import (
	"maps"
	"math"
	"math/rand/v2"
	"slices"
	"strings"
	"testing"

	"loop.example/g00987/impl"
)

// checkExec also checks promise 7: whatever is executed, a valid page stays valid.
func checkExec(t *testing.T, p impl.Page, token impl.Token) impl.Page {
	t.Helper()
	want, right := pageResult(p, token)
	before := copyPage(p)
	got, ok := impl.ExecToken(p, token)
	if ok != right || !samePage(got, want) {
		t.Fatalf("%.40q, %d on %+v:\n%+v, %v, want\n%+v, %v", token.Name, token.N, before, got, ok, want, right)
	}
	if !samePage(p, before) {
		t.Fatalf("%.40q, %d changed the page %+v to %+v", token.Name, token.N, before, p)
	}
	if impl.PageOk(before) && !(impl.PageOk(got) && isPage(got)) {
		t.Fatalf("%.40q, %d on %+v leaves a page that is not valid: %+v", token.Name, token.N, before, got)
	}
	return got
}

// checkOperator executes an operator with these numbers at the end of a longer stack.
func checkOperator(t *testing.T, p impl.Page, name string, numbers ...int) (impl.Page, bool) {
	t.Helper()
	p.Now.Stack = append([]int{5, 7}, numbers...)
	checkExec(t, p, impl.Token{Name: name})
	return impl.ExecToken(p, impl.Token{Name: name})
}

// executed is the page behind the tokens of a text, all of which must succeed.
func executed(t *testing.T, text string) impl.Page {
	t.Helper()
	p := impl.NewPage()
	for i, token := range flatOf(blockTokens(text)) {
		next, ok := impl.ExecToken(p, token)
		if !ok || !impl.PageOk(next) {
			t.Fatalf("token %d of %q fails: %+v, valid %v", i, text, next, impl.PageOk(next))
		}
		p = next
	}
	return p
}

// checkPage executes a text and compares with the new page after some changes.
func checkPage(t *testing.T, text string, change func(p *impl.Page)) {
	t.Helper()
	want := blankPage()
	change(&want)
	if got := executed(t, text); !samePage(got, want) {
		t.Fatalf("%q:\n%+v, want\n%+v", text, got, want)
	}
	if got, n := impl.RunPage(blockTokens(text)); n != len(flatOf(blockTokens(text))) || !samePage(got, want) {
		t.Fatalf("RunPage of %q:\n%+v, %d, want\n%+v", text, got, n, want)
	}
}

// checkLastFails executes a text whose last token must fail and leave the page as it was, and all before it succeed.
func checkLastFails(t *testing.T, text string) {
	t.Helper()
	list := flatOf(blockTokens(text))
	last := len(list) - 1
	before := executed(t, writtenTokens(list[:last]))
	got, ok := impl.ExecToken(before, list[last])
	if ok || !samePage(got, before) {
		t.Fatalf("the last one of %q: %v\n%+v, before it\n%+v", text, ok, got, before)
	}
	checkExec(t, before, list[last])
	if got, n := impl.RunPage(list); len(list) <= 60 && (n != last || !samePage(got, before)) {
		t.Fatalf("RunPage of %q: %d\n%+v, want %d\n%+v", text, n, got, last, before)
	}
}

func TestPageLimits(t *testing.T) {
	if impl.MaxPath != 8 || impl.MaxObjects != 12 || impl.MaxSaved != 4 {
		t.Errorf("limits are %d, %d and %d", impl.MaxPath, impl.MaxObjects, impl.MaxSaved)
	}
}

func TestNewPage(t *testing.T) {
	p := impl.NewPage()
	if !samePage(p, blankPage()) || p.Now.Turn != impl.Identity() || !impl.PageOk(p) || !impl.GraphicsOk(p.Now) {
		t.Errorf("NewPage is %+v, valid %v", p, impl.PageOk(p))
	}
	if zero := (impl.Page{}); impl.PageOk(zero) || impl.GraphicsOk(zero.Now) {
		t.Error("the zero Page is valid, whose scale is 0")
	}
}

func TestGraphicsOk(t *testing.T) {
	counts := map[bool]int{}
	for _, base := range []impl.Graphics{blankPage().Now, fullPage().Now, {Stack: []int{1}, Turn: impl.Turn{Quarter: 3, Scale: 4}, Path: pathOfSize(2), Gray: 255}} {
		eachGraphics(base, func(g impl.Graphics) {
			got := impl.GraphicsOk(g)
			if got != isGraphics(g) {
				t.Fatalf("GraphicsOk(%.300v) is %v", g, got)
			}
			counts[got]++
		})
	}
	if counts[true] < 300 || counts[false] < 300 {
		t.Errorf("%d are valid, %d are not", counts[true], counts[false])
	}
}

func TestGraphicsOkAtTheLimits(t *testing.T) {
	list := []struct {
		change func(g *impl.Graphics)
		want   bool
	}{
		{func(g *impl.Graphics) {}, true},
		{func(g *impl.Graphics) { g.Stack = make([]int, 12) }, true},
		{func(g *impl.Graphics) { g.Stack = make([]int, 13) }, false},
		{func(g *impl.Graphics) { g.Stack = []int{9999, -9999} }, true},
		{func(g *impl.Graphics) { g.Stack = []int{10000} }, false},
		{func(g *impl.Graphics) { g.Stack = []int{math.MinInt} }, false},
		{func(g *impl.Graphics) { g.Turn = impl.Turn{Quarter: 3, Scale: 4, Dx: 200, Dy: -200} }, true},
		{func(g *impl.Graphics) { g.Turn.Quarter = 4 }, false},
		{func(g *impl.Graphics) { g.Turn.Scale = 0 }, false},
		{func(g *impl.Graphics) { g.Turn.Dy = 201 }, false},
		{func(g *impl.Graphics) { g.Path = make([]impl.Point, 8) }, true},
		{func(g *impl.Graphics) { g.Path = make([]impl.Point, 9) }, false},
		{func(g *impl.Graphics) { g.Path = points(200, -200) }, true},
		{func(g *impl.Graphics) { g.Path = points(201, 0) }, false},
		{func(g *impl.Graphics) { g.Path = points(0, 0, 0, math.MinInt) }, false},
		{func(g *impl.Graphics) { g.Gray = 255 }, true},
		{func(g *impl.Graphics) { g.Gray = 256 }, false},
		{func(g *impl.Graphics) { g.Gray = -1 }, false},
		{func(g *impl.Graphics) { g.Clip = impl.Box{} }, true},
		{func(g *impl.Graphics) { g.Clip = largestBox() }, true},
		{func(g *impl.Graphics) { g.Clip.X1 = 201 }, false},
		{func(g *impl.Graphics) { g.Clip.Y0 = 33 }, false},
	}
	for i, c := range list {
		p := pageOfSizes(4, 0)
		c.change(&p.Now)
		if got := impl.GraphicsOk(p.Now); got != c.want {
			t.Errorf("case %d: GraphicsOk(%+v) is %v", i, p.Now, got)
		}
		if got := impl.PageOk(p); got != c.want {
			t.Errorf("case %d: PageOk of %+v as Now is %v", i, p.Now, got)
		}
		for at := range 4 {
			p := pageOfSizes(4, 0)
			c.change(&p.Saved[at])
			if got := impl.PageOk(p); got != c.want {
				t.Errorf("case %d: PageOk of %+v as Saved[%d] is %v", i, p.Saved[at], at, got)
			}
		}
	}
}

func TestPageOkOfObjectsAtTheLimits(t *testing.T) {
	list := []struct {
		object impl.Object
		want   bool
	}{
		{impl.Object{Path: pathOfSize(3)}, true},
		{impl.Object{Path: pathOfSize(8), Gray: 255, Clip: largestBox()}, true},
		{impl.Object{Path: points(1, 1, 1, 1, 1, 1)}, true},
		{impl.Object{Path: points(200, 200, -200, 200, 200, -200)}, true},
		{impl.Object{}, false},
		{impl.Object{Path: pathOfSize(2)}, false},
		{impl.Object{Path: pathOfSize(9)}, false},
		{impl.Object{Path: points(201, 0, 0, 0, 0, 0)}, false},
		{impl.Object{Path: points(0, 0, 0, -201, 0, 0)}, false},
		{impl.Object{Path: points(0, 0, 0, 0, math.MaxInt, 0)}, false},
		{impl.Object{Path: pathOfSize(3), Gray: -1}, false},
		{impl.Object{Path: pathOfSize(3), Gray: 256}, false},
		{impl.Object{Path: pathOfSize(3), Gray: math.MinInt}, false},
		{impl.Object{Path: pathOfSize(3), Clip: impl.Box{X0: 1}}, false},
		{impl.Object{Path: pathOfSize(3), Clip: impl.Box{Y1: 201}}, false},
	}
	for _, c := range list {
		for at := range 12 {
			p := pageOfSizes(2, 12)
			p.Objects[at] = c.object
			if got := impl.PageOk(p); got != c.want {
				t.Errorf("PageOk of %+v as object %d is %v", c.object, at, got)
			}
		}
	}
}

func TestPageOk(t *testing.T) {
	counts := map[bool]int{}
	eachPage(func(p impl.Page) {
		got := impl.PageOk(p)
		if got != isPage(p) {
			t.Fatalf("PageOk(%.300v) is %v", p, got)
		}
		counts[got]++
	})
	if counts[true] < 300 || counts[false] < 300 {
		t.Errorf("%d are valid, %d are not", counts[true], counts[false])
	}
	for n := range 20 {
		if got := impl.PageOk(pageOfSizes(n, 0)); got != (n <= 4) {
			t.Fatalf("PageOk with %d of Saved is %v", n, got)
		}
		if got := impl.PageOk(pageOfSizes(0, n)); got != (n <= 12) {
			t.Fatalf("PageOk with %d objects is %v", n, got)
		}
	}
}

func TestPathsAndObjects(t *testing.T) {
	type page = impl.Page
	square := func() []impl.Point { return points(1, 2, 4, 2, 4, 6, 1, 6) }
	list := []struct {
		text   string
		change func(p *page)
	}{
		{"", func(p *page) {}},
		{"7 -999 999", func(p *page) { p.Now.Stack = []int{7, -999, 999} }},
		{"8 2 3 mul 1 sub neg dup exch pop", func(p *page) { p.Now.Stack = []int{8, -5} }},
		{"2 3 moveto", func(p *page) { p.Now.Path = points(2, 3) }},
		{"9 2 3 moveto", func(p *page) { p.Now.Stack, p.Now.Path = []int{9}, points(2, 3) }},
		{"2 3 moveto 4 -5 moveto", func(p *page) { p.Now.Path = points(4, -5) }},
		{"2 3 moveto 4 -5 lineto", func(p *page) { p.Now.Path = points(2, 3, 4, -5) }},
		{"2 3 moveto 2 3 lineto 2 3 lineto", func(p *page) { p.Now.Path = points(2, 3, 2, 3, 2, 3) }},
		{"1 2 3 4 rect", func(p *page) { p.Now.Path = square() }},
		{"5 1 2 3 4 rect", func(p *page) { p.Now.Stack, p.Now.Path = []int{5}, square() }},
		{"7 7 moveto 1 2 3 4 rect", func(p *page) { p.Now.Path = square() }},
		{"1 2 3 4 rect 0 9 lineto", func(p *page) { p.Now.Path = append(square(), impl.Point{Y: 9}) }},
		{"1 2 0 0 rect", func(p *page) { p.Now.Path = points(1, 2, 1, 2, 1, 2, 1, 2) }},
		{"new", func(p *page) {}},
		{"1 2 3 4 rect new", func(p *page) {}},
		{"5 2 3 moveto new", func(p *page) { p.Now.Stack = []int{5} }},
		{"9 gray", func(p *page) { p.Now.Gray = 9 }},
		{"255 gray 0 gray", func(p *page) {}},
		{"1 2 3 4 rect fill", func(p *page) { p.Objects = []impl.Object{{Path: square(), Clip: pageBox()}} }},
		{"5 9 gray 1 2 3 4 rect fill", func(p *page) {
			p.Now.Stack, p.Now.Gray = []int{5}, 9
			p.Objects = []impl.Object{{Path: square(), Gray: 9, Clip: pageBox()}}
		}},
		{"0 0 moveto 9 0 lineto 0 9 lineto fill 7 gray 1 2 3 4 rect fill", func(p *page) {
			p.Now.Gray = 7
			p.Objects = []impl.Object{{Path: points(0, 0, 9, 0, 0, 9), Clip: pageBox()}, {Path: square(), Gray: 7, Clip: pageBox()}}
		}},
		// The gray and the clip of an object are those at its fill.
		{"1 2 3 4 rect 7 gray fill 8 gray", func(p *page) {
			p.Now.Gray = 8
			p.Objects = []impl.Object{{Path: square(), Gray: 7, Clip: pageBox()}}
		}},
		{"0 0 5 5 rect clip 1 2 3 4 rect fill 1 1 2 2 rect clip", func(p *page) {
			p.Now.Clip = impl.Box{X0: 1, Y0: 1, X1: 3, Y1: 3}
			p.Objects = []impl.Object{{Path: square(), Clip: impl.Box{X1: 5, Y1: 5}}}
		}},
	}
	for _, c := range list {
		checkPage(t, c.text, c.change)
	}
}

func TestTurnsAndClips(t *testing.T) {
	type page = impl.Page
	list := []struct {
		text   string
		change func(p *page)
	}{
		{"3 -4 shift", func(p *page) { p.Now.Turn = impl.Turn{Scale: 1, Dx: 3, Dy: -4} }},
		{"5 1 turn", func(p *page) { p.Now.Stack, p.Now.Turn = []int{5}, impl.Turn{Quarter: 1, Scale: 1} }},
		{"3 scale", func(p *page) { p.Now.Turn = impl.Turn{Scale: 3} }},
		{"2 scale 2 scale", func(p *page) { p.Now.Turn = impl.Turn{Scale: 4} }},
		{"3 turn 3 turn", func(p *page) { p.Now.Turn = impl.Turn{Quarter: 2, Scale: 1} }},
		{"0 turn 1 scale 0 0 shift", func(p *page) {}},
		// What was set last is done first.
		{"2 scale 3 4 shift", func(p *page) { p.Now.Turn = impl.Turn{Scale: 2, Dx: 6, Dy: 8} }},
		{"3 4 shift 2 scale", func(p *page) { p.Now.Turn = impl.Turn{Scale: 2, Dx: 3, Dy: 4} }},
		{"1 turn 3 4 shift", func(p *page) { p.Now.Turn = impl.Turn{Quarter: 1, Scale: 1, Dx: -4, Dy: 3} }},
		{"3 4 shift 1 turn", func(p *page) { p.Now.Turn = impl.Turn{Quarter: 1, Scale: 1, Dx: 3, Dy: 4} }},
		{"3 4 shift 1 turn 2 scale 5 6 moveto", func(p *page) {
			p.Now.Turn = impl.Turn{Quarter: 1, Scale: 2, Dx: 3, Dy: 4}
			p.Now.Path = points(-9, 14)
		}},
		{"1 turn 1 2 3 4 rect", func(p *page) {
			p.Now.Turn.Quarter = 1
			p.Now.Path = points(-2, 1, -2, 4, -6, 4, -6, 1)
		}},
		// The points of a path stay where they are if the transformation changes.
		{"1 2 moveto 10 20 shift 1 2 lineto", func(p *page) {
			p.Now.Turn = impl.Turn{Scale: 1, Dx: 10, Dy: 20}
			p.Now.Path = points(1, 2, 11, 22)
		}},
		{"4 5 6 7 rect clip", func(p *page) { p.Now.Clip = impl.Box{X0: 4, Y0: 5, X1: 10, Y1: 12} }},
		{"4 5 100 7 rect clip", func(p *page) { p.Now.Clip = impl.Box{X0: 4, Y0: 5, X1: 32, Y1: 12} }},
		{"-9 -9 50 50 rect clip", func(p *page) {}},
		{"4 5 6 7 rect clip 0 0 9 9 rect clip", func(p *page) { p.Now.Clip = impl.Box{X0: 4, Y0: 5, X1: 9, Y1: 9} }},
		{"9 1 moveto 1 9 lineto clip", func(p *page) { p.Now.Clip = impl.Box{X0: 1, Y0: 1, X1: 9, Y1: 9} }},
		{"8 8 shift 1 1 2 2 rect clip", func(p *page) {
			p.Now.Turn = impl.Turn{Scale: 1, Dx: 8, Dy: 8}
			p.Now.Clip = impl.Box{X0: 9, Y0: 9, X1: 11, Y1: 11}
		}},
		// A path outside of the clip, beside it and without dots.
		{"40 40 5 5 rect clip", func(p *page) { p.Now.Clip = impl.Box{} }},
		{"32 0 5 5 rect clip", func(p *page) { p.Now.Clip = impl.Box{} }},
		{"4 4 moveto clip", func(p *page) { p.Now.Clip = impl.Box{} }},
		{"4 4 moveto 9 4 lineto clip", func(p *page) { p.Now.Clip = impl.Box{} }},
		{"40 40 5 5 rect clip 0 0 5 5 rect clip", func(p *page) { p.Now.Clip = impl.Box{} }},
		{"4 5 6 7 rect clip 20 20 5 5 rect clip 1 2 moveto", func(p *page) { p.Now.Clip, p.Now.Path = impl.Box{}, points(1, 2) }},
	}
	for _, c := range list {
		checkPage(t, c.text, c.change)
	}
}

func TestSaveAndRestore(t *testing.T) {
	type page = impl.Page
	checkPage(t, "5 save", func(p *page) {
		p.Saved = []impl.Graphics{{Stack: []int{5}, Turn: impl.Turn{Scale: 1}, Clip: pageBox()}}
		p.Now.Stack = []int{5}
	})
	checkPage(t, "5 1 2 moveto save 6 3 4 lineto 9 gray", func(p *page) {
		p.Saved = []impl.Graphics{{Stack: []int{5}, Turn: impl.Turn{Scale: 1}, Path: points(1, 2), Clip: pageBox()}}
		p.Now.Stack, p.Now.Path, p.Now.Gray = []int{5, 6}, points(1, 2, 3, 4), 9
	})
	// Restore keeps the stack and brings back path, turn, gray and clip.
	all := "8 gray 5 6 9 9 rect clip 1 turn 2 scale 3 4 shift 1 2 moveto 5 6 lineto"
	before := executed(t, "5 7 "+all)
	for _, change := range []string{
		"", "new", "1 2 moveto", "1 1 lineto", "9 gray", "2 turn", "2 scale", "1 1 shift", "clip", "1 2 3 4 rect clip",
		"6 7 8", "pop", "pop pop", "exch", "add", "1 2 3 4 5", "1 1 lineto fill 9 gray 1 turn 9 9 1 1 rect clip 8",
	} {
		for _, deeper := range []string{"", "save", "save 1 gray", "save 3 turn save 200 gray", "save 1 1 moveto save save"} {
			between := executed(t, "5 7 "+all+" save "+change)
			// Whatever is saved and restored in between leaves all as it was, but the stack.
			inner := deeper + many(strings.Count(deeper, "save"), "restore")
			got := executed(t, "5 7 "+all+" save "+change+" "+inner+" restore")
			want := before
			want.Now.Stack, want.Objects = between.Now.Stack, between.Objects
			if !samePage(got, want) {
				t.Errorf("%q and %q before restore:\n%+v, want\n%+v", change, inner, got, want)
			}
		}
	}
	checkPage(t, "1 gray save 2 gray save 3 gray save 4 gray save 5 gray restore restore", func(p *page) {
		p.Now.Gray = 3
		p.Saved = []impl.Graphics{{Turn: impl.Turn{Scale: 1}, Gray: 1, Clip: pageBox()}, {Turn: impl.Turn{Scale: 1}, Gray: 2, Clip: pageBox()}}
	})
	checkPage(t, "1 save 2 save 3 restore 4 restore 5", func(p *page) { p.Now.Stack = []int{1, 2, 3, 4, 5} })
	checkPage(t, many(9, "save restore"), func(p *page) {})
}

func TestRestoreWithoutSave(t *testing.T) {
	for _, text := range []string{
		"restore", "save restore restore", "save save restore restore restore", "1 2 restore", "1 2 moveto restore", "9 gray restore",
		"1 2 3 4 rect fill restore", many(4, "save") + many(5, "restore"), "save restore 1 2 moveto restore", many(12, "5") + "restore",
	} {
		checkLastFails(t, text)
	}
}

func TestFullPages(t *testing.T) {
	// A fifth save, also behind a restore.
	for _, text := range []string{"save save save save save", "1 gray save 2 gray save 3 gray save 4 gray save 5 gray save", "save save save save restore save save"} {
		checkLastFails(t, text)
	}
	// A thirteenth object.
	twelve := "9 repeat 1 2 3 4 rect fill end 3 repeat 5 6 0 0 rect fill end "
	if got := executed(t, twelve); len(got.Objects) != 12 {
		t.Errorf("%d objects", len(got.Objects))
	}
	checkLastFails(t, twelve+"1 2 3 4 rect fill")
	checkLastFails(t, twelve+"1 2 moveto 3 4 lineto 5 6 lineto fill")
	checkLastFails(t, twelve+"1 2 moveto 3 4 lineto fill")
	checkLastFails(t, twelve+"fill")
	// A ninth point.
	for _, eight := range []string{"1 2 moveto 7 repeat 3 4 lineto end ", "1 2 3 4 rect 4 repeat 5 6 lineto end "} {
		if got := executed(t, eight); len(got.Now.Path) != 8 {
			t.Errorf("%d points", len(got.Now.Path))
		}
		checkLastFails(t, eight+"5 6 lineto")
		checkLastFails(t, eight+"0 0 lineto")
		checkPage(t, eight+"fill", func(p *impl.Page) { *p = pageOf(eight + "fill") })
		checkPage(t, eight+"5 6 moveto", func(p *impl.Page) { p.Now.Path = points(5, 6) })
	}
	// A thirteenth number.
	for _, text := range []string{many(12, "5") + "5", many(12, "5") + "0", many(12, "5") + "-999", many(12, "5") + "dup", many(11, "5") + "dup dup", many(12, "5") + "pop 7 8"} {
		checkLastFails(t, text)
	}
	if got := executed(t, many(12, "5")); len(got.Now.Stack) != 12 {
		t.Errorf("%d numbers", len(got.Now.Stack))
	}
}

func TestOperatorsOnShortPaths(t *testing.T) {
	for _, text := range []string{
		"1 2 lineto", "1 2 moveto new 3 4 lineto", "1 2 3 4 rect fill 1 2 lineto", "1 2 3 4 rect clip 1 2 lineto", "save 1 2 moveto restore 1 2 lineto",
		"clip", "1 2 moveto new clip", "1 2 3 4 rect fill clip", "1 2 3 4 rect clip clip", "save 1 2 moveto restore clip",
		"fill", "1 2 moveto fill", "1 2 moveto 3 4 lineto fill", "1 2 3 4 rect new fill", "1 2 3 4 rect fill fill", "1 2 3 4 rect clip fill",
		"1 2 3 4 rect 5 6 moveto fill", "1 2 3 4 rect 5 6 moveto 7 8 lineto fill", "save 1 2 3 4 rect restore fill", "5 5 5 fill",
	} {
		checkLastFails(t, text)
	}
	checkPage(t, "save 1 2 3 4 rect fill restore", func(p *impl.Page) { *p = pageOf("1 2 3 4 rect fill") })
	checkPage(t, "1 2 3 4 rect save new restore fill", func(p *impl.Page) { *p = pageOf("1 2 3 4 rect fill") })
	checkPage(t, "1 2 moveto 1 2 lineto 1 2 lineto fill", func(p *impl.Page) {
		p.Objects = []impl.Object{{Path: points(1, 2, 1, 2, 1, 2), Clip: pageBox()}}
	})
}

func TestGrayTurnScaleAndShiftAtTheLimits(t *testing.T) {
	for _, text := range []string{
		"-1 gray", "256 gray", "999 gray", "-999 gray", "9 gray -1 gray", "999 10 mul gray",
		"-1 turn", "4 turn", "5 turn", "-4 turn", "999 turn", "3 turn 4 turn", "1 turn -1 turn",
		"0 scale", "5 scale", "-1 scale", "999 scale", "-999 scale", "2 scale 3 scale", "3 scale 2 scale", "2 scale 2 scale 2 scale", "4 scale 2 scale", "4 scale 0 scale", "4 scale -1 scale",
		"201 0 shift", "0 201 shift", "-201 0 shift", "0 -201 shift", "999 999 shift", "999 10 mul 0 shift",
		"200 0 shift 1 0 shift", "0 -200 shift 0 -1 shift", "2 scale 101 0 shift", "4 scale 0 -51 shift", "0 200 shift 1 turn 1 0 shift",
		// The joined transformations would be valid.
		"-1 0 shift 201 0 shift", "0 1 shift 0 -201 shift", "200 200 shift -400 -400 shift", "1 turn 0 -1 shift 0 201 shift",
	} {
		checkLastFails(t, text)
	}
	type page = impl.Page
	checkPage(t, "255 gray", func(p *page) { p.Now.Gray = 255 })
	checkPage(t, "0 gray", func(p *page) {})
	checkPage(t, "3 turn", func(p *page) { p.Now.Turn.Quarter = 3 })
	checkPage(t, "4 scale", func(p *page) { p.Now.Turn.Scale = 4 })
	checkPage(t, "4 scale 1 scale", func(p *page) { p.Now.Turn.Scale = 4 })
	checkPage(t, "200 -200 shift", func(p *page) { p.Now.Turn.Dx, p.Now.Turn.Dy = 200, -200 })
	checkPage(t, "200 -200 shift -200 200 shift -200 200 shift", func(p *page) { p.Now.Turn.Dx, p.Now.Turn.Dy = -200, 200 })
	checkPage(t, "4 scale 50 -50 shift", func(p *page) { p.Now.Turn = impl.Turn{Scale: 4, Dx: 200, Dy: -200} })
}

// Each number from -1001 to 1001 and the ends of the stack's numbers, and also where the transformation is another one already.
func TestAllNumbersForGrayTurnAndScale(t *testing.T) {
	numbers := []int{-9999, -9998, 9998, 9999}
	for n := -1001; n <= 1001; n++ {
		numbers = append(numbers, n)
	}
	for _, n := range numbers {
		p := blankPage()
		if got, ok := checkOperator(t, p, "gray", n); ok != (n >= 0 && n <= 255) || ok && got.Now.Gray != n {
			t.Errorf("%d gray: %+v, %v", n, got.Now, ok)
		}
		if got, ok := checkOperator(t, p, "turn", n); ok != (n >= 0 && n <= 3) || ok && got.Now.Turn != (impl.Turn{Quarter: n, Scale: 1}) {
			t.Errorf("%d turn: %+v, %v", n, got.Now, ok)
		}
		if got, ok := checkOperator(t, p, "scale", n); ok != (n >= 1 && n <= 4) || ok && got.Now.Turn != (impl.Turn{Scale: n}) {
			t.Errorf("%d scale: %+v, %v", n, got.Now, ok)
		}
	}
	for _, turn := range allTurns([]int{-200, 0, 7}) {
		p := blankPage()
		p.Now.Turn = turn
		for n := -2; n <= 6; n++ {
			checkOperator(t, p, "turn", n)
			checkOperator(t, p, "scale", n)
		}
		for _, dx := range []int{-400, -201, -200, -199, -51, -50, -1, 0, 1, 50, 51, 199, 200, 201, 400} {
			for _, dy := range []int{-201, -200, -50, 0, 3, 51, 200, 201} {
				checkOperator(t, p, "shift", dx, dy)
			}
		}
	}
}

func TestRectAtTheLimits(t *testing.T) {
	for _, text := range []string{
		"0 0 -1 4 rect", "0 0 4 -1 rect", "0 0 201 4 rect", "0 0 4 201 rect", "9 9 -1 -1 rect", "-100 -100 201 201 rect", "0 0 999 0 rect", "0 0 0 -999 rect",
		// Corners that are no valid points.
		"1 0 200 4 rect", "0 1 4 200 rect", "101 0 100 4 rect", "0 196 4 5 rect", "201 0 0 0 rect", "-201 0 5 5 rect", "0 -201 5 5 rect", "0 201 0 0 rect",
		"150 150 51 4 rect", "150 150 4 51 rect", "2 scale 50 0 51 4 rect", "1 turn 0 150 5 51 rect", "100 0 shift 0 0 101 4 rect", "-200 0 shift -1 0 9 9 rect",
		"2 turn 200 0 1 1 rect", "3 turn 0 0 5 5 rect 0 0 201 5 rect",
	} {
		checkLastFails(t, text)
	}
	for _, c := range []struct {
		text string
		path []impl.Point
	}{
		{"0 0 200 200 rect", points(0, 0, 200, 0, 200, 200, 0, 200)},
		{"-200 -200 200 200 rect", points(-200, -200, 0, -200, 0, 0, -200, 0)},
		{"0 0 0 200 rect", points(0, 0, 0, 0, 0, 200, 0, 200)},
		{"200 200 0 0 rect", points(200, 200, 200, 200, 200, 200, 200, 200)},
		{"100 5 100 1 rect", points(100, 5, 200, 5, 200, 6, 100, 6)},
		{"2 turn 100 5 100 1 rect", points(-100, -5, -200, -5, -200, -6, -100, -6)},
		{"-200 0 shift 200 0 200 9 rect", points(0, 0, 200, 0, 200, 9, 0, 9)},
		{"-200 0 shift 300 0 100 9 rect", points(100, 0, 200, 0, 200, 9, 100, 9)},
	} {
		if got := executed(t, c.text); !slices.Equal(got.Now.Path, c.path) {
			t.Errorf("the path of %q is %v, want %v", c.text, got.Now.Path, c.path)
		}
	}
	corners := []int{-401, -400, -201, -200, -1, 0, 1, 150, 199, 200, 201, 400}
	sides := []int{-9999, -201, -200, -2, -1, 0, 1, 2, 50, 199, 200, 201, 202, 400, 9999}
	for _, turn := range []impl.Turn{{Scale: 1}, {Scale: 1, Dx: 200, Dy: -200}, {Quarter: 1, Scale: 2, Dx: -7}, {Quarter: 2, Scale: 1, Dx: 200, Dy: 200}, {Quarter: 3, Scale: 4}} {
		p := blankPage()
		p.Now.Turn = turn
		for _, x := range corners {
			for _, w := range sides {
				checkOperator(t, p, "rect", x, 0, w, 3)
				checkOperator(t, p, "rect", 0, x, 3, w)
				checkOperator(t, p, "rect", x, -x, w, w)
			}
		}
	}
}

func TestTransformedPointsAtTheLimits(t *testing.T) {
	for _, text := range []string{
		"201 0 moveto", "0 -201 moveto", "999 999 moveto", "999 10 mul 0 moveto",
		"1 0 shift 200 0 moveto", "0 -1 shift 0 -200 moveto", "2 scale 101 0 moveto", "4 scale 0 51 moveto", "1 turn 1 0 shift 0 0 moveto 0 -200 lineto 0 201 lineto",
		"1 1 moveto 201 0 lineto", "1 1 moveto 0 -201 lineto", "1 1 moveto 1 0 shift 200 0 lineto", "1 1 moveto 2 scale 0 101 lineto",
		"200 0 shift 2 turn 401 0 moveto", "-200 0 shift 401 0 moveto", "200 0 shift 1 0 moveto",
	} {
		checkLastFails(t, text)
	}
	// Points that only become valid by the transformation.
	for _, c := range []struct {
		text string
		path []impl.Point
	}{
		{"-1 0 shift 201 0 moveto", points(200, 0)},
		{"-200 200 shift 400 -400 moveto", points(200, -200)},
		{"200 -200 shift 2 turn 400 -400 moveto", points(-200, 200)},
		{"-100 0 shift 1 1 moveto 300 0 lineto", points(-99, 1, 200, 0)},
		{"-200 0 shift 1 turn 0 -201 moveto", points(1, 0)},
		{"4 scale -50 0 shift 100 0 moveto", points(200, 0)},
	} {
		if got := executed(t, c.text); !slices.Equal(got.Now.Path, c.path) {
			t.Errorf("the path of %q is %v, want %v", c.text, got.Now.Path, c.path)
		}
	}
	coords := []int{-9999, -401, -400, -201, -200, -101, -50, 0, 1, 49, 51, 100, 200, 201, 399, 400, 401, 9999}
	eachTurn([]int{-200, -1, 0, 200}, func(turn impl.Turn) {
		p := blankPage()
		p.Now.Turn, p.Now.Path = turn, points(3, 4)
		for _, x := range coords {
			for _, y := range coords {
				moved := imageOf(turn, impl.Point{X: x, Y: y})
				if got, ok := checkOperator(t, p, "moveto", x, y); ok != inRange(moved) || ok && !slices.Equal(got.Now.Path, []impl.Point{moved}) {
					t.Fatalf("moveto %d, %d with %+v: %+v, %v", x, y, turn, got, ok)
				}
				if got, ok := checkOperator(t, p, "lineto", x, y); ok != inRange(moved) || ok && !slices.Equal(got.Now.Path, append(points(3, 4), moved)) {
					t.Fatalf("lineto %d, %d with %+v: %+v, %v", x, y, turn, got, ok)
				}
			}
		}
	})
}

func TestNamesThatAreNoOperators(t *testing.T) {
	names := append(append(badOpNames(), badNames()...), "repeat", "end", "news", "ne", "move", "movetoo", "line", "rects", "fills", "filled", "grey", "clips",
		"saved", "restores", "shifts", "turned", "scaled", "New", "FILL", "Save", "stroke", "close", "copy", "show", "page", "path", "moveto ", " lineto")
	for _, name := range names {
		if _, is := operatorTakes()[name]; is || name == "" {
			continue
		}
		for _, p := range []impl.Page{blankPage(), pageOf("1 2 3 4 rect save 1 2 3 4"), fullPage()} {
			if got, ok := impl.ExecToken(p, impl.Token{Name: name}); ok || !samePage(got, p) {
				t.Fatalf("%.40q: %+v, %v", name, got, ok)
			}
			checkExec(t, p, impl.Token{Name: name})
		}
	}
	for _, name := range []string{"repeat", "end"} {
		if got, n := impl.RunPage(blockTokens("5 7 " + name)); n != -1 || !samePage(got, impl.Page{}) {
			t.Fatalf("RunPage of a lone %s: %+v, %d", name, got, n)
		}
	}
}

// Each operator with fewer numbers than it takes, with as many, and with more.
func TestOperatorsWithTooFewNumbers(t *testing.T) {
	needs := operatorTakes()
	for name, need := range map[string]int{"add": 2, "sub": 2, "mul": 2, "exch": 2, "neg": 1, "dup": 1, "pop": 1} {
		needs[name] = need
	}
	for name, need := range needs {
		for size := range 13 {
			p := pageOf("1 2 3 4 rect save")
			p.Now.Stack = slices.Repeat([]int{1}, size)
			checkExec(t, p, impl.Token{Name: name})
			got, ok := impl.ExecToken(p, impl.Token{Name: name})
			if possible := size >= need && !(name == "dup" && size == 12); ok != possible || !ok && !samePage(got, p) {
				t.Errorf("%s with %d numbers: %+v, %v", name, size, got, ok)
			}
			if take, is := operatorTakes()[name]; is && ok && len(got.Now.Stack) != size-take {
				t.Errorf("%s leaves %d of %d numbers", name, len(got.Now.Stack), size)
			}
		}
	}
}

// An operator that fails leaves the numbers on the stack.
func TestFailedOperatorsTakeNothing(t *testing.T) {
	for _, text := range []string{"7 300 gray", "7 1 2 lineto", "7 1 2 -3 4 rect", "7 999 0 shift", "7 9 turn", "7 9 scale", "7 300 0 moveto", "7 5 fill", "7 5 clip", "7 5 restore"} {
		list := blockTokens(text)
		got, n := impl.RunPage(list)
		var want []int
		for _, token := range list[:len(list)-1] {
			want = append(want, token.N)
		}
		if n != len(want) || !slices.Equal(got.Now.Stack, want) {
			t.Errorf("%q: %v behind %d tokens", text, got.Now.Stack, n)
		}
	}
}

func TestExecTokenOnManyPages(t *testing.T) {
	for _, p := range append(goodPages(), badPages()...) {
		for _, token := range append(pageTokens(), badTokens()...) {
			checkExec(t, p, token)
		}
	}
}

func TestExecTokenRejectsInvalidArguments(t *testing.T) {
	for _, p := range badPages() {
		for _, token := range append(pageTokens(), goodTokens()[:20]...) {
			if got, ok := impl.ExecToken(p, token); ok || !samePage(got, p) {
				t.Fatalf("%.40q, %d on a page that is not valid: %v", token.Name, token.N, ok)
			}
		}
	}
	for _, p := range goodPages() {
		for _, token := range badTokens() {
			if got, ok := impl.ExecToken(p, token); ok || !samePage(got, p) {
				t.Fatalf("%.40q, %d is executed: %+v, %v", token.Name, token.N, got, ok)
			}
		}
	}
	eachPage(func(p impl.Page) {
		for _, name := range []string{"new", "pop", "gray", "moveto", "restore", "fill", "clip"} {
			if got, ok := impl.ExecToken(p, impl.Token{Name: name}); !isPage(p) && (ok || !samePage(got, p)) {
				t.Fatalf("%s on %.300v: %v", name, p, ok)
			}
		}
	})
}

// Promise 7 for each list of up to 4 parts of pages, beginning with NewPage.
func TestWhateverIsExecutedInShortLists(t *testing.T) {
	var parts [][]impl.Token
	for _, text := range []string{
		"2 3 moveto", "4 5 lineto", "1 1 9 3 rect", "fill", "clip", "save", "restore", "1 turn", "2 scale", "150 -60 shift", "9 gray", "new", "7 dup", "mul",
	} {
		parts = append(parts, blockTokens(text))
	}
	eachList(parts, 4, func(list [][]impl.Token) { checkRun(t, slices.Concat(list...)) })
}

func checkRun(t *testing.T, list []impl.Token) (impl.Page, int) {
	t.Helper()
	want, length := runResult(list)
	got, n := impl.RunPage(list)
	if n != length || !samePage(got, want) {
		t.Fatalf("RunPage of %.300q:\n%+v, %d, want\n%+v, %d", writtenTokens(list), got, n, want, length)
	}
	if n >= 0 && !(impl.PageOk(got) && isPage(got)) {
		t.Fatalf("RunPage of %.300q leaves a page that is not valid: %+v", writtenTokens(list), got)
	}
	return got, n
}

// Promise 7 for long lists, which are the same ones each time.
func TestWhateverIsExecutedInLongLists(t *testing.T) {
	r := rand.New(rand.NewPCG(7, 7))
	done, failed := map[string]int{}, map[string]int{}
	most := map[string]int{}
	for range 400 {
		p := impl.NewPage()
		for range 150 {
			for _, token := range blockTokens(randomPart(r)) {
				next := checkExec(t, p, token)
				if _, ok := pageResult(p, token); ok {
					done[token.Name]++
				} else {
					failed[token.Name]++
				}
				p = next
			}
			most["numbers"] = max(most["numbers"], len(p.Now.Stack))
			most["points"] = max(most["points"], len(p.Now.Path))
			most["saved"] = max(most["saved"], len(p.Saved))
			most["objects"] = max(most["objects"], len(p.Objects))
		}
	}
	for _, name := range append(operatorNames(), stackOpNames()...) {
		if done[name] < 50 || failed[name] < 20 && name != "new" {
			t.Fatalf("%s succeeded %d times and failed %d times", name, done[name], failed[name])
		}
	}
	if want := map[string]int{"numbers": 12, "points": 8, "saved": 4, "objects": 12}; !maps.Equal(most, want) {
		t.Fatalf("the longest lists are %v, want %v", most, want)
	}
}

func TestRunPage(t *testing.T) {
	list := []struct {
		text string
		n    int
		same string // The tokens that lead to the same page.
	}{
		{"", 0, ""},
		{"5", 1, "5"},
		{"9 gray 1 2 shift 0 0 4 3 rect fill save 5 gray restore 7", 16, "9 gray 1 2 shift 0 0 4 3 rect fill 7"},
		// At the first, in the middle, at the last one.
		{"fill", 0, ""},
		{"restore 1 2 3", 0, ""},
		{"xyz 5", 0, ""},
		{"1 2 lineto 3 4 moveto", 2, "1 2"},
		{"1 2 moveto fill 3 4 moveto", 3, "1 2 moveto"},
		{"9 gray 300 gray 5 gray", 3, "9 gray 300"},
		{"1 2 moveto fill", 3, "1 2 moveto"},
		{"1 2 3 4 rect fill fill", 6, "1 2 3 4 rect fill"},
		// Repetitions.
		{"3 repeat 5 end", 3, "5 5 5"},
		{"0 repeat fill end 5", 1, "5"},
		{"9 repeat end", 0, ""},
		{"2 repeat 1 2 3 4 rect fill end 9", 13, "1 2 3 4 rect fill 1 2 3 4 rect fill 9"},
		{"2 repeat 5 2 repeat 6 2 repeat 7 pop end end end", 22, "5 6 6 5 6 6"},
		{"1 1 moveto 3 repeat 2 repeat 4 5 lineto end end", 21, "1 1 moveto 4 5 lineto 4 5 lineto 4 5 lineto 4 5 lineto 4 5 lineto 4 5 lineto"},
		{"1 1 moveto 3 repeat 3 repeat 4 5 lineto end end 9", 26, "1 1 moveto 7 repeat 4 5 lineto end 4 5"},
		{"9 repeat 2 repeat 7 end end", 12, many(12, "7")},
		{"3 repeat 2 repeat save end end", 4, "save save save save"},
		{"9 repeat 2 repeat 1 2 3 4 rect fill end end", 77, "9 repeat 1 2 3 4 rect fill end 3 repeat 1 2 3 4 rect fill end 1 2 3 4 rect"},
		{"4 repeat 2 scale end", 5, "2 scale 2 scale 2"},
		{"4 repeat" + many(50, "new") + "end", 200, ""},
		{"4 repeat" + many(49, "new") + "end 5 save 6 restore", 200, "5 6"},
	}
	for _, c := range list {
		tokens := blockTokens(c.text)
		want := executed(t, c.same)
		if got, n := checkRun(t, tokens); n != c.n || !samePage(got, want) {
			t.Errorf("RunPage of %q:\n%+v, %d, want\n%+v, %d", c.text, got, n, want, c.n)
		}
	}
}

func TestRunPageWithoutFlattenedBlocks(t *testing.T) {
	lists := [][]impl.Token{make([]impl.Token, 61), slices.Repeat([]impl.Token{{Name: "new"}}, 5000)}
	for _, text := range []string{
		"repeat", "end", "2 repeat", "2 repeat 5", "5 end", "repeat 5 end", "10 repeat 5 end", "-1 repeat 5 end", "5 6 moveto 2 repeat 1 end end",
		"4 repeat" + many(50, "new") + "end new", "9 repeat 9 repeat 3 repeat new end end end", "1 repeat 1 repeat 1 repeat 1 repeat end end end end", many(61, "new"),
	} {
		lists = append(lists, blockTokens(text))
	}
	for _, token := range badTokens() {
		lists = append(lists, []impl.Token{token}, []impl.Token{{N: 5}, token}, append(blockTokens("fill 0 repeat"), token, impl.Token{Name: "end"}))
	}
	for _, list := range lists {
		if got, n := checkRun(t, list); n != -1 || !samePage(got, impl.Page{}) {
			t.Errorf("RunPage of %.300q: %+v, %d", writtenTokens(list), got, n)
		}
	}
}

// At each place of a page a token that fails, and one that is not valid.
func TestRunPageStopsAtEachPlace(t *testing.T) {
	list := blockTokens("9 gray 1 2 3 4 rect save fill 1 turn 2 3 moveto restore clip 5 6 add 3 repeat 7 dup pop end 8")
	for at := range len(list) + 1 {
		for _, name := range []string{"xyz", "lineto", "fill", "restore", "repeat", "end", "Fill"} {
			checkRun(t, slices.Insert(slices.Clone(list), at, impl.Token{Name: name}))
		}
		checkRun(t, slices.Insert(slices.Clone(list), at, impl.Token{N: 1000}))
		checkRun(t, list[:at])
	}
}
