package tests

import (
	"math/rand/v2"
	"slices"
	"strconv"
	"testing"
	"unsafe"

	"loop.example/g00987/impl"
)

// roomFor copies a list and leaves some elements behind it as its spare capacity.
func roomFor[T any](list []T, spare int, behind T) []T {
	room := append(make([]T, 0, len(list)+spare), list...)
	for range spare {
		room = append(room, behind)
	}
	return room[:len(list)]
}

func graphicsWithRoom(g impl.Graphics, spare int) impl.Graphics {
	g.Stack = roomFor(g.Stack, spare, -77777)
	g.Path = roomFor(g.Path, spare, impl.Point{X: -77777, Y: 77777})
	return g
}

func objectWithRoom(o impl.Object, spare int) impl.Object {
	o.Path = roomFor(o.Path, spare, impl.Point{X: 77777, Y: -77777})
	return o
}

// pageWithRoom copies all of a page, with spare capacity behind each list.
func pageWithRoom(p impl.Page, spare int) impl.Page {
	p.Now = graphicsWithRoom(p.Now, spare)
	p.Saved = roomFor(p.Saved, spare, impl.Graphics{Gray: -77777})
	for i, g := range p.Saved {
		p.Saved[i] = graphicsWithRoom(g, spare)
	}
	p.Objects = roomFor(p.Objects, spare, impl.Object{Gray: -77777})
	for i, o := range p.Objects {
		p.Objects[i] = objectWithRoom(o, spare)
	}
	return p
}

// toCapacity copies all of a page, and its spare capacity too.
func toCapacity(p impl.Page) impl.Page {
	full := func(g impl.Graphics) impl.Graphics {
		g.Stack, g.Path = g.Stack[:cap(g.Stack)], g.Path[:cap(g.Path)]
		return g
	}
	p = impl.Page{Now: full(p.Now), Saved: slices.Clone(p.Saved[:cap(p.Saved)]), Objects: slices.Clone(p.Objects[:cap(p.Objects)])}
	for i, g := range p.Saved {
		p.Saved[i] = full(g)
	}
	for i, o := range p.Objects {
		p.Objects[i].Path = o.Path[:cap(o.Path)]
	}
	return copyPage(p)
}

type memory struct {
	what     string
	from, to uintptr
}

func memoryOf[T any](what string, list []T) memory {
	from := uintptr(unsafe.Pointer(unsafe.SliceData(list)))
	return memory{what, from, from + uintptr(cap(list))*unsafe.Sizeof(*new(T))}
}

func (m memory) meets(other memory) bool {
	return m.from < other.to && other.from < m.to
}

// pageMemory also says what is kept behind the ends of the lists.
func pageMemory(p impl.Page) []memory {
	list := []memory{
		memoryOf("Saved", p.Saved), memoryOf("Objects", p.Objects),
		memoryOf("the stack of Now", p.Now.Stack), memoryOf("the path of Now", p.Now.Path),
	}
	for _, g := range p.Saved[:cap(p.Saved)] {
		list = append(list, memoryOf("a stack of Saved", g.Stack), memoryOf("a path of Saved", g.Path))
	}
	for _, o := range p.Objects[:cap(p.Objects)] {
		list = append(list, memoryOf("the path of an object", o.Path))
	}
	return list
}

// checkOwnMemory checks that no two lists of a page share memory, and none with another page.
func checkOwnMemory(t *testing.T, what string, p, other impl.Page) {
	t.Helper()
	own := pageMemory(p)
	for i, m := range own {
		for _, n := range append(own[i+1:], pageMemory(other)...) {
			if m.meets(n) {
				t.Fatalf("%s: %s shares memory with %s", what, m.what, n.what)
			}
		}
	}
}

func TestExecTokenReturnsNewMemory(t *testing.T) {
	for _, page := range append(goodPages(), badPages()...) {
		for _, token := range pageTokens() {
			for _, spare := range []int{0, 1, 20} {
				p := pageWithRoom(page, spare)
				before := toCapacity(p)
				got, ok := impl.ExecToken(p, token)
				what := writtenToken(token) + ", " + strconv.FormatBool(ok)
				checkOwnMemory(t, what, got, p)
				if !samePage(toCapacity(p), before) {
					t.Fatalf("%s changed its page to %+v, before it %+v", what, toCapacity(p), before)
				}
			}
		}
	}
}

// A page that is changed afterwards changes none that it was made of, and none that is made of it.
func TestPagesOfARunStayAsTheyWere(t *testing.T) {
	r := rand.New(rand.NewPCG(1, 7))
	for range 40 {
		pages := []impl.Page{impl.NewPage()}
		copies := []impl.Page{blankPage()}
		for range 40 {
			for _, token := range blockTokens(randomPart(r)) {
				next, _ := impl.ExecToken(pages[len(pages)-1], token)
				checkOwnMemory(t, writtenToken(token), next, pages[len(pages)-1])
				pages, copies = append(pages, next), append(copies, copyPage(next))
			}
		}
		if !slices.EqualFunc(pages, copies, samePage) {
			t.Fatal("a page was changed by the tokens behind it")
		}
	}
}

func TestPageValidityLeavesItsArgumentAlone(t *testing.T) {
	for _, page := range append(goodPages(), badPages()...) {
		p := pageWithRoom(page, 3)
		before := toCapacity(p)
		impl.PageOk(p)
		impl.GraphicsOk(p.Now)
		if !samePage(toCapacity(p), before) {
			t.Fatalf("%+v is now %+v", before, toCapacity(p))
		}
	}
}

func TestRunPageReturnsNewMemory(t *testing.T) {
	for _, text := range []string{
		"", "fill", "repeat", "1 2 3 4 rect fill", "1 2 3 4 rect save save fill 5 6 restore fill", "5 1 2 3 4 rect save restore save fill restore",
		"3 repeat 1 2 3 4 rect save fill end restore restore", "1 2 3 4 rect 4 repeat save end restore 1 gray save fill", many(61, "5"),
	} {
		list := blockTokens(text)
		for _, spare := range []int{0, 1, 300} {
			room := roomFor(list, spare, impl.Token{Name: "kept", N: -77777})
			before := slices.Clone(room[:cap(room)])
			first, _ := impl.RunPage(room)
			second, _ := impl.RunPage(room)
			checkOwnMemory(t, text, first, second)
			if !slices.Equal(room[:cap(room)], before) {
				t.Errorf("RunPage of %q changed its list to %q", text, writtenTokens(room[:cap(room)]))
			}
		}
	}
}

func TestPagesKeepNoState(t *testing.T) {
	first := impl.NewPage()
	first.Now.Gray = 7
	first.Now.Stack = append(first.Now.Stack, 1, 2, 3)
	first.Now.Path = append(first.Now.Path, impl.Point{X: 9})
	first.Saved = append(first.Saved, first.Now)
	for range 3 {
		if got := impl.NewPage(); !samePage(got, blankPage()) {
			t.Errorf("NewPage is %+v", got)
		}
		checkRun(t, blockTokens("1 2 3 4 rect save 9 gray fill 5"))
		checkRun(t, blockTokens("2 repeat"))
		checkRun(t, blockTokens("restore"))
		checkExec(t, fullPage(), impl.Token{Name: "restore"})
	}
}
