package tests

import (
	"math"
	"slices"
	"strings"
	"testing"

	"loop.example/g00987/impl"
)

// stackEdges are the ends of the valid numbers, those beside them, factors and terms of these, and the ends of int.
func stackEdges() []int {
	return []int{
		math.MinInt, math.MinInt + 1, -1 << 32, -10001, -10000, -9999, -9998, -5000, -4999, -101, -100, -99, -2, -1, 0,
		1, 2, 3, 99, 100, 101, 3333, 4999, 5000, 9998, 9999, 10000, 10001, 1 << 32, math.MaxInt - 1, math.MaxInt,
	}
}

func validStackEdges() []int {
	return slices.DeleteFunc(stackEdges(), func(n int) bool { return !isStackNumber(n) })
}

func isStackNumber(n int) bool {
	return n >= -9999 && n <= 9999
}

func isStack(list []int) bool {
	return len(list) <= 12 && !slices.ContainsFunc(list, func(n int) bool { return !isStackNumber(n) })
}

// stackOfSize has no two equal numbers, so that numbers in a wrong order are seen, and the product of any two is within the range.
func stackOfSize(size int) []int {
	var list []int
	for i := range size {
		list = append(list, 7*i-20)
	}
	return list
}

// badStacks are not valid, each for one reason, and the last ones for several.
func badStacks() [][]int {
	list := [][]int{stackOfSize(13), stackOfSize(14), stackOfSize(25), make([]int, 13), make([]int, 5000)}
	for _, n := range stackEdges() {
		if isStackNumber(n) {
			continue
		}
		list = append(list, []int{n}, []int{n, n})
		for _, size := range []int{2, 3, 11, 12} {
			for _, at := range []int{0, size / 2, size - 2, size - 1} {
				bad := stackOfSize(size)
				bad[at] = n
				list = append(list, bad)
			}
		}
	}
	return append(list, slices.Repeat([]int{10000}, 13), slices.Repeat([]int{math.MinInt}, 20))
}

func goodStacks() [][]int {
	list := [][]int{nil, {}}
	for size := range 13 {
		list = append(list, stackOfSize(size))
		for _, n := range []int{0, 9999, -9999} {
			list = append(list, slices.Repeat([]int{n}, size))
		}
	}
	return list
}

func stackOpNames() []string {
	return []string{"add", "sub", "mul", "neg", "dup", "pop", "exch"}
}

func badOpNames() []string {
	return []string{
		"", "a", "ad", "s", "su", "m", "mu", "n", "ne", "d", "du", "p", "po", "e", "ex", "exc",
		"Add", "aDd", "adD", "ADD", "Sub", "SUB", "muL", "Neg", "NEG", "Dup", "pOp", "Exch", "EXCH", "excH",
		"adds", "addd", "subs", "mull", "nega", "dupl", "pops", "exchg", "exchange", "dda", "xadd", "addsub",
		" add", "add ", " ", "a dd", "add\n", "\tpop", "add\x00", "\x00add", "\x00", "\xff", "pop\xff", "ａｄｄ", "é",
		"div", "mod", "roll", "clear", "swap", "index", "push", "abs", "new", "moveto", "lineto", "rect", "fill", "gray",
		"clip", "save", "restore", "shift", "turn", "scale", "repeat", "end", "0", "1", "-1", "+", "-", "*", "zzzzzzzz",
		strings.Repeat("add", 100), strings.Repeat("pop ", impl.MaxInputLen),
	}
}

// stackOpResult says what an operation leaves without the functions under test.
func stackOpResult(list []int, name string) ([]int, bool) {
	size := len(list)
	need := map[string]int{"add": 2, "sub": 2, "mul": 2, "exch": 2, "neg": 1, "dup": 1, "pop": 1}[name]
	if need == 0 || size < need || !isStack(list) {
		return list, false
	}
	changed := slices.Clone(list)
	switch name {
	case "add":
		changed[size-2] += changed[size-1]
		changed = changed[:size-1]
	case "sub":
		changed[size-2] -= changed[size-1]
		changed = changed[:size-1]
	case "mul":
		changed[size-2] *= changed[size-1]
		changed = changed[:size-1]
	case "exch":
		changed[size-2], changed[size-1] = list[size-1], list[size-2]
	case "neg":
		changed[size-1] = -changed[size-1]
	case "dup":
		changed = append(changed, changed[size-1])
	case "pop":
		changed = changed[:size-1]
	}
	if !isStack(changed) {
		return list, false
	}
	return changed, true
}

func checkStackOp(t *testing.T, list []int, name string) {
	t.Helper()
	want, right := stackOpResult(list, name)
	if got, ok := impl.StackOp(list, name); ok != right || !slices.Equal(got, want) {
		t.Errorf("StackOp(%.20v, %.20q): %v, %v, want %v, %v", list, name, got, ok, want, right)
	}
}

func checkPush(t *testing.T, list []int, n int) {
	t.Helper()
	want := append(slices.Clone(list), n)
	right := isStack(want)
	if !right {
		want = list
	}
	if got, ok := impl.PushNumber(list, n); ok != right || !slices.Equal(got, want) {
		t.Errorf("PushNumber(%v, %d): %v, %v, want %v, %v", list, n, got, ok, want, right)
	}
}

func checkTake(t *testing.T, list []int, count int) {
	t.Helper()
	right := isStack(list) && count >= 0 && count <= len(list)
	want, taken := list, []int(nil)
	if right {
		want, taken = list[:len(list)-count], list[len(list)-count:]
	}
	got, numbers, ok := impl.TakeNumbers(list, count)
	if ok != right || !slices.Equal(got, want) || !slices.Equal(numbers, taken) {
		t.Errorf("TakeNumbers(%v, %d): %v, %v, %v, want %v, %v, %v", list, count, got, numbers, ok, want, taken, right)
	}
}

// runStackOps pushes a number or performs an operation at each step, as far as they succeed.
func runStackOps(list []int, steps ...any) ([]int, bool) {
	for _, step := range steps {
		var ok bool
		switch x := step.(type) {
		case int:
			list, ok = impl.PushNumber(list, x)
		case string:
			list, ok = impl.StackOp(list, x)
		}
		if !ok {
			return list, false
		}
	}
	return list, true
}

func TestStackLimits(t *testing.T) {
	if impl.MaxStack != 12 || impl.MaxNumber != 9999 {
		t.Errorf("limits are %d and %d", impl.MaxStack, impl.MaxNumber)
	}
}

func TestStackOk(t *testing.T) {
	for _, list := range goodStacks() {
		if !impl.StackOk(list) {
			t.Errorf("StackOk(%v) is false", list)
		}
	}
	for _, list := range badStacks() {
		if impl.StackOk(list) {
			t.Errorf("StackOk(%.20v) of %d numbers is true", list, len(list))
		}
	}
	for size := range 30 {
		if got := impl.StackOk(make([]int, size)); got != (size <= 12) {
			t.Errorf("StackOk of %d numbers is %v", size, got)
		}
	}
}

func TestStackOkLooksAtEachNumber(t *testing.T) {
	for size := 1; size <= 13; size++ {
		for at := range size {
			for _, n := range stackEdges() {
				list := stackOfSize(size)
				list[at] = n
				if got := impl.StackOk(list); got != isStack(list) {
					t.Errorf("StackOk(%v) is %v", list, got)
				}
			}
		}
	}
}

func TestPushNumber(t *testing.T) {
	for _, list := range append(goodStacks(), badStacks()...) {
		for _, n := range stackEdges() {
			checkPush(t, list, n)
		}
	}
}

func TestPushNumberFillsTheStack(t *testing.T) {
	var list, want []int
	for n := range 12 {
		var ok bool
		list, ok = impl.PushNumber(list, n)
		want = append(want, n)
		if !ok || !slices.Equal(list, want) {
			t.Fatalf("after %d numbers: %v, %v", n+1, list, ok)
		}
	}
	for _, n := range stackEdges() {
		if got, ok := impl.PushNumber(list, n); ok || !slices.Equal(got, want) {
			t.Errorf("PushNumber of %d onto a full stack: %v, %v", n, got, ok)
		}
	}
}

func TestTakeNumbers(t *testing.T) {
	for _, list := range append(goodStacks(), badStacks()...) {
		counts := append(stackEdges(), len(list)-1, len(list), len(list)+1, -len(list))
		for count := -2; count <= 14; count++ {
			counts = append(counts, count)
		}
		for _, count := range counts {
			checkTake(t, list, count)
		}
	}
}

func TestIsStackOp(t *testing.T) {
	for _, name := range stackOpNames() {
		if !impl.IsStackOp(name) {
			t.Errorf("IsStackOp(%q) is false", name)
		}
	}
	for _, name := range badOpNames() {
		if impl.IsStackOp(name) {
			t.Errorf("IsStackOp(%.40q) is true", name)
		}
	}
}

// All names of up to three letters, and those that differ from an operation in the first or last byte.
func TestIsStackOpOfShortNames(t *testing.T) {
	names := []string{""}
	for range 3 {
		var longer []string
		for _, name := range names {
			for c := 'a'; c <= 'z'; c++ {
				longer = append(longer, name+string(c))
			}
		}
		names = longer
		for _, name := range names {
			if got := impl.IsStackOp(name); got != slices.Contains(stackOpNames(), name) {
				t.Errorf("IsStackOp(%q) is %v", name, got)
			}
		}
	}
	for _, op := range stackOpNames() {
		for c := range 256 {
			b := string([]byte{byte(c)})
			for _, name := range []string{op + b, b + op, b + op[1:], op[:len(op)-1] + b} {
				if got := impl.IsStackOp(name); got != slices.Contains(stackOpNames(), name) {
					t.Errorf("IsStackOp(%q) is %v", name, got)
				}
			}
		}
	}
}

func TestStackOp(t *testing.T) {
	list := []struct {
		name       string
		list, want []int
	}{
		{"add", []int{1, 5, 3}, []int{1, 8}},
		{"sub", []int{1, 5, 3}, []int{1, 2}},
		{"sub", []int{3, 5}, []int{-2}},
		{"mul", []int{1, 5, -3}, []int{1, -15}},
		{"exch", []int{1, 5, 3}, []int{1, 3, 5}},
		{"neg", []int{1, 5}, []int{1, -5}},
		{"neg", []int{0}, []int{0}},
		{"dup", []int{1, 5}, []int{1, 5, 5}},
		{"pop", []int{1, 5}, []int{1}},
		{"pop", []int{1}, nil},
		// Results at the ends of the range.
		{"add", []int{9998, 1}, []int{9999}},
		{"add", []int{-9998, -1}, []int{-9999}},
		{"add", []int{9999, -9999}, []int{0}},
		{"sub", []int{9998, -1}, []int{9999}},
		{"sub", []int{-9998, 1}, []int{-9999}},
		{"sub", []int{0, 9999}, []int{-9999}},
		{"mul", []int{99, 101}, []int{9999}},
		{"mul", []int{-99, 101}, []int{-9999}},
		{"mul", []int{3333, 3}, []int{9999}},
		{"mul", []int{9999, -1}, []int{-9999}},
		{"mul", []int{9999, 0}, []int{0}},
		{"neg", []int{9999}, []int{-9999}},
		{"neg", []int{-9999}, []int{9999}},
	}
	for _, c := range list {
		if got, ok := impl.StackOp(c.list, c.name); !ok || !slices.Equal(got, c.want) {
			t.Errorf("StackOp(%v, %q): %v, %v, want %v", c.list, c.name, got, ok, c.want)
		}
	}
}

func TestStackOpRejects(t *testing.T) {
	list := []struct {
		name string
		list []int
	}{
		{"add", nil}, {"sub", nil}, {"mul", nil}, {"exch", nil}, {"neg", nil}, {"dup", nil}, {"pop", nil},
		{"add", []int{1}}, {"sub", []int{1}}, {"mul", []int{1}}, {"exch", []int{1}},
		{"add", []int{9999, 1}}, {"add", []int{-9999, -1}}, {"add", []int{9999, 9999}}, {"add", []int{-5000, -5000}},
		{"sub", []int{9999, -1}}, {"sub", []int{-9999, 1}}, {"sub", []int{-9999, 9999}}, {"sub", []int{5000, -5000}},
		{"mul", []int{100, 100}}, {"mul", []int{100, -100}}, {"mul", []int{-100, -100}}, {"mul", []int{5000, 2}}, {"mul", []int{9999, -9999}},
		{"dup", stackOfSize(12)},
		// The results of these would be valid, if only by wrapping around.
		{"pop", stackOfSize(13)}, {"add", stackOfSize(13)}, {"pop", []int{10000}}, {"sub", []int{10000, 1}}, {"mul", []int{10000, 0}},
		{"add", []int{-10000, 1}}, {"add", []int{math.MinInt, math.MinInt}}, {"sub", []int{math.MinInt, math.MinInt}},
		{"mul", []int{1 << 32, 1 << 32}}, {"mul", []int{math.MinInt, 2}}, {"add", []int{math.MaxInt, -math.MaxInt}},
	}
	for _, c := range list {
		if got, ok := impl.StackOp(c.list, c.name); ok || !slices.Equal(got, c.list) {
			t.Errorf("StackOp(%v, %q): %v, %v", c.list, c.name, got, ok)
		}
	}
}

func TestStackOpOfManyStacks(t *testing.T) {
	names := append(stackOpNames(), badOpNames()...)
	for _, list := range append(goodStacks(), badStacks()...) {
		for _, name := range names {
			checkStackOp(t, list, name)
		}
	}
}

// Each operation with each pair of numbers, alone and at the end of longer stacks up to one that is too long.
func TestStackOpOfManyNumbers(t *testing.T) {
	for _, name := range stackOpNames() {
		for _, below := range []int{0, 1, 9, 10, 11} {
			for _, a := range stackEdges() {
				for _, b := range stackEdges() {
					checkStackOp(t, append(stackOfSize(below), a, b), name)
				}
			}
		}
	}
}

func TestStackOpOnAFullStack(t *testing.T) {
	full := stackOfSize(12)
	for _, name := range stackOpNames() {
		got, ok := impl.StackOp(full, name)
		if ok != (name != "dup") || !ok && !slices.Equal(got, full) {
			t.Errorf("%s on a full stack: %v, %v", name, got, ok)
		}
		checkStackOp(t, full, name)
	}
	if got, ok := impl.StackOp(stackOfSize(11), "dup"); !ok || len(got) != 12 {
		t.Errorf("dup on 11 numbers: %v, %v", got, ok)
	}
}

// Promise 5: what is exchanged or negated twice is as before.
func TestExchangingAndNegatingTwice(t *testing.T) {
	for below := range 11 {
		for _, a := range validStackEdges() {
			for _, b := range validStackEdges() {
				list := append(stackOfSize(below), a, b)
				once, ok1 := runStackOps(list, "exch")
				twice, ok2 := runStackOps(once, "exch")
				if swapped := append(stackOfSize(below), b, a); !ok1 || !ok2 || !slices.Equal(once, swapped) || !slices.Equal(twice, list) {
					t.Errorf("%v, exchanged: %v, %v, and twice: %v, %v", list, once, ok1, twice, ok2)
				}
				once, ok1 = runStackOps(list, "neg")
				twice, ok2 = runStackOps(once, "neg")
				if negated := append(stackOfSize(below), a, -b); !ok1 || !ok2 || !slices.Equal(once, negated) || !slices.Equal(twice, list) {
					t.Errorf("%v, negated: %v, %v, and twice: %v, %v", list, once, ok1, twice, ok2)
				}
			}
		}
	}
}

// Promise 5: a number that is added to the last one is taken away from it again, wherever there is room for it and the sum is within the range.
func TestTakingAwayWhatWasAdded(t *testing.T) {
	for size := 1; size <= 12; size++ {
		for _, a := range validStackEdges() {
			for _, n := range validStackEdges() {
				list := append(stackOfSize(size-1), a)
				possible := size < 12 && isStackNumber(a+n)
				sum, ok := runStackOps(list, n, "add")
				if ok != possible {
					t.Fatalf("%d is added to %v: %v, %v", n, list, sum, ok)
				}
				if back, right := runStackOps(sum, n, "sub"); ok && (!right || !slices.Equal(back, list)) {
					t.Errorf("%d is added to %v and taken away again: %v, %v", n, list, back, right)
				}
			}
		}
	}
}

// Promise 5: numbers that are added to the list are taken from it again.
func TestTakingNumbersThatWerePushed(t *testing.T) {
	for size := range 13 {
		list := stackOfSize(size)
		for count := range 13 - size {
			numbers := slices.Repeat(validStackEdges(), 2)[size : size+count]
			longer := list
			for _, n := range numbers {
				longer, _ = runStackOps(longer, n)
			}
			rest, taken, ok := impl.TakeNumbers(longer, count)
			if !ok || !slices.Equal(rest, list) || !slices.Equal(taken, numbers) {
				t.Errorf("%v are pushed onto %v and taken: %v, %v, %v", numbers, list, rest, taken, ok)
			}
		}
		if size < 12 {
			checkUndone(t, list, 7, "pop")
		}
		if size > 0 && size < 12 {
			checkUndone(t, list, "dup", "pop")
			checkUndone(t, list, "dup", "exch", "pop")
		}
	}
}

func checkUndone(t *testing.T, list []int, steps ...any) {
	t.Helper()
	if got, ok := runStackOps(list, steps...); !ok || !slices.Equal(got, list) {
		t.Errorf("%v after %v: %v, %v", list, steps, got, ok)
	}
}

// stackCalls are the functions that return lists, with arguments for which they answer true and false.
func stackCalls() map[string]func(list []int) [][]int {
	calls := map[string]func(list []int) [][]int{}
	for _, n := range []int{0, 9999, 10000, math.MinInt, math.MaxInt} {
		calls["PushNumber of "+impl.FormatInt(n)] = func(list []int) [][]int {
			got, _ := impl.PushNumber(list, n)
			return [][]int{got}
		}
	}
	for _, count := range []int{-1, 0, 1, 2, 11, 12, 13, math.MinInt, math.MaxInt} {
		calls["TakeNumbers of "+impl.FormatInt(count)] = func(list []int) [][]int {
			rest, taken, _ := impl.TakeNumbers(list, count)
			return [][]int{rest, taken}
		}
	}
	for _, name := range append(stackOpNames(), "", "div", "Add", "ad") {
		calls["StackOp of "+name] = func(list []int) [][]int {
			got, _ := impl.StackOp(list, name)
			return [][]int{got}
		}
	}
	return calls
}

func TestStackArgumentsAreLeftAlone(t *testing.T) {
	for name, call := range stackCalls() {
		for _, list := range append(goodStacks(), badStacks()...) {
			for _, spare := range []int{0, 1, 2, 20} {
				room := append(slices.Clone(list), slices.Repeat([]int{-77777}, spare)...)
				before := slices.Clone(room)
				call(room[:len(list)])
				if !slices.Equal(room, before) {
					t.Fatalf("%s with %d numbers changed its argument: %v", name, len(list), room)
				}
			}
		}
	}
}

// Each result is overwritten up to its capacity; what shares memory with it changes too.
func TestStackResultsAreNewMemory(t *testing.T) {
	for name, call := range stackCalls() {
		for _, list := range append(goodStacks(), badStacks()...) {
			room := append(slices.Clone(list), slices.Repeat([]int{-77777}, 20)...)
			before := slices.Clone(room)
			results := call(room[:len(list)])
			for i, got := range results {
				others := slices.Clone(results)
				others[i] = nil
				want := cloneLists(others)
				got = got[:cap(got)]
				for j := range got {
					got[j] = 88888 + i
				}
				if !slices.Equal(room, before) || !slices.EqualFunc(others, want, slices.Equal[[]int]) {
					t.Fatalf("%s with %d numbers: result %d shares memory", name, len(list), i)
				}
			}
		}
	}
}

// cloneLists also copies the spare capacity.
func cloneLists(lists [][]int) [][]int {
	var copies [][]int
	for i, list := range lists {
		lists[i] = list[:cap(list)]
		copies = append(copies, slices.Clone(lists[i]))
	}
	return copies
}

func TestStackKeepsNoState(t *testing.T) {
	list := []int{1, 2, 3}
	first, _ := impl.StackOp(list, "dup")
	first[0] = 99
	for range 3 {
		checkStackOp(t, list, "dup")
		checkStackOp(t, list, "nothing")
		checkPush(t, list, 4)
		checkTake(t, list, 2)
	}
}
