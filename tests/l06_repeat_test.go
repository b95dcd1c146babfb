package tests

import (
	"regexp"
	"slices"
	"strconv"
	"strings"
	"testing"
	"unsafe"

	"loop.example/g00987/impl"
)

var innermostBlock = regexp.MustCompile(`\[\.*\]`)

// blockTokens reads numbers and names without the limits of ScanText, so that it also makes lists that are not valid.
func blockTokens(text string) []impl.Token {
	var list []impl.Token
	for _, field := range strings.Fields(text) {
		if n, err := strconv.Atoi(field); err == nil {
			list = append(list, impl.Token{N: n})
		} else {
			list = append(list, impl.Token{Name: field})
		}
	}
	return list
}

// many is text with spaces around it, count times.
func many(count int, text string) string {
	return strings.Repeat(" "+text+" ", count)
}

// blocksInBlocks has in each block the next one, behind and before that one a name, and in the last one the text.
func blocksInBlocks(depth int, text string) string {
	for range depth {
		text = "x 2 repeat " + text + " end y"
	}
	return text
}

func isToken(t impl.Token) bool {
	if t.Name == "" {
		return writtenNumber.MatchString(strconv.Itoa(t.N))
	}
	return t.N == 0 && writtenName.MatchString(t.Name)
}

func isRepeatOrEnd(t impl.Token) bool {
	return t.Name == "repeat" || t.Name == "end"
}

// blockShape writes a repeat behind a number from 0 to 9 as [, an end as ], other valid tokens as dots and all else as a cross.
func blockShape(list []impl.Token) string {
	var shape []byte
	for i, token := range list {
		sign := byte('.')
		switch {
		case !isToken(token):
			sign = 'x'
		case token.Name == "end":
			sign = ']'
		case token.Name == "repeat" && i > 0 && list[i-1].Name == "" && list[i-1].N >= 0 && list[i-1].N <= 9:
			sign = '['
		case token.Name == "repeat":
			sign = 'x'
		}
		shape = append(shape, sign)
	}
	return string(shape)
}

// depthOfBlocks counts how often the blocks without other blocks are removed until none is left. It is -1 if anything else is left then.
func depthOfBlocks(list []impl.Token) int {
	shape := blockShape(list)
	depth := 0
	for innermostBlock.MatchString(shape) {
		shape = innermostBlock.ReplaceAllString(shape, "")
		depth++
	}
	if len(list) > 60 || depth > 3 || strings.Trim(shape, ".") != "" {
		return -1
	}
	return depth
}

// flatOf puts the contents of the first block that ends in its place, until no block is left.
func flatOf(list []impl.Token) []impl.Token {
	for {
		end := slices.Index(list, impl.Token{Name: "end"})
		if end < 0 {
			return list
		}
		repeat := end - 1
		for list[repeat].Name != "repeat" {
			repeat--
		}
		contents := slices.Repeat(list[repeat+1:end], list[repeat-1].N)
		list = slices.Concat(list[:repeat-1], contents, list[end+1:])
	}
}

// checkFlat checks all four functions, and promise 6 for what is flattened. The length and the depth are -1 for a list that is not valid.
func checkFlat(t *testing.T, list, want []impl.Token, length, depth int) {
	t.Helper()
	text := writtenTokens(list)
	if got := impl.BlocksOk(list); got != (depth >= 0) {
		t.Errorf("BlocksOk of %.300q is %v", text, got)
	}
	if got := impl.BlockDepth(list); got != depth {
		t.Errorf("BlockDepth of %.300q is %d, want %d", text, got, depth)
	}
	if got := impl.FlatLength(list); got != length {
		t.Errorf("FlatLength of %.300q is %d, want %d", text, got, length)
	}
	right := length >= 0 && length <= 200
	if !right {
		want = nil
	}
	got, ok := impl.FlattenBlocks(list)
	if ok != right || !slices.Equal(got, want) {
		t.Errorf("FlattenBlocks of %.300q: %.300q, %v, want %.300q, %v", text, writtenTokens(got), ok, writtenTokens(want), right)
	}
	if slices.ContainsFunc(got, isRepeatOrEnd) {
		t.Errorf("FlattenBlocks of %.300q has repetitions: %.300q", text, writtenTokens(got))
	}
	if ok && impl.FlatLength(list) != len(got) {
		t.Errorf("FlatLength of %.300q is %d, but it has %d tokens", text, impl.FlatLength(list), len(got))
	}
	if !ok && impl.BlocksOk(list) && impl.FlatLength(list) <= 200 {
		t.Errorf("FlatLength of %.300q is %d, but it is not flattened", text, impl.FlatLength(list))
	}
}

func checkBadBlocks(t *testing.T, list []impl.Token) {
	t.Helper()
	checkFlat(t, list, nil, -1, -1)
}

// checkBlocks compares with what the blocks are if the innermost ones are removed first.
func checkBlocks(t *testing.T, list []impl.Token) {
	t.Helper()
	depth := depthOfBlocks(list)
	if depth < 0 {
		checkBadBlocks(t, list)
		return
	}
	want := flatOf(list)
	checkFlat(t, list, want, len(want), depth)
}

func TestFlatLimit(t *testing.T) {
	if impl.MaxFlat != 200 {
		t.Errorf("MaxFlat is %d", impl.MaxFlat)
	}
}

func TestFlattenBlocks(t *testing.T) {
	list := []struct {
		text, flat string
		depth      int
	}{
		{"", "", 0},
		{"a", "a", 0},
		{"5 moveto -999 999", "5 moveto -999 999", 0},
		{"1 2 repeat 3 2 repeat dup end end pop", "1 3 dup dup 3 dup dup pop", 2},
		{"2 repeat a b end", "a b a b", 1},
		{"x 2 repeat a b end y", "x a b a b y", 1},
		// The numbers before a repeat.
		{"0 repeat a end", "", 1},
		{"1 repeat a end", "a", 1},
		{"9 repeat a end", "a a a a a a a a a", 1},
		{"x 0 repeat a b end y", "x y", 1},
		{"-1 10 1 repeat a end", "-1 10 a", 1},
		{"7 2 repeat 8 end", "7 8 8", 1},
		{"2 repeat 3 end", "3 3", 1},
		{"2 2 repeat 2 2 end 2", "2 2 2 2 2 2", 1},
		// Behind an end.
		{"2 repeat a end 5", "a a 5", 1},
		{"2 repeat a end 3 repeat b end", "a a b b b", 1},
		{"1 repeat a end 0 repeat b end 1 repeat c end", "a c", 1},
		{"1 repeat 5 end -1", "5 -1", 1},
		{"1 repeat end 10", "10", 1},
		// Empty blocks.
		{"0 repeat end", "", 1},
		{"1 repeat end", "", 1},
		{"9 repeat end", "", 1},
		{"a 5 repeat end b", "a b", 1},
		{"2 repeat 3 repeat end end", "", 2},
		{"2 repeat a 3 repeat end b end", "a b a b", 2},
		{"9 repeat 9 repeat 9 repeat end end end", "", 3},
		{"2 repeat end 3 repeat end", "", 1},
		// Blocks that are repeated 0 times.
		{"2 repeat 0 repeat a end end", "", 2},
		{"0 repeat 2 repeat a end end", "", 2},
		{"2 repeat a 0 repeat b end c end", "a c a c", 2},
		{"0 repeat a 2 repeat b end c end d", "d", 2},
		{"0 repeat 0 repeat 0 repeat a end end end", "", 3},
		{"x 2 repeat 0 repeat 3 repeat a end end b end y", "x b b y", 3},
		{"x 2 repeat 3 repeat 0 repeat a end c end b end y", "x c c c b c c c b y", 3},
		{"0 repeat -999 10 moveto end", "", 1},
		// Nested blocks.
		{"2 repeat a 2 repeat b 2 repeat c end end end", "a b c c b c c a b c c b c c", 3},
		{"2 repeat 2 repeat 2 repeat a end b end c end", "a a b a a b c a a b a a b c", 3},
		{"2 repeat 1 repeat a end 2 repeat b end end", "a b b a b b", 2},
		{"1 repeat a end 2 repeat 1 repeat 1 repeat b end end end c", "a b b c", 3},
		{"1 repeat 1 repeat 1 repeat a end end end 2 repeat b end", "a b b", 3},
		// Names that begin with those of a block or end with them.
		{"repeats ends arepeat aend rep en", "repeats ends arepeat aend rep en", 0},
		{"2 repeat ends end", "ends ends", 1},
	}
	for _, c := range list {
		want := blockTokens(c.flat)
		checkFlat(t, blockTokens(c.text), want, len(want), c.depth)
		checkBlocks(t, blockTokens(c.text))
	}
}

func TestBlocksThatAreNotNested(t *testing.T) {
	list := []string{
		"repeat", "end", "repeat end", "end repeat", "2 repeat", "2 end", "end 2 repeat", "2 repeat end end", "end 2 repeat end",
		"repeat a end", "a repeat end", "a repeat b end", "2 a repeat b end", "2 repeat repeat end end", "2 repeat repeat a end end",
		"2 repeat 3 repeat end", "2 repeat a 3 repeat b end", "2 repeat a end end", "2 repeat a end b end", "a end", "a 2 repeat b",
		"2 repeat end repeat end", "2 repeat a end repeat b end", "2 repeat 3 end repeat b end", "2 repeat a end 3 end", "end end", "2 repeat 2 repeat",
		"2 repeat end 3 repeat", "0 repeat", "0 repeat repeat end end", "0 repeat end end", "0 repeat 2 repeat end", "0 repeat a repeat end end",
		"repeat 2 repeat end", "1 repeat end end 1 repeat", "end end 1 repeat 1 repeat", "1 repeat 2 repeat 3 repeat end end",
	}
	for _, text := range list {
		checkBadBlocks(t, blockTokens(text))
		checkBadBlocks(t, blockTokens("x "+text))
		checkBadBlocks(t, blockTokens(text+" y"))
		checkBadBlocks(t, blockTokens("0 repeat a end "+text))
		checkBadBlocks(t, blockTokens("1 repeat a end "+text+" 1 repeat b end"))
	}
	// Where only the number before the repeat is missing, the blocks are valid with one.
	for _, text := range []string{"repeat end", "repeat a end", "repeat 2 repeat end end"} {
		checkBadBlocks(t, blockTokens(text))
		checkBadBlocks(t, blockTokens("2 a "+text))
		checkBlocks(t, blockTokens("2 "+text))
		if !impl.BlocksOk(blockTokens("2 " + text)) {
			t.Errorf("BlocksOk of %q with a number before it is false", text)
		}
	}
}

// Each number stands before the repeat of a block, of a block in it and of a block behind it.
func TestNumbersBeforeARepeat(t *testing.T) {
	numbers := append(edgeNumbers(), 2, 3, 4, 5, 6, 7, 8, 11, 256, 512, -256, 1<<32+1, -1<<32)
	for _, n := range numbers {
		times := strconv.Itoa(n)
		for _, text := range []string{
			times + " repeat end", times + " repeat a end", "x " + times + " repeat a 5 end y",
			"2 repeat " + times + " repeat a end end", times + " repeat 2 repeat a end end",
			"2 repeat a end " + times + " repeat b end", "0 repeat " + times + " repeat a end end", "0 repeat end " + times + " repeat end",
		} {
			list := blockTokens(text)
			checkBlocks(t, list)
			if got := impl.BlocksOk(list); got != (n >= 0 && n <= 9) {
				t.Errorf("BlocksOk of %q is %v", text, got)
			}
		}
		if n >= 0 && n <= 9 {
			checkFlat(t, blockTokens(times+" repeat a end"), blockTokens(many(n, "a")), n, 1)
			checkFlat(t, blockTokens("2 repeat "+times+" repeat a end end"), blockTokens(many(2*n, "a")), 2*n, 2)
		}
	}
	// A number does not count if there is a name with it.
	for n := -1; n <= 10; n++ {
		checkBadBlocks(t, []impl.Token{{Name: "a", N: n}, {Name: "repeat"}, {Name: "end"}})
	}
}

func TestBlockDepth(t *testing.T) {
	for depth := range 12 {
		for _, inner := range []string{"", "a", "7", "a 5"} {
			list := blockTokens(blocksInBlocks(depth, inner))
			checkBlocks(t, list)
			want := depth
			if depth > 3 {
				want = -1
			}
			if got := impl.BlockDepth(list); got != want {
				t.Errorf("BlockDepth of %d nested blocks is %d", depth, got)
			}
			// Blocks that stand one after the other, or are not repeated at all.
			for _, around := range []string{"1 repeat a end ", "1 repeat 1 repeat a end 1 repeat b end end "} {
				checkBlocks(t, append(blockTokens(around), list...))
				checkBlocks(t, append(slices.Clone(list), blockTokens(around)...))
			}
			checkBlocks(t, blockTokens("0 repeat "+blocksInBlocks(depth, inner)+" end"))
		}
	}
	for count := 1; count <= 20; count++ {
		list := blockTokens(many(count, "1 repeat end"))
		checkFlat(t, list, nil, 0, 1)
	}
	for count := 1; count <= 6; count++ {
		list := blockTokens(many(count, "1 repeat 1 repeat 1 repeat end end end"))
		checkFlat(t, list, nil, 0, 3)
	}
	checkBadBlocks(t, blockTokens("1 repeat 1 repeat 1 repeat 1 repeat end end end end"))
	checkBadBlocks(t, blockTokens("0 repeat 0 repeat 0 repeat 0 repeat end end end end"))
	checkBadBlocks(t, blockTokens("a 1 repeat end 1 repeat 1 repeat 1 repeat end 1 repeat 1 repeat end end end end"))
}

func TestFlatLengthAroundTheLimit(t *testing.T) {
	list := []struct {
		text   string
		length int
	}{
		{"4 repeat" + many(50, "a") + "end", 200},
		{"4 repeat" + many(50, "a") + "end b", 201},
		{"b 4 repeat" + many(50, "a") + "end", 201},
		{"3 repeat" + many(50, "5") + "end" + many(6, "b"), 156},
		{"4 repeat" + many(49, "a") + "end" + many(4, "b"), 200},
		{"4 repeat" + many(49, "a") + "end" + many(5, "7"), 201},
		{"8 repeat" + many(25, "a") + "end", 200},
		{"8 repeat" + many(25, "a") + "end 0", 201},
		{"2 repeat 5 repeat 4 repeat" + many(5, "a") + "end end end", 200},
		{"2 repeat 5 repeat 4 repeat" + many(5, "a") + "end end end b", 201},
		{"b 2 repeat 5 repeat 4 repeat" + many(5, "a") + "end end end", 201},
		{"2 repeat b 5 repeat 4 repeat" + many(5, "a") + "end end end", 202},
		{"9 repeat 2 repeat" + many(11, "a") + "end end b b", 200},
		{"9 repeat 2 repeat" + many(11, "a") + "end end b b b", 201},
		{"5 repeat 5 repeat" + many(8, "a") + "end end", 200},
		{"5 repeat 5 repeat" + many(8, "a") + "end end 3 repeat end", 200},
		{"5 repeat 5 repeat" + many(8, "a") + "end end 0 repeat a end", 200},
		{"5 repeat 5 repeat" + many(8, "a") + "end end 1 repeat a end", 201},
		{"3 repeat a 6 repeat" + many(11, "b") + "end end", 201},
		{"3 repeat 6 repeat" + many(11, "b") + "end end a a", 200},
		{"2 repeat" + many(20, "a") + "end 4 repeat" + many(30, "b") + "end" + many(2, "c"), 162},
		{"5 repeat" + many(20, "a") + "end 5 repeat" + many(20, "b") + "end", 200},
		{"5 repeat" + many(20, "a") + "end 5 repeat" + many(20, "b") + "end c", 201},
		{"9 repeat 9 repeat" + many(2, "a") + "end end" + many(38, "b"), 200},
		{"9 repeat 9 repeat" + many(2, "a") + "end end" + many(39, "b"), 201},
		{"9 repeat" + many(57, "a") + "end", 513},
		{"9 repeat 9 repeat" + many(54, "a") + "end end", 4374},
		{"9 repeat 9 repeat 9 repeat" + many(51, "a") + "end end end", 37179},
		{"9 repeat 9 repeat 9 repeat a end end end", 729},
		{"9 repeat 9 repeat 9 repeat end end end", 0},
		// What is long, but repeated 0 times.
		{"0 repeat 9 repeat 9 repeat" + many(51, "a") + "end end end", 0},
		{"9 repeat 0 repeat 9 repeat" + many(51, "a") + "end end end", 0},
		{"9 repeat 9 repeat 0 repeat" + many(51, "a") + "end end end", 0},
		{"0 repeat 9 repeat 9 repeat" + many(48, "a") + "end end end b 5 b", 3},
		{"1 repeat 4 repeat" + many(50, "a") + "end 0 repeat b end end", 200},
		{"1 repeat 4 repeat" + many(48, "a") + "end 8 repeat b end end", 200},
		{"1 repeat 4 repeat" + many(48, "a") + "end 9 repeat b end end", 201},
	}
	for _, c := range list {
		tokens := blockTokens(c.text)
		checkBlocks(t, tokens)
		if got := impl.FlatLength(tokens); got != c.length {
			t.Errorf("FlatLength of %q is %d, want %d", c.text, got, c.length)
		}
		if got, ok := impl.FlattenBlocks(tokens); ok != (c.length <= 200) || ok && len(got) != c.length {
			t.Errorf("FlattenBlocks of %q: %d tokens, %v", c.text, len(got), ok)
		}
	}
}

// All numbers before three nested repeats, with tokens in each block and around all of them.
func TestFlatLengthOfNestedBlocks(t *testing.T) {
	for code := range 1000 {
		a, b, c := code/100, code/10%10, code%10
		for width := range 4 {
			list := blockTokens(blockText(a, many(width, "p")+blockText(b, blockText(c, many(width+1, "q")+"5")+many(width, "r"))) + many(width, "s"))
			length := a*(width+b*(c*(width+2)+width)) + width
			checkBlocks(t, list)
			if got := impl.FlatLength(list); got != length {
				t.Errorf("FlatLength of %q is %d, want %d", writtenTokens(list), got, length)
			}
			if got := impl.BlockDepth(list); got != 3 {
				t.Errorf("BlockDepth of %q is %d", writtenTokens(list), got)
			}
		}
	}
}

func blockText(times int, text string) string {
	return " " + strconv.Itoa(times) + " repeat " + text + " end "
}

// Up to 57 names are repeated, which is all that there is room for in a block, and the rest of the room is filled behind it.
func TestFlatLengthOfBlocksOfAllLengths(t *testing.T) {
	for width := range 58 {
		for times := range 10 {
			text := blockText(times, many(width, "a"))
			list := blockTokens(text + many(57-width, "b"))
			checkFlat(t, blockTokens(text), blockTokens(many(times*width, "a")), times*width, 1)
			checkFlat(t, list, blockTokens(many(times*width, "a")+many(57-width, "b")), times*width+57-width, 1)
		}
	}
}

func TestBlocksOfManyTokens(t *testing.T) {
	for size := range 64 {
		list := slices.Repeat([]impl.Token{{Name: "a"}}, size)
		checkBlocks(t, list)
		if got := impl.BlocksOk(list); got != (size <= 60) {
			t.Errorf("BlocksOk of %d tokens is %v", size, got)
		}
		checkBlocks(t, slices.Repeat([]impl.Token{{N: 2}}, size))
		// A block at the beginning, at the end and of all tokens.
		if size >= 3 {
			rest := many(size-3, "a")
			for _, text := range []string{"0 repeat end" + rest, rest + "2 repeat end", blockText(0, rest), blockText(1, rest), blockText(9, rest)} {
				checkBlocks(t, blockTokens(text))
				if got := impl.BlocksOk(blockTokens(text)); got != (size <= 60) {
					t.Errorf("BlocksOk of %d tokens with a block is %v", size, got)
				}
			}
		}
	}
	checkFlat(t, nil, nil, 0, 0)
	checkFlat(t, []impl.Token{}, nil, 0, 0)
	checkFlat(t, blockTokens(many(60, "7")), blockTokens(many(60, "7")), 60, 0)
	checkFlat(t, blockTokens(many(20, "9 repeat end")), nil, 0, 1)
	checkBadBlocks(t, blockTokens(many(61, "7")))
	checkBadBlocks(t, blockTokens(many(20, "9 repeat end")+"a"))
	checkBadBlocks(t, blockTokens("0 repeat"+many(58, "a")+"end"))
	checkBadBlocks(t, slices.Repeat([]impl.Token{{Name: "repeat"}}, 5000))
	checkBadBlocks(t, slices.Repeat(blockTokens("1 repeat"), 5000))
	checkBadBlocks(t, slices.Repeat([]impl.Token{{Name: "end"}}, 5000))
	checkBadBlocks(t, make([]impl.Token, 5000))
}

func TestInvalidTokensInBlocks(t *testing.T) {
	lists := []string{"", "a", "2 repeat a end", "0 repeat a end", "0 repeat end", "x 0 repeat a 2 repeat b end c end y", "2 repeat 0 repeat a b end end", many(59, "a")}
	bad := append(badTokens(), impl.Token{Name: "repeat", N: 1}, impl.Token{Name: "end", N: -1}, impl.Token{Name: "Repeat"}, impl.Token{Name: "END"}, impl.Token{Name: " end"})
	for _, text := range lists {
		list := blockTokens(text)
		for at := range len(list) + 1 {
			for _, token := range bad {
				checkBadBlocks(t, slices.Insert(slices.Clone(list), at, token))
			}
		}
	}
	// In place of each token of a list that is valid without it.
	list := blockTokens("x 0 repeat a 2 repeat b end end 1 repeat end y")
	for at := range list {
		for _, token := range bad {
			replaced := slices.Clone(list)
			replaced[at] = token
			checkBadBlocks(t, replaced)
		}
	}
	// A repeat or an end with a number beside it is not valid, and is no part of a block either.
	checkBadBlocks(t, []impl.Token{{N: 2}, {Name: "repeat", N: 1}, {Name: "end"}})
	checkBadBlocks(t, []impl.Token{{N: 2}, {Name: "repeat"}, {Name: "end", N: 1}})
	checkBadBlocks(t, []impl.Token{{N: 2}, {Name: "repeat", N: 1}, {Name: "end", N: 1}})
}

// Each list of up to 6 tokens from a few, most of which are not valid.
func TestAllShortListsOfBlocks(t *testing.T) {
	eachList(blockTokens("a 0 2 10 repeat end"), 6, func(list []impl.Token) { checkBlocks(t, list) })
}

// Each list of up to 7 parts, so that blocks in blocks behind blocks are among them.
func TestAllShortListsOfBlockParts(t *testing.T) {
	parts := [][]impl.Token{blockTokens("a"), blockTokens("5"), blockTokens("0 repeat"), blockTokens("3 repeat"), blockTokens("end")}
	eachList(parts, 7, func(list [][]impl.Token) { checkBlocks(t, slices.Concat(list...)) })
}

func eachList[T any](choices []T, most int, visit func([]T)) {
	lists := [][]T{nil}
	for range most {
		var longer [][]T
		for _, list := range lists {
			for _, choice := range choices {
				longer = append(longer, append(slices.Clone(list), choice))
			}
		}
		lists = longer
		for _, list := range lists {
			visit(list)
		}
	}
}

// Promise 6: what is flattened has nothing left to flatten.
func TestFlattenedBlocksStayAsTheyAre(t *testing.T) {
	for _, list := range memoryLists() {
		flat, ok := impl.FlattenBlocks(list)
		if !ok || len(flat) > 60 {
			continue
		}
		checkFlat(t, flat, flat, len(flat), 0)
	}
}

// memoryLists are flattened, with blocks and without, and not flattened for all reasons.
func memoryLists() [][]impl.Token {
	var lists [][]impl.Token
	for _, text := range []string{
		"", "a", "5", "a b 5 moveto", many(60, "moveto"), many(60, "5"), many(61, "a"),
		"0 repeat end", "1 repeat end", "1 repeat a end", "0 repeat a end", "1 repeat a 5 end", "2 repeat a 5 end", "x 2 repeat a b end y",
		"1 repeat a end b", "a 1 repeat b end", "1 repeat 1 repeat 1 repeat moveto 5 end end end", "x 3 repeat a 2 repeat b c end end y 0 repeat d end z",
		"4 repeat" + many(50, "a") + "end", "4 repeat" + many(50, "a") + "end b", "9 repeat 9 repeat 9 repeat" + many(51, "a") + "end end end",
		"repeat", "end", "2 repeat a", "a end", "A", "10 repeat end", "-1 repeat end", "9223372036854775807", "-9223372036854775808 repeat end",
	} {
		lists = append(lists, blockTokens(text))
	}
	return lists
}

func TestBlockArgumentsAreLeftAlone(t *testing.T) {
	kept := impl.Token{Name: "kept", N: -77777}
	for _, list := range memoryLists() {
		for _, spare := range []int{0, 1, 2, 300} {
			room := append(slices.Clone(list), slices.Repeat([]impl.Token{kept}, spare)...)
			before := slices.Clone(room)
			part := room[:len(list)]
			impl.BlocksOk(part)
			impl.FlattenBlocks(part)
			impl.FlatLength(part)
			impl.BlockDepth(part)
			if !slices.Equal(room, before) {
				t.Fatalf("%q is now %q", writtenTokens(before), writtenTokens(room))
			}
		}
	}
}

// The result is overwritten up to its capacity; what shares memory with it changes too.
func TestFlatBlocksAreNewMemory(t *testing.T) {
	for _, list := range memoryLists() {
		room := append(slices.Clone(list), slices.Repeat([]impl.Token{{Name: "kept"}}, 300)...)
		before := slices.Clone(room)
		first, _ := impl.FlattenBlocks(room[:len(list)])
		second, _ := impl.FlattenBlocks(room[:len(list)])
		want := slices.Clone(second)
		first = first[:cap(first)]
		for i := range first {
			first[i] = impl.Token{Name: "changed", N: i}
		}
		if !slices.Equal(room, before) || !slices.Equal(second, want) {
			t.Fatalf("the result for %q shares memory", writtenTokens(list))
		}
		// A result keeps what it was if the list is changed afterwards.
		clear(room)
		if !slices.Equal(second, want) {
			t.Fatalf("the result for %q shares memory with its list", writtenTokens(list))
		}
	}
}

func TestFlatBlocksHaveNamesOfTheirOwn(t *testing.T) {
	for _, list := range memoryLists() {
		flat, _ := impl.FlattenBlocks(list)
		for _, token := range flat {
			shared := func(other impl.Token) bool {
				return unsafe.StringData(other.Name) == unsafe.StringData(token.Name)
			}
			if token.Name != "" && slices.ContainsFunc(list, shared) {
				t.Fatalf("the name %q in the result for %q is the one of the list", token.Name, writtenTokens(list))
			}
		}
	}
}

func TestBlocksKeepNoState(t *testing.T) {
	list := blockTokens("x 2 repeat a 3 repeat b end end y")
	first, _ := impl.FlattenBlocks(list)
	first[0] = impl.Token{Name: "changed"}
	for range 3 {
		checkFlat(t, list, blockTokens("x a b b b a b b b y"), 10, 2)
		checkBadBlocks(t, blockTokens("2 repeat"))
		checkFlat(t, blockTokens("9 repeat 9 repeat 9 repeat a end end end"), nil, 729, 3)
	}
}
