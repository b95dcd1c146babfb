package tests

import (
	"slices"
	"testing"

	"loop.example/g00987/impl"
)

// bandWithRoom copies a band, with spare capacity behind each list.
func bandWithRoom(b impl.Band, spare int) impl.Band {
	return impl.Band{Height: b.Height, Number: b.Number, Base: rowsWithRoom(b.Base, spare), Objects: objectsWithRoom(b.Objects, spare)}
}

// bandToCapacity copies a band and all of its spare capacity.
func bandToCapacity(b impl.Band) impl.Band {
	list := toCapacity(impl.Page{Objects: b.Objects}).Objects
	return impl.Band{Height: b.Height, Number: b.Number, Base: rowsToCapacity(b.Base), Objects: list}
}

func bandMemory(b impl.Band) []memory {
	return append(rowsMemory(b.Base), pageMemory(impl.Page{Objects: b.Objects})...)
}

// checkOwnBand checks that no two lists of a band share memory, and none with the other memory.
func checkOwnBand(t *testing.T, what string, b impl.Band, other []memory) {
	t.Helper()
	own := bandMemory(b)
	for i, m := range own {
		for _, n := range slices.Concat(own[i+1:], other) {
			if m.meets(n) {
				t.Fatalf("%s: %s of the result shares memory with %s", what, m.what, n.what)
			}
		}
	}
}

// checkBandLeftAlone calls a function with a band that has spare capacity, and checks that it changes none of it.
func checkBandLeftAlone(t *testing.T, what string, band impl.Band, call func(b impl.Band)) {
	t.Helper()
	for _, spare := range []int{0, 1, 15} {
		b := bandWithRoom(band, spare)
		before := bandToCapacity(b)
		call(b)
		if !sameBand(bandToCapacity(b), before) {
			t.Fatalf("%s changed %.600v", what, before)
		}
	}
}

func bandsForMemory() []impl.Band {
	var bands []impl.Band
	for i, b := range goodBands() {
		if i%3 == 0 {
			bands = append(bands, b)
		}
	}
	return append(bands, someBadBands()...)
}

func TestAddToBandReturnsNewMemory(t *testing.T) {
	objects := append(badObjects()[:2], sizedObject(8, 77), sizedObject(3, 78), rowsObject(9, 15, 17), rowsObject(9, 32, 40), impl.Object{})
	for i, band := range bandsForMemory() {
		for j := range 4 {
			base := objects[(i+2*j)%len(objects)]
			checkBandLeftAlone(t, "AddToBand", band, func(b impl.Band) {
				o := objectWithRoom(base, 5*j)
				path := slices.Clone(o.Path[:cap(o.Path)])
				got, _ := impl.AddToBand(b, o)
				checkOwnBand(t, "AddToBand", got, append(bandMemory(b), memoryOf("the path", o.Path)))
				if !slices.Equal(o.Path[:cap(o.Path)], path) {
					t.Fatalf("AddToBand changed the path %v", path)
				}
			})
		}
	}
}

func TestMergedBandsAreNewMemory(t *testing.T) {
	for _, band := range bandsForMemory() {
		checkBandLeftAlone(t, "MergeBand", band, func(b impl.Band) {
			checkOwnBand(t, "MergeBand", impl.MergeBand(b), bandMemory(b))
		})
		checkBandLeftAlone(t, "RowsOfBand", band, func(b impl.Band) {
			checkOwnRows(t, "RowsOfBand", impl.RowsOfBand(b), bandMemory(b))
		})
		checkBandLeftAlone(t, "BandOk or BandCells", band, func(b impl.Band) {
			impl.BandOk(b)
			impl.BandCells(b)
		})
	}
}

func TestNewBandsAreNewMemory(t *testing.T) {
	eachBand(func(height, number int) {
		first, _ := impl.NewBand(height, number)
		second, _ := impl.NewBand(height, number)
		checkOwnBand(t, "NewBand", first, bandMemory(second))
		for y := range first.Base {
			first.Base[y][y] = 7
		}
		first.Objects = append(first.Objects, sizedObject(3, 9))
		if third, _ := impl.NewBand(height, number); !sameBand(second, third) || !equalRows(third.Base, evenRows(height, 255)) {
			t.Fatalf("the second %s is %v, the third one %v", bandName(height, number), second, third)
		}
	})
}

// Rows and paths that share memory in an argument do not in a result, and are painted as if they did not.
func TestBandsWhosePartsShareMemory(t *testing.T) {
	row := variedRows(1)[0]
	path := append(rectOf(2, 2, 30, 30), rectOf(5, 5, 9, 9)...)
	lists := append(sharedLists(), []impl.Object{grayObject(1, path), grayObject(2, path[:4]), grayObject(3, path[4:]), grayObject(4, path[1:5]), grayObject(5, path), grayObject(6, path[:7]), grayObject(7, path[2:])})
	for _, list := range lists {
		eachBand(func(height, number int) {
			b := impl.Band{Height: height, Number: number, Base: slices.Repeat([][]int{row}, height), Objects: list}
			apart := impl.Band{Height: height, Number: number, Base: copiedRows(b.Base), Objects: list}
			merged := impl.MergeBand(b)
			checkOwnBand(t, "MergeBand", merged, bandMemory(b))
			if !sameBand(merged, mergedBand(apart)) || !sameBand(b, apart) {
				t.Fatalf("MergeBand of %v is %v", apart, merged)
			}
			checkRowsOfBand(t, b, merged.Base)
			checkOwnRows(t, "RowsOfBand", impl.RowsOfBand(b), bandMemory(b))
			o := grayObject(8, path[3:7])
			added, _ := impl.AddToBand(b, o)
			checkOwnBand(t, "AddToBand", added, append(bandMemory(b), memoryOf("the path", path)))
			if want, _ := addedBand(apart, o); !sameBand(added, want) || !sameBand(b, apart) {
				t.Fatalf("AddToBand of %v is %v, want %v", apart, added, want)
			}
		})
	}
}

// A band that is changed behind a call changes neither one that it was made of nor one that is made of it.
func TestBandsStayAsTheyAre(t *testing.T) {
	list := longBandLists()[0]
	for _, place := range [][2]int{{1, 9}, {4, 0}, {8, 3}, {32, 0}} {
		b, _ := impl.NewBand(place[0], place[1])
		bands, copies := []impl.Band{b}, []impl.Band{bandToCapacity(b)}
		for i, o := range list {
			if i%11 == 10 {
				b = impl.MergeBand(b)
			}
			b, _ = impl.AddToBand(b, o)
			checkOwnBand(t, "AddToBand", b, append(bandMemory(bands[len(bands)-1]), memoryOf("the path", o.Path)))
			bands, copies = append(bands, b), append(copies, bandToCapacity(b))
		}
		for i, b := range bands {
			rows := impl.RowsOfBand(b)
			for y := range rows {
				rows[y][y] = -5
			}
			if !sameBand(bandToCapacity(b), copies[i]) {
				t.Fatalf("band %d was changed by those behind it", i)
			}
		}
	}
}

// Two bands that are made of one go their own ways, also where it has room for more.
func TestTwoBandsOfOne(t *testing.T) {
	for _, before := range [][]impl.Object{nil, sizedObjects(3), sizedObjects(8, 8, 8, 8, 8, 8)} {
		b := bandWithRoom(bandWith(4, 2, before...), 8)
		first, _ := impl.AddToBand(b, sizedObject(8, 101))
		second, _ := impl.AddToBand(b, sizedObject(4, 102))
		checkOwnBand(t, "AddToBand", first, append(bandMemory(second), bandMemory(b)...))
		third, _ := impl.AddToBand(first, sizedObject(3, 103))
		fourth, _ := impl.AddToBand(first, sizedObject(5, 104))
		last := func(b impl.Band) int { return b.Objects[len(b.Objects)-1].Gray }
		if last(first) != 101 || last(second) != 102 || last(third) != 103 || last(fourth) != 104 || len(b.Objects) != len(before) {
			t.Errorf("behind %d objects: %v, %v, %v, %v", len(before), first, second, third, fourth)
		}
	}
}

func TestBandsWithLittleMemoryKeepNoState(t *testing.T) {
	bands := append(someBadBands()[:20], goodBands()[:40]...)
	for range 3 {
		for i, b := range bands {
			checkMerge(t, b)
			checkAdd(t, b, sizedObject(3+i%6, i))
			checkAdd(t, b, impl.Object{})
			if impl.BandOk(b) != isBandValue(b) || impl.BandCells(b) != cellsOf(b.Objects) {
				t.Fatalf("%s has another result than before", bandText(b))
			}
		}
		slices.Reverse(bands)
	}
}
