package tests

import (
	"fmt"
	"math"
	"math/rand"
	"slices"
	"testing"

	"loop.example/g00028/impl"
)

func TestP14DiffersInNothing(t *testing.T) {
	checkDiffers(t, "two empty ones", blank(), blank(), nil, nil, impl.OK)
	for _, numbers := range [][]int{{16}, {0}, {impl.MaxNum}, {16, 17, 32, 33}, deedNumbers(fullLog(impl.MaxLog))} {
		s := sketchOf(numbers...)
		checkDiffers(t, "alike", s, sketchOf(numbers...), nil, nil, impl.OK)
	}
	// Cells that no log has, but both.
	odd := blank()
	for i := range odd.Cells {
		odd.Cells[i] = impl.Cell{Count: []int{-1024, 1024, 1, -1}[i%4], Id: impl.MaxNum - i, Sum: i * i}
	}
	checkDiffers(t, "odd ones", odd, odd, nil, nil, impl.OK)
	checkDiffers(t, "odd ones, and their copy", odd, impl.Sketch{Cells: slices.Clone(odd.Cells)}, nil, nil, impl.OK)
}

// Sketches of logs that differ in nothing but what is written here.
func TestP14DiffersByNumbers(t *testing.T) {
	for _, c := range []struct{ left, right []int }{
		{[]int{16}, nil}, {nil, []int{17}}, {[]int{16}, []int{17}}, {[]int{0}, nil}, {[]int{impl.MaxNum}, nil}, {[]int{0}, []int{impl.MaxNum}},
		{[]int{16, 17, 32, 33}, nil}, {[]int{16, 33}, []int{17, 32}}, {[]int{32}, []int{16, 17, 33}}, {[]int{16399}, []int{16}}, {[]int{18, 31}, []int{1 << 40, 1 << 61}},
	} {
		for _, both := range [][]int{nil, {48}, {64, 65, 66}, {16 * 500, 16*500 + 1}, deedNumbers(fullLog(200))} {
			both = slices.DeleteFunc(slices.Clone(both), func(n int) bool { return slices.Contains(c.left, n) || slices.Contains(c.right, n) })
			a, b := sketchOf(slices.Concat(both, c.left)...), sketchOf(slices.Concat(both, c.right)...)
			checkDiffers(t, fmt.Sprint(c.left, " and ", c.right, " beside ", len(both)), a, b, c.left, c.right, impl.OK)
		}
	}
	// Whatever stands in it first, they rise.
	turned := sketchOf(33, 17, 32, 16)
	checkDiffers(t, "turned", turned, blank(), []int{16, 17, 32, 33}, nil, impl.OK)
	checkDiffers(t, "from the first cell to the last", sketchOf(17, 18, 16), blank(), []int{16, 17, 18}, nil, impl.OK)
}

// Logs that differ in one, in a few, and in too many operations.
func TestP14DiffersByLogs(t *testing.T) {
	base := fullLog(100)
	of := func(log []impl.Op) impl.Sketch {
		s, code := impl.SketchOf(log)
		wantCode(t, "SketchOf", code, impl.OK)
		return s
	}
	with := func(size int) impl.Sketch { return of(logOf(base, diary(15, 500, ones(size)...))) }
	checkDiffers(t, "one more", with(1), of(base), []int{31}, nil, impl.OK)
	checkDiffers(t, "four more", with(4), of(base), []int{31, 47, 63, 79}, nil, impl.OK)
	// The fifth stands in the cells of the first, and both hide each other.
	checkDiffers(t, "five more", with(5), of(base), nil, nil, impl.ErrSketch)
	checkDiffers(t, "one of which the first is known", with(5), with(1), []int{47, 63, 79, 95}, nil, impl.OK)
	checkDiffers(t, "very many more", with(900), of(base), nil, nil, impl.ErrSketch)
	checkDiffers(t, "a log and nothing", of(base), blank(), nil, nil, impl.ErrSketch)
	checkDiffers(t, "full logs of two actors", of(diary(0, 1, ones(impl.MaxLog)...)), of(diary(1, 1, ones(impl.MaxLog)...)), nil, nil, impl.ErrSketch)
	other := of(logOf(base, diary(15, 500, ones(2)...)))
	checkDiffers(t, "a log and a beginning of it", with(3), other, []int{63}, nil, impl.OK)
	for size := range 12 {
		for less := range 12 {
			checkDiff(t, "more on both sides", of(diary(15, 1, ones(size)...)), of(diary(6, 1, ones(less)...)))
		}
	}
}

// wrongCells are cells that no valid sketch has.
func wrongCells() []impl.Cell {
	var cells []impl.Cell
	for _, count := range []int{impl.MaxLog + 1, -impl.MaxLog - 1, 2 * impl.MaxLog, 1 << 32, math.MinInt, math.MaxInt} {
		cells = append(cells, impl.Cell{Count: count}, impl.Cell{Count: count, Id: 16, Sum: 705505826})
	}
	for _, n := range []int{-1, impl.MaxNum + 1, math.MinInt, math.MaxInt} {
		cells = append(cells, impl.Cell{Id: n}, impl.Cell{Sum: n}, impl.Cell{Count: 1, Id: n, Sum: n}, impl.Cell{Count: 1, Id: 16, Sum: n}, impl.Cell{Count: 1, Id: n, Sum: 705505826})
	}
	return cells
}

// wrongSketches are sketches that are not valid.
func wrongSketches() []impl.Sketch {
	full := sketchOf(deedNumbers(fullLog(50))...)
	list := []impl.Sketch{{}, {Cells: []impl.Cell{}}, {Cells: full.Cells[:1]}, {Cells: full.Cells[:63]}, {Cells: slices.Concat(full.Cells, make([]impl.Cell, 1))}, {Cells: slices.Concat(full.Cells, full.Cells)}, {Cells: make([]impl.Cell, 1<<16)}}
	for _, cell := range wrongCells() {
		for _, place := range []int{0, 31, 63} {
			list = append(list, withCell(blank(), place, cell), withCell(full, place, cell))
		}
	}
	return list
}

func TestP14WrongSketches(t *testing.T) {
	good := []impl.Sketch{blank(), sketchOf(16), sketchOf(deedNumbers(fullLog(50))...), withCell(blank(), 7, impl.Cell{Count: 5})}
	for i, wrong := range wrongSketches() {
		if validSketch(wrong) {
			t.Fatalf("the test is at odds with itself: %v", wrong)
		}
		for _, other := range good {
			checkDiffers(t, fmt.Sprint("wrong sketch ", i), wrong, other, nil, nil, impl.ErrBad)
		}
		checkDiffers(t, fmt.Sprint("wrong sketch twice ", i), wrong, wrong, nil, nil, impl.ErrBad)
	}
}

// Cells that are just within what is valid; two that are far apart do not wrap.
func TestP14FarthestCells(t *testing.T) {
	for _, cell := range []impl.Cell{
		{Count: impl.MaxLog}, {Count: -impl.MaxLog}, {Id: impl.MaxNum}, {Sum: impl.MaxNum}, {Count: impl.MaxLog, Id: impl.MaxNum, Sum: impl.MaxNum}, {Count: -impl.MaxLog, Id: impl.MaxNum, Sum: impl.MaxNum},
	} {
		for _, place := range []int{0, 40, 63} {
			s := withCell(blank(), place, cell)
			checkDiffers(t, fmt.Sprint(cell, " twice"), s, s, nil, nil, impl.OK)
			checkDiffers(t, fmt.Sprint(cell, " and nothing"), s, blank(), nil, nil, impl.ErrSketch)
			turned := withCell(blank(), place, impl.Cell{Count: -cell.Count, Id: cell.Id, Sum: cell.Sum})
			checkDiff(t, fmt.Sprint(cell, " and its other"), s, turned)
		}
	}
	full, less := blank(), blank()
	for i := range full.Cells {
		full.Cells[i], less.Cells[i] = impl.Cell{Count: impl.MaxLog, Id: impl.MaxNum, Sum: 5}, impl.Cell{Count: impl.MaxLog, Id: impl.MaxNum, Sum: 5}
	}
	for _, place := range cellPlaces(16) {
		less.Cells[place] = impl.Cell{Count: impl.MaxLog - 1, Id: impl.MaxNum - 16, Sum: 5 ^ 705505826}
	}
	checkDiffers(t, "as many as can be, and one less", full, less, []int{16}, nil, impl.OK)
}

// Cells with Count 1 or -1 that tell nothing: Sum is not the check, or the cell is none of those of Id.
func TestP14CellsThatTellNothing(t *testing.T) {
	for _, number := range []int{0, 16, 17, 16399, 1 << 50, impl.MaxNum} {
		places := cellPlaces(number)
		for _, count := range []int{1, -1} {
			right := impl.Cell{Count: count, Id: number, Sum: checkSum(number)}
			for place := range 64 {
				for _, sum := range []int{right.Sum + 1, right.Sum - 1, 0, right.Sum ^ 1<<31, right.Sum + 1<<32, numberSum(number, 0), impl.MaxNum} {
					checkDiffers(t, fmt.Sprint("no check of ", number), withCell(blank(), place, impl.Cell{Count: count, Id: number, Sum: sum}), blank(), nil, nil, impl.ErrSketch)
				}
				if !slices.Contains(places, place) {
					checkDiffers(t, fmt.Sprint("no cell of ", number), withCell(blank(), place, right), blank(), nil, nil, impl.ErrSketch)
					// The number is told, but not out of the cell that is none of its own.
					s := sketchOf(number)
					checkDiffers(t, fmt.Sprint(number, " in a fourth cell"), withCell(s, place, impl.Cell{Count: 1, Id: number, Sum: right.Sum}), blank(), nil, nil, impl.ErrSketch)
				}
			}
			for _, place := range places {
				wrong := withCell(sketchOf(number), place, impl.Cell{Count: 1, Id: number, Sum: right.Sum ^ 1})
				checkDiffers(t, "one cell that has another Sum", wrong, blank(), nil, nil, impl.ErrSketch)
				wrong = withCell(sketchOf(number), place, impl.Cell{Count: 1, Id: number ^ 1, Sum: right.Sum})
				checkDiffers(t, "one cell that has another Id", wrong, blank(), nil, nil, impl.ErrSketch)
			}
		}
	}
	// Other Counts tell nothing, whatever Id and Sum are.
	for _, count := range []int{0, 2, -2, 3, -3, 1023, 1024, -1024} {
		s := blank()
		for _, place := range cellPlaces(16) {
			s.Cells[place] = impl.Cell{Count: count, Id: 16, Sum: 705505826}
		}
		checkDiffers(t, fmt.Sprint("Count ", count), s, blank(), nil, nil, impl.ErrSketch)
	}
}

// What is left that is not zero: a Count, an Id or a Sum alone, in any cell.
func TestP14WhatIsLeft(t *testing.T) {
	for place := range 64 {
		for _, cell := range []impl.Cell{{Count: 1}, {Count: -1}, {Count: 2}, {Count: impl.MaxLog}, {Id: 1}, {Id: 16}, {Sum: 1}, {Sum: 705505826}, {Id: 16, Sum: 705505826}} {
			s := withCell(blank(), place, cell)
			checkDiffers(t, fmt.Sprint(cell, " at ", place), s, blank(), nil, nil, impl.ErrSketch)
			// All else is told, and it is not enough.
			with := sketchOf(16, 17, 32)
			if with.Cells[place] == (impl.Cell{}) {
				checkDiffers(t, fmt.Sprint(cell, " beside others"), withCell(with, place, cell), blank(), nil, nil, impl.ErrSketch)
			}
		}
	}
	// A number that was put twice, or into both; three that were put together.
	checkDiffers(t, "twice", sketchOf(16, 16), blank(), nil, nil, impl.ErrSketch)
	checkDiffers(t, "thrice", sketchOf(16, 16, 16), blank(), nil, nil, impl.ErrSketch)
	checkDiffers(t, "twice and once", sketchOf(16, 16), sketchOf(16), []int{16}, nil, impl.OK)
	checkDiffers(t, "two of the same cells", sketchOf(16, 80), blank(), nil, nil, impl.ErrSketch)
	checkDiffers(t, "one here and one there, of the same cells", sketchOf(16), sketchOf(80), nil, nil, impl.ErrSketch)
}

// Sketches made by hand that tell a number again and again: it is told here, and so is too much there.
func TestP14ToldWithoutEnd(t *testing.T) {
	for _, number := range []int{0, 16, 33, 16399, impl.MaxNum} {
		places := cellPlaces(number)
		for set := 1; set < 7; set++ {
			s := blank()
			for i, place := range places {
				if set&(1<<i) != 0 {
					s.Cells[place] = impl.Cell{Count: 1, Id: number, Sum: checkSum(number)}
				}
			}
			what := fmt.Sprintf("%d in some of its cells, %b", number, set)
			if code, told := checkDiff(t, what, s, blank()); code != impl.ErrSketch || told <= 2*impl.MaxLog {
				t.Fatalf("%s: the test is at odds with itself: %d were told, code %d", what, told, code)
			}
			// Beside others that come to an end.
			with := sketchOf(17, 18)
			for i, place := range places {
				if set&(1<<i) != 0 && with.Cells[place] == (impl.Cell{}) {
					with.Cells[place] = impl.Cell{Count: 1, Id: number, Sum: checkSum(number)}
				}
			}
			checkDiff(t, what+", beside others", with, blank())
		}
	}
	// All cells tell without an end.
	s := blank()
	for number := range 2000 {
		if place := cellPlaces(number)[number%3]; s.Cells[place] == (impl.Cell{}) {
			s.Cells[place] = impl.Cell{Count: 1 - number%2*2, Id: number, Sum: checkSum(number)}
		}
	}
	if code, told := checkDiff(t, "all cells", s, blank()); code != impl.ErrSketch || told <= 2*impl.MaxLog {
		t.Errorf("%d were told, code %d", told, code)
	}
}

// As many as a sketch can tell: by how the sums are made each number stands in three of four cells that no others share
// but such, and the four tell at most two.
func TestP14AsManyAsCanBeTold(t *testing.T) {
	var left, right []int
	for number := 16; number < 16*20; number++ {
		side := &left
		if number%3 == 0 {
			side = &right
		}
		*side = append(*side, number)
		if code, _ := checkDiff(t, "more and more", sketchOf(left...), sketchOf(right...)); code != impl.OK {
			*side = (*side)[:len(*side)-1]
		}
	}
	if len(left)+len(right) != 32 || len(left) < 10 || len(right) < 5 {
		t.Errorf("%d and %d are told", len(left), len(right))
	}
	checkDiffers(t, "as many as can be", sketchOf(left...), sketchOf(right...), left, right, impl.OK)
}

// Sketches at random: of some numbers on both sides, some cells changed by hand.
func TestP14AnySketches(t *testing.T) {
	random := rand.New(rand.NewSource(122))
	codes := map[int]int{}
	endless := 0
	for range 3000 {
		var left, right []int
		for range random.Intn(8) {
			left = append(left, 16+random.Intn(120))
		}
		for range random.Intn(8) {
			right = append(right, 16+random.Intn(120))
		}
		a, b := sketchOf(left...), sketchOf(right...)
		for range random.Intn(4) * random.Intn(2) {
			number := 16 + random.Intn(120)
			place := cellPlaces(number)[random.Intn(3)]
			a.Cells[place].Count += random.Intn(3) - 1
			a.Cells[place].Id ^= number * random.Intn(2)
			a.Cells[place].Sum ^= checkSum(number) * random.Intn(2)
		}
		code, told := checkDiff(t, "any", a, b)
		codes[code]++
		if told > 2*impl.MaxLog {
			endless++
		}
	}
	if codes[impl.OK] < 300 || codes[impl.ErrSketch] < 300 || endless < 10 {
		t.Errorf("codes %v, %d told without an end", codes, endless)
	}
}
