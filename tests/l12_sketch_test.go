package tests

import (
	"fmt"
	"math/rand"
	"testing"

	"loop.example/g00028/impl"
)

// checkSketch holds SketchOf against the other program, and gives the sketch.
func checkSketch(t *testing.T, what string, log []impl.Op) impl.Sketch {
	t.Helper()
	got, code := impl.SketchOf(log)
	if want := sketchOf(deedNumbers(log)...); code != impl.OK || !sameSketch(got, want) {
		t.Errorf("%s: SketchOf %v, code %d, want %v", what, got, code, want)
	}
	return got
}

// sketchWith is a sketch with these cells, all others empty.
func sketchWith(cells map[int]impl.Cell) impl.Sketch {
	s := blank()
	for place, cell := range cells {
		s.Cells[place] = cell
	}
	return s
}

// Cells whose places and checks were worked out by hand.
func TestP14SketchesWrittenDown(t *testing.T) {
	one := impl.Cell{Count: 1, Id: 16, Sum: 705505826}
	two := impl.Cell{Count: 1, Id: 32, Sum: 160839282}
	other := impl.Cell{Count: 1, Id: 17, Sum: 34253971}
	for _, c := range []struct {
		what string
		log  []impl.Op
		want map[int]impl.Cell
	}{
		{"none", nil, nil},
		{"the first of actor 0", diary(0, 1, counts(5, 1)), map[int]impl.Cell{15: one, 60: one, 53: one}},
		{"the first of actor 1", diary(1, 1, counts(5, 1)), map[int]impl.Cell{38: other, 57: other, 0: other}},
		{"two of actor 0", diary(0, 1, counts(5, 1), counts(5, 2)), map[int]impl.Cell{15: one, 60: one, 53: one, 31: two, 12: two, 5: two}},
		{"of two actors", logOf(diary(0, 1, counts(5, 1)), diary(1, 1, counts(5, 1))), map[int]impl.Cell{15: one, 60: one, 53: one, 38: other, 57: other, 0: other}},
	} {
		if got, code := impl.SketchOf(c.log); code != impl.OK || !sameSketch(got, sketchWith(c.want)) {
			t.Errorf("%s: %v, code %d, want %v", c.what, got, code, c.want)
		}
		checkSketch(t, c.what, c.log)
	}
	// The fifth stands in the cells of the first.
	five, _ := impl.SketchOf(diary(0, 1, ones(5)...))
	for _, place := range []int{15, 60, 53} {
		if want := (impl.Cell{Count: 2, Id: 16 ^ 80, Sum: 705505826 ^ checkSum(80)}); five.Cells[place] != want {
			t.Errorf("two in a cell: %v, want %v", five.Cells[place], want)
		}
	}
}

func TestP14SketchesOfLogs(t *testing.T) {
	logs := edgeLogs()
	logs["full"], logs["one actor"], logs["the last actor"], logs["great"] = fullLog(impl.MaxLog), diary(0, 1, ones(impl.MaxLog)...), diary(15, 1, ones(impl.MaxLog)...), greatLog()
	for size := range 40 {
		logs[fmt.Sprint(size)] = fullLog(size)
	}
	for what, log := range logs {
		s := checkSketch(t, what, log)
		count := 0
		for _, c := range s.Cells {
			count += c.Count
		}
		if count != 3*len(log) {
			t.Errorf("%s: %d operations stand in %d cells", what, len(log), count)
		}
		if !validSketch(s) {
			t.Errorf("%s: no valid sketch", what)
		}
		checkDiffers(t, what, s, s, nil, nil, impl.OK)
	}
}

// A sketch is made of Actors and Seqs alone.
func TestP14SketchesOfNames(t *testing.T) {
	s := logOf(inOrder(story()), diary(7, 20, ones(9)...))
	want := checkSketch(t, "story", s)
	for i, op := range s {
		for name, twin := range twins(op) {
			if other := logWith(s, i, func(op *impl.Op) { *op = twin }); validLog(other) {
				if got, code := impl.SketchOf(other); code != impl.OK || !sameSketch(got, want) {
					t.Errorf("%s of %d: another sketch, code %d", name, i, code)
				}
			}
		}
	}
	for actor := range 16 {
		log := diary(actor, 1, counts(5, 1))
		if got, want := checkSketch(t, "an actor's", log), sketchOf(16+actor); !sameSketch(got, want) {
			t.Errorf("actor %d: %v, want %v", actor, got, want)
		}
	}
}

// The last step of a sum multiplies by an odd number, so that of one number no two sums with unlike j meet in a cell: a
// number has three cells, always.
func TestP14ThreeCellsOfANumber(t *testing.T) {
	random := rand.New(rand.NewSource(121))
	numbers := []int{0, 1, impl.MaxNum - 1, impl.MaxNum}
	for number := range 16 * (impl.MaxLog + 1) {
		numbers = append(numbers, number)
	}
	for range 20000 {
		numbers = append(numbers, random.Intn(impl.MaxNum), random.Intn(1<<32), random.Intn(1<<44))
	}
	for _, number := range numbers {
		if places := cellPlaces(number); len(places) != 3 {
			t.Fatalf("%d stands in %v", number, places)
		}
	}
}
