package tests

import (
	"bytes"
	"encoding/binary"
	"math"
	"math/rand"
	"slices"
	"testing"

	"loop.example/g00028/impl"
)

const maxInRun = impl.MaxNum / 4

// runBytes writes runs as the document says, by another program than the project's.
func runBytes(list []int) []byte {
	out := binary.AppendUvarint(nil, uint64(len(list)))
	for at := 0; at < len(list); {
		end := at + 1
		for end < len(list) && (end == at+1 || list[end]-list[end-1] == list[at+1]-list[at]) {
			end++
		}
		out = binary.AppendUvarint(out, uint64(list[at]))
		out = binary.AppendUvarint(out, uint64(end-at))
		if end-at >= 2 {
			out = binary.AppendVarint(out, int64(list[at+1]-list[at]))
		}
		at = end
	}
	return out
}

func checkRuns(t *testing.T, list []int) {
	t.Helper()
	b, code := impl.PutRuns(list)
	if code != impl.OK || !bytes.Equal(b, runBytes(list)) {
		t.Fatalf("PutRuns(%.20v): %.40v, code %d", list, b, code)
	}
	got, code := impl.GetRuns(b)
	if code != impl.OK || !slices.Equal(got, list) {
		t.Fatalf("%.20v came back as %.20v, code %d", list, got, code)
	}
}

func checkNoRuns(t *testing.T, b []byte, want int) {
	t.Helper()
	list, code := impl.GetRuns(b)
	if code != want || len(list) != 0 {
		t.Errorf("GetRuns of %.20v (%d bytes): %d numbers, code %d, want code %d", b, len(b), len(list), code, want)
	}
}

func TestP2RunsComeBack(t *testing.T) {
	for _, list := range [][]int{
		nil, {}, {0}, {9}, {maxInRun}, {0, 0}, {3, 3, 3, 3}, {1, 2}, {2, 1}, {5, 6, 7, 8}, {9, 6, 3, 0},
		{1, 2, 3, 2, 1}, {1, 2, 4, 8, 16, 32}, {7, 7, 8, 8, 9}, {0, maxInRun}, {maxInRun, 0},
		{0, maxInRun, 0, maxInRun}, {maxInRun, maxInRun, maxInRun}, {0, maxInRun / 2, maxInRun / 2 * 2},
		{maxInRun, maxInRun - 1, maxInRun - 2}, {1000000000000, 1, 1000000000000, 1},
	} {
		checkRuns(t, list)
	}
	everyList([]int{0, 1, 2, 3, maxInRun}, 6, func(list []int) { checkRuns(t, list) })
}

func TestP2RunsInBytes(t *testing.T) {
	for _, c := range []struct {
		list []int
		want []byte
	}{
		{nil, []byte{0}},
		{[]int{5}, []byte{1, 5, 1}},
		{[]int{5, 5}, []byte{2, 5, 2, 0}},
		{[]int{5, 6}, []byte{2, 5, 2, 2}},
		{[]int{5, 4}, []byte{2, 5, 2, 1}},
		{[]int{5, 4, 5}, []byte{3, 5, 2, 1, 5, 1}},
		{[]int{1, 3, 5, 6, 7}, []byte{5, 1, 3, 4, 6, 2, 2}},
		{[]int{9, 6, 3, 0, 0}, []byte{5, 9, 4, 5, 0, 1}},
	} {
		if b, code := impl.PutRuns(c.list); code != impl.OK || !bytes.Equal(b, c.want) {
			t.Errorf("PutRuns(%v): %v, code %d", c.list, b, code)
		}
	}
}

func TestP2RunForms(t *testing.T) {
	for _, b := range [][]byte{
		{}, {128}, {1}, {1, 5}, {2, 5, 2}, {2, 5, 2, 128}, {3, 5, 2, 2}, {3, 5, 2, 2, 9},
		{0, 0}, {1, 5, 1, 0}, {2, 5, 2, 2, 0},
		{1, 5, 0}, {2, 5, 0, 5, 2, 2}, {2, 5, 2, 2, 5, 0}, {0, 5, 0}, {3, 5, 2, 2, 9, 0, 9, 1},
		{1, 5, 2, 2}, {2, 5, 3, 2}, {2, 5, 1, 6, 1}, {3, 5, 1, 6, 2, 2}, {1, 5, 255, 255, 255, 255, 255, 255, 255, 255, 63, 0},
		{3, 5, 2, 2, 7, 1}, {4, 5, 2, 2, 7, 2, 2}, {4, 5, 2, 1, 3, 2, 9}, {3, 5, 2, 0, 5, 1},
		{2, 1, 2, 3}, {3, 2, 3, 3}, {2, 0, 2, 1},
		{128, 0}, {1, 128, 0, 1}, {1, 5, 129, 0}, {2, 5, 2, 130, 0},
		{255, 255, 255, 255, 255, 255, 255, 255, 63},
	} {
		checkNoRuns(t, b, impl.ErrForm)
	}
}

// amountBytes writes a run of two numbers with whatever first number and amount are asked for.
func amountBytes(first, amount int) []byte {
	out := binary.AppendUvarint([]byte{2}, uint64(first))
	return binary.AppendVarint(append(out, 2), int64(amount))
}

func TestP2RunBounds(t *testing.T) {
	for _, c := range [][]int{{0, maxInRun}, {maxInRun, -maxInRun}, {maxInRun - 1, 1}, {1, -1}, {maxInRun, 0}} {
		want := []int{c[0], c[0] + c[1]}
		if list, code := impl.GetRuns(amountBytes(c[0], c[1])); code != impl.OK || !slices.Equal(list, want) {
			t.Errorf("%v: %v, code %d", c, list, code)
		}
	}
	for _, c := range [][]int{
		{0, maxInRun + 1}, {1, maxInRun}, {maxInRun, 1}, {maxInRun, -maxInRun - 1}, {0, -1},
		{maxInRun + 1, -1}, {maxInRun + 1, 0}, {impl.MaxNum, 0}, {impl.MaxNum, -impl.MaxNum / 2},
		{maxInRun, impl.MaxNum / 2}, {0, -impl.MaxNum/2 - 1},
	} {
		checkNoRuns(t, amountBytes(c[0], c[1]), impl.ErrForm)
	}
	checkNoRuns(t, append(binary.AppendUvarint([]byte{1}, maxInRun+1), 1), impl.ErrForm)
	// Four thousand great amounts would go round an int many times.
	long := binary.AppendUvarint([]byte{128, 32, 0}, impl.MaxList)
	for _, amount := range []uint64{impl.MaxNum, impl.MaxNum - 1} {
		checkNoRuns(t, binary.AppendUvarint(slices.Clone(long), amount), impl.ErrForm)
	}
}

func TestP2RunNumbersOutOfBounds(t *testing.T) {
	checkRuns(t, []int{maxInRun})
	for _, v := range []int{-1, math.MinInt, maxInRun + 1, impl.MaxNum, math.MaxInt} {
		for _, list := range [][]int{{v}, {0, v}, {v, v}, {1, 2, 3, v, 5}} {
			b, code := impl.PutRuns(list)
			wantCode(t, "PutRuns", code, impl.ErrRange)
			zeroWithCode(t, b, code)
		}
	}
}

// Whatever is taken must be what PutRuns writes; that all it writes is taken, TestP2RunsComeBack says.
func TestP2NoOtherRunBytes(t *testing.T) {
	taken := 0
	everyList([]byte{0, 1, 2, 3, 4, 128}, 7, func(b []byte) {
		list, code := impl.GetRuns(b)
		if code == impl.OK {
			taken++
			if !bytes.Equal(runBytes(list), b) {
				t.Errorf("%v was taken as %v", b, list)
			}
		} else if code != impl.ErrForm || len(list) != 0 {
			t.Errorf("%v: %v, code %d", b, list, code)
		}
	})
	if taken < 100 {
		t.Errorf("only %d were taken", taken)
	}
}

func TestP2ChangedRunBytes(t *testing.T) {
	random := rand.New(rand.NewSource(2))
	for range 3000 {
		list := make([]int, random.Intn(12))
		for i := range list {
			list[i] = random.Intn(4)
			if random.Intn(5) == 0 {
				list[i] = random.Intn(maxInRun + 1)
			}
		}
		checkRuns(t, list)
		b := runBytes(list)
		b[random.Intn(len(b))] = byte(random.Intn(256))
		if got, code := impl.GetRuns(b); code == impl.OK && !bytes.Equal(runBytes(got), b) {
			t.Errorf("%v was taken as %v", b, got)
		}
		cut := runBytes(list)
		checkNoRuns(t, cut[:random.Intn(len(cut))], impl.ErrForm)
	}
}

func TestP1RunsMaxList(t *testing.T) {
	full := make([]int, impl.MaxList)
	checkRuns(t, full)
	for i := range full {
		full[i] = i * i
	}
	checkRuns(t, full)
	for _, list := range [][]int{append(full, 1), make([]int, impl.MaxList+1), append(full, -1), append(full, math.MaxInt)} {
		b, code := impl.PutRuns(list)
		wantCode(t, "PutRuns", code, impl.ErrLong)
		zeroWithCode(t, b, code)
	}
	checkNoRuns(t, runBytes(make([]int, impl.MaxList+1)), impl.ErrForm)
	checkNoRuns(t, runBytes(append(full, 1)), impl.ErrForm)
}

func TestP1RunsMaxBytes(t *testing.T) {
	checkNoRuns(t, noughts(impl.MaxBytes), impl.ErrForm)
	checkNoRuns(t, noughts(impl.MaxBytes+1), impl.ErrLong)
	checkNoRuns(t, append(runBytes([]int{1, 2}), noughts(impl.MaxBytes)...), impl.ErrLong)
}
