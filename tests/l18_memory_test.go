package tests

import (
	"fmt"
	"math/rand"
	"runtime"
	"slices"
	"strings"
	"sync"
	"testing"
	"time"
	"unsafe"

	"loop.example/g00028/impl"
)

// memoryScripts are scripts of all kinds, good ones and others.
func memoryScripts() []string {
	random := rand.New(rand.NewSource(181))
	list := []string{
		"", "\n", "same", "what", strings.Repeat("same\n", 200), strings.Repeat("same\n", 201), "set 0 1 a b\nshow 0", "crash 0 0\ncrash 1 0\ncrash 2 0\ncrash 3 0\nsame", "cut 0 1\ncut 2 3\nsync 0 1 1",
		"type 0 3 0 0 " + letters(300) + "\nsync 0 1 3\nsync 1 2 2\nsync 2 3 1\nshow 3", "set 0 1 a b\n" + strings.Repeat("what\n", 1000) + strings.Repeat("same\n", 200), letters(impl.MaxBytes + 1),
	}
	for range 30 {
		list = append(list, anyScript(random, 60, 8))
	}
	return list
}

// Nothing is kept from call to call: the same script answers the same, also where others ran between.
func TestP1ScriptsKeepNothing(t *testing.T) {
	want := map[string]string{}
	for _, script := range memoryScripts() {
		want[script] = scriptOf(byCalls(), script)
		checkAnswer(t, "once", script, want[script])
		checkAnswer(t, "twice", script, want[script])
	}
	for _, script := range memoryScripts() {
		for _, other := range memoryScripts() {
			checkAnswer(t, "between", other, want[other])
		}
		checkAnswer(t, "behind others", script, want[script])
		// What a script left off, cut or written is not so in the next one.
		checkAnswer(t, "anew", "same\nshow 0\nundo 0\nsync 0 1 1\nsync 2 3 1\nstart 0\nstart 3", "yes\nend\nerror 7\nok 0 0 2\nok 0 0 2\nerror 1\nerror 1\n")
	}
}

func TestP1ScriptsAtOnce(t *testing.T) {
	before := runtime.NumGoroutine()
	want := map[string]string{}
	for _, script := range memoryScripts() {
		want[script] = scriptOf(byCalls(), script)
	}
	var all sync.WaitGroup
	for range 10 {
		for script, told := range want {
			all.Add(1)
			go func() {
				defer all.Done()
				checkAnswer(t, "at once", script, told)
			}()
		}
	}
	all.Wait()
	checkGoroutines(t, "at once", before)
}

// checkGoroutines asks that no more goroutines are there than before; one that has ended may still be counted a while.
func checkGoroutines(t *testing.T, what string, before int) {
	t.Helper()
	for range 400 {
		if runtime.NumGoroutine() <= before {
			return
		}
		time.Sleep(5 * time.Millisecond)
	}
	t.Errorf("%s: %d goroutines, there were %d", what, runtime.NumGoroutine(), before)
}

// All devices have ended when a script has, however it ends.
func TestP1DevicesEnd(t *testing.T) {
	for _, script := range memoryScripts() {
		before := runtime.NumGoroutine()
		for range 20 {
			impl.RunScript(script)
		}
		checkGoroutines(t, brief(script), before)
	}
}

// The text is not written into, and what is answered shares no memory with it.
func TestP1TextsOfScripts(t *testing.T) {
	for _, script := range memoryScripts() {
		b, check := watched(t, []byte(script), ' ')
		told := impl.RunScript(unsafe.String(unsafe.SliceData(b), len(b)))
		check()
		kept := strings.Clone(told)
		scribble(b, '!')
		if told != kept {
			t.Errorf("%s: %s, was %s", brief(script), brief(told), brief(kept))
		}
		checkAnswer(t, "written over", script, kept)
	}
}

// No panic and an end for texts of any bytes, and of any words in any order.
func TestP1AnyTexts(t *testing.T) {
	random := rand.New(rand.NewSource(182))
	const pool = " \n\n  0123-setaddtypeundosynccutlinkcrashstartshowsame\x00\xff\t"
	for range 3000 {
		b := make([]byte, random.Intn(80))
		random.Read(b)
		checkWorld(t, "any bytes", string(b))
		for i := range b {
			b[i] = pool[random.Intn(len(pool))]
		}
		checkWorld(t, "any letters", string(b))
	}
	words := strings.Fields("set add type undo sync cut link crash start show same what 0 1 2 3 4 -1 -0 00 9 100 101 999999999 -999999999 1234567890 a b \xff \u00e9 \t + -")
	for range 1500 {
		var script strings.Builder
		for range random.Intn(120) {
			script.WriteString(words[random.Intn(len(words))] + []string{" ", " ", " ", "  ", "\n"}[random.Intn(5)])
		}
		checkWorld(t, "any words", script.String())
	}
	// The greatest numbers in each place.
	for _, n := range []string{"999999999", "-999999999", "0", "-1", "101", "1024", "1025", "2048", "2049"} {
		for _, m := range []string{"999999999", "-999999999", "0", "-1", "1", "3", "4", "1024", "2048"} {
			var script strings.Builder
			script.WriteString("type 0 3 0 0 abc\nset 1 1 a b\n")
			for _, form := range []string{"set 0 N a b", "add 0 N M", "add 0 5 N", "type 0 3 N M", "type 0 3 N M xyz", "type 0 N M M xyz", "type 0 N 0 M x", "sync 0 1 N", "crash 2 N", "start 2", "crash 0 M", "start 0", "show 0"} {
				script.WriteString(strings.NewReplacer("N", n, "M", m).Replace(form) + "\n")
			}
			checkWorld(t, "great numbers", script.String())
		}
	}
}

// The longest that there are come to an end soon.
func TestP1LongestScripts(t *testing.T) {
	full := fmt.Sprintf("type 0 1 0 0 %s\ntype 1 2 0 0 %s\n", letters(512), letters(512))
	for _, line := range []string{"sync 0 1 1", "sync 0 1 2", "sync 1 0 3", "show 0", "same", "undo 0", "type 0 1 0 0 " + letters(2048), "type 0 1 0 512", "type 1 2 100 300 " + letters(1500), "sync 0 2 3\nshow 2", "crash 0 100\nstart 0"} {
		lines := strings.Count(line, "\n") + 1
		told := impl.RunScript(full + strings.Repeat(line+"\n", 198/lines))
		if strings.Count(told, "\n") < 200 {
			t.Errorf("%s: %s", brief(line), brief(told))
		}
	}
	long := "type 0 1 0 0 " + letters(5000) + "\n"
	checkAnswer(t, "long lines", strings.Repeat(long, 200), strings.Repeat("error 11\n", 200))
	checkAnswer(t, "a long line", "type 0 1 0 0 "+letters(impl.MaxBytes-13), "error 11\n")
	checkAnswer(t, "many characters", "type 0 1 0 0 "+strings.Repeat("\U0001f600", impl.MaxBytes/4-4), "error 11\n")
	checkAnswer(t, "many lines without words", strings.Repeat(" \n", impl.MaxBytes/2), "")
	checkAnswer(t, "many bytes that are no letters", "type 0 1 0 0 "+string(slices.Repeat([]byte{0xff}, impl.MaxBytes-13)), "error 3\n")
	var script strings.Builder
	for i := range 200 {
		fmt.Fprintf(&script, "set %d %d %s%d %s\n", i%4, 1+i%100, letters(197), i, letters(200))
	}
	want := ""
	for i := range 200 {
		want += fmt.Sprintf("ok %d\n", i/4+1)
	}
	checkAnswer(t, "long words", script.String(), want)
}
