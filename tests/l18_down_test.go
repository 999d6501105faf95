package tests

import (
	"fmt"
	"slices"
	"strconv"
	"strings"
	"testing"
)

// asDevices puts the numbers of devices for D, E and F.
func asDevices(lines []string, d, e, f int) []string {
	words := strings.NewReplacer("D", strconv.Itoa(d), "E", strconv.Itoa(e), "F", strconv.Itoa(f))
	var list []string
	for _, line := range lines {
		list = append(list, words.Replace(line))
	}
	return list
}

// Every line of a device that is off, whatever else is right or wrong in it, answers that; only start is done.
func TestP20DeviceThatIsOff(t *testing.T) {
	down := []string{
		"set D 1 a b", "set D 101 a b", "set D 3 a b", "set D 1 " + letters(201) + " b", "add D 5 1", "add D 0 1", "add D 3 1", "type D 3 0 0 a", "type D 3 0 0", "type D 3 0 1", "type D 3 9 9 a", "type D 3 -1 0",
		"type D 3 0 0 \xff", "type D 101 0 0 a", "type D 9 0 0 " + letters(2049), "undo D", "show D", "sync D E 1", "sync E D 1", "sync D E 9", "sync E D -1", "sync D D 1", "sync D D 0", "crash D 0", "crash D 5", "crash D -5",
	}
	lines := []string{"type D 3 0 0 abc => ok 3", "set D 1 a one => ok 4", "crash D 0 => ok"}
	for _, line := range down {
		lines = append(lines, line+" => error 12")
	}
	lines = append(lines, "set E 1 b two => ok 1", "show E => map 1 b=two | end", "start D => ok", "show D => map 1 a=one | list 3 abc | end", "start D => error 1", "undo D => ok 5", "show D => map 1 | list 3 abc | end", "sync D D 1 => error 1")
	for d := range 4 {
		checkPlay(t, "off", asDevices(lines, d, (d+1)%4, 0)...)
	}
	checkPlay(t, "off with nothing", "crash 0 0 => ok", "undo 0 => error 12", "set 0 1 a b => error 12", "show 0 => error 12", "start 0 => ok", "undo 0 => error 7", "show 0 => end", "set 0 1 a b => ok 1")
	checkPlay(t, "bad all the same", "crash 0 0 => ok", "set 0 1 a => bad", "add 0 1 x => bad", "type 0 1 0 => bad", "show 0 0 => bad", "sync 0 4 1 => bad", "sync 0 1 x => bad", "sync 0 1 => bad", "crash 0 => bad", "undo 0 0 => bad", "start 0 0 => bad", "start 0 => ok")
}

func TestP20DeviceThatIsOn(t *testing.T) {
	checkPlay(t, "started again", "start 0 => error 1", "start 3 => error 1", "set 0 1 a b => ok 1", "start 0 => error 1", "show 0 => map 1 a=b | end", "crash 0 1 => ok", "start 0 => ok", "start 0 => error 1", "show 0 => map 1 a=b | end", "crash 0 1 => ok", "crash 0 1 => error 12", "start 0 => ok", "crash 0 0 => ok", "start 0 => ok", "show 0 => map 1 a=b | end")
}

// All that a line wrote was synced behind it, so it is there again behind a crash, whatever that leaves.
func TestP20Crashes(t *testing.T) {
	for _, n := range []string{"0", "-1", "-999999999", "1", "2", "5", "20", "21", "22", "23", "24", "50", "100", "1000", "999999999"} {
		crash := "crash 0 " + n + " => ok"
		checkPlay(t, "behind each line", crash, "start 0 => ok", "show 0 => end", "set 0 1 a b => ok 1", crash, "start 0 => ok", "show 0 => map 1 a=b | end", "add 0 2 5 => ok 2", crash, "start 0 => ok", "show 0 => map 1 a=b | count 2 5 | end",
			"type 0 3 0 0 abc => ok 5", crash, "start 0 => ok", "show 0 => map 1 a=b | count 2 5 | list 3 abc | end", "undo 0 => ok 6", crash, "start 0 => ok", "show 0 => map 1 a=b | count 2 5 | list 3 ab | end", "type 0 3 1 1 => ok 7", crash, "start 0 => ok",
			"undo 0 => ok 8", "undo 0 => ok 9", "show 0 => map 1 a=b | count 2 5 | list 3 ab | end", crash, "start 0 => ok", "show 0 => map 1 a=b | count 2 5 | list 3 ab | end", "type 0 3 0 9 => error 4", "set 0 3 a b => error 8", crash, "start 0 => ok", "show 0 => map 1 a=b | count 2 5 | list 3 ab | end")
		checkPlay(t, "several lines ahead", "set 0 1 a b => ok 1", "add 0 2 5 => ok 2", "type 0 3 0 0 abc => ok 5", "undo 0 => ok 6", crash, "start 0 => ok", "show 0 => map 1 a=b | count 2 5 | list 3 ab | end", "set 0 1 a c => ok 7", "sync 0 1 1 => ok 7 *")
		checkPlay(t, "behind a sync", "type 1 3 0 0 abc => ok 3", "set 0 1 a b => ok 1", "sync 0 1 1 => ok 4 *", crash, "crash 1 "+n+" => ok", "start 0 => ok", "start 1 => ok", "show 0 => map 1 a=b | list 3 abc | end", "show 1 => map 1 a=b | list 3 abc | end",
			"type 0 3 1 1 x => ok 6", "sync 1 0 2 => ok *", crash, "crash 1 "+n+" => ok", "start 1 => ok", "show 1 => map 1 a=b | list 3 axc | end", "start 0 => ok", "show 0 => map 1 a=b | list 3 axc | end")
	}
}

// What comes back is told and written on as if there had been no crash.
func TestP20CrashesAreNotSeen(t *testing.T) {
	lines := []string{"type 0 3 0 0 abc", "set 0 1 a b", "sync 0 1 1", "type 1 3 1 1 xy", "undo 1", "undo 0", "sync 1 0 2", "type 0 3 0 2 q", "add 1 5 7", "sync 0 1 3", "sync 2 1 1", "undo 1", "undo 1", "type 2 3 1 0 zz", "sync 2 0 1", "sync 1 0 2", "show 0", "show 1", "sync 2 1 1", "same"}
	want := checkWorld(t, "no crash", strings.Join(lines, "\n"))
	for at := range lines {
		for number := range 3 {
			script := slices.Insert(slices.Clone(lines), at, fmt.Sprintf("crash %d %d", number, 7*at), fmt.Sprint("start ", number))
			told := slices.Collect(strings.Lines(checkWorld(t, "a crash", strings.Join(script, "\n"))))
			behind := len(slices.Collect(strings.Lines(scriptOf(byCalls(), strings.Join(lines[:at], "\n")))))
			if got := strings.Join(slices.Delete(told, behind, behind+2), ""); got != want {
				t.Errorf("device %d crashed ahead of line %d: %s, want %s", number, at, brief(got), brief(want))
			}
		}
	}
}

// While one is off the others go on; it gets all when it is back.
func TestP20OthersGoOn(t *testing.T) {
	checkPlay(t, "others go on", "set 0 1 a one => ok 1", "sync 0 1 1 => ok 1 *", "sync 1 2 1 => ok 1 *", "crash 1 0 => ok", "sync 0 1 1 => error 12", "sync 2 1 2 => error 12", "sync 0 2 1 => ok 0 2 2", "set 0 1 a two => ok 2", "set 2 1 b x => ok 2", "sync 0 2 1 => ok 2 *", "same => no",
		"show 1 => error 12", "start 1 => ok", "show 1 => map 1 a=one | end", "sync 1 2 1 => ok 2 *", "show 1 => map 1 a=two b=x | end", "same => no", "sync 3 1 3 => ok 3 *", "same => yes")
	checkPlay(t, "a device that was off is not told", "crash 3 0 => ok", "set 0 1 a b => ok 1", "sync 0 1 1 => ok 1 *", "sync 0 2 1 => ok 1 *", "same => yes", "start 3 => ok", "same => no", "show 3 => end")
}
