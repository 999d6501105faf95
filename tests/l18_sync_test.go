package tests

import (
	"fmt"
	"strings"
	"testing"
)

func TestP20Modes(t *testing.T) {
	for mode, want := range map[int]string{1: "ok 0 0 2", 2: "ok 0 0 1", 3: "ok 0 2048 2"} {
		checkPlay(t, "both have nothing", fmt.Sprintf("sync 0 1 %d => %s", mode, want), "same => yes", "show 0 => end", "show 1 => end")
	}
	// One operation of 17 bytes: by hash trees 8 bytes of the root and 16 of each of 8 levels below.
	for mode, want := range map[int]string{1: "ok 1 18 2", 2: "ok 1 153 10", 3: "ok 1 2065 2"} {
		for _, sync := range []string{"sync 0 1", "sync 1 0"} {
			checkPlay(t, "one has nothing", "set 0 1 a b => ok 1", fmt.Sprintf("%s %d => %s", sync, mode, want), "show 1 => map 1 a=b | end", "show 0 => map 1 a=b | end", "undo 1 => error 7", "undo 0 => ok 2")
		}
	}
	for mode, want := range map[int]string{1: "ok 0 2 2", 2: "ok 0 8 2", 3: "ok 0 2048 2"} {
		checkPlay(t, "both have the same", "set 0 1 a b => ok 1", "sync 0 1 1 => ok 1 18 2", fmt.Sprintf("sync 0 1 %d => %s", mode, want), fmt.Sprintf("sync 1 0 %d => %s", mode, want), "show 0 => map 1 a=b | end", "show 1 => map 1 a=b | end")
	}
	// The operation of actor 1 has 14 bytes, as its numbers have a run less; its vector has 2.
	for mode, want := range map[int]string{1: "ok 2 34 2", 2: "ok 2 303 10", 3: "ok 2 2079 2"} {
		for _, sync := range []string{"sync 0 1", "sync 1 0"} {
			checkPlay(t, "both have another one", "set 0 1 a b => ok 1", "set 1 1 c d => ok 1", fmt.Sprintf("%s %d => %s", sync, mode, want), "show 1 => map 1 a=b c=d | end", "show 0 => map 1 a=b c=d | end", "set 0 1 c e => ok 3", "add 1 5 1 => ok 3")
		}
	}
}

// Sketches tell only a few operations; where there are more, all is sent by vectors on top.
func TestP20SketchesThatTellTooLittle(t *testing.T) {
	long := strings.Repeat("abcdefghij", 10)
	rounds := map[string]int{}
	for size := 1; size <= 100; size += 1 + size/4 {
		got := checkWorld(t, "sketches", fmt.Sprintf("type 0 3 0 0 %s\nsync 0 1 3\nshow 1", long[:size]))
		told := strings.Split(got, "\n")
		rounds[told[1][len(told[1])-2:]]++
		if !strings.HasSuffix(got, "list 3 "+long[:size]+"\nend\n") {
			t.Errorf("%d: %s", size, brief(got))
		}
	}
	if rounds[" 2"] < 4 || rounds[" 4"] < 4 || len(rounds) != 2 {
		t.Errorf("rounds: %v", rounds)
	}
	checkPlay(t, "both", "type 0 3 0 0 "+long+" => ok 100", "type 1 3 0 0 "+long[:50]+" => ok 50", "sync 1 0 3 => ok 150 *", "show 1 => list 3 "+long[:50]+long+" | end", "show 0 => list 3 "+long+long[:50]+" | end", "sync 0 1 3 => ok 0 2048 2")
}

func TestP20ModesThatAreNone(t *testing.T) {
	for _, mode := range []string{"0", "-0", "4", "-1", "-2", "-3", "5", "9", "10", "999999999", "-999999999"} {
		checkPlay(t, "no mode", "sync 0 1 "+mode+" => error 4", "set 0 1 a b => ok 1", "sync 0 1 "+mode+" => error 4", "sync 1 0 "+mode+" => error 4", "show 1 => end", "sync 0 1 1 => ok 1 18 2", "sync 0 1 "+mode+" => error 4", "sync 0 0 "+mode+" => error 1", "cut 0 1 => ok", "sync 0 1 "+mode+" => error 12")
	}
}

// Nothing is told where there is a code: first of the devices, then of the two being one, then of the logs, then of the
// mode.
func TestP20CodesOfSync(t *testing.T) {
	things := map[string]string{"set ? 1 k v": "map 1 k=v", "add ? 1 5": "count 1 5", "type ? 1 0 0 c": "list 1 c"}
	for one, shown := range things {
		for other, shownThere := range things {
			if one == other {
				continue
			}
			lines := []string{strings.Replace(one, "?", "0", 1) + " => ok 1", strings.Replace(other, "?", "1", 1) + " => ok 1", "add 0 7 1 => ok 2"}
			for _, mode := range []string{"1", "2", "3", "0", "4"} {
				lines = append(lines, "sync 0 1 "+mode+" => error 8", "sync 1 0 "+mode+" => error 8")
			}
			lines = append(lines, "sync 0 0 1 => error 1", "undo 0 => ok 3", "undo 0 => ok 4", "undo 1 => ok 2", "sync 0 1 1 => error 8", "cut 0 1 => ok", "sync 0 1 1 => error 12", "sync 0 2 1 => ok 4 *", "sync 2 1 2 => error 8", "sync 3 1 2 => ok 2 *", "sync 3 0 9 => error 8", "same => no", "link 0 1 => ok", "sync 1 0 1 => error 8")
			checkPlay(t, "unlike things", lines...)
			checkPlay(t, "what stays", strings.Replace(one, "?", "0", 1)+" => ok 1", strings.Replace(other, "?", "1", 1)+" => ok 1", "sync 0 1 1 => error 8", "show 0 => "+shown+" | end", "show 1 => "+shownThere+" | end")
		}
	}
	for _, mode := range []string{"1", "2", "3"} {
		for word, answer := range map[string]string{letters(512): "ok 1024 *", letters(513): "error 11"} {
			checkLong(t, "too many together", "type 0 3 0 0 "+letters(512)+" => ok 512", fmt.Sprintf("type 1 3 0 0 %s => ok %d", word, len(word)), "sync 0 1 "+mode+" => "+answer, "sync 0 1 9 => "+map[bool]string{true: "error 4", false: "error 11"}[len(word) == 512])
		}
	}
	checkLong(t, "too many, and unlike", "type 0 3 0 0 "+letters(512)+" => ok 512", "type 1 4 0 0 "+letters(513)+" => ok 513", "sync 0 1 1 => error 11", "show 1 => list 4 "+letters(513)+" | end", "add 0 4 1 => ok 513", "sync 0 1 1 => error 8", "sync 1 0 9 => error 8", "show 1 => list 4 "+letters(513)+" | end")
}

func TestP20SyncWithItself(t *testing.T) {
	for d := range 4 {
		checkPlay(t, "itself", asDevices([]string{"sync D D 1 => error 1", "sync D D 3 => error 1", "sync D D 0 => error 1", "set D 1 a b => ok 1", "sync D D 2 => error 1", "cut D D => ok", "sync D D 1 => error 1", "link D D => ok", "sync D D 1 => error 1", "crash D 0 => ok", "sync D D 1 => error 12", "cut D D => ok", "sync D D 1 => error 12", "start D => ok", "sync D D 1 => error 1", "show D => map 1 a=b | end"}, d, 0, 0)...)
	}
}

// Two that are cut tell each other nothing, whoever asks and whoever cut them; all others do.
func TestP20Cuts(t *testing.T) {
	for d := range 4 {
		for e := range 4 {
			if d == e {
				continue
			}
			var open, shut []string
			for x := range 4 {
				for y := range 4 {
					told := "ok 0 0 2"
					if x == y {
						told = "error 1"
					}
					open = append(open, fmt.Sprintf("sync %d %d 1 => %s", x, y, told))
					if min(x, y) == min(d, e) && max(x, y) == max(d, e) {
						told = "error 12"
					}
					shut = append(shut, fmt.Sprintf("sync %d %d 1 => %s", x, y, told))
				}
			}
			cut, link := fmt.Sprintf("cut %d %d => ok", d, e), fmt.Sprintf("link %d %d => ok", d, e)
			lines := append([]string{link, cut}, shut...)
			lines = append(append(append(lines, cut, fmt.Sprintf("cut %d %d => ok", e, d)), shut...), fmt.Sprintf("link %d %d => ok", e, d))
			lines = append(append(append(lines, open...), cut, link, link), open...)
			lines = append(append(lines, "cut 0 0 => ok", "cut 1 1 => ok", "cut 2 2 => ok", "cut 3 3 => ok"), open...)
			checkPlay(t, "cut", lines...)
		}
	}
	checkPlay(t, "cut while off", "crash 0 0 => ok", "crash 1 0 => ok", "cut 0 1 => ok", "sync 0 1 1 => error 12", "start 0 => ok", "sync 0 1 1 => error 12", "start 1 => ok", "sync 0 1 1 => error 12", "crash 0 0 => ok", "link 1 0 => ok", "sync 0 1 1 => error 12", "start 0 => ok", "sync 0 1 1 => ok 0 0 2", "cut 2 3 => ok", "crash 2 0 => ok", "start 2 => ok", "sync 2 3 1 => error 12", "link 3 2 => ok", "sync 3 2 1 => ok 0 0 2")
	checkPlay(t, "by way of others", "set 0 1 a b => ok 1", "cut 0 1 => ok", "sync 0 1 1 => error 12", "sync 0 2 1 => ok 1 18 2", "sync 2 1 1 => ok 1 18 2", "show 1 => map 1 a=b | end", "add 1 2 5 => ok 2", "sync 2 1 1 => ok 1 *", "sync 2 0 2 => ok 1 *", "show 0 => map 1 a=b | count 2 5 | end", "sync 1 0 1 => error 12", "link 0 1 => ok", "sync 1 0 1 => ok 0 4 2")
	checkPlay(t, "all cut", "cut 0 1 => ok", "cut 0 2 => ok", "cut 3 0 => ok", "set 0 1 a b => ok 1", "sync 0 1 1 => error 12", "sync 0 2 1 => error 12", "sync 0 3 1 => error 12", "sync 1 2 1 => ok 0 0 2", "sync 2 3 1 => ok 0 0 2", "link 0 3 => ok", "sync 3 0 1 => ok 1 18 2", "sync 0 1 1 => error 12", "sync 2 0 1 => error 12", "sync 3 1 1 => ok 1 18 2")
}

func TestP20Shows(t *testing.T) {
	checkPlay(t, "each kind of thing", "show 0 => end", "add 0 100 -5 => ok 1", "set 0 7 b 2 => ok 2", "set 0 7 a 1 => ok 3", "type 0 50 0 0 \u00e9=% => ok 6", "add 0 1 0 => ok 7", "type 0 51 0 0 x => ok 8", "type 0 51 0 1 => ok 9", "set 0 8 k v => ok 10", "undo 0 => ok 11",
		"show 0 => count 1 0 | map 7 a=1 b=2 | map 8 | list 50 %C3%A9%3D%25 | list 51  | count 100 -5 | end", "show 1 => end", "sync 0 3 1 => ok 11 *", "show 3 => count 1 0 | map 7 a=1 b=2 | map 8 | list 50 %C3%A9%3D%25 | list 51  | count 100 -5 | end")
}

func TestP20Same(t *testing.T) {
	checkPlay(t, "who is on", "same => yes", "set 0 1 a b => ok 1", "same => no", "crash 0 0 => ok", "same => yes", "set 1 1 a b => ok 1", "same => no", "crash 1 0 => ok", "same => yes", "crash 2 0 => ok", "same => yes", "crash 3 0 => ok", "same => yes", "start 0 => ok", "same => yes", "start 1 => ok", "same => no", "start 2 => ok", "same => no",
		"sync 0 1 1 => ok 2 *", "same => no", "crash 2 0 => ok", "same => yes", "start 3 => ok", "same => no", "sync 3 0 1 => ok 2 *", "same => yes", "start 2 => ok", "same => no", "sync 2 3 1 => ok 2 *", "same => yes")
	for d := range 4 {
		checkPlay(t, "one alone has more", asDevices([]string{"set D 1 a b => ok 1", "same => no", "crash D 9 => ok", "same => yes", "start D => ok", "same => no"}, d, 0, 0)...)
		for e := range 4 {
			if d != e {
				checkPlay(t, "as many, but others", asDevices([]string{"set D 1 a b => ok 1", "set E 1 a b => ok 1", "same => no", "sync D E 1 => ok 2 *", "same => no"}, d, e, 0)...)
			}
		}
	}
	checkPlay(t, "as many, but others", "set 0 1 a b => ok 1", "set 1 1 a b => ok 1", "set 2 1 a b => ok 1", "set 3 1 a b => ok 1", "same => no", "sync 0 1 1 => ok 2 *", "sync 2 3 1 => ok 2 *", "same => no", "show 0 => map 1 a=b | end", "show 3 => map 1 a=b | end", "sync 0 2 1 => ok 4 *", "same => no", "sync 1 3 1 => ok 4 *", "same => yes")
	checkPlay(t, "the same document, but other operations", "add 0 1 5 => ok 1", "sync 0 1 1 => ok 1 *", "sync 0 2 1 => ok 1 *", "sync 0 3 1 => ok 1 *", "same => yes", "add 2 1 7 => ok 2", "undo 2 => ok 3", "show 2 => count 1 5 | end", "same => no", "add 1 1 0 => ok 2", "same => no")
}
