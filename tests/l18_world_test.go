package tests

import (
	"fmt"
	"math/rand"
	"slices"
	"strings"
	"testing"

	"loop.example/g00028/impl"
)

// worldLine is a line of any kind, most of them good.
func worldLine(random *rand.Rand) string {
	d, e := random.Intn(4), random.Intn(4)
	switch random.Intn(20) {
	case 0, 1, 2, 3, 4, 5, 6, 7, 8:
		return ownLine(random, d)
	case 9:
		return fmt.Sprintf("type %d 3 0 %d %s", d, random.Intn(2), letters(random.Intn(6)))
	case 10, 11, 12, 13:
		return fmt.Sprintf("sync %d %d %d", d, e, 1+random.Intn(3))
	case 14:
		return fmt.Sprintf("sync %d %d %d", d, e, random.Intn(7)-1)
	case 15:
		return fmt.Sprintf("%s %d %d", []string{"cut", "link", "link"}[random.Intn(3)], d, e)
	case 16, 17:
		return fmt.Sprint("start ", d)
	case 18:
		return "same"
	}
	return fmt.Sprint("show ", d)
}

// spoiltLine is a line with a piece of it exchanged, doubled or gone; most of these are none.
func spoiltLine(random *rand.Rand, line string) string {
	words := strings.Split(line, " ")
	i := random.Intn(len(words))
	switch random.Intn(6) {
	case 0:
		words = slices.Delete(words, i, i+1)
	case 1:
		words = slices.Insert(words, i, words[i])
	case 2:
		words[i] = []string{"", "-1", "00", "-0", "4", "007", "+1", "0000000001", "x", "same", "\t", "\xff", "set", "-"}[random.Intn(14)]
	case 3:
		words[i] += string([]byte{byte(random.Intn(256))})
	case 4:
		words[i] = string([]byte{byte(random.Intn(256))}) + words[i]
	default:
		return strings.ReplaceAll(line, " ", "  ")
	}
	return strings.Join(words, " ")
}

// anyScript is a script of some lines; one of so many is spoilt.
func anyScript(random *rand.Rand, size, spoilt int) string {
	var lines []string
	for range size {
		line := worldLine(random)
		if random.Intn(spoilt) == 0 {
			line = spoiltLine(random, line)
		}
		lines = append(lines, line)
	}
	return strings.Join(lines, "\n")
}

func TestP20AnyScripts(t *testing.T) {
	answers := map[string]int{}
	for seed := range 250 {
		random := rand.New(rand.NewSource(int64(18000 + seed)))
		script := anyScript(random, 20+random.Intn(100), 3+seed%20)
		told := checkWorld(t, fmt.Sprint("seed ", seed), script)
		for _, line := range strings.Split(told, "\n") {
			if strings.HasPrefix(line, "error") || !strings.Contains(line, " ") {
				answers[line]++
			}
		}
	}
	for _, answer := range []string{"error 1", "error 3", "error 4", "error 7", "error 8", "error 12", "bad", "yes", "no", "end", "ok"} {
		if answers[answer] < 30 {
			t.Errorf("%s came %d times", answer, answers[answer])
		}
	}
}

// plainLine is a line that writes; by all devices each object is the same kind of thing, so that all can be told.
func plainLine(random *rand.Rand, d int) string {
	switch random.Intn(9) {
	case 0, 1:
		return fmt.Sprintf("set %d %d %c %c", d, 1+random.Intn(2), 'a'+random.Intn(3), 'p'+random.Intn(9))
	case 2:
		return fmt.Sprintf("add %d 5 %d", d, random.Intn(21)-10)
	case 3, 4:
		return fmt.Sprintf("type %d 3 0 0 %c%c", d, 'a'+random.Intn(26), 'a'+random.Intn(26))
	case 5, 6:
		return fmt.Sprintf("type %d 3 %d %d %c", d, random.Intn(6), random.Intn(3), 'A'+random.Intn(26))
	case 7:
		return fmt.Sprintf("type %d 4 0 %d xyz", d, random.Intn(3))
	}
	return fmt.Sprint("undo ", d)
}

// checkAllAlike asks that behind a script all devices have the same operations and show the same, and gives what they
// show.
func checkAllAlike(t *testing.T, what, script string) string {
	t.Helper()
	ends := "\nsame\nshow 0\nshow 1\nshow 2\nshow 3\n"
	told := checkWorld(t, what, script+ends)
	_, told, _ = strings.Cut(told, checkWorld(t, what, script))
	same, shown, _ := strings.Cut(told, "\n")
	if page := shown[:len(shown)/4]; same != "yes" || shown != strings.Repeat(page, 4) {
		t.Errorf("%s: %s, %s: %s", what, brief(script), same, brief(shown))
	}
	return shown[:len(shown)/4]
}

// tellings are rounds of telling each other behind which each has what all had.
func tellings() map[string][][2]int {
	return map[string][][2]int{
		"a row and back": {{0, 1}, {1, 2}, {2, 3}, {2, 1}, {1, 0}},
		"the other way":  {{3, 2}, {2, 1}, {1, 0}, {2, 1}, {3, 2}},
		"one of them":    {{2, 0}, {2, 1}, {2, 3}, {2, 0}, {2, 1}},
		"a ring twice":   {{0, 3}, {3, 1}, {1, 2}, {2, 0}, {0, 3}, {3, 1}, {1, 2}},
		"two and two":    {{0, 1}, {2, 3}, {0, 2}, {1, 3}},
		"two and others": {{3, 0}, {1, 2}, {0, 1}, {2, 3}},
		"all with all":   {{0, 1}, {0, 2}, {0, 3}, {1, 2}, {1, 3}, {2, 3}, {0, 1}, {0, 2}},
	}
}

// Devices that are all linked and tell each other come to the same operations and the same document, in each mode and
// in each order, whatever crashed or was cut meanwhile.
func TestP20AllComeToTheSame(t *testing.T) {
	for seed := range 12 {
		random := rand.New(rand.NewSource(int64(1850 + seed)))
		var lines []string
		for range 10 + random.Intn(50) {
			line := plainLine(random, random.Intn(4))
			switch random.Intn(12) {
			case 0, 1:
				line = fmt.Sprintf("sync %d %d %d", random.Intn(4), random.Intn(4), 1+random.Intn(3))
			case 2:
				line = fmt.Sprintf("cut %d %d", random.Intn(4), random.Intn(4))
			case 3:
				line = fmt.Sprintf("crash %d %d", random.Intn(4), random.Intn(50))
			case 4:
				line = fmt.Sprintf("start %d", random.Intn(4))
			}
			lines = append(lines, line)
		}
		for d := range 4 {
			lines = append(lines, fmt.Sprint("start ", d))
			for e := range d {
				lines = append(lines, fmt.Sprintf("link %d %d", d, e))
			}
		}
		shown := map[string]int{}
		for what, pairs := range tellings() {
			for mode := range 4 {
				script := slices.Clone(lines)
				for i, pair := range pairs {
					// Mode 0 stands for each in turn.
					script = append(script, fmt.Sprintf("sync %d %d %d", pair[0], pair[1], 1+(max(mode-1, 0)+i*max(1-mode, 0))%3))
				}
				shown[checkAllAlike(t, fmt.Sprintf("seed %d, %s, mode %d", seed, what, mode), strings.Join(script, "\n"))]++
			}
		}
		if len(shown) != 1 {
			t.Errorf("seed %d: unlike documents: %s", seed, brief(shown))
		}
	}
}

// The order in which two wrote in different devices does not matter, as long as each of them writes its own in order.
func TestP20OrderOfDevicesDoesNotMatter(t *testing.T) {
	for seed := range 20 {
		random := rand.New(rand.NewSource(int64(1870 + seed)))
		var own [4][]string
		for d := range own {
			for range random.Intn(8) {
				own[d] = append(own[d], plainLine(random, d))
			}
		}
		shown := map[string]int{}
		for range 6 {
			var lines []string
			at := [4]int{}
			for len(lines) < len(own[0])+len(own[1])+len(own[2])+len(own[3]) {
				if d := random.Intn(4); at[d] < len(own[d]) {
					lines = append(lines, own[d][at[d]])
					at[d]++
				}
			}
			shown[checkAllAlike(t, fmt.Sprint("seed ", seed), strings.Join(lines, "\n")+"\nsync 0 1 1\nsync 2 3 2\nsync 1 2 3\nsync 0 3 1")]++
		}
		if len(shown) != 1 {
			t.Errorf("seed %d: unlike documents: %s", seed, brief(shown))
		}
	}
}

// Only those that are linked come to the same; who is cut from all others keeps what it had.
func TestP20ThoseThatAreLinked(t *testing.T) {
	lines := []string{"set 0 1 a zero", "set 1 1 b one", "set 2 1 c two", "set 3 1 d three", "cut 3 0", "cut 3 1", "cut 3 2"}
	for _, pairs := range tellings() {
		script := slices.Clone(lines)
		for range 2 {
			for _, pair := range pairs {
				script = append(script, fmt.Sprintf("sync %d %d 1", pair[0], pair[1]))
			}
		}
		script = append(script, "sync 0 1 1", "sync 1 2 1", "sync 2 0 1", "show 0", "show 1", "show 2", "show 3", "same", "crash 3 0", "same")
		all := "map 1 a=zero b=one c=two\nend\n"
		if told := checkWorld(t, "linked", strings.Join(script, "\n")); !strings.HasSuffix(told, strings.Repeat(all, 3)+"map 1 d=three\nend\nno\nok\nyes\n") {
			t.Errorf("%s: %s", brief(script), brief(told))
		}
	}
}

// Logs that are long: devices that type much, and tell each other in every mode.
func TestP20LongWorlds(t *testing.T) {
	var lines []string
	for i := range 40 {
		lines = append(lines, fmt.Sprintf("type %d 3 0 %d %s", i%4, min(i/4, 3), strings.Repeat(string(rune('a'+i%26)), 15)), fmt.Sprintf("sync %d %d %d", i%4, (i+1+i%3)%4, 1+i%3))
	}
	for _, pairs := range [][2]int{{0, 1}, {1, 2}, {2, 3}, {2, 1}, {1, 0}} {
		lines = append(lines, fmt.Sprintf("sync %d %d 3", pairs[0], pairs[1]))
	}
	lines = append(lines, "same", "show 0", "show 1", "show 2", "show 3")
	script := strings.Join(lines, "\n")
	told := impl.RunScript(script)
	checkAnswer(t, "long", script, scriptOf(byCalls(), script))
	_, shown, _ := strings.Cut(told, "yes\n")
	if page := shown[:len(shown)/4]; len(page) < 400 || shown != strings.Repeat(page, 4) {
		t.Errorf("%s", brief(shown))
	}
}
