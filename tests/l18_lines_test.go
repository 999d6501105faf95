package tests

import (
	"fmt"
	"maps"
	"slices"
	"strings"
	"testing"

	"loop.example/g00028/impl"
)

func TestP20Script(t *testing.T) {
	// The operation of the first line has 17 bytes, and the vector that counts it one.
	checkPlay(t, "all kinds of lines",
		"set 0 1 a b => ok 1", "sync 0 1 1 => ok 1 18 2", "show 1 => map 1 a=b | end", "same => no", "sync 1 2 1 => ok 1 18 2", "sync 2 3 1 => ok 1 18 2", "same => yes",
		"add 1 2 5 => ok 2", "type 2 3 0 0 hey => ok 4", "show 0 => map 1 a=b | end", "show 1 => map 1 a=b | count 2 5 | end", "show 2 => map 1 a=b | list 3 hey | end",
		"undo 2 => ok 5", "show 2 => map 1 a=b | list 3 he | end", "undo 3 => error 7", "cut 1 2 => ok", "sync 1 2 1 => error 12", "link 1 2 => ok",
		"crash 3 0 => ok", "sync 1 3 1 => error 12", "show 3 => error 12", "start 3 => ok", "show 3 => map 1 a=b | end", "whatever => bad", "same => no")
}

func TestP20TextLengths(t *testing.T) {
	for _, blank := range []string{" ", "\n"} {
		fill := strings.Repeat(blank, impl.MaxBytes)
		checkAnswer(t, "no words", fill, "")
		checkAnswer(t, "no words, and more bytes", fill+fill, "")
		checkAnswer(t, "one line", "same"+fill[4:], "yes\n")
		checkAnswer(t, "one line, one byte more", "same"+fill[3:], "")
		checkAnswer(t, "one line at the end", fill[4:]+"same", "yes\n")
		checkAnswer(t, "one line at the end, one byte more", fill[3:]+"same", "")
		checkAnswer(t, "a bad line", fill[4:]+"what", "bad\n")
		checkAnswer(t, "a bad line, one byte more", fill[3:]+"what", "")
	}
	checkAnswer(t, "no text", "", "")
	checkAnswer(t, "a long word", letters(impl.MaxBytes), "bad\n")
	checkAnswer(t, "a longer word", letters(impl.MaxBytes+1), "")
	checkAnswer(t, "a long text of a line", "set 0 1 a "+letters(impl.MaxBytes-10), "error 1\n")
	checkAnswer(t, "a longer text of a line", "set 0 1 a "+letters(impl.MaxBytes-9), "")
	checkAnswer(t, "many words", strings.Repeat("1 ", impl.MaxBytes/2), "bad\n")
	checkAnswer(t, "many words of one line", "same "+strings.Repeat("1 ", impl.MaxBytes/2-3), "bad\n")
	checkAnswer(t, "many bad lines", strings.Repeat("1\n", impl.MaxBytes/2), strings.Repeat("bad\n", impl.MaxBytes/2))
	checkAnswer(t, "many bad lines and one more", strings.Repeat("1\n", impl.MaxBytes/2)+"1", "")
}

// As many operations as can be, in as many bytes.
func TestP20LongestTextWithMostLines(t *testing.T) {
	for _, last := range []string{"show 0", "show 0\n"} {
		script := strings.Repeat("show 0\n", 199)
		bad := (impl.MaxBytes - len(script) - len(last)) / 2
		script += strings.Repeat("x\n", bad)
		script += strings.Repeat("\n", impl.MaxBytes-len(script)-len(last)) + last
		checkAnswer(t, "full", script, strings.Repeat("end\n", 199)+strings.Repeat("bad\n", bad)+"end\n")
		checkAnswer(t, "one byte more", script+" ", "")
		checkAnswer(t, "one operation more", strings.Replace(script, "x\nx\nx\nx\nx\n", "same\nsame\n", 1), "")
	}
}

func TestP20EndsOfLines(t *testing.T) {
	for script, want := range map[string]string{
		"\n": "", " ": "", " \n": "", "\n\n\n": "", " \n  \n   ": "", "same": "yes\n", "same\n": "yes\n", "same\n\n": "yes\n", "\nsame": "yes\n", "\n\nsame\n\n": "yes\n",
		"same\nsame": "yes\nyes\n", "same\nsame\n": "yes\nyes\n", "same\n\nsame": "yes\nyes\n", "same\n   \nsame\n ": "yes\nyes\n",
		"set 0 1 a b": "ok 1\n", "set 0 1 a b\n": "ok 1\n", "set 0 1 a\nb": "bad\nbad\n", "set 0\n1 a b": "bad\nbad\n", "what": "bad\n", "what\n": "bad\n", "what\n\nwhat": "bad\nbad\n",
		"show 0": "end\n", "show 0\n": "end\n", "show 0\nshow 0": "end\nend\n", "same\r\nsame": "bad\nyes\n", "same\r": "bad\n", "same\n\r\nsame": "yes\nbad\nyes\n",
		"type 0 3 0 0\nx": "ok 0\nbad\n", "type 0 3 0 0\n": "ok 0\n", "type 0 3 0 0 x": "ok 1\n", "type 0 3 0 0 x\n": "ok 1\n",
	} {
		checkAnswer(t, "ends", script, want)
		checkWorld(t, "ends", script)
	}
}

// goodLines has of each kind of line one that is done at the beginning of a script, and its answer there.
func goodLines() map[string]string {
	return map[string]string{
		"set 0 1 a b": "ok 1\n", "add 0 1 5": "ok 1\n", "type 0 1 0 0 ab": "ok 2\n", "type 0 1 0 0": "ok 0\n", "undo 0": "error 7\n", "sync 0 1 1": "ok 0 0 2\n",
		"cut 0 1": "ok\n", "link 0 1": "ok\n", "crash 0 0": "ok\n", "start 0": "error 1\n", "show 0": "end\n", "same": "yes\n",
	}
}

func TestP20Blanks(t *testing.T) {
	for line, want := range goodLines() {
		for _, wide := range []string{" ", "  ", "   ", strings.Repeat(" ", 1000)} {
			spread := strings.ReplaceAll(line, " ", wide)
			for _, script := range []string{spread, wide + spread, spread + wide, wide + spread + wide, wide + "\n" + spread + "\n" + wide} {
				checkAnswer(t, "blanks", script, want)
				checkWorld(t, "blanks", script)
			}
		}
	}
}

// Bytes other than 32 and 10 part no words and end no lines; they stand in words as all others do.
func TestP20OtherBytes(t *testing.T) {
	for b := range 256 {
		if b == 10 || b == 32 {
			continue
		}
		other := string([]byte{byte(b)})
		for line := range goodLines() {
			checkAnswer(t, "ahead of the first word", other+line, "bad\n")
			checkAnswer(t, "as the first word", other+" "+line, "bad\n")
			if line != "type 0 1 0 0" {
				checkAnswer(t, "one word more", line+" "+other, "bad\n")
			}
			for at, byteThere := range []byte(line) {
				if byteThere == ' ' {
					checkWorld(t, "instead of a blank", line[:at]+other+line[at+1:])
				}
				checkWorld(t, "within", line[:at]+other+line[at:]+"\nshow 0")
			}
		}
		shown := byNumbers(other)
		checkAnswer(t, "in Key and Text", "set 0 1 "+other+" t"+other+"\nshow 0", "ok 1\nmap 1 "+shown+"=t"+shown+"\nend\n")
		if b < 128 {
			checkAnswer(t, "in a list", "type 0 1 0 0 "+other+"\ntype 0 1 1 0 "+other+other+"\nshow 0", "ok 1\nok 3\nlist 1 "+shown+shown+shown+"\nend\n")
		} else {
			checkAnswer(t, "in a list", "type 0 1 0 0 "+other+"\nshow 0", "error 3\nend\n")
		}
	}
}

// Lines that answer bad, and those without words, are not counted; all others are, whatever they answer.
func TestP20MostLines(t *testing.T) {
	down := "crash 3 0\n"
	for line, want := range map[string]string{
		"same": "no\n", "show 0": "map 9 a=b\nend\n", "show 3": "error 12\n", "start 0": "error 1\n", "sync 0 0 1": "error 1\n", "cut 2 2": "ok\n", "link 1 2": "ok\n", "sync 0 3 1": "error 12\n",
		"set 0 101 a b": "error 1\n", "add 0 9 1": "error 8\n", "type 0 1 1 0": "error 4\n", "undo 1": "error 7\n", "crash 3 1": "error 12\n", "sync 1 2 9": "error 4\n", "type 0 1 0 0": "ok 1\n",
	} {
		for behind, more := range map[string]string{"": "", "\n": "", "\n\n  \n": "", "what\n": "bad\n", "same 1\n": "bad\n", "show 4\nadd 0 1\n\n": "bad\nbad\n"} {
			script := "set 0 9 a b\n" + down + strings.Repeat(line+"\n"+behind, 198)
			told := "ok 1\nok\n" + strings.Repeat(want+more, 198)
			checkAnswer(t, "as many as can be", script, told)
			checkAnswer(t, "and bad ones at the end", script+strings.Repeat(behind, 300), told+strings.Repeat(more, 300))
			checkAnswer(t, "and bad ones ahead", strings.Repeat(behind, 300)+script, strings.Repeat(more, 300)+told)
			for _, last := range []string{line, line + "\n", behind + line, line + "\n" + behind, "same", "show 2", "set 4 1 a b\nshow 2", "same\nsame\nsame"} {
				checkAnswer(t, "one more", script+last, "")
			}
			checkAnswer(t, "one more ahead", "same\n"+script, "")
			if t.Failed() {
				return
			}
		}
	}
	for line := range goodLines() {
		for count := 199; count <= 202; count++ {
			checkAnswer(t, "many", strings.Repeat(line+"\n", count), scriptOf(byCalls(), strings.Repeat(line+"\n", count)))
			if got := impl.RunScript(strings.Repeat(line+"\n", count)); (got == "") != (count > 200) {
				t.Errorf("%d lines %s: %s", count, line, brief(got))
			}
		}
	}
	everything := strings.Join(slices.Sorted(maps.Keys(goodLines())), "\n") + "\n"
	all := strings.Repeat(everything, 16) + strings.Repeat("what\n", 500) + strings.Repeat("show 3\n", 8)
	if got := checkWorld(t, "all kinds", all); strings.Count(got, "\n") < 700 {
		t.Errorf("only %d lines", strings.Count(got, "\n"))
	}
	checkAnswer(t, "all kinds and one more", all+"same", "")
}

// A word too few or too many makes a line of each kind bad, and so does another first word.
func TestP20Words(t *testing.T) {
	for line, want := range goodLines() {
		words := strings.Fields(line)
		for i := range words {
			fewer := strings.Join(slices.Delete(slices.Clone(words), i, i+1), " ")
			more := strings.Join(slices.Insert(slices.Clone(words), i, words[i]), " ")
			for _, script := range []string{fewer, more, more + " " + words[i]} {
				// A text may be missing, and what is a number can be a text.
				if strings.HasPrefix(script, "type ") {
					checkWorld(t, "other words", script)
				} else if script != "" {
					checkAnswer(t, "other words", script, "bad\n")
				}
			}
		}
		for size := 1; size < len(words); size++ {
			if short := strings.Join(words[:size], " "); short != "type 0 1 0 0" {
				checkAnswer(t, "too few", short, "bad\n")
			}
		}
		rest := strings.TrimPrefix(line, words[0])
		for _, first := range []string{strings.ToUpper(words[0]), strings.ToUpper(words[0][:1]) + words[0][1:], words[0][1:], words[0][:len(words[0])-1], words[0] + words[0], words[0] + ":", "-" + words[0], "bad", "ok", "end", "0", "OSet", "sets", "put"} {
			checkAnswer(t, "another first word", first+rest, "bad\n")
		}
		checkAnswer(t, "as it is", line, want)
	}
	checkPlay(t, "the text of type", "type 0 1 0 0 => ok 0", "type 0 1 0 0 a => ok 1", "type 0 1 0 0 a b => bad", "type 0 1 0 => bad", "type 0 1 => bad", "type 0 1 0 a => bad", "type 0 1 0 1 => ok 2", "type 0 1 0 0 0 => ok 3", "show 0 => list 1 0 | end")
	checkPlay(t, "texts that look like others", "set 0 1 set 0 => ok 1", "set 0 1 0 -1 => ok 2", "set 0 1 show show => ok 3", "show 0 => map 1 0=-1 set=0 show=show | end")
}

// numberWords are words that are numbers, with these, and wrongNumberWords words that are none.
func numberWords() map[string]int {
	return map[string]int{
		"0": 0, "1": 1, "7": 7, "12": 12, "-1": -1, "-0": 0, "00": 0, "-00": 0, "000000000": 0, "-000000000": 0, "007": 7, "-007": -7, "000000001": 1, "-000000001": -1,
		"100": 100, "0100": 100, "999999999": 999999999, "-999999999": -999999999, "123456789": 123456789, "099999999": 99999999, "-12": -12,
	}
}

func wrongNumberWords() []string {
	return []string{
		"-", "--1", "---", "-+1", "+1", "+0", "+", "1-", "1-1", "1+1", "a", "-a", "1a", "a1", "0x1", "0b1", "0o1", "1e1", "1.0", "1.", ".1", "1,0", "1_0", "_1", "1/", "/1", "1:", ":1", "\t1", "1\t", "1\r", "\x001", "1\x00",
		"1234567890", "1000000000", "9999999999", "-1234567890", "-1000000000", "0000000000", "-0000000000", "0000000001", "0123456789", "-0000000001", "4294967296", "4294967297",
		"9223372036854775807", "9223372036854775808", "18446744073709551616", "18446744073709551617", "-9223372036854775808", "340282366920938463463374607431768211457", strings.Repeat("0", 1000), strings.Repeat("9", 1000), "-" + strings.Repeat("1", 100),
		"\u0661", "\uff11", "\u00b2", "\u2212" + "1", "\xff", "1\xff", "Inf", "-Inf", "NaN", "nil", "true", "one", "''", "\"1\"", "(1)", "#1", "=1",
	}
}

func TestP20Numbers(t *testing.T) {
	for word, n := range numberWords() {
		checkPlay(t, "a sum", "add 0 1 "+word+" => ok 1", fmt.Sprintf("show 0 => count 1 %d | end", n))
		answer, shown := "error 1", "end"
		if n >= 1 && n <= 100 {
			answer, shown = "ok 1", fmt.Sprintf("map %d a=b | end", n)
		}
		checkPlay(t, "an object", "set 0 "+word+" a b => "+answer, "show 0 => "+shown)
		checkWorld(t, "an object", "add 0 "+word+" 3\ntype 0 "+word+" 0 0 abc\nshow 0")
		checkWorld(t, "a place", "type 0 1 0 0 abcdefghijklmnop\ntype 0 1 "+word+" 1 X\nshow 0")
		checkWorld(t, "gone", "type 0 1 0 0 abcdefghijklmnop\ntype 0 1 1 "+word+" X\nshow 0")
		checkWorld(t, "a mode", "set 0 1 a b\nsync 0 1 "+word+"\nshow 1")
		checkPlay(t, "a crash", "crash 0 "+word+" => ok", "show 0 => error 12")
	}
	for _, word := range wrongNumberWords() {
		for _, line := range []string{"set 0 ? a b", "add 0 ? 1", "add 0 1 ?", "type 0 ? 0 0", "type 0 1 ? 0", "type 0 1 0 ?", "type 0 ? 0 0 a", "type 0 1 ? 0 a", "type 0 1 0 ? a", "sync 0 1 ?", "crash 0 ?"} {
			checkPlay(t, "no number", strings.ReplaceAll(line, "?", word)+" => bad", "show 0 => end")
		}
	}
}

func TestP20Devices(t *testing.T) {
	places := []string{"set ? 1 a b", "add ? 1 5", "type ? 1 0 0 ab", "type ? 1 0 0", "undo ?", "sync ? 1 1", "sync 1 ? 1", "cut ? 1", "cut 1 ?", "link ? 1", "link 1 ?", "crash ? 0", "start ?", "show ?"}
	for _, line := range places {
		for _, word := range slices.Concat([]string{"-1", "4", "04", "000000004", "-4", "-2", "5", "10", "16", "999999999", "-999999999"}, wrongNumberWords()) {
			checkPlay(t, "no device", strings.ReplaceAll(line, "?", word)+" => bad", "same => yes", "show 0 => end")
		}
		for number, words := range [][]string{{"0", "00", "-0", "-00", "000000000", "-000000000"}, {"1", "01", "000000001"}, {"2", "02", "002"}, {"3", "03", "000000003"}} {
			want := checkWorld(t, "a device", strings.ReplaceAll(line, "?", words[0])+fmt.Sprintf("\nshow %d\nset %d 1 c d\nshow %d", number, number, number))
			for _, word := range words {
				checkAnswer(t, "a device", strings.ReplaceAll(line, "?", word)+fmt.Sprintf("\nshow %s\nset %s 1 c d\nshow %d", word, word, number), want)
			}
		}
	}
	for number := range 4 {
		checkPlay(t, "its own", fmt.Sprintf("set %d 1 a b => ok 1", number), fmt.Sprintf("show %d => map 1 a=b | end", number),
			fmt.Sprintf("show %d => end", (number+1)%4), fmt.Sprintf("show %d => end", (number+2)%4), fmt.Sprintf("show %d => end", (number+3)%4))
	}
}
