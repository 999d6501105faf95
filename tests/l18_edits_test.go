package tests

import (
	"fmt"
	"strings"
	"testing"
)

func TestP20Sets(t *testing.T) {
	checkPlay(t, "one behind the other", "set 0 1 a one => ok 1", "set 0 1 b x => ok 2", "set 0 1 a two => ok 3", "set 0 100 a three => ok 4", "set 1 1 a four => ok 1",
		"show 0 => map 1 a=two b=x | map 100 a=three | end", "show 1 => map 1 a=four | end")
	long, longer := letters(200), letters(201)
	checkPlay(t, "long words", "set 0 1 "+long+" "+long+" => ok 1", "set 0 1 "+longer+" a => error 1", "set 0 1 a "+longer+" => error 1", "set 0 1 "+longer+" "+longer+" => error 1", "show 0 => map 1 "+long+"="+long+" | end")
	checkPlay(t, "no object", "set 0 0 a b => error 1", "set 0 101 a b => error 1", "set 0 -1 a b => error 1", "set 0 999999999 a b => error 1", "set 0 -999999999 a b => error 1", "show 0 => end", "set 0 1 a b => ok 1")
	checkPlay(t, "other letters", "set 0 1 \u00e9=% \xff => ok 1", "show 0 => map 1 %C3%A9%3D%25=%FF | end")
}

func TestP20Adds(t *testing.T) {
	checkPlay(t, "one behind the other", "add 0 1 5 => ok 1", "add 0 1 -7 => ok 2", "add 0 2 0 => ok 3", "add 0 100 999999999 => ok 4", "add 0 100 999999999 => ok 5", "show 0 => count 1 -2 | count 2 0 | count 100 1999999998 | end")
	checkPlay(t, "no object", "add 0 0 1 => error 1", "add 0 101 1 => error 1", "add 0 -1 1 => error 1", "show 0 => end", "add 0 1 -999999999 => ok 1", "show 0 => count 1 -999999999 | end")
}

// An object that is one thing is no other one; that is told by the writing, behind what the edit itself is told.
func TestP20Kinds(t *testing.T) {
	things := map[string]string{"set 0 1 k v": "map 1 k=v", "add 0 1 5": "count 1 5", "type 0 1 0 0 c": "list 1 c"}
	for first, shown := range things {
		for second := range things {
			if first != second {
				checkPlay(t, "another thing", first+" => ok 1", second+" => error 8", "show 0 => "+shown+" | end", second+" => error 8", "undo 0 => ok 2", second+" => error 8", strings.Replace(second, " 1 ", " 2 ", 1)+" => ok 3")
			}
		}
	}
	for _, first := range []string{"set 0 1 k v", "add 0 1 5"} {
		checkPlay(t, "no list", first+" => ok 1", "type 0 1 0 0 => ok 1", "type 0 1 0 0 abc => error 8", "type 0 1 1 0 abc => error 4", "type 0 1 0 1 => error 4", "type 0 1 0 0 \xff => error 3", "type 0 1 1 0 \xff => error 4", "type 0 1 0 0 "+letters(2049)+" => error 11", "type 0 1 0 0 "+letters(2048)+" => error 8", "undo 0 => ok 2", "undo 0 => error 7")
	}
	checkPlay(t, "no object", "type 0 101 0 0 => ok 0", "type 0 101 0 0 a => error 1", "type 0 0 0 0 a => error 1", "type 0 -1 0 0 abc => error 1", "type 0 101 1 0 a => error 4", "type 0 101 0 1 => error 4", "type 0 0 0 0 \xff => error 3", "type 0 101 0 0 "+letters(2048)+" => error 1", "type 0 101 0 0 "+letters(2049)+" => error 11", "show 0 => end")
}

func TestP20Types(t *testing.T) {
	checkPlay(t, "places", "type 0 3 0 0 bd => ok 2", "type 0 3 0 0 a => ok 3", "type 0 3 3 0 e => ok 4", "type 0 3 2 0 c => ok 5", "show 0 => list 3 abcde | end",
		"type 0 3 0 1 => ok 6", "type 0 3 3 1 => ok 7", "type 0 3 1 1 => ok 8", "show 0 => list 3 bd | end", "type 0 3 1 0 xyz => ok 11", "show 0 => list 3 bxyzd | end",
		"type 0 3 1 3 12 => ok 16", "show 0 => list 3 b12d | end", "type 0 3 0 4 => ok 20", "show 0 => list 3  | end", "type 0 3 0 0 new => ok 23", "show 0 => list 3 new | end", "type 0 3 3 0 er => ok 25", "show 0 => list 3 newer | end", "type 0 3 0 5 all => ok 33", "show 0 => list 3 all | end")
	wrong := []string{"-1 0", "0 -1", "-1 -1", "-1 1", "1 -1", "4 0", "0 4", "3 1", "1 3", "2 2", "999999999 0", "0 999999999", "999999999 999999999", "-999999999 0", "0 -999999999", "999999999 -999999999", "-999999999 999999999"}
	lines := []string{"type 0 3 0 0 abc => ok 3"}
	for _, place := range wrong {
		lines = append(lines, "type 0 3 "+place+" => error 4", "type 0 3 "+place+" x => error 4", "type 0 3 "+place+" \xff => error 4", "type 0 4 "+place+" x => error 4")
	}
	checkPlay(t, "wrong places", append(lines, "show 0 => list 3 abc | end", "type 0 3 3 0 => ok 3", "type 0 3 0 3 => ok 6", "show 0 => list 3  | end")...)
	checkPlay(t, "several bytes a character", "type 0 3 0 0 \u00e9\u20ac\U0001f600z => ok 4", "show 0 => list 3 %C3%A9%E2%82%AC%F0%9F%98%80z | end", "type 0 3 1 2 \u00e8 => ok 7", "show 0 => list 3 %C3%A9%C3%A8z | end", "type 0 3 4 0 => error 4", "type 0 3 3 0 ! => ok 8", "show 0 => list 3 %C3%A9%C3%A8z! | end")
	for _, text := range []string{"\xff", "a\xff", "\xffa", "\xc3", "ab\xe2\x82", "\xc0\x80", "\xed\xa0\x80", "\xf4\x90\x80\x80"} {
		checkPlay(t, "no letters", "type 0 3 0 0 abc => ok 3", "type 0 3 1 1 "+text+" => error 3", "show 0 => list 3 abc | end", "type 0 3 1 1 => ok 4", "show 0 => list 3 ac | end")
	}
	checkPlay(t, "two lists", "type 0 3 0 0 abc => ok 3", "type 0 4 0 0 xyz => ok 6", "type 0 3 1 1 - => ok 8", "type 0 4 2 1 => ok 9", "show 0 => list 3 a-c | list 4 xy | end")
}

// A text of many characters is one operation each; the bytes of the text are not bounded as those of a map are.
func TestP20LongTypes(t *testing.T) {
	long := strings.Repeat("abcdefghij", 30)
	checkLong(t, "long", "type 0 3 0 0 "+long+" => ok 300", "type 0 3 150 100 "+long+" => ok 700", "show 0 => list 3 "+long[:150]+long+long[250:]+" | end", "undo 0 => ok 701", "show 0 => list 3 "+long[:150]+long[:299]+long[250:]+" | end")
}

// An edit stands upon what is seen, also where others typed it, before or behind one's own.
func TestP20TypesAmongOthers(t *testing.T) {
	checkPlay(t, "among others", "type 0 3 0 0 ab => ok 2", "sync 0 1 1 => ok 2 *", "type 1 3 1 0 xy => ok 4", "type 0 3 2 0 c => ok 3", "sync 1 0 2 => ok *", "show 0 => list 3 axybc | end", "show 1 => list 3 axybc | end",
		"type 0 3 1 3 Z => ok 9", "show 0 => list 3 aZc | end", "type 1 3 0 5 123 => ok 13", "show 1 => list 3 123 | end", "sync 0 1 3 => ok 12 *", "show 0 => list 3 123Z | end", "show 1 => list 3 123Z | end",
		"type 2 3 0 0 m => ok 1", "sync 2 1 1 => ok 18 *", "show 2 => list 3 123mZ | end", "type 2 3 3 2 => ok 20", "sync 0 2 2 => ok *", "show 0 => list 3 123 | end", "sync 1 2 1 => ok 2 *", "sync 1 3 1 => ok 20 *", "same => yes", "show 3 => list 3 123 | end")
	// What one took away, the other one typed behind.
	checkPlay(t, "behind what is gone", "type 0 3 0 0 abc => ok 3", "sync 0 1 1 => ok 3 *", "type 0 3 1 1 => ok 4", "type 1 3 2 0 x => ok 4", "sync 0 1 1 => ok 2 *", "show 0 => list 3 axc | end", "type 0 3 1 1 y => ok 7", "show 0 => list 3 ayc | end", "sync 0 1 1 => ok 2 *", "show 1 => list 3 ayc | end")
	// Both took away the same one.
	checkPlay(t, "gone twice", "type 0 3 0 0 abc => ok 3", "sync 0 1 1 => ok 3 *", "type 0 3 1 1 => ok 4", "type 1 3 1 1 => ok 4", "sync 0 1 1 => ok 2 *", "show 0 => list 3 ac | end", "undo 0 => ok 6", "show 0 => list 3 abc | end", "undo 1 => ok 6", "sync 0 1 1 => ok 2 *", "show 1 => list 3 abbc | end")
}

// What is new has a Time above all that the device has, of all objects and of all actors.
func TestP20Times(t *testing.T) {
	// A stamp above {1, 0} could be {1, 1}; that one would be below {2, 0}.
	checkPlay(t, "above another actor's", "set 0 1 a x => ok 1", "sync 0 1 1 => ok 1 *", "set 1 1 a one => ok 2", "set 0 1 a zero => ok 2", "sync 0 1 1 => ok 2 *", "show 0 => map 1 a=one | end", "show 1 => map 1 a=one | end")
	checkPlay(t, "above other objects", "set 0 2 b x => ok 1", "add 0 3 1 => ok 2", "type 0 4 0 0 c => ok 3", "sync 0 1 1 => ok 3 *", "set 1 1 a one => ok 4", "set 0 1 a zero => ok 4", "sync 0 1 1 => ok 2 *", "show 0 => map 1 a=one | map 2 b=x | count 3 1 | list 4 c | end")
	checkPlay(t, "above one's own", "set 1 2 b x => ok 1", "set 1 1 a one => ok 2", "set 0 1 a zero => ok 1", "sync 0 1 1 => ok 3 *", "show 0 => map 1 a=one | map 2 b=x | end")
	checkPlay(t, "not above what others have", "set 1 1 a one => ok 1", "set 0 2 b x => ok 1", "set 0 1 a zero => ok 2", "sync 0 1 1 => ok 3 *", "show 0 => map 1 a=zero | map 2 b=x | end")
}

// The characters of one edit stand behind one another; those of a list that is old in a log that is not, too: their
// stamps are other ones there than in an edit of the list alone.
func TestP20EditsOfSeveral(t *testing.T) {
	checkPlay(t, "above others at the beginning", "add 0 9 1 => ok 1", "add 0 9 1 => ok 2", "add 0 9 1 => ok 3", "type 0 3 0 0 ab => ok 5", "type 1 3 0 0 xy => ok 2", "sync 0 1 1 => ok 7 *", "show 1 => list 3 abxy | count 9 3 | end")
	checkPlay(t, "an old list", "type 0 3 0 0 one => ok 3", "add 0 9 1 => ok 4", "set 0 8 a b => ok 5", "type 0 3 3 0 two => ok 8", "set 0 8 a c => ok 9", "type 0 3 1 4 1234 => ok 17", "show 0 => list 3 o1234o | map 8 a=c | count 9 1 | end",
		"sync 0 2 2 => ok 17 *", "show 2 => list 3 o1234o | map 8 a=c | count 9 1 | end", "type 2 3 3 0 xyz => ok 20", "sync 2 0 1 => ok 3 *", "show 0 => list 3 o12xyz34o | map 8 a=c | count 9 1 | end")
	checkPlay(t, "two at once in one place", "type 0 3 0 0 [] => ok 2", "sync 0 1 1 => ok 2 *", "sync 0 2 1 => ok 2 *", "add 1 9 1 => ok 3", "add 1 9 1 => ok 4", "type 0 3 1 0 abc => ok 5", "type 1 3 1 0 def => ok 7", "type 2 3 1 0 ghi => ok 5",
		"sync 0 1 1 => ok 8 *", "show 0 => list 3 [defabc] | count 9 2 | end", "sync 2 0 1 => ok 11 *", "sync 1 2 1 => ok 3 *", "show 2 => list 3 [defghiabc] | count 9 2 | end", "show 1 => list 3 [defghiabc] | count 9 2 | end")
	checkPlay(t, "two ends at once", "type 0 3 0 0 abcdef => ok 6", "sync 0 1 1 => ok 6 *", "type 0 3 0 3 ABC => ok 12", "type 1 3 3 3 DEF => ok 12", "sync 0 1 1 => ok 12 *", "show 0 => list 3 ABCDEF | end", "type 0 3 0 6 => ok 24", "show 0 => list 3  | end")
}

// Where a later operation is refused, those ahead of it stay, and are synced.
func TestP20EditsThatAreCutOff(t *testing.T) {
	full := letters(1024)
	for _, size := range []int{1025, 1500, 2048} {
		checkLong(t, "too long for the log", fmt.Sprintf("type 0 3 0 0 %s => error 11", letters(size)), "show 0 => list 3 "+full+" | end", "crash 0 0 => ok", "start 0 => ok", "show 0 => list 3 "+full+" | end", "sync 0 1 1 => ok 1024 *", "show 1 => list 3 "+full+" | end")
	}
	for _, size := range []int{2049, 5000} {
		checkLong(t, "too long for a list", fmt.Sprintf("type 0 3 0 0 %s => error 11", letters(size)), "show 0 => end", "type 0 3 0 0 a => ok 1", "crash 0 0 => ok", "start 0 => ok", "show 0 => list 3 a | end")
	}
	checkLong(t, "just long enough", "type 0 3 0 0 "+full+" => ok 1024", "type 0 3 0 0 => ok 1024", "type 0 3 0 0 a => error 11", "type 0 3 0 1 => error 11", "type 0 3 1024 1 => error 4", "show 0 => list 3 "+full+" | end")
	thousand := "type 0 3 0 0 " + strings.Repeat("abcdefghij", 100) + " => ok 1000"
	tens := strings.Repeat("abcdefghij", 98)
	checkLong(t, "within what comes", thousand, "type 0 3 10 5 "+strings.Repeat("0123456789", 3)+" => error 11", "show 0 => list 3 abcdefghij0123456789012345678fghij"+tens+" | end", "sync 0 1 1 => ok 1024 *", "show 1 => list 3 abcdefghij0123456789012345678fghij"+tens+" | end")
	checkLong(t, "within what goes", thousand, "type 0 3 10 30 new => error 11", "show 0 => list 3 abcdefghijefghij"+strings.Repeat("abcdefghij", 96)+" | end", "crash 0 0 => ok", "start 0 => ok", "show 0 => list 3 abcdefghijefghij"+strings.Repeat("abcdefghij", 96)+" | end")
	checkLong(t, "between both", thousand, "type 0 3 10 24 new => error 11", "show 0 => list 3 abcdefghijefghij"+strings.Repeat("abcdefghij", 96)+" | end", "undo 0 => error 11")
	checkLong(t, "refused by the list", thousand, "type 0 3 0 0 "+letters(1049)+" => error 11", "add 0 5 1 => ok 1001", "type 0 3 0 0 "+letters(1048)+" => error 11", "add 0 5 1 => error 11", "show 0 => list 3 "+letters(23)+strings.Repeat("abcdefghij", 100)+" | count 5 1 | end")
}

// What stands against an operation upon a log that is full.
func TestP20FullLogs(t *testing.T) {
	checkLong(t, "full", "type 0 3 0 0 "+letters(1022)+" => ok 1022", "add 0 5 1 => ok 1023", "set 0 6 a b => ok 1024", "add 0 5 1 => error 11", "set 0 6 a b => error 11", "type 0 3 0 0 a => error 11", "type 0 4 0 0 a => error 11", "undo 0 => error 11",
		"add 0 6 1 => error 8", "set 0 5 a b => error 8", "type 0 5 0 0 a => error 8", "add 0 3 1 => error 8", "set 0 7 "+letters(201)+" a => error 1", "add 0 101 1 => error 1", "type 0 3 1023 0 => error 4", "type 0 3 0 0 \xff => error 3", "type 0 3 0 0 => ok 1024", "undo 1 => error 7",
		"sync 0 1 1 => ok 1024 *", "undo 1 => error 7", "add 1 5 1 => error 11", "same => no", "sync 1 2 3 => ok 1024 *", "sync 2 3 2 => ok 1024 *", "same => yes", "crash 0 0 => ok", "undo 0 => error 12", "start 0 => ok", "undo 0 => error 11", "same => yes")
}

func TestP20Undoes(t *testing.T) {
	checkPlay(t, "nothing to undo", "undo 0 => error 7", "type 0 3 0 0 => ok 0", "undo 0 => error 7", "set 0 101 a b => error 1", "undo 0 => error 7", "set 1 1 a b => ok 1", "undo 0 => error 7", "sync 0 1 1 => ok 1 *", "undo 0 => error 7", "undo 1 => ok 2", "undo 1 => error 7", "show 1 => map 1 | end", "sync 0 1 1 => ok 1 *", "undo 0 => error 7")
	checkPlay(t, "settings", "set 0 1 a one => ok 1", "set 0 1 a two => ok 2", "undo 0 => ok 3", "show 0 => map 1 a=one | end", "set 0 1 a three => ok 4", "undo 0 => ok 5", "show 0 => map 1 a=one | end", "undo 0 => ok 6", "show 0 => map 1 | end", "undo 0 => error 7", "set 0 1 a four => ok 7", "show 0 => map 1 a=four | end")
	checkPlay(t, "numbers", "add 0 1 5 => ok 1", "add 0 1 -7 => ok 2", "undo 0 => ok 3", "show 0 => count 1 5 | end", "undo 0 => ok 4", "show 0 => count 1 0 | end", "undo 0 => error 7")
	checkPlay(t, "an edit of several", "type 0 3 0 0 abc => ok 3", "type 0 3 1 1 xy => ok 6", "show 0 => list 3 axyc | end", "undo 0 => ok 7", "show 0 => list 3 axc | end", "undo 0 => ok 8", "show 0 => list 3 ac | end", "undo 0 => ok 9", "show 0 => list 3 abc | end",
		"undo 0 => ok 10", "show 0 => list 3 ab | end", "undo 0 => ok 11", "undo 0 => ok 12", "undo 0 => error 7", "undo 0 => error 7")
	checkPlay(t, "one's own alone", "type 0 3 0 0 ab => ok 2", "sync 0 1 1 => ok 2 *", "type 1 3 1 0 x => ok 3", "sync 0 1 1 => ok 1 *", "undo 0 => ok 4", "show 0 => list 3 ax | end", "undo 1 => ok 4", "sync 0 1 1 => ok 2 *", "show 1 => list 3 a | end", "undo 1 => error 7", "undo 0 => ok 6", "show 0 => list 3  | end", "undo 0 => error 7")
}

// What undoes has the stamp that UndoOf gives it; its Time need not be above all others.
func TestP20TimesOfUndoing(t *testing.T) {
	// What comes back has {3, 1}, as the greatest stamp is {3, 0}, and stands behind what has {3, 2}.
	lines := []string{"type 1 3 0 0 x => ok 1", "sync 1 2 1 => ok 1 *", "type 1 3 0 1 => ok 2", "sync 0 1 1 => ok 2 *", "add 0 5 1 => ok 3", "sync 0 1 1 => ok 1 *", "undo 1 => ok 4", "show 1 => list 3 x | count 5 1 | end"}
	checkPlay(t, "as UndoOf says", append(lines, "add 2 6 1 => ok 2", "type 2 3 1 0 z => ok 3", "sync 1 2 1 => ok 5 *", "show 1 => list 3 zx | count 5 1 | count 6 1 | end")...)
	checkPlay(t, "above all", append(lines, "type 2 3 1 0 z => ok 2", "sync 1 2 1 => ok 4 *", "show 1 => list 3 xz | count 5 1 | end")...)
	// The next operation has {4, 1}, and stands between {4, 2} and {4, 0}.
	checkPlay(t, "the next one", append(lines, "type 1 3 0 0 b => ok 5", "type 0 3 0 0 c => ok 4", "add 2 6 1 => ok 2", "add 2 6 1 => ok 3", "type 2 3 0 0 a => ok 4", "sync 1 2 1 => ok 7 *", "sync 0 1 1 => ok 6 *", "show 0 => list 3 abcx | count 5 1 | count 6 2 | end")...)
	// Of actor 0 the Time is one more, where actor 1 has the greatest stamp.
	checkPlay(t, "of actor 0", "type 0 3 0 0 x => ok 1", "sync 0 1 1 => ok 1 *", "sync 0 2 1 => ok 1 *", "add 1 5 1 => ok 2", "type 0 3 0 1 => ok 2", "sync 0 1 1 => ok 2 *", "undo 0 => ok 4", "type 2 3 1 0 z => ok 2", "add 2 6 1 => ok 3", "type 2 3 1 0 y => ok 4", "sync 0 2 1 => ok *",
		"show 0 => list 3 yxz | count 5 1 | count 6 1 | end")
	checkPlay(t, "settings", "set 0 1 a x => ok 1", "sync 0 1 1 => ok 1 *", "set 1 1 b y => ok 2", "undo 1 => ok 3", "set 1 1 c one => ok 4", "set 0 1 c zero => ok 2", "set 0 1 c last => ok 3", "set 0 1 c latest => ok 4", "sync 0 1 1 => ok 6 *", "show 0 => map 1 a=x c=one | end")
}
