package tests

import (
	"fmt"
	"slices"
	"strings"
	"testing"

	"loop.example/g00028/impl"
)

func TestP11NothingAtAll(t *testing.T) {
	checkDoc(t, "nil", nil, "")
	checkDoc(t, "empty", []impl.Op{}, "")
	if list, code := impl.DocChanges(nil, vector(), vector()); len(list) != 0 || code != impl.OK {
		t.Errorf("%q, code %d", list, code)
	}
	if list, code := impl.LogAt(nil, vector()); len(list) != 0 || code != impl.OK {
		t.Errorf("%s, code %d", brief(list), code)
	}
	if list, code := impl.Blame(nil, 1); len(list) != 0 || code != impl.ErrKind {
		t.Errorf("%v, code %d", list, code)
	}
}

func TestP11OneObject(t *testing.T) {
	checkDoc(t, "a map", diary(0, 1, writes(1, "a", "one")), "map 1 a=one\n")
	checkDoc(t, "a list", diary(0, 1, types(1, 'x', start())), "list 1 x\n")
	checkDoc(t, "a counter", diary(0, 1, counts(1, 4)), "count 1 4\n")
	checkDoc(t, "the story", inOrder(story()), "map 1 b=two\nlist 3 y\ncount 5 4\n")
	for _, obj := range []int{1, 2, 8, 9, 10, 11, 19, 20, 50, 90, 98, 99, 100} {
		checkDoc(t, "a map", diary(15, 9, writes(obj, "a", "b")), fmt.Sprint("map ", obj, " a=b\n"))
		checkDoc(t, "a list", diary(15, 9, types(obj, 'x', start())), fmt.Sprint("list ", obj, " x\n"))
		checkDoc(t, "a counter", diary(15, 9, counts(obj, -3)), fmt.Sprint("count ", obj, " -3\n"))
	}
}

// Objects rise by number, not as texts, whoever came first.
func TestP11ObjectsRise(t *testing.T) {
	deeds := []impl.Op{counts(100, 1), writes(10, "k", "v"), types(9, 'x', start()), counts(99, 2), types(11, 'y', start()), writes(1, "k", "w"), counts(2, 3)}
	want := "map 1 k=w\ncount 2 3\nlist 9 x\nmap 10 k=v\nlist 11 y\ncount 99 2\ncount 100 1\n"
	everyOrder(deeds[:5], func(some []impl.Op) {
		all := slices.Concat(some, deeds[5:])
		checkText9(t, "of one actor", diary(3, 5, all...), want)
		checkText9(t, "of two", logOf(diary(7, 5, all[:3]...), diary(2, 50, all[3:]...)), want)
	})
	log := diary(3, 5, deeds...)
	checkDoc(t, "all", log, want)
	if got, code := impl.DocObjects(log); code != impl.OK || !slices.Equal(got, []int{1, 2, 9, 10, 11, 99, 100}) {
		t.Errorf("DocObjects %v, code %d", got, code)
	}
	twice := diary(3, 5, slices.Concat(deeds, deeds[3:], deeds[:2])...)
	if got, code := impl.DocObjects(twice); code != impl.OK || !slices.Equal(got, []int{1, 2, 9, 10, 11, 99, 100}) {
		t.Errorf("DocObjects %v, code %d, where some come twice", got, code)
	}
	// A log with every object that can be.
	var every []impl.Op
	var numbers []int
	text := ""
	for obj := 100; obj >= 1; obj-- {
		every = append(every, counts(obj, obj))
		numbers = append(numbers, 101-obj)
		text += fmt.Sprintf("count %d %d\n", 101-obj, 101-obj)
	}
	checkDoc(t, "every object", diary(0, 1, every...), text)
	if got, code := impl.DocObjects(diary(0, 1, every...)); code != impl.OK || !slices.Equal(got, numbers) {
		t.Errorf("DocObjects %v, code %d", got, code)
	}
}

// checkText9 asks for a document alone.
func checkText9(t *testing.T, what string, log []impl.Op, want string) {
	t.Helper()
	if got, code := impl.DocText(log); got != want || code != impl.OK {
		t.Errorf("%s: %s, code %d, want %s", what, brief(got), code, brief(want))
	}
}

// An object whose only operations tell nothing is there all the same, and DocObjects tells it also where the text
// cannot be told.
func TestP11ObjectsAreThere(t *testing.T) {
	log := diary(0, 1, writes(4, "k", ""), types(2, 'x', start()), takes(2, stamp(2, 0)), counts(7, 0), writes(9, "k", "v"), undoes(5, writes(9, "k", "")))
	checkDoc(t, "told empty", log, "list 2 \nmap 4\ncount 7 0\nmap 9\n")
	wrong := diary(0, 1, counts(8, 1), takes(3, stamp(1, 0)), writes(5, "", ""))
	checkNoDoc(t, "a list that is wrong", wrong, impl.ErrCause)
	if got, code := impl.DocObjects(wrong); code != impl.OK || !slices.Equal(got, []int{3, 5, 8}) {
		t.Errorf("DocObjects %v, code %d", got, code)
	}
}

func TestP11Keys(t *testing.T) {
	for _, c := range []struct {
		what string
		keys []string
		want string
	}{
		{"one", []string{"k"}, "map 1 k=0\n"},
		{"not in their order", []string{"b", "c", "a"}, "map 1 a=2 b=0 c=1\n"},
		{"an empty one", []string{""}, "map 1 =0\n"},
		{"an empty one ahead of all", []string{"a", ""}, "map 1 =1 a=0\n"},
		{"the beginning of another", []string{"ab", "a", "abc", "b"}, "map 1 a=1 ab=0 abc=2 b=3\n"},
		{"capital letters go ahead", []string{"a", "B", "b", "A"}, "map 1 A=3 B=1 a=0 b=2\n"},
		{"as texts, not as numbers", []string{"9", "10", "1"}, "map 1 1=2 10=1 9=0\n"},
		// The order is that of the Keys, not of what is told for them: % stands behind ! and ahead of all letters.
		{"a blank ahead of a !", []string{"!", " "}, "map 1 %20=1 !=0\n"},
		{"byte 255 behind z", []string{"\xff", "z", "\xc3\xa9", "\x00"}, "map 1 %00=3 z=1 %C3%A9=2 %FF=0\n"},
		{"what looks told already", []string{"%20", " "}, "map 1 %20=1 %2520=0\n"},
		{"with a =", []string{"a=", "a", "=", "a=b"}, "map 1 %3D=2 a=1 a%3D=0 a%3Db=3\n"},
		{"the same one twice", []string{"k", "l", "k"}, "map 1 k=2 l=1\n"},
	} {
		var deeds []impl.Op
		for i, key := range c.keys {
			deeds = append(deeds, writes(1, key, fmt.Sprint(i)))
		}
		checkDoc(t, c.what, diary(4, 1, deeds...), c.want)
	}
	long := strings.Repeat("k", 199)
	checkDoc(t, "the longest", diary(0, 1, writes(1, long+"b", "x"), writes(1, long+"a", letters(200)), writes(1, long, "z")),
		"map 1 "+long+"=z "+long+"a="+letters(200)+" "+long+"b=x\n")
}

// Two maps may have the same Keys; what is set in one is nothing to the other.
func TestP11KeysOfTwoMaps(t *testing.T) {
	log := logOf(diary(0, 1, writes(1, "k", "one"), writes(2, "k", "two")), diary(1, 1, writes(2, "k", "three"), writes(3, "k", "")))
	checkDoc(t, "the same Key", log, "map 1 k=one\nmap 2 k=two\nmap 3\n")
}

func TestP11EmptyValues(t *testing.T) {
	checkDoc(t, "one", diary(0, 1, writes(1, "k", "")), "map 1\n")
	checkDoc(t, "one among others", diary(0, 1, writes(1, "b", ""), writes(1, "a", "x"), writes(1, "c", "y")), "map 1 a=x c=y\n")
	checkDoc(t, "the first", diary(0, 1, writes(1, "a", ""), writes(1, "b", "x")), "map 1 b=x\n")
	checkDoc(t, "the last", diary(0, 1, writes(1, "a", "x"), writes(1, "b", "")), "map 1 a=x\n")
	checkDoc(t, "all", diary(0, 1, writes(1, "a", ""), writes(1, "b", ""), writes(1, "", "")), "map 1\n")
	checkDoc(t, "set empty later", diary(0, 1, writes(1, "a", "x"), writes(1, "a", "")), "map 1\n")
	checkDoc(t, "set again", diary(0, 1, writes(1, "a", "x"), writes(1, "a", ""), writes(1, "a", "y")), "map 1 a=y\n")
	// A setting to nothing is one like others: it counts if its stamp is the greatest.
	checkDoc(t, "another's, later", logOf(diary(0, 1, writes(1, "a", "x")), diary(1, 1, writes(1, "a", ""))), "map 1\n")
	checkDoc(t, "another's, earlier", logOf(diary(1, 1, writes(1, "a", "x")), diary(0, 1, writes(1, "a", ""))), "map 1 a=x\n")
}

// Of one Key the greatest stamp counts: neither the greatest Seq, nor who stands last in the log.
func TestP11GreatestStamp(t *testing.T) {
	three := diary(0, 1, writes(1, "k", "first"), writes(1, "k", "second"), writes(1, "k", "third"))
	checkDoc(t, "one actor's last", three, "map 1 k=third\n")
	checkDoc(t, "an earlier Seq of another actor", logOf(three, diary(3, 4, writes(1, "k", "other"))), "map 1 k=other\n")
	checkDoc(t, "a lower Time of another actor", logOf(three, diary(3, 2, writes(1, "k", "other"))), "map 1 k=third\n")
	checkDoc(t, "an earlier Seq of an actor ahead", logOf(diary(0, 9, writes(1, "k", "other")), diary(3, 1, three...)), "map 1 k=other\n")
	for low := range 16 {
		for high := low + 1; high < 16; high++ {
			log := logOf(diary(low, 7, writes(1, "k", "low")), diary(high, 7, writes(1, "k", "high")))
			checkText9(t, fmt.Sprint("equal Times of ", low, " and ", high), log, "map 1 k=high\n")
		}
	}
	// Three settings of three actors, with every small Time.
	for i := range 27 {
		log := logOf(diary(2, 1+i%3, writes(1, "k", "two")), diary(5, 1+i/3%3, writes(1, "k", "five")), diary(9, 1+i/9, writes(1, "k", "nine")))
		checkDoc(t, fmt.Sprint("Times ", i), log, "map 1 k="+map[int]string{2: "two", 5: "five", 9: "nine"}[lastOf(log)]+"\n")
	}
}

// lastOf gives the actor of the operation with the greatest stamp.
func lastOf(log []impl.Op) int {
	last := log[0]
	for _, op := range log {
		if op.Time > last.Time || op.Time == last.Time && op.Actor > last.Actor {
			last = op
		}
	}
	return last.Actor
}

func TestP11Lists(t *testing.T) {
	hello := typed(3, 0, 1, "hello")
	checkDoc(t, "typed", diary(0, 1, hello...), "list 3 hello\n")
	checkDoc(t, "one", diary(0, 1, hello[:1]...), "list 3 h\n")
	gone := slices.Concat(hello[:2], []impl.Op{takes(3, stamp(1, 0)), takes(3, stamp(2, 0))})
	checkDoc(t, "one taken away", diary(0, 1, gone[:3]...), "list 3 e\n")
	checkDoc(t, "all taken away", diary(0, 1, gone...), "list 3 \n")
	checkDoc(t, "taken away twice", diary(0, 1, slices.Concat(gone, gone[2:])...), "list 3 \n")
	checkDoc(t, "typed behind what is gone", diary(0, 1, slices.Concat(gone, []impl.Op{types(3, 'x', stamp(2, 0))})...), "list 3 x\n")
	checkDoc(t, "at the beginning", diary(0, 1, types(3, 'a', start()), types(3, 'b', start())), "list 3 ba\n")
	// Two lists, and the same stamps in another document's list.
	checkDoc(t, "two lists", diary(0, 1, types(3, 'a', start()), types(4, 'b', start()), types(3, 'c', stamp(1, 0)), types(4, 'd', stamp(2, 0))), "list 3 ac\nlist 4 bd\n")
	// Two words at one place stand each in one piece, that of the greater stamp ahead.
	log := logOf(diary(5, 1, typed(3, 5, 1, "five")...), diary(2, 1, typed(3, 2, 1, "two")...))
	checkDoc(t, "two words", log, "list 3 fivetwo\n")
	taken := logOf(log, diary(9, 40, takes(3, stamp(1, 5)), takes(3, stamp(3, 2))))
	checkDoc(t, "another takes of both", taken, "list 3 ivetw\n")
}

func TestP11Counters(t *testing.T) {
	big := impl.MaxTime
	for _, c := range []struct {
		want string
		ns   []int
	}{
		{"0", []int{0}}, {"0", []int{0, 0}}, {"1", []int{1}}, {"-1", []int{-1}}, {"0", []int{5, -5}}, {"-3", []int{2, -5}}, {"3", []int{-2, 5}}, {"10", []int{1, 2, 3, 4}},
		{"1000000000000", []int{big}}, {"-1000000000000", []int{-big}}, {"1000000000001", []int{big, 1}}, {"999999999999", []int{big, -1}},
		{"2000000000000", []int{big, big}}, {"-3000000000000", []int{-big, -big, -big}},
	} {
		var deeds []impl.Op
		for _, n := range c.ns {
			deeds = append(deeds, counts(5, n))
		}
		checkDoc(t, "by one", diary(1, 1, deeds...), "count 5 "+c.want+"\n")
		checkDoc(t, "by two", logOf(diary(1, 1, deeds[:1]...), diary(8, 1, deeds[1:]...)), "count 5 "+c.want+"\n")
	}
	checkDoc(t, "two counters", diary(1, 1, counts(5, 1), counts(6, 10), counts(5, 2), counts(6, 20)), "count 5 3\ncount 6 30\n")
	most := slices.Repeat([]impl.Op{counts(5, big)}, impl.MaxLog)
	checkText9(t, "the greatest sum", diary(1, 1, most...), "count 5 1024000000000000\n")
	least := slices.Repeat([]impl.Op{counts(5, -big)}, impl.MaxLog)
	checkText9(t, "the least sum", diary(1, 1, least...), "count 5 -1024000000000000\n")
}

// Each byte in Keys and Texts, by itself and among others.
func TestP11EveryByte(t *testing.T) {
	for b := range 256 {
		text := string([]byte{byte(b)})
		told := fmt.Sprintf("%%%02X", b)
		if b >= 33 && b <= 126 && b != '=' && b != '%' {
			told = text
		}
		checkText9(t, fmt.Sprint("Text of byte ", b), diary(0, 1, writes(1, "k", text)), "map 1 k="+told+"\n")
		checkText9(t, fmt.Sprint("Key of byte ", b), diary(0, 1, writes(1, text, "v")), "map 1 "+told+"=v\n")
		checkText9(t, fmt.Sprint("byte ", b, " among others"), diary(0, 1, writes(1, "<"+text+">", text+"x"+text+text)), "map 1 <"+told+">="+told+"x"+told+told+"\n")
	}
	for text, told := range map[string]string{
		"\x20": "%20", "\x21": "!", "\x7e": "~", "\x7f": "%7F", "=": "%3D", "<": "<", ">": ">", "%": "%25", "$": "$", "&": "&",
		"\x00": "%00", "\n": "%0A", "\xff": "%FF", "\x80": "%80", "\x1f": "%1F", "\t": "%09", "\xa0": "%A0", "\xab\xcd\xef": "%AB%CD%EF",
		"%41": "%2541", "a b": "a%20b", "k=v": "k%3Dv", "%3d": "%253d",
	} {
		checkDoc(t, "Text", diary(0, 1, writes(1, "k", text)), "map 1 k="+told+"\n")
		checkDoc(t, "Key", diary(0, 1, writes(1, text, "v")), "map 1 "+told+"=v\n")
		checkDoc(t, "both", diary(0, 1, writes(1, text+"a"+text, "b"+text)), "map 1 "+told+"a"+told+"=b"+told+"\n")
	}
}

// Every two bytes, and some three, so that beginnings of characters stand ahead of plain ones, and ends behind them.
func TestP11BytesThatAreNoUTF8(t *testing.T) {
	var texts []string
	for a := range 256 {
		for b := range 256 {
			texts = append(texts, string([]byte{byte(a), byte(b)}))
		}
	}
	everyList([]byte{'a', '%', 0x7f, 0x80, 0xbf, 0xc0, 0xc3, 0xe2, 0xed, 0xf0, 0xf4, 0xff}, 4, func(b []byte) { texts = append(texts, string(b)) })
	for len(texts) > 0 {
		size := min(1000, len(texts))
		var deeds []impl.Op
		want := ""
		for i, text := range texts[:size] {
			key := fmt.Sprintf("%04d", i)
			deeds = append(deeds, writes(1, key+text, text+"!"))
			want += " " + key + byNumbers(text) + "=" + byNumbers(text) + "!"
		}
		checkText9(t, "bytes", diary(0, 1, deeds...), "map 1"+want+"\n")
		texts = texts[size:]
	}
}

// The characters of a list are told by the bytes of their UTF-8.
func TestP11CharactersOfLists(t *testing.T) {
	for char, told := range map[int]string{
		0: "%00", 10: "%0A", 31: "%1F", 32: "%20", 33: "!", '%': "%25", '=': "%3D", '<': "<", 126: "~", 127: "%7F", 128: "%C2%80", 0xe9: "%C3%A9", 255: "%C3%BF", 0x7ff: "%DF%BF",
		0x800: "%E0%A0%80", 0x20ac: "%E2%82%AC", 0xd7ff: "%ED%9F%BF", 0xe000: "%EE%80%80", 0xfffd: "%EF%BF%BD", 0xffff: "%EF%BF%BF",
		0x10000: "%F0%90%80%80", 0x1f600: "%F0%9F%98%80", 0x10ffff: "%F4%8F%BF%BF",
	} {
		checkDoc(t, fmt.Sprint("character ", char), diary(0, 1, types(3, char, start())), "list 3 "+told+"\n")
		among := diary(0, 1, types(3, 'a', start()), types(3, char, stamp(1, 0)), types(3, 'b', stamp(2, 0)), types(3, char, stamp(3, 0)))
		checkDoc(t, fmt.Sprint("character ", char, " among others"), among, "list 3 a"+told+"b"+told+"\n")
	}
	checkDoc(t, "all sizes", diary(0, 1, typed(3, 0, 1, "a\u00e9\u20ac\U0001f600 =%\n")...), "list 3 a%C3%A9%E2%82%AC%F0%9F%98%80%20%3D%25%0A\n")
	for char := range 1024 {
		checkText9(t, fmt.Sprint("character ", char), diary(0, 1, types(3, char, start())), "list 3 "+byNumbers(string(rune(char)))+"\n")
	}
}

// A log as full as can be, of each thing alone.
func TestP11FullDocuments(t *testing.T) {
	word := strings.Repeat("\xff", 196)
	var writing []impl.Op
	var want strings.Builder
	want.WriteString("map 100")
	for i := range impl.MaxLog {
		key := fmt.Sprintf("%04d", i)
		writing = append(writing, writes(100, key+word, word+key))
		want.WriteString(" " + key + strings.Repeat("%FF", 196) + "=" + strings.Repeat("%FF", 196) + key)
	}
	slices.Reverse(writing)
	checkText9(t, "a map", diary(15, 1, writing...), want.String()+"\n")
	text := strings.Repeat("a\u20ac\U0001f600 ", impl.MaxLog/4)
	typing := diary(15, 1, typed(9, 15, 1, text)...)
	checkText9(t, "a list", typing, "list 9 "+byNumbers(text)+"\n")
	blame, code := impl.Blame(typing, 9)
	if code != impl.OK || !slices.Equal(blame, slices.Repeat([]int{15}, impl.MaxLog)) {
		t.Errorf("Blame: %s, code %d", brief(blame), code)
	}
	one := diary(15, 1, slices.Repeat([]impl.Op{writes(1, "k", "v")}, impl.MaxLog)...)
	checkText9(t, "one Key", one, "map 1 k=v\n")
	for _, size := range []int{impl.MaxLog - 1, impl.MaxLog} {
		log := fullLog(size)
		lines, code := linesOf(log)
		wantCode(t, "the test's own", code, impl.OK)
		checkText9(t, fmt.Sprint(size, " operations"), log, pageOf(lines))
	}
}
