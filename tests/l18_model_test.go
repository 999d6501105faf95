package tests

import (
	"cmp"
	"fmt"
	"regexp"
	"slices"
	"strconv"
	"strings"
	"testing"
	"unicode/utf8"

	"loop.example/g00028/impl"
)

// A stroke is an operation that a device is to write: of nobody yet, or whole; it can follow the one ahead of it.
type stroke struct {
	op             impl.Op
	whole, follows bool
}

// Tools are what the chapters ahead answer to a world.
type tools struct {
	add   func(log, more []impl.Op) ([]impl.Op, []impl.Op, int)
	touch func(log []impl.Op, obj int, e edit) ([]stroke, int)
	undo  func(log []impl.Op, actor int) (impl.Op, int)
	tell  func(a, b []impl.Op, mode int) (impl.SyncOut, int)
	page  func(log []impl.Op) (string, int)
	box   func(op impl.Op) ([]byte, int)
	read  func(b []byte) ([]impl.Op, int, int)
}

// byCalls takes the project's calls of the chapters ahead.
func byCalls() tools {
	return tools{add: impl.LogAdd, touch: touchByCall, undo: impl.UndoOf, tell: impl.SyncRun, page: impl.DocText, box: impl.RecordBytes, read: impl.ReadRecords}
}

// byPrograms takes the other programs of the tests of the chapters ahead; they are slow with long logs.
func byPrograms() tools {
	page := func(log []impl.Op) (string, int) {
		lines, code := linesOf(log)
		return pageOf(lines), code
	}
	box := func(op impl.Op) ([]byte, int) { return recordOf(op), impl.OK }
	return tools{add: addOf, touch: touchOf, undo: undoingOf, tell: syncOf, page: page, box: box, read: readOf}
}

// onList gives a list's operations, and none of what is no list.
func onList(log []impl.Op, obj int) []impl.LOp {
	return listDeeds(slices.DeleteFunc(slices.Clone(log), func(op impl.Op) bool { return op.Kind == impl.OSet || op.Kind == impl.OAdd }), obj)
}

// touchByCall asks ListEdit; what stands behind a new operation there stands behind the one ahead.
func touchByCall(log []impl.Op, obj int, e edit) ([]stroke, int) {
	more, code := e.of(onList(log, obj))
	var strokes []stroke
	for i, op := range more {
		deed := impl.Op{Kind: op.Kind + 1, Obj: obj, N: op.Char, At: op.At}
		strokes = append(strokes, stroke{op: deed, follows: i > 0 && op.At == more[i-1].Id})
	}
	return strokes, code
}

// touchOf says by the document's words what an edit writes.
func touchOf(log []impl.Op, obj int, e edit) ([]stroke, int) {
	ops := onList(log, obj)
	seen := seenOf(row(ops))
	size := e.gone + utf8.RuneCountInString(e.text)
	switch {
	case e.place < 0 || e.gone < 0 || e.place+e.gone > len(seen):
		return nil, impl.ErrRange
	case !utf8.ValidString(e.text):
		return nil, impl.ErrForm
	case size > 0 && len(ops)+size > 2048:
		return nil, impl.ErrMany
	}
	var strokes []stroke
	for _, p := range seen[e.place : e.place+e.gone] {
		strokes = append(strokes, stroke{op: takes(obj, p.id)})
	}
	at := start()
	if e.place > 0 {
		at = seen[e.place-1].id
	}
	for i, char := range []rune(e.text) {
		strokes = append(strokes, stroke{op: types(obj, int(char), at), follows: i > 0})
	}
	return strokes, impl.OK
}

// A dweller is a device by another program than the project's.
type dweller struct {
	off    bool
	log    []impl.Op
	disk   []byte
	synced int
}

// A village is a world by another program than the project's.
type village struct {
	tools
	all   [4]dweller
	apart map[[2]int]bool
}

func (v *village) writes(d *dweller, op impl.Op) int {
	log, waits, code := v.add(d.log, []impl.Op{op})
	if code == impl.OK && len(waits) > 0 {
		return impl.ErrCause
	}
	if code == impl.OK && len(log) > len(d.log) {
		record, _ := v.box(op)
		d.log, d.disk = log, append(d.disk, record...)
	}
	return code
}

// nextHere gives an operation as the next one of a device: its Time is above all that the device has.
func nextHere(log []impl.Op, actor int, op impl.Op) impl.Op {
	op.Actor, op.Seq, op.Deps, op.Time = actor, seqsOf(log, actor)+1, knownIn(log), 1
	for _, other := range log {
		op.Time = max(op.Time, other.Time+1)
	}
	return op
}

func failed(code int) string { return fmt.Sprintf("error %d\n", code) }

// edits lets a device write strokes up to the first that is refused.
func (v *village) edits(number int, say func(log []impl.Op) ([]stroke, int)) string {
	d := &v.all[number]
	if d.off {
		return failed(impl.ErrDown)
	}
	strokes, code := say(d.log)
	var last impl.Stamp
	for _, s := range strokes {
		op := s.op
		if !s.whole {
			op = nextHere(d.log, number, op)
		}
		if s.follows {
			op.At = last
		}
		last = told8(op)
		if code = v.writes(d, op); code != impl.OK {
			break
		}
	}
	d.synced = len(d.disk)
	if code != impl.OK {
		return failed(code)
	}
	return fmt.Sprintf("ok %d\n", len(d.log))
}

func (v *village) tells(one, other, mode int) string {
	d, e := &v.all[one], &v.all[other]
	if d.off || e.off || v.apart[[2]int{one, other}] || v.apart[[2]int{other, one}] {
		return failed(impl.ErrDown)
	}
	if one == other {
		return failed(impl.ErrBad)
	}
	out, code := v.tell(d.log, e.log, mode)
	if code != impl.OK {
		return failed(code)
	}
	v.has(d, out.Log)
	v.has(e, out.Log)
	return fmt.Sprintf("ok %d %d %d\n", out.Ops, out.Bytes, out.Rounds)
}

// has lets a device have all of a log: what it lacked stands on its disk by Time, of equal ones by Actor.
func (v *village) has(d *dweller, log []impl.Op) {
	lacks := slices.DeleteFunc(slices.Clone(log), func(op impl.Op) bool { return op.Seq <= seqsOf(d.log, op.Actor) })
	slices.SortFunc(lacks, func(a, b impl.Op) int { return cmp.Or(cmp.Compare(a.Time, b.Time), cmp.Compare(a.Actor, b.Actor)) })
	for _, op := range lacks {
		record, _ := v.box(op)
		d.disk = append(d.disk, record...)
	}
	d.log, d.synced = log, len(d.disk)
}

func (v *village) crashes(number, n int) string {
	d := &v.all[number]
	if d.off {
		return failed(impl.ErrDown)
	}
	d.disk = d.disk[:min(len(d.disk), d.synced+max(n, 0))]
	d.off, d.log = true, nil
	return "ok\n"
}

func (v *village) starts(number int) string {
	d := &v.all[number]
	if !d.off {
		return failed(impl.ErrBad)
	}
	// All that stands there was written by a device, so all of it comes back.
	ops, size, _ := v.read(d.disk)
	log, waits, code := v.add(nil, ops)
	if size < len(d.disk) || len(waits) > 0 || code != impl.OK {
		panic("what was synced does not come back")
	}
	*d = dweller{log: log, disk: d.disk, synced: size}
	return "ok\n"
}

func (v *village) shows(number int) string {
	if v.all[number].off {
		return failed(impl.ErrDown)
	}
	page, code := v.page(v.all[number].log)
	if code != impl.OK {
		return failed(code)
	}
	return page + "end\n"
}

func (v *village) same() string {
	for _, d := range v.all {
		for _, e := range v.all {
			if !d.off && !e.off && !sameLog(d.log, e.log) {
				return "no\n"
			}
		}
	}
	return "yes\n"
}

// lineForms are the lines that there are: D is a device, N a number, T a text.
func lineForms() []string {
	return []string{"set D N T T", "add D N N", "type D N N N", "type D N N N T", "undo D", "sync D D N", "cut D D", "link D D", "crash D N", "start D", "show D", "same"}
}

// linePatterns are the patterns of these lines.
var linePatterns = func() (list []*regexp.Regexp) {
	words := strings.NewReplacer("D", `(-0{1,9}|0{0,8}[0-3])`, "N", `(-?[0-9]{1,9})`, "T", `([^ ]+)`, " ", " +")
	for _, form := range lineForms() {
		list = append(list, regexp.MustCompile("^ *"+words.Replace(form)+" *$"))
	}
	return list
}()

// answersTo answers a line of one of the forms.
func (v *village) answersTo(form string, words []string) string {
	n := func(i int) int {
		number, _ := strconv.Atoi(words[i])
		return number
	}
	one := func(op impl.Op) string {
		return v.edits(n(0), func([]impl.Op) ([]stroke, int) { return []stroke{{op: op}}, impl.OK })
	}
	switch strings.Fields(form)[0] {
	case "set":
		return one(writes(n(1), words[2], words[3]))
	case "add":
		return one(counts(n(1), n(2)))
	case "type":
		e := edit{actor: n(0), place: n(2), gone: n(3), text: strings.Join(words[4:], "")}
		return v.edits(n(0), func(log []impl.Op) ([]stroke, int) { return v.touch(log, n(1), e) })
	case "undo":
		return v.edits(n(0), func(log []impl.Op) ([]stroke, int) {
			op, code := v.undo(log, n(0))
			if code != impl.OK {
				return nil, code
			}
			return []stroke{{op: op, whole: true}}, code
		})
	case "sync":
		return v.tells(n(0), n(1), n(2))
	case "cut", "link":
		for _, pair := range [][2]int{{n(0), n(1)}, {n(1), n(0)}} {
			v.apart[pair] = form[0] == 'c' && pair[0] != pair[1]
		}
		return "ok\n"
	case "crash":
		return v.crashes(n(0), n(1))
	case "start":
		return v.starts(n(0))
	case "show":
		return v.shows(n(0))
	}
	return v.same()
}

// answersLine answers a line, and tells whether it is one of those that there are.
func (v *village) answersLine(line string) (string, bool) {
	for i, form := range lineForms() {
		if found := linePatterns[i].FindStringSubmatch(line); found != nil {
			return v.answersTo(form, found[1:]), true
		}
	}
	return "bad\n", false
}

// scriptOf says by the document's words what RunScript answers.
func scriptOf(with tools, text string) string {
	if len(text) > 1048576 {
		return ""
	}
	v := &village{tools: with, apart: map[[2]int]bool{}}
	told, good := "", 0
	for _, line := range strings.Split(text, "\n") {
		if strings.Trim(line, " ") == "" {
			continue
		}
		answer, fits := v.answersLine(line)
		if fits {
			good++
		}
		if good > 200 {
			return ""
		}
		told += answer
	}
	return told
}

// checkAnswer asks for an answer of RunScript that is written down.
func checkAnswer(t *testing.T, what, script, want string) {
	t.Helper()
	if got := impl.RunScript(script); got != want {
		at := 0
		for at < min(len(got), len(want)) && got[at] == want[at] {
			at++
		}
		from := max(0, at-40)
		t.Errorf("%s: %s: %d bytes, from %d on %s, want %d bytes, %s", what, brief(script), len(got), from, brief(got[min(from, len(got)):]), len(want), brief(want[min(from, len(want)):]))
	}
}

// checkWorld holds RunScript against the other program, upon the project's calls and upon other programs, and gives
// what is told.
func checkWorld(t *testing.T, what, script string) string {
	t.Helper()
	want := scriptOf(byPrograms(), script)
	checkAnswer(t, what, script, want)
	checkAnswer(t, what+", by the calls", script, scriptOf(byCalls(), script))
	return want
}

// played parts lines with answers, as in "show 0 => map 1 a=b | end", into a script and what it answers.
func played(lines []string) (string, string) {
	var script, told strings.Builder
	for _, line := range lines {
		asked, answer, _ := strings.Cut(line, " => ")
		script.WriteString(asked + "\n")
		if answer != "" {
			told.WriteString(strings.ReplaceAll(answer, " | ", "\n") + "\n")
		}
	}
	return script.String(), told.String()
}

// filled gives answers that are written down, with what another program tells where they end with a star.
func filled(want, told string) string {
	lines, others := strings.Split(want, "\n"), strings.Split(told, "\n")
	for i, line := range lines {
		head, open := strings.CutSuffix(line, "*")
		if open && i < len(others) && strings.HasPrefix(others[i], head) {
			lines[i] = others[i]
		}
	}
	return strings.Join(lines, "\n")
}

// checkPlay asks for answers that are written down behind the lines, and holds them against the other program.
func checkPlay(t *testing.T, what string, lines ...string) {
	t.Helper()
	script, want := played(lines)
	checkAnswer(t, what, script, filled(want, checkWorld(t, what, script)))
}

// checkLong is checkPlay with the project's other calls alone: the other programs are slow with logs that are full.
func checkLong(t *testing.T, what string, lines ...string) {
	t.Helper()
	script, want := played(lines)
	told := scriptOf(byCalls(), script)
	checkAnswer(t, what, script, filled(want, told))
	checkAnswer(t, what+", by the calls", script, told)
}
