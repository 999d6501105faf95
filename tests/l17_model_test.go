package tests

import (
	"slices"
	"testing"

	"loop.example/g00028/impl"
)

func asks(column string, kind int, text string) impl.Cond {
	return impl.Cond{Column: column, Kind: kind, Text: text}
}

func viewAsking(conds ...impl.Cond) impl.View { return impl.View{Conds: conds} }

func arrives(key string, values ...string) impl.Change { return impl.Change{Key: key, New: values} }

func departs(key string, values ...string) impl.Change { return impl.Change{Key: key, Old: values} }

func alters(key string, old, next []string) impl.Change {
	return impl.Change{Key: key, Old: old, New: next}
}

func texts(list ...string) []string { return list }

func risesWord(a, b string) bool { return risesTo([]byte(a), []byte(b)) }

func inWordOrder(a, b string) int {
	switch {
	case risesWord(a, b):
		return -1
	case risesWord(b, a):
		return 1
	}
	return 0
}

func validValues(columns []impl.Column, values []string) bool {
	return len(values) == len(columns) && !slices.ContainsFunc(values, func(text string) bool { return len(text) > 200 })
}

// validRows holds each row against all that are ahead of it.
func validRows(columns []impl.Column, rows []impl.Row) bool {
	for i, row := range rows {
		if row.Key == "" || len(row.Key) > 200 || !validValues(columns, row.Values) {
			return false
		}
		if i > 0 && !risesWord(rows[i-1].Key, row.Key) {
			return false
		}
	}
	return validColumns(columns) && len(rows) < 2049
}

func columnOrNone(columns []impl.Column, name string) bool {
	for _, c := range columns {
		if c.Name == name {
			return true
		}
	}
	return name == ""
}

func validView(columns []impl.Column, v impl.View) bool {
	for _, c := range v.Conds {
		if c.Kind != 1 && c.Kind != 2 && c.Kind != 3 && c.Kind != 4 || !columnOrNone(columns, c.Column) || len(c.Text) > 200 {
			return false
		}
	}
	return len(v.Conds) < 9 && columnOrNone(columns, v.Group) && columnOrNone(columns, v.Link)
}

// rowWith looks through all rows for one.
func rowWith(rows []impl.Row, key string) (impl.Row, bool) {
	for _, row := range rows {
		if row.Key == key {
			return row, true
		}
	}
	return impl.Row{}, false
}

func validChanges(columns []impl.Column, rows []impl.Row, changes []impl.Change) bool {
	for i, c := range changes {
		row, isThere := rowWith(rows, c.Key)
		if isThere != (len(c.Old) > 0) || isThere && !slices.Equal(row.Values, c.Old) {
			return false
		}
		if len(c.New) > 0 && !validRows(columns, []impl.Row{{Key: c.Key, Values: c.New}}) {
			return false
		}
		if len(c.Old)+len(c.New) == 0 || slices.Equal(c.Old, c.New) {
			return false
		}
		if i > 0 && !risesWord(changes[i-1].Key, c.Key) {
			return false
		}
	}
	return true
}

func shownIn(columns []impl.Column, row impl.Row, name string) string {
	for i, c := range columns {
		if c.Name == name {
			return row.Values[i]
		}
	}
	return row.Key
}

func answersCond(value string, kind int, text string) bool {
	same := value == text
	begins := len(value) >= len(text) && value[:len(text)] == text
	return []bool{false, same, !same, risesWord(value, text), begins}[kind]
}

// viewLines writes down what the document says of valid rows and a valid view.
func viewLines(columns []impl.Column, rows []impl.Row, v impl.View) []string {
	var list, groups []string
	for _, row := range rows {
		met := 0
		for _, c := range v.Conds {
			if answersCond(shownIn(columns, row, c.Column), c.Kind, c.Text) {
				met++
			}
		}
		line, shows, isThere := row.Key+"=", row, true
		for i, value := range row.Values {
			if i > 0 {
				line += ","
			}
			line += value
		}
		if v.Link != "" {
			shows, isThere = rowWith(rows, shownIn(columns, row, v.Link))
			line += ">" + shows.Key
		}
		if met < len(v.Conds) || !isThere {
			continue
		}
		if v.Group != "" {
			groups = append(groups, shownIn(columns, shows, v.Group))
		} else {
			list = append(list, line)
		}
	}
	list = append(list, groupLines(groups)...)
	slices.SortFunc(list, inWordOrder)
	return list
}

func groupLines(groups []string) []string {
	var list []string
	for i, value := range groups {
		if slices.Contains(groups[:i], value) {
			continue
		}
		digits := ""
		for n := len(occursIn(groups, value)); n > 0; n /= 10 {
			digits = string(rune('0'+n%10)) + digits
		}
		list = append(list, value+":"+digits)
	}
	return list
}

func occursIn(list []string, text string) []int {
	var places []int
	for i, one := range list {
		if one == text {
			places = append(places, i)
		}
	}
	return places
}

// rowsBehind does changes, each by itself.
func rowsBehind(rows []impl.Row, changes []impl.Change) []impl.Row {
	list := copyRows(rows)
	for _, c := range changes {
		list = slices.DeleteFunc(list, func(row impl.Row) bool { return row.Key == c.Key })
		if len(c.New) > 0 {
			list = append(list, shown(c.Key, c.New...))
		}
	}
	slices.SortFunc(list, func(a, b impl.Row) int { return inWordOrder(a.Key, b.Key) })
	return list
}

// rowsBetween asks for each Key what it has on either side.
func rowsBetween(a, b []impl.Row) []impl.Change {
	var keys []string
	for _, row := range slices.Concat(a, b) {
		keys = append(keys, row.Key)
	}
	slices.SortFunc(keys, inWordOrder)
	var list []impl.Change
	for _, key := range slices.Compact(keys) {
		was, _ := rowWith(a, key)
		is, _ := rowWith(b, key)
		if !slices.Equal(was.Values, is.Values) {
			list = append(list, alters(key, was.Values, is.Values))
		}
	}
	return list
}

func sameChange(a, b impl.Change) bool {
	return a.Key == b.Key && slices.Equal(a.Old, b.Old) && slices.Equal(a.New, b.New)
}

// without takes each line of one list out of another one, once for each time that it is there.
func without(list, gone []string) []string {
	list = slices.Clone(list)
	for _, line := range gone {
		if at := slices.Index(list, line); at >= 0 {
			list = slices.Delete(list, at, at+1)
		}
	}
	return list
}

func viewCode(columns []impl.Column, rows []impl.Row, v impl.View) int {
	if !validRows(columns, rows) || !validView(columns, v) {
		return impl.ErrBad
	}
	return impl.OK
}

func wantView(t *testing.T, what string, columns []impl.Column, rows []impl.Row, v impl.View, want ...string) {
	t.Helper()
	got, code := impl.ViewOf(columns, rows, v)
	if code != impl.OK || !slices.Equal(got, want) {
		t.Errorf("%s: ViewOf %s %s: %s, code %d, want %s", what, brief(rows), brief(v), brief(got), code, brief(want))
	}
}

func checkNoView(t *testing.T, what string, columns []impl.Column, rows []impl.Row, v impl.View) {
	t.Helper()
	got, code := impl.ViewOf(columns, rows, v)
	wantCode(t, what+": ViewOf", code, impl.ErrBad)
	zeroWithCode(t, got, code)
}

// checkView holds what the program tells of rows against what is written down here.
func checkView(t *testing.T, what string, columns []impl.Column, rows []impl.Row, v impl.View) int {
	t.Helper()
	code := viewCode(columns, rows, v)
	if code != impl.OK {
		checkNoView(t, what, columns, rows, v)
		return code
	}
	wantView(t, what, columns, rows, v, viewLines(columns, rows, v)...)
	return code
}

func wantBetween(t *testing.T, what string, columns []impl.Column, a, b []impl.Row, want ...impl.Change) {
	t.Helper()
	got, code := impl.RowChanges(columns, a, b)
	if code != impl.OK || !slices.EqualFunc(got, want, sameChange) {
		t.Errorf("%s: RowChanges %s %s: %s, code %d, want %s", what, brief(a), brief(b), brief(got), code, brief(want))
	}
}

func checkNoneBetween(t *testing.T, what string, columns []impl.Column, a, b []impl.Row) {
	t.Helper()
	got, code := impl.RowChanges(columns, a, b)
	wantCode(t, what+": RowChanges", code, impl.ErrBad)
	zeroWithCode(t, got, code)
}

func checkBetween(t *testing.T, what string, columns []impl.Column, a, b []impl.Row) int {
	t.Helper()
	if !validRows(columns, a) || !validRows(columns, b) {
		checkNoneBetween(t, what, columns, a, b)
		return impl.ErrBad
	}
	wantBetween(t, what, columns, a, b, rowsBetween(a, b)...)
	return impl.OK
}

func wantFlow(t *testing.T, what string, columns []impl.Column, rows []impl.Row, changes []impl.Change, v impl.View, gone, come []string) {
	t.Helper()
	gotGone, gotCome, code := impl.ViewChanges(columns, rows, changes, v)
	if code != impl.OK || !slices.Equal(gotGone, gone) || !slices.Equal(gotCome, come) {
		t.Errorf("%s: ViewChanges %s %s %s: %s go, %s come, code %d, want %s and %s", what, brief(rows), brief(changes), brief(v), brief(gotGone), brief(gotCome), code, brief(gone), brief(come))
	}
}

func checkNoFlow(t *testing.T, what string, columns []impl.Column, rows []impl.Row, changes []impl.Change, v impl.View, want int) {
	t.Helper()
	gone, come, code := impl.ViewChanges(columns, rows, changes, v)
	wantCode(t, what+": ViewChanges", code, want)
	zeroWithCode(t, gone, code)
	zeroWithCode(t, come, code)
}

func flowCode(columns []impl.Column, rows []impl.Row, changes []impl.Change, v impl.View) int {
	switch {
	case len(changes) > 4096:
		return impl.ErrLong
	case viewCode(columns, rows, v) != impl.OK || !validChanges(columns, rows, changes):
		return impl.ErrBad
	}
	return impl.OK
}

// checkFlow holds what goes and comes against what is written down here, and looks by itself whether the promise holds:
// done on the lines of the rows it is the lines of the changed rows, and no line is in both.
func checkFlow(t *testing.T, what string, columns []impl.Column, rows []impl.Row, changes []impl.Change, v impl.View) int {
	t.Helper()
	code := flowCode(columns, rows, changes, v)
	if code != impl.OK {
		checkNoFlow(t, what, columns, rows, changes, v, code)
		return code
	}
	next := rowsBehind(rows, changes)
	before, behind := viewLines(columns, rows, v), viewLines(columns, next, v)
	wantFlow(t, what, columns, rows, changes, v, without(before, behind), without(behind, before))
	checkPromise19(t, what, columns, rows, next, changes, v)
	return code
}

func checkPromise19(t *testing.T, what string, columns []impl.Column, rows, next []impl.Row, changes []impl.Change, v impl.View) {
	t.Helper()
	before, _ := impl.ViewOf(columns, rows, v)
	behind, _ := impl.ViewOf(columns, next, v)
	gone, come, _ := impl.ViewChanges(columns, rows, changes, v)
	made := slices.Concat(without(before, gone), come)
	slices.SortFunc(made, inWordOrder)
	if len(next) <= 2048 && (!slices.Equal(made, behind) || len(made) != len(before)-len(gone)+len(come)) {
		t.Errorf("%s: %s make %s of %s, not %s", what, brief(changes), brief(made), brief(before), brief(behind))
	}
	if !slices.IsSortedFunc(gone, inWordOrder) || !slices.IsSortedFunc(come, inWordOrder) {
		t.Errorf("%s: %s and %s do not rise", what, brief(gone), brief(come))
	}
	for _, line := range gone {
		if slices.Contains(come, line) {
			t.Errorf("%s: %q goes and comes", what, line)
		}
	}
}
