package tests

import (
	"math"
	"slices"
	"strconv"
	"testing"

	"loop.example/g00623/impl"
)

// plainLayout returns the layout whose authoritative rows are list, which is valid, without the program.
func plainLayout(phase, at, mark int64, m marks, list []impl.Row) impl.Layout {
	l := impl.Layout{Phase: phase, At: at, Mark: mark, Old: plainPlaces(mark, list), New: plainParts(m, plainCut(list, 0, at))}
	if phase == impl.MoveDone {
		l.Old = placesOf(0)
	}
	return l
}

// plainNow returns the rows of the authoritative layout, without the program.
func plainNow(l impl.Layout) []impl.Row {
	if l.Phase == impl.MoveDone {
		return rowsOfParts(l.New)
	}
	return rowsOfFiles(l.Old)
}

// moved returns a valid layout with another phase and another At, without the program.
func moved(l impl.Layout, phase, at int64) impl.Layout {
	return plainLayout(phase, at, l.Mark, marksOf(l.New), plainNow(l))
}

// plainChange returns the layout after one change that it has room for, without the program.
func plainChange(l impl.Layout, changes []impl.Row) impl.Layout {
	list, m := plainNow(l), marksOf(l.New)
	for _, r := range changes {
		list = plainWrite(list, r)
		if 21*r.Loc+r.Sku < l.At {
			m[plainPart(r.Loc, r.Sku)] = l.Mark + 1
		}
	}
	return plainLayout(l.Phase, l.At, l.Mark+1, m, list)
}

// equalLayouts compares layouts without the program; an empty list and nil are equal.
func equalLayouts(a, b impl.Layout) bool {
	return a.Phase == b.Phase && a.At == b.At && a.Mark == b.Mark && equalPlaces(a.Old, b.Old) && equalParts(a.New, b.New)
}

func cloneLayout(l impl.Layout) impl.Layout {
	return impl.Layout{Phase: l.Phase, At: l.At, Mark: l.Mark, Old: clonePlaces(l.Old), New: cloneParts(l.New)}
}

func wantLayout(t *testing.T, what string, got impl.LayoutResult, want impl.Layout) {
	t.Helper()
	if got.Code != impl.OK || !equalLayouts(got.Layout, want) {
		t.Errorf("%s: got %+v, want %+v", what, got, want)
	}
}

// wantNoLayout checks that a code comes with a zero layout.
func wantNoLayout(t *testing.T, what string, got impl.LayoutResult, code int64) {
	t.Helper()
	if got.Code != code || !equalLayouts(got.Layout, impl.Layout{}) {
		t.Errorf("%s: got %+v, want code %d and a zero layout", what, got, code)
	}
}

// someRows have the keys 3, 19, 20, 47, 48 and 83; the parts of these are 2, 0, 1, 2, 0 and 2.
func someRows() []impl.Row {
	return rows(rowAt(3, 5, 1), rowAt(19, 7, 0), rowAt(20, 9, 9), rowAt(47, 4, 1), rowAt(48, 2, 0), rowAt(83, 9999, 9999))
}

// anyAt has each key of someRows, and what is beside it, and the ends.
var anyAt = []int64{0, 1, 2, 3, 4, 18, 19, 20, 21, 46, 47, 48, 49, 82, 83, 84, 99, 100}

// goodLayouts has layouts of each phase, with every At in MoveCopy that a key of someRows is beside.
func goodLayouts() map[string]impl.Layout {
	list, m, full := someRows(), marks{4, 0, 5}, manyRows(12)
	good := map[string]impl.Layout{
		"new":                        plainLayout(impl.MoveIdle, 0, 0, marks{}, nil),
		"new, not nil":               {Phase: impl.MoveIdle, Old: placesOf(0, rows(), rows(), rows(), rows()), New: []impl.Part{{Rows: rows()}, {Rows: rows()}, {Rows: rows()}}},
		"idle":                       plainLayout(impl.MoveIdle, 0, 5, marks{}, list),
		"idle, parts with Marks":     plainLayout(impl.MoveIdle, 0, 5, m, list),
		"idle, full":                 plainLayout(impl.MoveIdle, 0, 12, marks{}, full),
		"idle, the greatest Mark":    plainLayout(impl.MoveIdle, 0, 999, marks{999, 999, 999}, list),
		"copy, full":                 plainLayout(impl.MoveCopy, 5, 12, m, full),
		"copy, no rows":              plainLayout(impl.MoveCopy, 50, 0, marks{}, nil),
		"copy, the greatest Mark":    plainLayout(impl.MoveCopy, 48, 999, m, list),
		"checked":                    plainLayout(impl.MoveChecked, 100, 5, m, list),
		"checked, no rows":           plainLayout(impl.MoveChecked, 100, 1, marks{}, nil),
		"checked, full":              plainLayout(impl.MoveChecked, 100, 998, m, full),
		"checked, the greatest Mark": plainLayout(impl.MoveChecked, 100, 999, m, list),
		"done":                       plainLayout(impl.MoveDone, 100, 5, m, list),
		"done, all Marks":            plainLayout(impl.MoveDone, 100, 5, marks{5, 5, 5}, list),
		"done, no rows":              plainLayout(impl.MoveDone, 100, 0, marks{}, nil),
		"done, full":                 plainLayout(impl.MoveDone, 100, 12, m, full),
		"done, the greatest Mark":    plainLayout(impl.MoveDone, 100, 999, m, list),
	}
	for _, at := range anyAt {
		good["copy, At "+strconv.FormatInt(at, 10)] = plainLayout(impl.MoveCopy, at, 5, m, list)
	}
	return good
}

type faultyLayout struct {
	what   string
	layout impl.Layout
	code   int64
}

// eachPhase has a layout with rows in each phase, the first one in MoveIdle.
func eachPhase() []impl.Layout {
	list, m := someRows(), marks{4, 0, 5}
	return []impl.Layout{
		plainLayout(impl.MoveIdle, 0, 5, m, list),
		plainLayout(impl.MoveCopy, 20, 5, m, list),
		plainLayout(impl.MoveChecked, 100, 5, m, list),
		plainLayout(impl.MoveDone, 100, 5, m, list),
	}
}

// faultyNumbers has layouts with Phase, At or Mark out of range, alone and before all other faults.
func faultyNumbers() []faultyLayout {
	var list []faultyLayout
	add := func(what string, n int64, l impl.Layout) {
		worse := l
		worse.Old, worse.New = impl.Places{}, nil
		what += " " + strconv.FormatInt(n, 10)
		list = append(list, faultyLayout{what, l, impl.ErrRange}, faultyLayout{what + " before places", worse, impl.ErrRange})
	}
	for _, l := range eachPhase() {
		for _, n := range []int64{-1, 0, 5, 6, math.MinInt64, math.MaxInt64} {
			other := l
			other.Phase = n
			add("Phase", n, other)
		}
		for _, n := range []int64{-1, 101, math.MinInt64, math.MaxInt64} {
			other := l
			other.At = n
			add("At", n, other)
		}
		for _, n := range []int64{-1, 1000, math.MinInt64, math.MaxInt64} {
			other := l
			other.Mark = n
			other.Old.Mark = 5
			add("Mark", n, other)
		}
	}
	return append(list, faultyLayout{"zero", impl.Layout{}, impl.ErrRange})
}

// faultyFields has layouts with each fault of places and parts, and for their order.
func faultyFields() []faultyLayout {
	var list []faultyLayout
	few := faultyParts()[:10]
	for _, l := range eachPhase() {
		phase := "phase " + strconv.FormatInt(l.Phase, 10) + ", "
		for _, c := range faultyPlaces() {
			other := l
			other.Old = c.places
			list = append(list, faultyLayout{phase + "places: " + c.what, other, c.code})
		}
		for _, c := range faultyParts() {
			other := l
			other.New = c.parts
			list = append(list, faultyLayout{phase + "parts: " + c.what, other, c.code})
			other.At = 33
			list = append(list, faultyLayout{phase + "parts before At: " + c.what, other, c.code})
		}
	}
	for _, c := range faultyPlaces() {
		for _, d := range few {
			other := impl.Layout{Phase: impl.MoveDone, At: 7, Mark: 5, Old: c.places, New: d.parts}
			list = append(list, faultyLayout{"places before parts: " + c.what, other, c.code})
		}
	}
	return list
}

// faultyAts has layouts whose At does not fit their phase, alone and before what is checked later.
func faultyAts() []faultyLayout {
	var list []faultyLayout
	for _, l := range eachPhase() {
		for _, at := range append(anyAt, 33) {
			if l.Phase == impl.MoveCopy || at == l.At {
				continue
			}
			what := "phase " + strconv.FormatInt(l.Phase, 10) + ", At " + strconv.FormatInt(at, 10)
			other, fit, mark := cloneLayout(l), cloneLayout(l), cloneLayout(l)
			other.At, fit.At, mark.At = at, at, at
			// With these rows all but the At would fit.
			fit.New = plainParts(marks{}, plainCut(someRows(), 0, at))
			mark.Old.Mark++
			list = append(list, faultyLayout{what, other, impl.ErrForm}, faultyLayout{what + ", rows", fit, impl.ErrForm}, faultyLayout{what + " before Marks", mark, impl.ErrForm})
		}
	}
	return list
}

// faultyStates has layouts whose Marks or rows do not fit each other.
func faultyStates() []faultyLayout {
	var list []faultyLayout
	add := func(what string, l impl.Layout, change func(l *impl.Layout)) {
		other := cloneLayout(l)
		change(&other)
		list = append(list, faultyLayout{"phase " + strconv.FormatInt(l.Phase, 10) + ", " + what, other, impl.ErrState})
	}
	m := marks{4, 0, 5}
	for _, l := range eachPhase() {
		for _, mark := range []int64{0, 1, 4, 5, 6, 999} {
			if mark != l.Old.Mark {
				add("Mark of Old "+strconv.FormatInt(mark, 10), l, func(l *impl.Layout) { l.Old.Mark = mark })
			}
		}
		for at := range 3 {
			add("Mark of a part", l, func(l *impl.Layout) { l.New[at].Mark = 6 })
			add("the greatest Mark of a part", l, func(l *impl.Layout) { l.New[at].Mark = 999 })
		}
		if l.Phase == impl.MoveDone {
			for _, r := range append(someRows(), row(2, 2, 1, 0)) {
				add("a row in Old", l, func(l *impl.Layout) { l.Old = plainPlaces(0, rows(r)) })
			}
			add("all rows in Old", l, func(l *impl.Layout) { l.Old = plainPlaces(0, someRows()) })
			continue
		}
		copied := plainCut(someRows(), 0, l.At)
		for i, r := range copied {
			less, more := slices.Delete(slices.Clone(copied), i, i+1), slices.Clone(copied)
			more[i].Hand, more[i].Held = 9998, 9998
			add("a row lacks in New", l, func(l *impl.Layout) { l.New = plainParts(m, less) })
			add("another Hand in New", l, func(l *impl.Layout) { l.New = plainParts(m, more) })
			more[i].Hand, more[i].Held = r.Hand, (r.Held+1)%(r.Hand+1)
			add("another Held in New", l, func(l *impl.Layout) { l.New = plainParts(m, more) })
		}
		for _, r := range append(plainCut(someRows(), l.At, 100), row(0, 1, 1, 0), row(3, 19, 1, 0)) {
			add("a row too many in New", l, func(l *impl.Layout) { l.New = plainParts(m, plainWrite(copied, r)) })
		}
		if len(copied) > 0 {
			add("no row in New", l, func(l *impl.Layout) { l.New = plainParts(m, nil) })
		}
	}
	// Rows with the same digest are not the same rows.
	for _, c := range collidingLists {
		for phase := int64(impl.MoveCopy); phase <= impl.MoveChecked; phase++ {
			add(c.what+" in New", plainLayout(phase, 100, 5, m, c.a), func(l *impl.Layout) { l.New = plainParts(m, c.b) })
			add(c.what+" in Old", plainLayout(phase, 100, 5, m, c.b), func(l *impl.Layout) { l.New = plainParts(m, c.a) })
		}
	}
	at := moved(eachPhase()[1], impl.MoveCopy, 47)
	add("the row at At in New", at, func(l *impl.Layout) { l.New = plainParts(marks{}, plainCut(someRows(), 0, 48)) })
	add("the row below At not in New", moved(at, impl.MoveCopy, 48), func(l *impl.Layout) { l.New = plainParts(marks{}, plainCut(someRows(), 0, 47)) })
	return list
}

// faultyLayouts has layouts for each code of LayoutFault, and for their order.
func faultyLayouts() []faultyLayout {
	return slices.Concat(faultyNumbers(), faultyFields(), faultyAts(), faultyStates())
}

func TestMoveConstants(t *testing.T) {
	if impl.MoveIdle != 1 || impl.MoveCopy != 2 || impl.MoveChecked != 3 || impl.MoveDone != 4 || impl.MaxKey != 100 {
		t.Error("constants")
	}
	wantInt(t, "from the table", impl.KeyOf(1, 2), impl.OK, 23)
	wantInt(t, "the greatest key is below MaxKey", impl.KeyOf(3, 20), impl.OK, 83)
}

// After copying the keys below 20, a change of the key 3 reaches both layouts and one of the key 47 the old one only.
func TestMoveExamples(t *testing.T) {
	a, b := rowAt(3, 5, 1), rowAt(47, 4, 1)
	l := impl.WriteRows(impl.NewLayout().Layout, rows(a, b)).Layout
	l = impl.CopyKeys(impl.StartMove(l).Layout, 20).Layout
	a2, b2 := rowAt(3, 6, 1), rowAt(47, 8, 0)
	first := impl.WriteRows(l, rows(a2))
	wantLayout(t, "the key 3", first, impl.Layout{Phase: impl.MoveCopy, At: 20, Mark: 2, Old: placesOf(2, rows(a2), nil, rows(b)), New: []impl.Part{{}, {}, {Rows: rows(a2), Mark: 2}}})
	second := impl.WriteRows(first.Layout, rows(b2))
	wantLayout(t, "the key 47", second, impl.Layout{Phase: impl.MoveCopy, At: 20, Mark: 3, Old: placesOf(3, rows(a2), nil, rows(b2)), New: []impl.Part{{}, {}, {Rows: rows(a2), Mark: 2}}})
	both := impl.WriteRows(l, rows(a2, b2))
	wantLayout(t, "both", both, impl.Layout{Phase: impl.MoveCopy, At: 20, Mark: 2, Old: placesOf(2, rows(a2), nil, rows(b2)), New: []impl.Part{{}, {}, {Rows: rows(a2), Mark: 2}}})
	later := impl.CopyKeys(second.Layout, 100)
	wantLayout(t, "copied later with its new value", later, impl.Layout{Phase: impl.MoveCopy, At: 100, Mark: 3, Old: placesOf(3, rows(a2), nil, rows(b2)), New: []impl.Part{{}, {}, {Rows: rows(a2, b2), Mark: 2}}})
}

func TestNewLayout(t *testing.T) {
	wantLayout(t, "new", impl.NewLayout(), impl.Layout{Phase: impl.MoveIdle, Old: impl.Places{Files: make([][]impl.Row, 4)}, New: make([]impl.Part, 3)})
	wantCode(t, "new", impl.LayoutFault(impl.NewLayout().Layout), impl.OK)
	wantRows(t, "new", impl.RowsNow(impl.NewLayout().Layout), impl.OK)
}

func TestLayoutFault(t *testing.T) {
	for what, l := range goodLayouts() {
		wantCode(t, what, impl.LayoutFault(l), impl.OK)
	}
	for _, c := range faultyLayouts() {
		wantCode(t, c.what, impl.LayoutFault(c.layout), c.code)
	}
}

// The fault of the layout comes before the codes of the functions themselves.
func TestFunctionsReturnTheLayoutFault(t *testing.T) {
	for _, c := range faultyLayouts() {
		wantRows(t, "rows: "+c.what, impl.RowsNow(c.layout), c.code)
		for _, list := range [][]impl.Row{nil, someRows(), manyRows(13), rows(row(0, 1, 1, 2))} {
			wantNoLayout(t, "write: "+c.what, impl.WriteRows(c.layout, list), c.code)
		}
		wantNoLayout(t, "start: "+c.what, impl.StartMove(c.layout), c.code)
		wantNoLayout(t, "check: "+c.what, impl.CheckMove(c.layout), c.code)
		wantNoLayout(t, "cut: "+c.what, impl.CutOver(c.layout), c.code)
		wantNoLayout(t, "abort: "+c.what, impl.AbortMove(c.layout), c.code)
		for _, n := range []int64{-1, 0, 1, 100, 101} {
			wantNoLayout(t, "copy: "+c.what, impl.CopyKeys(c.layout, n), c.code)
			wantInt(t, "left: "+c.what, impl.StepsLeft(c.layout, n), c.code, 0)
		}
	}
}

func TestSameLayouts(t *testing.T) {
	same := func(what string, a, b impl.Layout, want bool) {
		t.Helper()
		if impl.SameLayouts(a, b) != want || impl.SameLayouts(b, a) != want {
			t.Errorf("%s: want %v", what, want)
		}
	}
	good := goodLayouts()
	same("zero", impl.Layout{}, impl.Layout{}, true)
	same("zero, not nil", impl.Layout{}, impl.Layout{Old: impl.Places{Files: [][]impl.Row{}}, New: []impl.Part{}}, true)
	same("empty lists and nil", good["new"], good["new, not nil"], true)
	same("zero and new", impl.Layout{}, good["new"], false)
	wild := impl.Layout{Phase: -7, At: math.MaxInt64, Mark: math.MinInt64, Old: placesOf(77, rows(row(9, 9, 1, 2))), New: []impl.Part{{Mark: -1}, {Rows: rows(impl.Row{})}}}
	// Layouts need not be valid to be compared.
	for _, c := range faultyLayouts() {
		same(c.what, c.layout, cloneLayout(c.layout), true)
		same(c.what+" and another", c.layout, wild, false)
	}
	for what, l := range good {
		same(what, l, cloneLayout(l), true)
		same(what+" and another", l, wild, false)
	}
	changes := map[string]func(l *impl.Layout){
		"Phase":                   func(l *impl.Layout) { l.Phase++ },
		"At":                      func(l *impl.Layout) { l.At++ },
		"Mark":                    func(l *impl.Layout) { l.Mark++ },
		"Mark of Old":             func(l *impl.Layout) { l.Old.Mark++ },
		"a file less":             func(l *impl.Layout) { l.Old.Files = l.Old.Files[:3] },
		"a row of Old":            func(l *impl.Layout) { l.Old.Files[0][0].Held++ },
		"a row less in Old":       func(l *impl.Layout) { l.Old.Files[0] = nil },
		"Mark of a part":          func(l *impl.Layout) { l.New[0].Mark++ },
		"Mark of another part":    func(l *impl.Layout) { l.New[1].Mark++ },
		"a row of a part":         func(l *impl.Layout) { l.New[1].Rows[0].Hand++ },
		"a row less in a part":    func(l *impl.Layout) { l.New[1].Rows = nil },
		"a part less":             func(l *impl.Layout) { l.New = l.New[:1] },
		"At and Mark exchanged":   func(l *impl.Layout) { l.At, l.Mark = l.Mark, l.At },
		"Phase and At exchanged":  func(l *impl.Layout) { l.Phase, l.At = l.At, l.Phase },
		"a row from Old to New":   func(l *impl.Layout) { l.New[0].Rows, l.Old.Files[0] = l.Old.Files[0], nil },
		"another order of parts":  func(l *impl.Layout) { slices.Reverse(l.New) },
		"Marks of both exchanged": func(l *impl.Layout) { l.Old.Mark, l.New[0].Mark = l.New[0].Mark, l.Old.Mark },
	}
	wild.Old.Files[0] = rows(row(9, 9, 1, 2))
	for what, change := range changes {
		other := cloneLayout(wild)
		change(&other)
		same(what, wild, other, false)
	}
}

func TestRowsNow(t *testing.T) {
	for what, l := range goodLayouts() {
		wantRows(t, what, impl.RowsNow(l), impl.OK, plainNow(l)...)
	}
	for _, l := range eachPhase() {
		wantRows(t, "phase "+strconv.FormatInt(l.Phase, 10), impl.RowsNow(l), impl.OK, someRows()...)
	}
}

// Each command in each phase: its effect, or ErrState.
func TestCommandsInEachPhase(t *testing.T) {
	for what, l := range goodLayouts() {
		command := func(name string, got impl.LayoutResult, allowed bool, want impl.Layout) {
			t.Helper()
			if allowed {
				wantLayout(t, name+": "+what, got, want)
			} else {
				wantNoLayout(t, name+": "+what, got, impl.ErrState)
			}
		}
		isCopy := l.Phase == impl.MoveCopy
		idle, copying := l.Phase == impl.MoveIdle, moved(l, impl.MoveCopy, l.At)
		command("start", impl.StartMove(l), idle, moved(l, impl.MoveCopy, 0))
		command("copy", impl.CopyKeys(l, 7), isCopy, moved(copying, impl.MoveCopy, min(l.At+7, 100)))
		command("check", impl.CheckMove(l), isCopy && l.At == 100, moved(l, impl.MoveChecked, 100))
		command("cut", impl.CutOver(l), l.Phase == impl.MoveChecked, moved(l, impl.MoveDone, 100))
		aborted := plainLayout(impl.MoveIdle, 0, l.Mark, marks{}, plainNow(l))
		command("abort", impl.AbortMove(l), isCopy || l.Phase == impl.MoveChecked, aborted)
		// The phase comes before n.
		for _, n := range []int64{-1, 0, 1, 100, 101, math.MinInt64, math.MaxInt64} {
			if !isCopy {
				wantNoLayout(t, "copy: "+what, impl.CopyKeys(l, n), impl.ErrState)
				wantInt(t, "left: "+what, impl.StepsLeft(l, n), impl.ErrState, 0)
			}
		}
	}
}

func TestStartMove(t *testing.T) {
	start := impl.StartMove(impl.NewLayout().Layout)
	wantLayout(t, "new", start, impl.Layout{Phase: impl.MoveCopy, Old: placesOf(0), New: partsWith(marks{})})
	wantNoLayout(t, "again", impl.StartMove(start.Layout), impl.ErrState)
	// The Marks of the parts stay.
	idle := plainLayout(impl.MoveIdle, 0, 5, marks{4, 0, 5}, someRows())
	wantLayout(t, "with rows", impl.StartMove(idle), plainLayout(impl.MoveCopy, 0, 5, marks{4, 0, 5}, someRows()))
	last := plainLayout(impl.MoveIdle, 0, 999, marks{}, someRows())
	wantLayout(t, "Mark 999", impl.StartMove(last), moved(last, impl.MoveCopy, 0))
}

// Every At and every n: what is between is copied, and nothing else changes.
func TestCopyKeys(t *testing.T) {
	start := plainLayout(impl.MoveCopy, 0, 5, marks{4, 0, 5}, someRows())
	for at := range int64(101) {
		l := moved(start, impl.MoveCopy, at)
		for n := int64(1); n <= 100; n++ {
			what := "At " + strconv.FormatInt(at, 10) + ", n " + strconv.FormatInt(n, 10)
			got := impl.CopyKeys(l, n)
			wantLayout(t, what, got, moved(start, impl.MoveCopy, min(at+n, 100)))
			wantRows(t, what, impl.RowsNow(got.Layout), impl.OK, someRows()...)
		}
		for _, n := range []int64{0, -1, 101, 102, math.MinInt64, math.MaxInt64} {
			wantNoLayout(t, "n out of range", impl.CopyKeys(l, n), impl.ErrRange)
			wantInt(t, "n out of range", impl.StepsLeft(l, n), impl.ErrRange, 0)
		}
	}
	full := plainLayout(impl.MoveCopy, 0, 12, marks{}, manyRows(12))
	wantLayout(t, "12 rows", impl.CopyKeys(full, 100), moved(full, impl.MoveCopy, 100))
	last := plainLayout(impl.MoveCopy, 0, 999, marks{999, 1, 0}, someRows())
	wantLayout(t, "Mark 999", impl.CopyKeys(last, 48), moved(last, impl.MoveCopy, 48))
}

func TestCopyKeysToTheEnd(t *testing.T) {
	l := plainLayout(impl.MoveCopy, 60, 5, marks{}, someRows())
	wantLayout(t, "MaxKey exactly", impl.CopyKeys(l, 40), moved(l, impl.MoveCopy, 100))
	wantLayout(t, "one key less", impl.CopyKeys(l, 39), moved(l, impl.MoveCopy, 99))
	wantLayout(t, "one key beyond", impl.CopyKeys(l, 41), moved(l, impl.MoveCopy, 100))
	wantLayout(t, "far beyond", impl.CopyKeys(l, 100), moved(l, impl.MoveCopy, 100))
	end := moved(l, impl.MoveCopy, 100)
	wantLayout(t, "at the end", impl.CopyKeys(end, 1), end)
	wantLayout(t, "at the end, all", impl.CopyKeys(end, 100), end)
}

// StepsLeft is the number of CopyKeys that are needed, whether n divides what is left or not.
func TestStepsLeft(t *testing.T) {
	left := func(at, n, want int64) {
		t.Helper()
		wantInt(t, "At "+strconv.FormatInt(at, 10), impl.StepsLeft(plainLayout(impl.MoveCopy, at, 5, marks{}, someRows()), n), impl.OK, want)
	}
	left(0, 100, 1)
	left(0, 99, 2)
	left(0, 50, 2)
	left(0, 49, 3)
	left(0, 1, 100)
	left(20, 30, 3)
	left(20, 40, 2)
	left(20, 20, 4)
	left(20, 100, 1)
	left(99, 1, 1)
	left(99, 2, 1)
	left(100, 1, 0)
	left(100, 100, 0)
	for at := range int64(101) {
		for n := int64(1); n <= 100; n++ {
			steps := int64(0)
			for to := at; to < 100; to += n {
				steps++
			}
			left(at, n, steps)
		}
	}
	for _, n := range []int64{1, 7, 10, 33, 34, 50, 99, 100} {
		l := plainLayout(impl.MoveCopy, 3, 5, marks{}, someRows())
		for steps := impl.StepsLeft(l, n).Value; steps > 0; steps-- {
			wantInt(t, "step by step", impl.StepsLeft(l, n), impl.OK, steps)
			wantNoLayout(t, "check too early", impl.CheckMove(l), impl.ErrState)
			l = impl.CopyKeys(l, n).Layout
		}
		wantInt(t, "at the end", impl.StepsLeft(l, n), impl.OK, 0)
		wantCode(t, "check at the end", impl.CheckMove(l).Code, impl.OK)
	}
}

func TestCheckMove(t *testing.T) {
	start := plainLayout(impl.MoveCopy, 0, 5, marks{4, 0, 5}, someRows())
	for at := range int64(100) {
		wantNoLayout(t, "ahead of MaxKey", impl.CheckMove(moved(start, impl.MoveCopy, at)), impl.ErrState)
	}
	end := moved(start, impl.MoveCopy, 100)
	checked := impl.CheckMove(end)
	wantLayout(t, "at MaxKey", checked, moved(start, impl.MoveChecked, 100))
	wantNoLayout(t, "again", impl.CheckMove(checked.Layout), impl.ErrState)
	// Without rows, too, all keys must have been copied.
	none := plainLayout(impl.MoveCopy, 99, 0, marks{}, nil)
	wantNoLayout(t, "no rows, ahead of MaxKey", impl.CheckMove(none), impl.ErrState)
	wantLayout(t, "no rows, at MaxKey", impl.CheckMove(moved(none, impl.MoveCopy, 100)), moved(none, impl.MoveChecked, 100))
}

func TestCutOver(t *testing.T) {
	end := plainLayout(impl.MoveCopy, 100, 5, marks{4, 0, 5}, someRows())
	wantNoLayout(t, "without a check", impl.CutOver(end), impl.ErrState)
	done := impl.CutOver(impl.CheckMove(end).Layout)
	wantLayout(t, "after a check", done, impl.Layout{Phase: impl.MoveDone, At: 100, Mark: 5, Old: placesOf(0), New: plainParts(marks{4, 0, 5}, someRows())})
	wantNoLayout(t, "again", impl.CutOver(done.Layout), impl.ErrState)
	// What was written after the check is in New, too.
	r := row(2, 2, 6, 1)
	written := impl.WriteRows(impl.CheckMove(end).Layout, rows(r, row(3, 20, 0, 0)))
	late := impl.CutOver(written.Layout)
	list := plainWrite(plainWrite(someRows(), r), row(3, 20, 0, 0))
	wantRows(t, "written after the check", impl.RowsNow(late.Layout), impl.OK, list...)
	wantRows(t, "nothing is left in Old", impl.RowsIn(late.Layout.Old), impl.OK)
}

// A migration that is aborted at any place can be started again, and ends.
func TestAbortMove(t *testing.T) {
	start := plainLayout(impl.MoveCopy, 0, 5, marks{4, 0, 5}, someRows())
	stops := []impl.Layout{moved(start, impl.MoveChecked, 100)}
	for at := range int64(101) {
		stops = append(stops, moved(start, impl.MoveCopy, at))
	}
	for _, l := range stops {
		what := "At " + strconv.FormatInt(l.At, 10)
		aborted := impl.AbortMove(l)
		wantLayout(t, what, aborted, plainLayout(impl.MoveIdle, 0, 5, marks{}, someRows()))
		wantNoLayout(t, what+", again", impl.AbortMove(aborted.Layout), impl.ErrState)
		written := impl.WriteRows(aborted.Layout, rows(row(0, 1, 3, 0), rowAt(3, 0, 0)))
		list := plainWrite(plainWrite(someRows(), row(0, 1, 3, 0)), rowAt(3, 0, 0))
		wantLayout(t, what+", then a change", written, plainLayout(impl.MoveIdle, 0, 6, marks{}, list))
		again := impl.StartMove(written.Layout)
		wantLayout(t, what+", started again", again, plainLayout(impl.MoveCopy, 0, 6, marks{}, list))
		again = impl.CopyKeys(impl.CopyKeys(again.Layout, 48).Layout, 100)
		done := impl.CutOver(impl.CheckMove(again.Layout).Layout)
		wantLayout(t, what+", ended", done, plainLayout(impl.MoveDone, 100, 6, marks{}, list))
		wantNoLayout(t, "abort after the end", impl.AbortMove(done.Layout), impl.ErrState)
	}
}
