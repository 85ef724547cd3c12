package tests

import (
	"slices"
	"strconv"
	"sync"
	"testing"

	"loop.example/g00623/impl"
)

const (
	doWrite = iota
	doStart
	doCopy
	doCheck
	doCut
	doAbort
)

// moveAct is one thing done to a layout.
type moveAct struct {
	kind int64
	n    int64
	rows []impl.Row
}

func doAct(l impl.Layout, a moveAct) impl.LayoutResult {
	switch a.kind {
	case doWrite:
		return impl.WriteRows(l, a.rows)
	case doStart:
		return impl.StartMove(l)
	case doCopy:
		return impl.CopyKeys(l, a.n)
	case doCheck:
		return impl.CheckMove(l)
	case doCut:
		return impl.CutOver(l)
	}
	return impl.AbortMove(l)
}

func plainRowsFault(list []impl.Row) int64 {
	for _, r := range list {
		if fault := plainRowFault(r); fault != impl.OK {
			return fault
		}
	}
	return impl.OK
}

// plainAct does the same without the program; the rows of a have at most 12 different keys, sorted.
func plainAct(l impl.Layout, a moveAct) impl.LayoutResult {
	fail := func(code int64) impl.LayoutResult { return impl.LayoutResult{Code: code} }
	inPhase := func(phase, at int64) impl.LayoutResult { return impl.LayoutResult{Layout: moved(l, phase, at)} }
	isCopy := l.Phase == impl.MoveCopy
	switch {
	case a.kind == doWrite && plainRowsFault(a.rows) != impl.OK:
		return fail(plainRowsFault(a.rows))
	case a.kind == doWrite && l.Mark == 999:
		return fail(impl.ErrFull)
	case a.kind == doWrite:
		list := plainNow(l)
		for _, r := range a.rows {
			list = plainWrite(list, r)
		}
		if len(list) > 12 {
			return fail(impl.ErrFull)
		}
		return impl.LayoutResult{Layout: plainChange(l, a.rows)}
	case a.kind == doStart && l.Phase == impl.MoveIdle:
		return inPhase(impl.MoveCopy, 0)
	case a.kind == doCopy && isCopy && (a.n < 1 || a.n > 100):
		return fail(impl.ErrRange)
	case a.kind == doCopy && isCopy:
		return inPhase(impl.MoveCopy, min(l.At+a.n, 100))
	case a.kind == doCheck && isCopy && l.At == 100:
		return inPhase(impl.MoveChecked, 100)
	case a.kind == doCut && l.Phase == impl.MoveChecked:
		return inPhase(impl.MoveDone, 100)
	case a.kind == doAbort && (isCopy || l.Phase == impl.MoveChecked):
		return impl.LayoutResult{Layout: plainLayout(impl.MoveIdle, 0, l.Mark, marks{}, plainNow(l))}
	}
	return fail(impl.ErrState)
}

// changeRows returns rows that depend on seed only, as writeRow does, sorted and each key once; a few are not valid.
func changeRows(seed uint64) []impl.Row {
	var list []impl.Row
	for i := range seed % 5 {
		r := writeRow(seed*31 + i)
		same := func(x impl.Row) bool { return x.Loc == r.Loc && x.Sku == r.Sku }
		if !slices.ContainsFunc(list, same) {
			list = append(list, r)
		}
	}
	slices.SortFunc(list, func(a, b impl.Row) int { return int(21*(a.Loc-b.Loc) + a.Sku - b.Sku) })
	return list
}

// sampleAct returns something to do that depends on seed only; every other time it is a write.
func sampleAct(seed uint64) moveAct {
	n := sampleNumbers(seed, 2)
	kinds := []int64{doStart, doStart, doCopy, doCopy, doCopy, doCopy, doCheck, doCheck, doCheck, doCut, doAbort}
	kind := kinds[(n[0]+32768)%int64(len(kinds))]
	if n[1]%2 == 0 {
		kind = doWrite
	}
	return moveAct{kind: kind, n: (n[1]+32768)%60 - 1, rows: changeRows(seed)}
}

// checkLayout checks promise 10 for a layout whose authoritative rows are list.
func checkLayout(t *testing.T, what string, l impl.Layout, list []impl.Row) {
	t.Helper()
	wantCode(t, what, impl.LayoutFault(l), impl.OK)
	wantRows(t, what, impl.RowsNow(l), impl.OK, list...)
	if l.Phase == impl.MoveDone {
		wantRows(t, what+", the new layout", impl.RowsOf(l.New), impl.OK, list...)
		wantRows(t, what+", the old layout", impl.RowsIn(l.Old), impl.OK)
		return
	}
	wantRows(t, what+", the old layout", impl.RowsIn(l.Old), impl.OK, list...)
	wantRows(t, what+", the copied part", impl.RowsOf(l.New), impl.OK, impl.CutRows(list, 0, l.At).Rows...)
	if l.Phase == impl.MoveChecked {
		wantSame(t, what, l.Old, l.New, true)
	}
}

// checkEnd checks that what is left of a migration ends as computed, with all rows in the new layout.
func checkEnd(t *testing.T, what string, l impl.Layout, list []impl.Row) {
	t.Helper()
	n := int64(len(list))*8 + 1
	for range impl.StepsLeft(l, n).Value {
		wantCode(t, what+", check too early", impl.CheckMove(l).Code, impl.ErrState)
		l = impl.CopyKeys(l, n).Layout
	}
	done := impl.CutOver(impl.CheckMove(l).Layout)
	wantCode(t, what+", done", done.Code, impl.OK)
	wantCode(t, what+", done", done.Layout.Phase, impl.MoveDone)
	checkLayout(t, what+", done", done.Layout, list)
}

type actOutcome struct{ kind, phase, code int64 }

// moveWalk does one thing after the other, and notes what was done in which phase with which code.
func moveWalk(t *testing.T, seed uint64, reached map[actOutcome]int) {
	list := withoutNone(sampleRows(seed, int(seed%13)))
	l := plainLayout(impl.MoveIdle, 0, int64(seed*7)%990, marks{}, list)
	for i := range uint64(60) {
		a := sampleAct(seed*1000 + i)
		what := "walk " + strconv.FormatUint(seed, 10) + ", " + strconv.FormatUint(i, 10)
		got, want := doAct(l, a), plainAct(l, a)
		reached[actOutcome{a.kind, l.Phase, want.Code}]++
		if want.Code != impl.OK {
			wantNoLayout(t, what, got, want.Code)
			continue
		}
		wantLayout(t, what, got, want.Layout)
		if a.kind == doWrite {
			for _, r := range a.rows {
				list = plainWrite(list, r)
			}
		} else if a.kind != doCut && !equalPlaces(got.Layout.Old, l.Old) {
			t.Errorf("%s: the authoritative layout changed", what)
		}
		l = got.Layout
		checkLayout(t, what, l, list)
		if l.Phase == impl.MoveCopy {
			checkEnd(t, what, l, list)
		}
		if t.Failed() {
			return
		}
	}
}

// Promise 10, along many walks, which reach everything that can be done in each phase.
func TestMoveWalks(t *testing.T) {
	reached := map[actOutcome]int{}
	for seed := range uint64(300) {
		moveWalk(t, seed, reached)
	}
	var needed []actOutcome
	for phase := int64(impl.MoveIdle); phase <= impl.MoveDone; phase++ {
		for _, code := range []int64{impl.OK, impl.ErrRange, impl.ErrStock, impl.ErrFull} {
			needed = append(needed, actOutcome{doWrite, phase, code})
		}
		for kind := int64(doStart); kind <= doAbort; kind++ {
			if (actOutcome{kind, phase, 0}) != (actOutcome{doStart, impl.MoveIdle, 0}) && !(kind == doCopy && phase == impl.MoveCopy) && !(kind == doCut && phase == impl.MoveChecked) && !(kind == doAbort && (phase == impl.MoveCopy || phase == impl.MoveChecked)) {
				needed = append(needed, actOutcome{kind, phase, impl.ErrState})
			}
		}
	}
	needed = append(needed, actOutcome{doStart, impl.MoveIdle, impl.OK}, actOutcome{doCopy, impl.MoveCopy, impl.OK}, actOutcome{doCopy, impl.MoveCopy, impl.ErrRange}, actOutcome{doCheck, impl.MoveCopy, impl.OK}, actOutcome{doCut, impl.MoveChecked, impl.OK}, actOutcome{doAbort, impl.MoveCopy, impl.OK}, actOutcome{doAbort, impl.MoveChecked, impl.OK})
	for _, outcome := range needed {
		if reached[outcome] == 0 {
			t.Errorf("nothing had the outcome %+v", outcome)
		}
	}
}

// spareLayout returns a copy of a layout with spare capacity.
func spareLayout(l impl.Layout) impl.Layout {
	return impl.Layout{Phase: l.Phase, At: l.At, Mark: l.Mark, Old: sparePlaces(l.Old), New: spareParts(l.New)}
}

// wholeLayout returns a copy of a layout with what its lists have up to their capacity.
func wholeLayout(l impl.Layout) impl.Layout {
	return impl.Layout{Phase: l.Phase, At: l.At, Mark: l.Mark, Old: wholePlaces(l.Old), New: wholeParts(l.New)}
}

func overwriteLayout(l impl.Layout) {
	overwritePlaces(l.Old)
	overwriteParts(l.New)
}

// memoryActs has something of each kind, with valid and invalid arguments.
func memoryActs() []moveAct {
	acts := []moveAct{{kind: doStart}, {kind: doCheck}, {kind: doCut}, {kind: doAbort}}
	for _, n := range []int64{-1, 0, 1, 30, 100, 101} {
		acts = append(acts, moveAct{kind: doCopy, n: n})
	}
	for _, list := range [][]impl.Row{nil, {rowAt(1, 2, 1)}, {rowAt(3, 0, 0)}, {rowAt(3, 6, 0), rowAt(50, 1, 0), rowAt(83, 0, 0)}, someRows(), manyRows(13), {row(0, 1, 1, 2)}} {
		acts = append(acts, moveAct{kind: doWrite, rows: list})
	}
	return acts
}

// Promise 1: arguments are unchanged, up to their capacity.
func TestLayoutArgumentsAreUnchanged(t *testing.T) {
	list := eachPhase()
	for _, l := range goodLayouts() {
		list = append(list, l)
	}
	for _, c := range faultyLayouts() {
		list = append(list, c.layout)
	}
	for _, given := range list {
		l := spareLayout(given)
		before := wholeLayout(l)
		impl.LayoutFault(l)
		impl.RowsNow(l)
		impl.SameLayouts(l, l)
		impl.StepsLeft(l, 7)
		for _, a := range memoryActs() {
			a.rows = withSpare(a.rows, placeMark)
			changes := slices.Clone(a.rows[:cap(a.rows)])
			doAct(l, a)
			if !slices.Equal(a.rows[:cap(a.rows)], changes) {
				t.Errorf("%v was changed", changes)
			}
		}
		if !equalLayouts(wholeLayout(l), before) {
			t.Errorf("%+v was changed", given)
		}
	}
}

// checkNewLayout checks that a result shares no memory with the layout given, with another result, or between its lists.
func checkNewLayout(t *testing.T, what string, l impl.Layout, call func() impl.LayoutResult, want impl.Layout) {
	t.Helper()
	before := wholeLayout(l)
	got, again := call(), call()
	overwriteLayout(again.Layout)
	wantLayout(t, what+": another result overwritten", got, want)
	if !equalLayouts(wholeLayout(l), before) {
		t.Errorf("%s: the argument was changed through a result", what)
	}
	for loc := range want.Old.Files {
		one := call()
		overwrite(one.Layout.Old.Files[loc], placeMark)
		one.Layout.Old.Files[loc] = want.Old.Files[loc]
		wantLayout(t, what+": one of its files overwritten", one, want)
	}
	for at := range want.New {
		one := call()
		overwrite(one.Layout.New[at].Rows, placeMark)
		one.Layout.New[at].Rows = want.New[at].Rows
		wantLayout(t, what+": one of its parts overwritten", one, want)
	}
	overwriteLayout(l)
	wantLayout(t, what+": the argument overwritten", got, want)
}

// Promise 1: results are new, also what an act does not touch.
func TestLayoutResultsAreNew(t *testing.T) {
	checkNewLayout(t, "new", spareLayout(impl.Layout{}), impl.NewLayout, plainLayout(impl.MoveIdle, 0, 0, marks{}, nil))
	for what, given := range goodLayouts() {
		for _, a := range memoryActs() {
			want := plainAct(given, a)
			if len(a.rows) > 12 || want.Code != impl.OK {
				continue
			}
			l := spareLayout(given)
			a.rows = withSpare(a.rows, placeMark)
			got := doAct(l, a)
			checkNewLayout(t, what, l, func() impl.LayoutResult { return doAct(l, a) }, want.Layout)
			overwrite(a.rows, placeMark)
			wantLayout(t, what+": the changes overwritten", got, want.Layout)
		}
		l := spareLayout(given)
		list, again := impl.RowsNow(l), impl.RowsNow(l)
		overwrite(again.Rows, placeMark)
		wantRows(t, what+": other rows overwritten", list, impl.OK, plainNow(given)...)
		overwriteLayout(l)
		wantRows(t, what+": the argument overwritten", list, impl.OK, plainNow(given)...)
	}
}

// Promise 1: results depend on the arguments only, whatever was called before and beside.
func TestLayoutResultsAreRepeatable(t *testing.T) {
	var all sync.WaitGroup
	for range 8 {
		all.Go(func() {
			for what, l := range goodLayouts() {
				for _, a := range memoryActs() {
					if len(a.rows) > 12 {
						continue
					}
					want := plainAct(l, a)
					got, spare := doAct(l, a), doAct(spareLayout(l), a)
					if got.Code != want.Code || spare.Code != want.Code || !equalLayouts(got.Layout, want.Layout) || !equalLayouts(spare.Layout, want.Layout) {
						t.Errorf("%s: got %+v and %+v, want %+v", what, got, spare, want)
					}
				}
				wantRows(t, what, impl.RowsNow(l), impl.OK, plainNow(l)...)
				wantCode(t, what, impl.LayoutFault(l), impl.OK)
			}
		})
	}
	all.Wait()
}
