package tests

import (
	"slices"
	"strconv"
	"sync"
	"testing"

	"loop.example/g00623/impl"
)

type partOutcome struct {
	code    int64
	applied bool
}

// plainWritePart returns the outcome of a write to parts that have the rows of list; applied means that the part has the change already.
func plainWritePart(m marks, list []impl.Row, r impl.Row, mark int64) partOutcome {
	switch {
	case plainRowFault(r) != impl.OK:
		return partOutcome{code: plainRowFault(r)}
	case mark < 0 || mark > 999:
		return partOutcome{code: impl.ErrRange}
	case mark <= m[plainPart(r.Loc, r.Sku)]:
		return partOutcome{applied: true}
	case len(plainWrite(list, r)) > 12:
		return partOutcome{code: impl.ErrFull}
	}
	return partOutcome{}
}

// checkParts checks promise 8 for parts that have exactly the rows of list.
func checkParts(t *testing.T, what string, parts []impl.Part, m marks, list []impl.Row) {
	t.Helper()
	wantCode(t, what, impl.PartsFault(parts), impl.OK)
	all := impl.RowsOf(parts)
	wantRows(t, what, all, impl.OK, list...)
	wantInt(t, what, impl.LeastMark(parts), impl.OK, min(m[0], m[1], m[2]))
	wantParts(t, what+", from its rows", impl.PartsFrom(all.Rows, m[0]), plainParts(marks{m[0], m[0], m[0]}, list))
	for at, p := range parts {
		for _, r := range p.Rows {
			wantInt(t, what+", a row in its part", impl.PartOf(r.Loc, r.Sku), impl.OK, int64(at))
		}
	}
}

// checkApplied checks that neither a change nor any other with its mark or an earlier one changes its part again.
func checkApplied(t *testing.T, what string, parts []impl.Part, r impl.Row, mark int64) {
	t.Helper()
	wantParts(t, what+", again", impl.WritePart(parts, r, mark), parts)
	wantParts(t, what+", again with an earlier mark", impl.WritePart(parts, r, mark/2), parts)
	wantParts(t, what+", undone with its mark", impl.WritePart(parts, row(r.Loc, r.Sku, 0, 0), mark), parts)
	for _, other := range rowsOfPart(plainPart(r.Loc, r.Sku), 3) {
		wantParts(t, what+", another row with its mark", impl.WritePart(parts, other, mark), parts)
	}
}

// partWalk writes one row after the other, some of them with a mark that the part has applied, and notes the outcomes.
func partWalk(t *testing.T, seed uint64, reached map[partOutcome]int) {
	given := sampleRows(seed, int(seed%13))
	mark := int64(seed*3) % 970
	m := marks{mark, mark, mark}
	list := rowsOfParts(plainParts(m, given))
	parts := impl.PartsFrom(given, mark).Parts
	checkParts(t, "walk "+strconv.FormatUint(seed, 10), parts, m, list)
	for i := range uint64(60) {
		r := writeRow(seed*1000 + i)
		next := mark + sampleNumbers(seed*1000+i+7, 1)[0]%3
		if i%30 == 29 {
			next = 1000 * (int64(seed)%3 - 1)
		}
		what := "walk " + strconv.FormatUint(seed, 10) + ", write " + strconv.FormatUint(i, 10)
		got, want := impl.WritePart(parts, r, next), plainWritePart(m, list, r, next)
		reached[want]++
		switch {
		case want.code != impl.OK:
			wantNoParts(t, what, got, want.code)
			continue
		case want.applied:
			wantParts(t, what, got, parts)
			continue
		}
		mark, list = max(mark, next), plainWrite(list, r)
		m[plainPart(r.Loc, r.Sku)] = next
		wantParts(t, what, got, plainParts(m, list))
		checkParts(t, what, got.Parts, m, list)
		checkApplied(t, what, got.Parts, r, next)
		parts = got.Parts
		if t.Failed() {
			return
		}
	}
}

// Promise 8, along many walks, which reach every outcome of a write.
func TestPartWalks(t *testing.T) {
	reached := map[partOutcome]int{}
	for seed := range uint64(300) {
		partWalk(t, seed, reached)
	}
	for _, outcome := range []partOutcome{{}, {applied: true}, {code: impl.ErrRange}, {code: impl.ErrStock}, {code: impl.ErrFull}} {
		if reached[outcome] == 0 {
			t.Errorf("no write had the outcome %+v", outcome)
		}
	}
}

// Changes that are written twice, the second time in a row, yield what they yield once.
func TestChangesWrittenTwice(t *testing.T) {
	for seed := range uint64(100) {
		parts := impl.PartsFrom(sampleRows(seed, 6), 10).Parts
		var changes []impl.Row
		for i := range uint64(20) {
			r := writeRow(seed*77 + i)
			if got := impl.WritePart(parts, r, 11+int64(i)); got.Code == impl.OK {
				parts = got.Parts
				changes = append(changes, r)
				continue
			}
			changes = append(changes, impl.Row{})
		}
		for i, r := range changes {
			if r == (impl.Row{}) {
				continue
			}
			wantParts(t, "written again", impl.WritePart(parts, r, 11+int64(i)), parts)
		}
	}
}

// spareParts returns a copy of parts with spare capacity.
func spareParts(list []impl.Part) []impl.Part {
	var parts []impl.Part
	for _, p := range list {
		parts = append(parts, impl.Part{Rows: withSpare(p.Rows, placeMark), Mark: p.Mark})
	}
	return withSpare(parts, impl.Part{Rows: rows(placeMark), Mark: 77})
}

// wholeParts returns a copy of parts with what their lists have up to their capacity.
func wholeParts(list []impl.Part) []impl.Part {
	var whole []impl.Part
	for _, p := range list[:cap(list)] {
		whole = append(whole, impl.Part{Rows: slices.Clone(p.Rows[:cap(p.Rows)]), Mark: p.Mark})
	}
	return whole
}

func overwriteParts(list []impl.Part) {
	for _, p := range list {
		overwrite(p.Rows, placeMark)
	}
	overwrite(list, impl.Part{Rows: rows(placeMark), Mark: 77})
}

func memoryParts() [][]impl.Part {
	return [][]impl.Part{partsWith(marks{5, 5, 5}), partsWith(marks{5, 4, 3}, 3, 0, 4), partsWith(marks{5, 5, 0}, 4, 4, 4), partsWith(marks{1, 2, 3}, 0, 12), partsWith(marks{5, 5, 5}, 0, 0, 5)}
}

// memoryChanges has rows that are new, that replace one, and empty ones, for each part.
func memoryChanges() []impl.Row {
	var list []impl.Row
	for at := range int64(3) {
		own := rowsOfPart(at, 3)
		list = append(list, row(own[0].Loc, own[0].Sku, 0, 0), row(own[1].Loc, own[1].Sku, 8, 8), row(own[2].Loc, own[2].Sku, 9999, 0), row(3, 18+at, 1, 0), row(3, 18+at, 0, 0))
	}
	return list
}

// callPartFunctions calls every function of chapter 7 that takes parts, with valid and invalid arguments.
func callPartFunctions(parts []impl.Part) {
	impl.PartsFault(parts)
	impl.RowsOf(parts)
	impl.LeastMark(parts)
	impl.SameParts(parts, parts)
	for _, r := range append(memoryChanges(), row(9, 9, 9, 9), row(0, 1, 1, 2)) {
		for _, mark := range []int64{-1, 0, 5, 6, 999, 1000} {
			impl.WritePart(parts, r, mark)
		}
	}
}

// Promise 1: arguments are unchanged, up to their capacity.
func TestPartArgumentsAreUnchanged(t *testing.T) {
	list := memoryParts()
	for _, parts := range goodParts {
		list = append(list, parts)
	}
	for _, c := range faultyParts() {
		list = append(list, c.parts)
	}
	for _, given := range list {
		parts := spareParts(given)
		before := wholeParts(parts)
		callPartFunctions(parts)
		if !equalParts(wholeParts(parts), before) {
			t.Errorf("%+v was changed", given)
		}
	}
	checkLayoutRows(t, func(list []impl.Row, mark int64) { impl.PartsFrom(list, mark) })
}

// checkNewParts checks that a result shares no memory with the parts given, with another result, or between its parts.
func checkNewParts(t *testing.T, what string, parts []impl.Part, call func() impl.PartsResult, want []impl.Part) {
	t.Helper()
	before := wholeParts(parts)
	got, again := call(), call()
	overwriteParts(again.Parts)
	wantParts(t, what+": another result overwritten", got, want)
	if !equalParts(wholeParts(parts), before) {
		t.Errorf("%s: the argument was changed through a result", what)
	}
	for at := range want {
		one := call()
		overwrite(one.Parts[at].Rows, placeMark)
		one.Parts[at].Rows = want[at].Rows
		wantParts(t, what+": one of its parts overwritten", one, want)
	}
	overwriteParts(parts)
	wantParts(t, what+": the argument overwritten", got, want)
}

// Promise 1: written parts are new, also the parts that the write does not touch, and the parts that it leaves unchanged.
func TestWrittenPartsAreNew(t *testing.T) {
	for _, given := range memoryParts() {
		for _, r := range memoryChanges() {
			m, after := marksOf(given), plainWrite(rowsOfParts(given), r)
			at := plainPart(r.Loc, r.Sku)
			for _, mark := range []int64{0, m[at]} {
				parts := spareParts(given)
				unchanged := func() impl.PartsResult { return impl.WritePart(parts, r, mark) }
				checkNewParts(t, "applied already", parts, unchanged, given)
			}
			if len(after) > 12 {
				continue
			}
			m[at]++
			parts := spareParts(given)
			write := func() impl.PartsResult { return impl.WritePart(parts, r, m[at]) }
			checkNewParts(t, "write", parts, write, plainParts(m, after))
		}
	}
}

// Promise 1: the parts made of rows share no memory with them.
func TestPartsFromRowsAreNew(t *testing.T) {
	lists := [][]impl.Row{manyRows(12), {row(0, 1, 0, 0), row(0, 2, 3, 0), row(3, 2, 3, 0)}, sampleRows(5, 8), rowsOfPart(0, 12), rowsOfPart(2, 5)}
	for _, list := range lists {
		given := withSpare(list, placeMark)
		// The rows are put behind parts, so that they are looked at and overwritten as a part is.
		behind := []impl.Part{{Rows: given}}
		call := func() impl.PartsResult { return impl.PartsFrom(given, 7) }
		checkNewParts(t, "parts of rows", behind, call, plainParts(marks{7, 7, 7}, list))
	}
}

// Promise 1: the rows that are read share no memory with the parts or with another result.
func TestReadPartRowsAreNew(t *testing.T) {
	for _, given := range append(memoryParts(), partsWith(marks{}, 12), partsWith(marks{}, 0, 0, 1)) {
		parts := spareParts(given)
		before, want := wholeParts(parts), rowsOfParts(given)
		got, again := impl.RowsOf(parts), impl.RowsOf(parts)
		overwrite(again.Rows, placeMark)
		wantRows(t, "another result overwritten", got, impl.OK, want...)
		if !equalParts(wholeParts(parts), before) {
			t.Errorf("%+v was changed through a result", given)
		}
		overwriteParts(parts)
		wantRows(t, "the argument overwritten", got, impl.OK, want...)
	}
}

// Promise 1: results depend on the arguments only, whatever was called before and beside.
func TestPartResultsAreRepeatable(t *testing.T) {
	var all sync.WaitGroup
	for range 8 {
		all.Go(func() {
			for _, parts := range memoryParts() {
				m, list := marksOf(parts), rowsOfParts(parts)
				for _, r := range memoryChanges() {
					next, at := m, plainPart(r.Loc, r.Sku)
					next[at] = 6
					if after := plainWrite(list, r); len(after) <= 12 {
						wantParts(t, "write", impl.WritePart(parts, r, 6), plainParts(next, after))
					}
					wantInt(t, "part", impl.PartOf(r.Loc, r.Sku), impl.OK, at)
				}
				callPartFunctions(parts)
				wantParts(t, "parts of rows", impl.PartsFrom(list, 9), plainParts(marks{9, 9, 9}, list))
				wantRows(t, "rows", impl.RowsOf(parts), impl.OK, list...)
				wantInt(t, "least", impl.LeastMark(parts), impl.OK, min(m[0], m[1], m[2]))
			}
		})
	}
	all.Wait()
}
