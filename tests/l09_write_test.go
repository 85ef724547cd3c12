package tests

import (
	"slices"
	"strconv"
	"testing"

	"loop.example/g00623/impl"
)

// wantChange checks a change against the plain one, and returns its layout.
func wantChange(t *testing.T, what string, l impl.Layout, changes ...impl.Row) impl.Layout {
	t.Helper()
	got := impl.WriteRows(l, changes)
	wantLayout(t, what, got, plainChange(l, changes))
	return got.Layout
}

// inOld and inNew return the row of each layout with a key, and whether there is one.
func inOld(l impl.Layout, key int64) (impl.Row, bool) {
	return plainFind(rowsOfFiles(l.Old), key/21, key%21)
}

func inNew(l impl.Layout, key int64) (impl.Row, bool) {
	return plainFind(rowsOfParts(l.New), key/21, key%21)
}

// Changes of one, several, empty and no rows, in every good layout that has room.
func TestWriteRowsInEachPhase(t *testing.T) {
	for what, l := range goodLayouts() {
		if l.Mark == 999 || len(plainNow(l)) == 12 {
			continue
		}
		wantChange(t, what+", no rows", l)
		for key := int64(1); key < 84; key++ {
			if key%21 == 0 {
				continue
			}
			name := what + ", key " + strconv.FormatInt(key, 10)
			wantChange(t, name, l, rowAt(key, 6, 2))
			wantChange(t, name+", empty", l, rowAt(key, 0, 0))
		}
		wantChange(t, what+", two rows of a part", l, rowAt(3, 6, 2), rowAt(47, 1, 1))
		wantChange(t, what+", all rows again", l, someRows()...)
		wantChange(t, what+", all rows", l, rowAt(3, 6, 0), rowAt(19, 6, 1), rowAt(20, 6, 2), rowAt(47, 6, 3), rowAt(48, 6, 4), rowAt(83, 6, 5))
		wantChange(t, what+", some rows empty", l, rowAt(1, 4, 4), rowAt(3, 0, 0), rowAt(20, 1, 0), rowAt(21+3, 0, 0), rowAt(48, 0, 0), rowAt(83, 2, 2))
		var none []impl.Row
		for _, r := range someRows() {
			none = append(none, noneOf(r))
		}
		wantChange(t, what+", all rows removed", l, none...)
	}
}

// A change of a copied key reaches both layouts; one of a key that has not been copied reaches the old one, and is copied with its new value.
func TestWriteRowsBesideAt(t *testing.T) {
	start := plainLayout(impl.MoveCopy, 0, 5, marks{4, 0, 5}, someRows())
	for at := range int64(101) {
		l := moved(start, impl.MoveCopy, at)
		for key := int64(1); key < 84; key++ {
			if key%21 == 0 {
				continue
			}
			what := "At " + strconv.FormatInt(at, 10) + ", key " + strconv.FormatInt(key, 10)
			r := rowAt(key, 77, 7)
			next := wantChange(t, what, l, r)
			if old, _ := inOld(next, key); old != r {
				t.Errorf("%s: Old has %+v", what, old)
			}
			parted, found := inNew(next, key)
			if found != (key < at) || found && parted != r {
				t.Errorf("%s: New has %+v, %v", what, parted, found)
			}
			copied := impl.CopyKeys(next, 100).Layout
			if late, _ := inNew(copied, key); late != r {
				t.Errorf("%s: copied later: New has %+v", what, late)
			}
			wantLayout(t, what+", checked", impl.CheckMove(copied), moved(next, impl.MoveChecked, 100))
		}
	}
}

// The key At itself has not been copied; it has after one key more.
func TestWriteRowsAtExactlyAt(t *testing.T) {
	old, r := rowAt(47, 4, 1), rowAt(47, 9, 2)
	at := plainLayout(impl.MoveCopy, 47, 3, marks{}, rows(old))
	want := impl.Layout{Phase: impl.MoveCopy, At: 47, Mark: 4, Old: placesOf(4, nil, nil, rows(r)), New: partsWith(marks{})}
	wantLayout(t, "at At", impl.WriteRows(at, rows(r)), want)
	after := impl.CopyKeys(at, 1).Layout
	want = impl.Layout{Phase: impl.MoveCopy, At: 48, Mark: 4, Old: placesOf(4, nil, nil, rows(r)), New: []impl.Part{{}, {}, {Rows: rows(r), Mark: 4}}}
	wantLayout(t, "just copied", impl.WriteRows(after, rows(r)), want)
	// A key without a row counts as copied, too.
	none := impl.CopyKeys(plainLayout(impl.MoveCopy, 47, 3, marks{}, nil), 1).Layout
	wantLayout(t, "just copied, without a row", impl.WriteRows(none, rows(r)), want)
}

func TestWriteEmptyRows(t *testing.T) {
	a, b := rowAt(3, 5, 1), rowAt(47, 4, 1)
	l := plainLayout(impl.MoveCopy, 20, 8, marks{1, 2, 3}, rows(a, b))
	write := func(what string, l impl.Layout, want impl.Layout, changes ...impl.Row) {
		t.Helper()
		wantLayout(t, what, impl.WriteRows(l, changes), want)
	}
	write("removed from both", l, impl.Layout{Phase: impl.MoveCopy, At: 20, Mark: 9, Old: placesOf(9, nil, nil, rows(b)), New: []impl.Part{{Mark: 1}, {Mark: 2}, {Mark: 9}}}, noneOf(a))
	write("removed from the old one", l, impl.Layout{Phase: impl.MoveCopy, At: 20, Mark: 9, Old: placesOf(9, rows(a)), New: []impl.Part{{Mark: 1}, {Mark: 2}, {Rows: rows(a), Mark: 3}}}, noneOf(b))
	// A part is written, too, by an empty row that it does not have.
	write("not there", l, impl.Layout{Phase: impl.MoveCopy, At: 20, Mark: 9, Old: placesOf(9, rows(a), nil, rows(b)), New: []impl.Part{{Mark: 9}, {Mark: 2}, {Rows: rows(a), Mark: 3}}}, rowAt(1, 0, 0))
	done := plainLayout(impl.MoveDone, 100, 8, marks{1, 2, 3}, rows(a, b))
	write("done", done, impl.Layout{Phase: impl.MoveDone, At: 100, Mark: 9, Old: placesOf(0), New: []impl.Part{{Mark: 1}, {Mark: 2}, {Rows: rows(b), Mark: 9}}}, noneOf(a))
	write("done, all", done, impl.Layout{Phase: impl.MoveDone, At: 100, Mark: 9, Old: placesOf(0), New: []impl.Part{{Mark: 1}, {Mark: 2}, {Mark: 9}}}, noneOf(a), noneOf(b))
}

// No rows at all are one change all the same, of no part.
func TestWriteNoRows(t *testing.T) {
	for _, l := range eachPhase() {
		want := cloneLayout(l)
		want.Mark = 6
		if l.Phase != impl.MoveDone {
			want.Old.Mark = 6
		}
		wantLayout(t, "nil", impl.WriteRows(l, nil), want)
		wantLayout(t, "no rows", impl.WriteRows(l, rows()), want)
	}
}

// In MoveDone a write leaves Old as it is, empty and with Mark 0.
func TestWriteRowsWhenDone(t *testing.T) {
	l := plainLayout(impl.MoveDone, 100, 0, marks{}, nil)
	for i, r := range someRows() {
		l = wantChange(t, "done", l, r)
		if !equalPlaces(l.Old, placesOf(0)) || l.Mark != int64(i)+1 {
			t.Errorf("after %d changes: %+v", i+1, l)
		}
	}
	wantRows(t, "done", impl.RowsNow(l), impl.OK, someRows()...)
}

// The authoritative layout may have MaxRows rows, however few of them have been copied; they are counted after the change.
func TestWriteRowsIntoFullLayouts(t *testing.T) {
	full := manyRows(12)
	for _, l := range []impl.Layout{
		plainLayout(impl.MoveIdle, 0, 12, marks{}, full),
		plainLayout(impl.MoveCopy, 0, 12, marks{}, full),
		plainLayout(impl.MoveCopy, 5, 12, marks{9, 9, 9}, full),
		plainLayout(impl.MoveCopy, 100, 12, marks{9, 9, 9}, full),
		plainLayout(impl.MoveChecked, 100, 12, marks{9, 9, 9}, full),
		plainLayout(impl.MoveDone, 100, 12, marks{9, 9, 9}, full),
	} {
		what := "phase " + strconv.FormatInt(l.Phase, 10) + ", At " + strconv.FormatInt(l.At, 10) + ", "
		for key := int64(13); key < 84; key++ {
			if key%21 == 0 {
				continue
			}
			r := rowAt(key, 1, 0)
			wantNoLayout(t, what+"the 13th", impl.WriteRows(l, rows(r)), impl.ErrFull)
			wantNoLayout(t, what+"the 13th after another", impl.WriteRows(l, rows(full[3], r)), impl.ErrFull)
			wantChange(t, what+"an empty 13th", l, noneOf(r))
			wantChange(t, what+"in place of one before", l, noneOf(full[0]), r)
		}
		less := wantChange(t, what+"two removed", l, noneOf(full[0]), noneOf(full[4]))
		wantChange(t, what+"in place of one behind", less, full[0], rowAt(5, 0, 0), full[11])
		wantChange(t, what+"in place of one behind, full again", less, full[0], full[4])
		wantNoLayout(t, what+"three in place of two", impl.WriteRows(less, rows(full[0], full[4], rowAt(50, 1, 1))), impl.ErrFull)
		wantChange(t, what+"three in place of three", less, full[0], full[4], noneOf(full[7]), rowAt(50, 1, 1))
		one := wantChange(t, what+"one removed", l, noneOf(full[0]))
		wantChange(t, what+"one in place of the last", one, full[0], noneOf(full[11]))
		back := wantChange(t, what+"the last in place of the first", one, rowAt(50, 3, 1))
		// The row that comes first is put although there are 12 rows, since a later one makes room.
		wantChange(t, what+"the first in place of the last", back, full[0], rowAt(50, 0, 0))
		var none []impl.Row
		for _, r := range full {
			none = append(none, noneOf(r))
		}
		empty := wantChange(t, what+"all removed", l, none...)
		wantChange(t, what+"all at once", empty, full...)
	}
}

// The codes come in the order RowsFault, ErrFull for the Mark or for the rows.
func TestWriteRowsChecksInOrder(t *testing.T) {
	for what, l := range goodLayouts() {
		for _, c := range faultyRows {
			wantNoLayout(t, what+": "+c.what, impl.WriteRows(l, c.list), c.code)
		}
		if l.Mark != 999 {
			continue
		}
		for _, list := range [][]impl.Row{nil, {}, someRows(), rows(rowAt(3, 0, 0)), manyRows(12)} {
			wantNoLayout(t, what, impl.WriteRows(l, list), impl.ErrFull)
		}
	}
	// The last change that there is room for.
	for _, l := range eachPhase() {
		l = plainLayout(l.Phase, l.At, 998, marks{998, 998, 0}, someRows())
		last := wantChange(t, "Mark 998", l, rowAt(1, 2, 1))
		wantCode(t, "Mark 999", last.Mark, 999)
		wantNoLayout(t, "Mark 999", impl.WriteRows(last, nil), impl.ErrFull)
		for name, got := range map[string]impl.LayoutResult{"start": impl.StartMove(last), "copy": impl.CopyKeys(last, 80), "cut": impl.CutOver(last), "abort": impl.AbortMove(last)} {
			if got.Code != impl.OK && got.Code != impl.ErrState || got.Code == impl.OK && got.Layout.Mark != 999 {
				t.Errorf("%s at Mark 999: got %+v", name, got)
			}
		}
	}
}

// Changes of several rows are what the changes of one row each are, but for the Marks.
func TestWriteRowsTogether(t *testing.T) {
	for seed := range uint64(60) {
		for _, l := range eachPhase() {
			changes := sampleRows(seed, 5)
			one := l
			for _, r := range changes {
				one = impl.WriteRows(one, rows(r)).Layout
			}
			all := impl.WriteRows(l, changes).Layout
			wantCode(t, "Mark of all together", all.Mark, 6)
			wantCode(t, "Mark of one by one", one.Mark, 5+int64(len(changes)))
			if !slices.Equal(rowsOfParts(one.New), rowsOfParts(all.New)) || !slices.Equal(rowsOfFiles(one.Old), rowsOfFiles(all.Old)) {
				t.Errorf("%v: one by one %+v, together %+v", changes, one, all)
			}
		}
	}
}
