package tests

import (
	"math"
	"slices"
	"strconv"
	"testing"

	"loop.example/g00623/impl"
)

// placesOf returns places with the files given; the ones that are not given are empty.
func placesOf(mark int64, files ...[]impl.Row) impl.Places {
	p := impl.Places{Files: make([][]impl.Row, 4), Mark: mark}
	copy(p.Files, files)
	return p
}

// plainPlaces puts valid rows into their files, without the program.
func plainPlaces(mark int64, list []impl.Row) impl.Places {
	p := placesOf(mark)
	for _, r := range list {
		if r.Hand != 0 || r.Held != 0 {
			p.Files[r.Loc] = append(p.Files[r.Loc], r)
		}
	}
	return p
}

// equalPlaces compares places without the program; an empty list and nil are equal.
func equalPlaces(a, b impl.Places) bool {
	return a.Mark == b.Mark && slices.EqualFunc(a.Files, b.Files, func(x, y []impl.Row) bool { return slices.Equal(x, y) })
}

func clonePlaces(p impl.Places) impl.Places {
	var files [][]impl.Row
	for _, list := range p.Files {
		files = append(files, slices.Clone(list))
	}
	return impl.Places{Files: files, Mark: p.Mark}
}

func wantPlaces(t *testing.T, what string, got impl.PlacesResult, want impl.Places) {
	t.Helper()
	if got.Code != impl.OK || !equalPlaces(got.Places, want) {
		t.Errorf("%s: got %+v, want %+v", what, got, want)
	}
}

// wantNoPlaces checks that a code comes with zero values.
func wantNoPlaces(t *testing.T, what string, got impl.PlacesResult, code int64) {
	t.Helper()
	if got.Code != code || len(got.Places.Files) != 0 || got.Places.Mark != 0 {
		t.Errorf("%s: got %+v, want code %d and zero places", what, got, code)
	}
}

// filesWith returns places whose files have so many rows.
func filesWith(mark int64, counts ...int64) impl.Places {
	p := placesOf(mark)
	for loc, n := range counts {
		for sku := range n {
			p.Files[loc] = append(p.Files[loc], row(int64(loc), sku+1, 10+sku, sku))
		}
	}
	return p
}

func rowsOfFiles(p impl.Places) []impl.Row { return slices.Concat(p.Files...) }

var goodPlaces = map[string]impl.Places{
	"no rows":              placesOf(0),
	"no rows, not nil":     placesOf(0, rows(), rows(), rows(), rows()),
	"the greatest Mark":    placesOf(999, nil, rows(row(1, 2, 5, 1))),
	"the last but one":     placesOf(998, rows(row(0, 3, 1, 0))),
	"the ends of files":    placesOf(7, rows(row(0, 1, 1, 0), row(0, 20, 9999, 9999)), rows(row(1, 1, 1, 1), row(1, 20, 2, 0)), nil, rows(row(3, 1, 3, 0), row(3, 20, 4, 4))),
	"12 rows in all":       filesWith(3, 3, 3, 3, 3),
	"12 rows in the last":  filesWith(3, 0, 0, 0, 12),
	"12 rows in the first": filesWith(3, 12),
	"11 rows and 1":        filesWith(3, 0, 11, 0, 1),
	"11 rows":              filesWith(500, 2, 0, 9, 0),
}

type faultyPlace struct {
	what   string
	places impl.Places
	code   int64
}

// faultyFiles has places with each code that a file can have, and for their order.
func faultyFiles() []faultyPlace {
	a, b := row(0, 2, 5, 1), row(0, 3, 5, 1)
	list := []faultyPlace{
		{"a row of the next Loc", placesOf(0, rows(row(1, 2, 5, 1))), impl.ErrForm},
		{"a row of the Loc before", placesOf(0, nil, rows(a)), impl.ErrForm},
		{"a row of the first Loc in the last file", placesOf(0, nil, nil, nil, rows(a)), impl.ErrForm},
		{"the last row of another Loc", placesOf(0, rows(a, b, row(1, 1, 5, 1))), impl.ErrForm},
		{"the first row of another Loc", placesOf(0, nil, nil, rows(row(1, 20, 1, 0), row(2, 1, 1, 0))), impl.ErrForm},
		{"two files that are exchanged", placesOf(0, nil, rows(row(2, 2, 5, 1)), rows(row(1, 2, 5, 1))), impl.ErrForm},
		{"an empty row", placesOf(0, rows(row(0, 2, 0, 0))), impl.ErrForm},
		{"an empty row first", placesOf(0, nil, rows(row(1, 1, 0, 0), row(1, 2, 5, 1))), impl.ErrForm},
		{"an empty row last", placesOf(0, nil, nil, nil, rows(row(3, 19, 5, 1), row(3, 20, 0, 0))), impl.ErrForm},
		{"an empty row of another Loc", placesOf(0, nil, rows(row(2, 2, 0, 0))), impl.ErrForm},
		{"13 rows with an empty one", placesOf(0, append(filesWith(0, 12).Files[0], row(0, 13, 0, 0))), impl.ErrMany},
		{"RowsFault before another Loc in a file", placesOf(0, rows(row(1, 2, 5, 1), row(1, 3, 1, 2))), impl.ErrStock},
		{"RowsFault before an empty row in a file", placesOf(0, rows(row(0, 1, 0, 0), row(0, 2, 10000, 0))), impl.ErrRange},
		{"many rows before another Loc in a file", placesOf(0, nil, filesWith(0, 13).Files[0]), impl.ErrMany},
		{"another Loc before RowsFault of a later file", placesOf(0, rows(row(1, 2, 5, 1)), rows(row(1, 2, 1, 2))), impl.ErrForm},
		{"an empty row before RowsFault of a later file", placesOf(0, nil, rows(row(1, 2, 0, 0)), nil, manyRows(13)), impl.ErrForm},
		{"RowsFault before another Loc of a later file", placesOf(0, rows(row(0, 2, 1, 2)), rows(a)), impl.ErrStock},
		{"RowsFault of an earlier file", placesOf(0, nil, rows(row(1, 2, 1, 2)), manyRows(13), rows(row(9, 9, 9, 9))), impl.ErrStock},
	}
	for _, c := range faultyRows {
		for loc := range 4 {
			p := placesOf(5)
			p.Files[loc] = c.list
			list = append(list, faultyPlace{"file " + strconv.Itoa(loc) + ": " + c.what, p, c.code})
		}
	}
	return list
}

// faultyTotals has places with too many rows in total, and for what is checked before.
func faultyTotals() []faultyPlace {
	full, first, last := filesWith(3, 3, 3, 3, 3), filesWith(3, 4, 3, 3, 3), filesWith(3, 3, 3, 3, 4)
	first.Files[3] = rows(row(3, 1, 0, 0), row(3, 2, 1, 0), row(3, 3, 1, 0))
	last.Files[3][3] = row(3, 4, 1, 2)
	full.Files[2] = append(full.Files[2], row(2, 9, 0, 0))
	return []faultyPlace{
		{"13 rows in total", filesWith(3, 4, 3, 3, 3), impl.ErrMany},
		{"13 rows in total, the last file", filesWith(3, 3, 3, 3, 4), impl.ErrMany},
		{"12 rows and 1", filesWith(3, 12, 0, 0, 1), impl.ErrMany},
		{"1 row and 12", filesWith(3, 1, 0, 12, 0), impl.ErrMany},
		{"48 rows", filesWith(3, 12, 12, 12, 12), impl.ErrMany},
		{"an empty row before the total", first, impl.ErrForm},
		{"RowsFault before the total", last, impl.ErrStock},
		{"a 13th row that is empty", full, impl.ErrForm},
	}
}

// faultyPlaces has places for each code of PlacesFault, and for their order.
func faultyPlaces() []faultyPlace {
	good := filesWith(3, 3, 0, 1, 2).Files
	list := []faultyPlace{
		{"zero", impl.Places{}, impl.ErrMany},
		{"an empty list of files", impl.Places{Files: [][]impl.Row{}, Mark: 5}, impl.ErrMany},
		{"1 file", impl.Places{Files: good[:1]}, impl.ErrMany},
		{"3 files", impl.Places{Files: good[:3], Mark: 5}, impl.ErrMany},
		{"5 files", impl.Places{Files: append(slices.Clone(good), nil), Mark: 5}, impl.ErrMany},
		{"100 files", impl.Places{Files: make([][]impl.Row, 100)}, impl.ErrMany},
		{"3 files before Mark", impl.Places{Files: good[:3], Mark: -1}, impl.ErrMany},
		{"5 files before Mark", impl.Places{Files: make([][]impl.Row, 5), Mark: 1000}, impl.ErrMany},
		{"3 files before rows", impl.Places{Files: [][]impl.Row{rows(row(9, 9, 9, 9)), nil, nil}}, impl.ErrMany},
		{"Mark before rows", placesOf(-1, manyRows(13)), impl.ErrRange},
		{"Mark before another Loc", placesOf(1000, nil, rows(row(0, 2, 5, 1))), impl.ErrRange},
		{"Mark before an empty row", placesOf(1000, rows(row(0, 2, 0, 0))), impl.ErrRange},
		{"Mark before the total", filesWith(1000, 4, 3, 3, 3), impl.ErrRange},
	}
	for _, mark := range []int64{-1, 1000, math.MinInt64, math.MaxInt64} {
		list = append(list, faultyPlace{"Mark " + strconv.FormatInt(mark, 10), impl.Places{Files: good, Mark: mark}, impl.ErrRange})
	}
	return slices.Concat(list, faultyFiles(), faultyTotals())
}

func TestPlacesExamples(t *testing.T) {
	kept := impl.PlacesOf(rows(rowAt(3, 5, 0), rowAt(22, 0, 0), rowAt(47, 4, 1)), 0)
	wantPlaces(t, "the keys 3, 22 and 47", kept, placesOf(0, rows(rowAt(3, 5, 0)), nil, rows(rowAt(47, 4, 1))))
	wantRows(t, "two are kept", impl.RowsIn(kept.Places), impl.OK, rowAt(3, 5, 0), rowAt(47, 4, 1))
	wantInt(t, "from the table", impl.KeyOf(1, 2), impl.OK, 23)
	wantPlaces(t, "the key 23", impl.WritePlace(placesOf(0), rowAt(23, 6, 0), 1), placesOf(1, nil, rows(row(1, 2, 6, 0))))
}

func TestPlacesFault(t *testing.T) {
	for what, p := range goodPlaces {
		wantCode(t, what, impl.PlacesFault(p), impl.OK)
	}
	for _, c := range faultyPlaces() {
		wantCode(t, c.what, impl.PlacesFault(c.places), c.code)
	}
}

// The fault of the places comes before the codes of the functions themselves.
func TestFunctionsReturnThePlacesFault(t *testing.T) {
	bad := rows(row(0, 2, 1, 0), row(3, 20, 0, 0), row(0, 2, 1, 2), row(9, 9, 9, 9), impl.Row{})
	marks := []int64{0, 1, 4, 6, 999, 1000, -1, math.MinInt64, math.MaxInt64}
	for _, c := range faultyPlaces() {
		wantRows(t, "rows: "+c.what, impl.RowsIn(c.places), c.code)
		for _, r := range bad {
			for _, mark := range append(marks, c.places.Mark+1) {
				wantNoPlaces(t, "write: "+c.what, impl.WritePlace(c.places, r, mark), c.code)
			}
		}
		for _, n := range []int64{0, 12, 50, 101, -1} {
			wantRows(t, "scan: "+c.what, impl.ScanPlaces(c.places, n, 1), c.code)
			wantRows(t, "scan: "+c.what, impl.ScanPlaces(c.places, 0, n), c.code)
			wantRows(t, "scan: "+c.what, impl.ScanPlaces(c.places, n, n), c.code)
		}
	}
}

func TestPlacesOf(t *testing.T) {
	a, b, c, d := row(0, 1, 7, 0), row(0, 20, 5, 1), row(1, 3, 1, 0), row(3, 20, 1, 1)
	wantPlaces(t, "nil", impl.PlacesOf(nil, 0), placesOf(0))
	wantPlaces(t, "no rows", impl.PlacesOf(rows(), 999), placesOf(999))
	wantPlaces(t, "one row", impl.PlacesOf(rows(c), 1), placesOf(1, nil, rows(c)))
	wantPlaces(t, "the ends", impl.PlacesOf(rows(a, b, c, d), 7), placesOf(7, rows(a, b), rows(c), nil, rows(d)))
	wantPlaces(t, "12 rows", impl.PlacesOf(manyRows(12), 5), placesOf(5, manyRows(12)))
	full := filesWith(9, 3, 3, 3, 3)
	wantPlaces(t, "12 rows in 4 files", impl.PlacesOf(rowsOfFiles(full), 9), full)
	none := func(r impl.Row) impl.Row { return row(r.Loc, r.Sku, 0, 0) }
	wantPlaces(t, "the first one empty", impl.PlacesOf(rows(none(a), b, c, d), 7), placesOf(7, rows(b), rows(c), nil, rows(d)))
	wantPlaces(t, "one between empty", impl.PlacesOf(rows(a, b, none(c), d), 7), placesOf(7, rows(a, b), nil, nil, rows(d)))
	wantPlaces(t, "the last one empty", impl.PlacesOf(rows(a, b, c, none(d)), 7), placesOf(7, rows(a, b), rows(c)))
	wantPlaces(t, "all empty", impl.PlacesOf(rows(none(a), none(b), none(c), none(d)), 7), placesOf(7))
	half := manyRows(12)
	for i := 0; i < 12; i += 2 {
		half[i] = none(half[i])
	}
	wantPlaces(t, "12 rows with 6 empty ones", impl.PlacesOf(half, 7), plainPlaces(7, half))
}

func TestPlacesOfChecksInOrder(t *testing.T) {
	marks := []int64{-1, 1000, math.MinInt64, math.MaxInt64}
	for _, c := range faultyRows {
		for _, mark := range append(marks, 0, 7, 999) {
			wantNoPlaces(t, c.what, impl.PlacesOf(c.list, mark), c.code)
		}
	}
	for _, list := range [][]impl.Row{nil, {}, rows(row(0, 1, 0, 0)), rows(row(1, 3, 1, 0)), manyRows(12)} {
		for _, mark := range marks {
			wantNoPlaces(t, "Mark", impl.PlacesOf(list, mark), impl.ErrRange)
		}
	}
}

func TestRowsIn(t *testing.T) {
	for what, p := range goodPlaces {
		wantRows(t, what, impl.RowsIn(p), impl.OK, rowsOfFiles(p)...)
		wantCode(t, what, impl.RowsFault(impl.RowsIn(p).Rows), impl.OK)
	}
	wantRows(t, "the ends", impl.RowsIn(goodPlaces["the ends of files"]), impl.OK, row(0, 1, 1, 0), row(0, 20, 9999, 9999), row(1, 1, 1, 1), row(1, 20, 2, 0), row(3, 1, 3, 0), row(3, 20, 4, 4))
}

func TestWritePlace(t *testing.T) {
	a, b, c := row(2, 3, 7, 0), row(2, 9, 5, 1), row(2, 20, 1, 0)
	other := rows(row(1, 3, 4, 4))
	write := func(what string, before, after []impl.Row, r impl.Row) {
		t.Helper()
		got := impl.WritePlace(placesOf(5, nil, other, before, other[:0]), r, 6)
		wantPlaces(t, what, got, placesOf(6, nil, other, after))
	}
	write("into an empty file", nil, rows(b), b)
	write("first", rows(b, c), rows(a, b, c), a)
	write("between", rows(a, c), rows(a, b, c), b)
	write("last", rows(a, b), rows(a, b, c), c)
	write("the same", rows(a, b, c), rows(a, b, c), b)
	write("again", rows(a, b, c), rows(a, row(2, 9, 9999, 9999), c), row(2, 9, 9999, 9999))
	write("an empty row, first", rows(a, b, c), rows(b, c), row(2, 3, 0, 0))
	write("an empty row, between", rows(a, b, c), rows(a, c), row(2, 9, 0, 0))
	write("an empty row, last", rows(a, b, c), rows(a, b), row(2, 20, 0, 0))
	write("an empty row, the only one", rows(b), nil, row(2, 9, 0, 0))
	write("an empty row, none there", rows(a, c), rows(a, c), row(2, 9, 0, 0))
	write("an empty row into an empty file", nil, nil, row(2, 9, 0, 0))
	for loc := range int64(4) {
		want := placesOf(1)
		want.Files[loc] = rows(row(loc, 3, 1, 0))
		wantPlaces(t, "one file", impl.WritePlace(placesOf(0), row(loc, 3, 1, 0), 1), want)
	}
}

func TestWritePlaceMarks(t *testing.T) {
	r := row(1, 2, 5, 1)
	for mark := range int64(999) {
		wantPlaces(t, "the next mark", impl.WritePlace(placesOf(mark), r, mark+1), placesOf(mark+1, nil, rows(r)))
		wantPlaces(t, "the next mark, a row removed", impl.WritePlace(placesOf(mark, nil, rows(r)), row(1, 2, 0, 0), mark+1), placesOf(mark+1))
	}
	for _, mark := range []int64{0, 1, 6, 500, 998, 999} {
		for _, next := range []int64{0, 1, mark - 1, mark, mark + 2, mark + 3, -mark, -1, 1000, 1001, math.MinInt64, math.MaxInt64} {
			if next == mark+1 && next < 1000 {
				continue
			}
			what := "Mark " + strconv.FormatInt(mark, 10) + ", then " + strconv.FormatInt(next, 10)
			wantNoPlaces(t, what, impl.WritePlace(placesOf(mark), r, next), impl.ErrState)
			wantNoPlaces(t, what+", the same row", impl.WritePlace(placesOf(mark, nil, rows(r)), r, next), impl.ErrState)
			wantNoPlaces(t, what+", an empty row", impl.WritePlace(placesOf(mark), row(1, 2, 0, 0), next), impl.ErrState)
		}
	}
}

// The places may have MaxRows rows in all, however few of them the file has that is written.
func TestWritePlaceIntoFullFiles(t *testing.T) {
	for _, counts := range [][]int64{{3, 3, 3, 3}, {12}, {0, 12}, {0, 0, 0, 12}, {0, 1, 11, 0}, {11, 0, 0, 1}} {
		p := filesWith(41, counts...)
		all := rowsOfFiles(p)
		for loc := range int64(4) {
			wantNoPlaces(t, "the 13th", impl.WritePlace(p, row(loc, 20, 1, 0), 42), impl.ErrFull)
			wantNoPlaces(t, "the 13th", impl.WritePlace(p, row(loc, 15, 9999, 9999), 42), impl.ErrFull)
			wantPlaces(t, "an empty one", impl.WritePlace(p, row(loc, 20, 0, 0), 42), plainPlaces(42, all))
		}
		for i, r := range all {
			changed, less := slices.Clone(all), slices.Delete(slices.Clone(all), i, i+1)
			changed[i].Hand = 9999
			wantPlaces(t, "again", impl.WritePlace(p, changed[i], 42), plainPlaces(42, changed))
			removed := impl.WritePlace(p, row(r.Loc, r.Sku, 0, 0), 42)
			wantPlaces(t, "removed", removed, plainPlaces(42, less))
			wantPlaces(t, "the 12th", impl.WritePlace(removed.Places, row(3, 20, 1, 0), 43), plainPlaces(43, append(less, row(3, 20, 1, 0))))
		}
	}
}

// The codes come in the order RowFault, ErrState, ErrFull.
func TestWritePlaceChecksInOrder(t *testing.T) {
	for what, p := range goodPlaces {
		for _, mark := range []int64{p.Mark + 1, p.Mark, -1, 1000} {
			for _, r := range rows(row(4, 1, 1, 0), row(-1, 1, 1, 0), row(math.MinInt64, 1, 0, 0), row(math.MaxInt64, 1, 0, 0), row(0, 0, 0, 0), row(0, 21, 0, 0), row(0, 1, 10000, 0), row(0, 1, 0, -1), impl.Row{}) {
				wantNoPlaces(t, "range: "+what, impl.WritePlace(p, r, mark), impl.ErrRange)
			}
			wantNoPlaces(t, "stock: "+what, impl.WritePlace(p, row(3, 19, 0, 1), mark), impl.ErrStock)
		}
		for _, mark := range []int64{p.Mark, p.Mark + 2, -1, 1000} {
			for loc := range int64(4) {
				wantNoPlaces(t, "state: "+what, impl.WritePlace(p, row(loc, 19, 1, 0), mark), impl.ErrState)
			}
		}
	}
	last := filesWith(999, 3, 3, 3, 3)
	wantNoPlaces(t, "no mark is left", impl.WritePlace(last, row(0, 1, 1, 0), 1000), impl.ErrState)
	wantNoPlaces(t, "neither a mark nor room is left", impl.WritePlace(last, row(0, 20, 1, 0), 1000), impl.ErrState)
}

func TestScanPlaces(t *testing.T) {
	a, b, c, d := rowAt(3, 5, 0), rowAt(20, 5, 5), rowAt(22, 1, 0), rowAt(83, 4, 1)
	p := placesOf(9, rows(a, b), rows(c), nil, rows(d))
	wantRows(t, "at the first key", impl.ScanPlaces(p, 3, 2), impl.OK, a, b)
	wantRows(t, "before the first key", impl.ScanPlaces(p, 0, 3), impl.OK, a, b, c)
	wantRows(t, "between keys", impl.ScanPlaces(p, 4, 1), impl.OK, b)
	wantRows(t, "between files", impl.ScanPlaces(p, 21, 2), impl.OK, c, d)
	wantRows(t, "at the key of the next file", impl.ScanPlaces(p, 22, 1), impl.OK, c)
	wantRows(t, "behind a key", impl.ScanPlaces(p, 23, 12), impl.OK, d)
	wantRows(t, "at the last key", impl.ScanPlaces(p, 83, 1), impl.OK, d)
	wantRows(t, "behind the last key", impl.ScanPlaces(p, 84, 12), impl.OK)
	wantRows(t, "at the end", impl.ScanPlaces(p, 100, 12), impl.OK)
	wantRows(t, "as many as there are", impl.ScanPlaces(p, 0, 4), impl.OK, a, b, c, d)
	wantRows(t, "more than there are", impl.ScanPlaces(p, 0, 12), impl.OK, a, b, c, d)
	wantRows(t, "no rows", impl.ScanPlaces(placesOf(0), 0, 12), impl.OK)
	for what, p := range goodPlaces {
		all := rowsOfFiles(p)
		for from := range int64(101) {
			i := slices.IndexFunc(all, func(r impl.Row) bool { return 21*r.Loc+r.Sku >= from })
			if i < 0 {
				i = len(all)
			}
			for most := 1; most <= 12; most++ {
				wantRows(t, what, impl.ScanPlaces(p, from, int64(most)), impl.OK, all[i:min(i+most, len(all))]...)
			}
		}
	}
}

func TestScanPlacesOutOfRange(t *testing.T) {
	for what, p := range goodPlaces {
		for _, from := range []int64{-1, 101, math.MinInt64, math.MaxInt64} {
			wantRows(t, "from: "+what, impl.ScanPlaces(p, from, 1), impl.ErrRange)
			wantRows(t, "from: "+what, impl.ScanPlaces(p, from, 12), impl.ErrRange)
			wantRows(t, "both: "+what, impl.ScanPlaces(p, from, 0), impl.ErrRange)
		}
		for _, most := range []int64{0, 13, -1, math.MinInt64, math.MaxInt64} {
			wantRows(t, "most: "+what, impl.ScanPlaces(p, 0, most), impl.ErrRange)
			wantRows(t, "most: "+what, impl.ScanPlaces(p, 100, most), impl.ErrRange)
		}
	}
}

func TestSamePlaces(t *testing.T) {
	same := func(what string, a, b impl.Places, want bool) {
		t.Helper()
		if impl.SamePlaces(a, b) != want || impl.SamePlaces(b, a) != want {
			t.Errorf("%s: want %v", what, want)
		}
	}
	same("zero", impl.Places{}, impl.Places{}, true)
	same("an empty list of files and nil", impl.Places{}, impl.Places{Files: [][]impl.Row{}}, true)
	same("empty files and nil", goodPlaces["no rows"], goodPlaces["no rows, not nil"], true)
	same("no files and 4 empty ones", impl.Places{}, placesOf(0), false)
	same("3 files and 4", impl.Places{Files: placesOf(0).Files[:3]}, placesOf(0), false)
	// Places need not be valid to be compared.
	for _, c := range faultyPlaces() {
		same(c.what, c.places, clonePlaces(c.places), true)
	}
	wild := placesOf(math.MinInt64, rows(row(-1, 99, math.MaxInt64, 7), impl.Row{}), rows(impl.Row{}), nil, rows(row(0, 1, 1, 2)))
	for what, p := range goodPlaces {
		same(what, p, clonePlaces(p), true)
		same(what+" and another", p, wild, false)
	}
	same("without the last row of a file", wild, placesOf(wild.Mark, wild.Files[0][:1], wild.Files[1], nil, wild.Files[3]), false)
	same("without a row", wild, placesOf(wild.Mark, wild.Files[0], nil, nil, wild.Files[3]), false)
	same("another order of rows", wild, placesOf(wild.Mark, rows(wild.Files[0][1], wild.Files[0][0]), wild.Files[1], nil, wild.Files[3]), false)
	same("another order of files", wild, placesOf(wild.Mark, wild.Files[0], nil, wild.Files[1], wild.Files[3]), false)
	same("the same rows in one file", placesOf(0, rows(row(0, 1, 1, 0), row(1, 1, 1, 0))), placesOf(0, rows(row(0, 1, 1, 0)), rows(row(1, 1, 1, 0))), false)
	same("another Mark", placesOf(1), placesOf(2), false)
	for field := range 17 {
		other := clonePlaces(wild)
		fields := []*int64{&other.Mark}
		for _, list := range other.Files {
			for i := range list {
				fields = append(fields, &list[i].Loc, &list[i].Sku, &list[i].Hand, &list[i].Held)
			}
		}
		*fields[field] ^= 1
		same("field "+strconv.Itoa(field), wild, other, false)
	}
}
