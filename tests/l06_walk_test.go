package tests

import (
	"slices"
	"strconv"
	"sync"
	"testing"

	"loop.example/g00623/impl"
)

// plainWrite puts a row into sorted rows without the program; an empty row is removed.
func plainWrite(list []impl.Row, r impl.Row) []impl.Row {
	list = slices.DeleteFunc(slices.Clone(list), func(x impl.Row) bool { return x.Loc == r.Loc && x.Sku == r.Sku })
	if r.Hand == 0 && r.Held == 0 {
		return list
	}
	return plainPut(list, r.Loc, r.Sku, r.Hand, r.Held)
}

// writeRow returns a row that depends on seed only, of few Skus, so that rows are written again.
func writeRow(seed uint64) impl.Row {
	n := sampleNumbers(seed, 4)
	for i := range n {
		n[i] += 32768
	}
	r := row(n[0]%4, n[1]%5*5+1, n[2]%3*33, n[3]%3)
	if r.Sku == 21 {
		r.Sku = 20
	}
	if n[3]%50 > 0 {
		r.Held = min(r.Held, r.Hand)
	}
	if n[1]%60 == 0 {
		r.Loc += 4 * (n[0]%3 - 1)
	}
	return r
}

func plainRowFault(r impl.Row) int64 {
	switch {
	case r.Loc < 0 || r.Loc > 3 || r.Sku < 1 || r.Sku > 20 || r.Hand < 0 || r.Hand > 9999 || r.Held < 0 || r.Held > 9999:
		return impl.ErrRange
	case r.Held > r.Hand:
		return impl.ErrStock
	}
	return impl.OK
}

// plainWriteCode returns the code of a write to places that have the rows of list.
func plainWriteCode(mark int64, list []impl.Row, r impl.Row, next int64) int64 {
	switch {
	case plainRowFault(r) != impl.OK:
		return plainRowFault(r)
	case next != mark+1 || next == 1000:
		return impl.ErrState
	case len(plainWrite(list, r)) > 12:
		return impl.ErrFull
	}
	return impl.OK
}

// scanInPieces returns all rows, at most so many with each scan, each from the key behind the last one.
func scanInPieces(t *testing.T, p impl.Places, most int64) []impl.Row {
	t.Helper()
	var all []impl.Row
	from := int64(0)
	// There are at most 12 rows, so the 13th piece is empty.
	for range 13 {
		piece := impl.ScanPlaces(p, from, most)
		wantCode(t, "a piece", piece.Code, impl.OK)
		if int64(len(piece.Rows)) > most {
			t.Errorf("a piece of %d rows has %+v", most, piece.Rows)
		}
		if len(piece.Rows) == 0 {
			return all
		}
		all = append(all, piece.Rows...)
		last := piece.Rows[len(piece.Rows)-1]
		from = 21*last.Loc + last.Sku + 1
	}
	return all
}

// checkPlaces checks promise 7 for places that have exactly the rows of list.
func checkPlaces(t *testing.T, what string, p impl.Places, list []impl.Row) {
	t.Helper()
	wantCode(t, what, impl.PlacesFault(p), impl.OK)
	in := impl.RowsIn(p)
	wantRows(t, what, in, impl.OK, list...)
	wantPlaces(t, what+", from its rows", impl.PlacesOf(in.Rows, p.Mark), p)
	for most := int64(1); most <= 12; most++ {
		if got := scanInPieces(t, p, most); !slices.Equal(got, list) {
			t.Errorf("%s: pieces of %d rows are %+v, want %+v", what, most, got, list)
		}
	}
}

// placeWalk writes one row after the other and notes the codes.
func placeWalk(t *testing.T, seed uint64, reached map[int64]int) {
	given := sampleRows(seed, int(seed%13))
	mark := int64(seed*5) % 1000
	list := rowsOfFiles(plainPlaces(mark, given))
	p := impl.PlacesOf(given, mark).Places
	checkPlaces(t, "walk "+strconv.FormatUint(seed, 10), p, list)
	for i := range uint64(60) {
		r, next := writeRow(seed*1000+i), mark+1
		if i%20 == 19 {
			next = mark + int64(i)%3*2
		}
		what := "walk " + strconv.FormatUint(seed, 10) + ", write " + strconv.FormatUint(i, 10)
		code := plainWriteCode(mark, list, r, next)
		got := impl.WritePlace(p, r, next)
		reached[code]++
		if code != impl.OK {
			wantNoPlaces(t, what, got, code)
			continue
		}
		mark, list = next, plainWrite(list, r)
		wantPlaces(t, what, got, plainPlaces(mark, list))
		checkPlaces(t, what, got.Places, list)
		p = got.Places
		if found := impl.FindRow(impl.RowsIn(p).Rows, r.Loc, r.Sku); r.Hand > 0 {
			wantRow(t, what, found, impl.OK, r)
		} else {
			wantRow(t, what, found, impl.ErrNone, impl.Row{})
		}
		if t.Failed() {
			return
		}
	}
}

// Promise 7, along many walks, which reach every code of a write.
func TestPlaceWalks(t *testing.T) {
	reached := map[int64]int{}
	for seed := range uint64(300) {
		placeWalk(t, seed, reached)
	}
	for _, code := range []int64{impl.OK, impl.ErrRange, impl.ErrStock, impl.ErrState, impl.ErrFull} {
		if reached[code] == 0 {
			t.Errorf("no write returned %d", code)
		}
	}
}

var placeMark = row(2, 7, 77, 7)

// sparePlaces returns a copy of places with spare capacity.
func sparePlaces(p impl.Places) impl.Places {
	var files [][]impl.Row
	for _, list := range p.Files {
		files = append(files, withSpare(list, placeMark))
	}
	return impl.Places{Files: withSpare(files, rows(placeMark)), Mark: p.Mark}
}

// wholePlaces returns a copy of places with what their lists have up to their capacity.
func wholePlaces(p impl.Places) impl.Places {
	whole := impl.Places{Mark: p.Mark}
	for _, list := range p.Files[:cap(p.Files)] {
		whole.Files = append(whole.Files, slices.Clone(list[:cap(list)]))
	}
	return whole
}

func overwritePlaces(p impl.Places) {
	for _, list := range p.Files {
		overwrite(list, placeMark)
	}
	overwrite(p.Files, rows(placeMark))
}

func memoryPlaces() []impl.Places {
	return []impl.Places{placesOf(5), filesWith(5, 3, 2, 0, 4), filesWith(5, 3, 3, 3, 3), filesWith(5, 0, 12), filesWith(5, 0, 0, 5)}
}

// memoryWrites has rows that are new, that replace one, and empty ones, in each file.
func memoryWrites() []impl.Row {
	var list []impl.Row
	for loc := range int64(4) {
		list = append(list, row(loc, 1, 0, 0), row(loc, 2, 8, 8), row(loc, 20, 1, 0), row(loc, 20, 0, 0))
	}
	return list
}

// callPlaceFunctions calls every function of chapter 6 that takes places, with valid and invalid arguments.
func callPlaceFunctions(p impl.Places) {
	impl.PlacesFault(p)
	impl.RowsIn(p)
	impl.SamePlaces(p, p)
	for _, r := range append(memoryWrites(), row(9, 9, 9, 9), row(0, 1, 1, 2)) {
		for _, mark := range []int64{p.Mark, p.Mark + 1, 1000} {
			impl.WritePlace(p, r, mark)
		}
	}
	for from := int64(-1); from <= 101; from++ {
		for most := int64(0); most <= 13; most++ {
			impl.ScanPlaces(p, from, most)
		}
	}
}

// Promise 1: arguments are unchanged, up to their capacity.
func TestPlaceArgumentsAreUnchanged(t *testing.T) {
	list := memoryPlaces()
	for _, p := range goodPlaces {
		list = append(list, p)
	}
	for _, c := range faultyPlaces() {
		list = append(list, c.places)
	}
	for _, given := range list {
		p := sparePlaces(given)
		before := wholePlaces(p)
		callPlaceFunctions(p)
		if !equalPlaces(wholePlaces(p), before) {
			t.Errorf("%+v was changed", given)
		}
	}
	checkLayoutRows(t, func(list []impl.Row, mark int64) { impl.PlacesOf(list, mark) })
}

// checkLayoutRows checks that a call leaves the rows unchanged that a layout is made of, up to their capacity.
func checkLayoutRows(t *testing.T, call func(list []impl.Row, mark int64)) {
	t.Helper()
	inputs := [][]impl.Row{nil, {row(0, 1, 0, 0), row(1, 2, 3, 0)}, manyRows(12), manyRows(13), sampleRows(5, 8)}
	for _, c := range faultyRows {
		inputs = append(inputs, c.list)
	}
	for _, input := range inputs {
		given := withSpare(input, placeMark)
		before := slices.Clone(given[:cap(given)])
		for _, mark := range []int64{-1, 0, 999, 1000} {
			call(given, mark)
		}
		if !slices.Equal(given[:cap(given)], before) {
			t.Errorf("%v was changed", input)
		}
	}
}

// checkNewPlaces checks that a result shares no memory with the places given, with another result, or between its files.
func checkNewPlaces(t *testing.T, what string, p impl.Places, call func() impl.PlacesResult, want impl.Places) {
	t.Helper()
	before := wholePlaces(p)
	got, again := call(), call()
	overwritePlaces(again.Places)
	wantPlaces(t, what+": another result overwritten", got, want)
	if !equalPlaces(wholePlaces(p), before) {
		t.Errorf("%s: the argument was changed through a result", what)
	}
	for loc := range want.Files {
		part := call()
		overwrite(part.Places.Files[loc], placeMark)
		part.Places.Files[loc] = want.Files[loc]
		wantPlaces(t, what+": one of its files overwritten", part, want)
	}
	overwritePlaces(p)
	wantPlaces(t, what+": the argument overwritten", got, want)
}

// Promise 1: written places are new, also the files that the write does not touch.
func TestWrittenPlacesAreNew(t *testing.T) {
	for _, given := range memoryPlaces() {
		for _, r := range memoryWrites() {
			after := plainWrite(rowsOfFiles(given), r)
			if len(after) > 12 {
				continue
			}
			p := sparePlaces(given)
			write := func() impl.PlacesResult { return impl.WritePlace(p, r, 6) }
			checkNewPlaces(t, "write", p, write, plainPlaces(6, after))
		}
	}
}

// Promise 1: the files made of rows share no memory with them.
func TestPlacesOfRowsAreNew(t *testing.T) {
	lists := [][]impl.Row{manyRows(12), {row(0, 1, 0, 0), row(0, 2, 3, 0), row(3, 2, 3, 0)}, sampleRows(5, 8), rowsOfFiles(filesWith(0, 3, 3, 3, 3))}
	for _, list := range lists {
		given := withSpare(list, placeMark)
		// The rows are put behind places, so that they are looked at and overwritten as a file is.
		behind := impl.Places{Files: [][]impl.Row{given}}
		call := func() impl.PlacesResult { return impl.PlacesOf(given, 7) }
		checkNewPlaces(t, "places of rows", behind, call, plainPlaces(7, list))
	}
}

// Promise 1: the rows that are read share no memory with the places or with another result.
func TestReadPlaceRowsAreNew(t *testing.T) {
	calls := map[string]func(p impl.Places) impl.RowsResult{
		"rows":           impl.RowsIn,
		"scan all":       func(p impl.Places) impl.RowsResult { return impl.ScanPlaces(p, 0, 12) },
		"scan the first": func(p impl.Places) impl.RowsResult { return impl.ScanPlaces(p, 0, 1) },
		"scan the last":  func(p impl.Places) impl.RowsResult { return impl.ScanPlaces(p, 43, 12) },
		"scan some":      func(p impl.Places) impl.RowsResult { return impl.ScanPlaces(p, 22, 2) },
	}
	for what, call := range calls {
		for _, given := range append(memoryPlaces(), filesWith(5, 0, 0, 12), placesOf(5, nil, nil, nil, rows(row(3, 1, 2, 1)))) {
			p := sparePlaces(given)
			before := wholePlaces(p)
			want := slices.Clone(call(p).Rows)
			got, again := call(p), call(p)
			overwrite(again.Rows, placeMark)
			wantRows(t, what+": another result overwritten", got, impl.OK, want...)
			if !equalPlaces(wholePlaces(p), before) {
				t.Errorf("%s: the argument was changed through a result", what)
			}
			overwritePlaces(p)
			wantRows(t, what+": the argument overwritten", got, impl.OK, want...)
		}
	}
}

// Promise 1: results depend on the arguments only, whatever was called before and beside.
func TestPlaceResultsAreRepeatable(t *testing.T) {
	var all sync.WaitGroup
	for range 8 {
		all.Go(func() {
			for _, p := range memoryPlaces() {
				list := rowsOfFiles(p)
				for _, r := range memoryWrites() {
					if after := plainWrite(list, r); len(after) <= 12 {
						wantPlaces(t, "write", impl.WritePlace(p, r, 6), plainPlaces(6, after))
					}
				}
				callPlaceFunctions(p)
				wantPlaces(t, "places of rows", impl.PlacesOf(list, 5), p)
				wantRows(t, "rows", impl.RowsIn(p), impl.OK, list...)
				wantRows(t, "scan", impl.ScanPlaces(p, 0, 12), impl.OK, list...)
			}
		})
	}
	all.Wait()
}
