package tests

import (
	"math"
	"slices"
	"testing"

	"loop.example/g00623/impl"
)

func row(loc, sku, hand, held int64) impl.Row {
	return impl.Row{Loc: loc, Sku: sku, Hand: hand, Held: held}
}

// rowAt returns the row whose key is key, which is no multiple of 21.
func rowAt(key, hand, held int64) impl.Row {
	return row(key/21, key%21, hand, held)
}

// sampleRows returns valid rows that depend on seed only; empty rows are among them.
func sampleRows(seed uint64, n int) []impl.Row {
	var list []impl.Row
	data := sampleBytes(seed, 6*84)
	for key := int64(1); key < 84; key++ {
		part := data[6*key:]
		left := int64(84) - key
		if key%21 == 0 || len(list) == n || int64(part[0])%left >= 2*int64(n-len(list)) {
			continue
		}
		hand := (int64(part[1])*256 + int64(part[2])) % 10000
		if part[5]%4 == 0 {
			hand = 0
		}
		list = append(list, rowAt(key, hand, (int64(part[3])*256+int64(part[4]))%(hand+1)))
	}
	return list
}

// manyRows returns n valid rows with the keys 1, 2, 3 and so on.
func manyRows(n int64) []impl.Row {
	var list []impl.Row
	for key := int64(1); int64(len(list)) < n; key++ {
		if key%21 != 0 {
			list = append(list, rowAt(key, 10+key, key%5))
		}
	}
	return list
}

func wantRow(t *testing.T, what string, got impl.RowResult, code int64, r impl.Row) {
	t.Helper()
	if got != (impl.RowResult{Code: code, Row: r}) {
		t.Errorf("%s: got %+v, want code %d and row %+v", what, got, code, r)
	}
}

func wantRows(t *testing.T, what string, got impl.RowsResult, code int64, list ...impl.Row) {
	t.Helper()
	if got.Code != code || !slices.Equal(got.Rows, list) {
		t.Errorf("%s: got %+v, want code %d and rows %+v", what, got, code, list)
	}
}

func wantCode(t *testing.T, what string, got, want int64) {
	t.Helper()
	if got != want {
		t.Errorf("%s: got code %d, want %d", what, got, want)
	}
}

// faultyRows has a list for each code of RowsFault, and for their order.
var faultyRows = []struct {
	what string
	list []impl.Row
	code int64
}{
	{"13 rows", manyRows(13), impl.ErrMany},
	{"13 rows, one out of range", append(manyRows(12), row(9, 9, 9, 9)), impl.ErrMany},
	{"13 rows, unsorted", append(manyRows(12), row(0, 1, 1, 0)), impl.ErrMany},
	{"Loc out of range", []impl.Row{row(4, 1, 0, 0)}, impl.ErrRange},
	{"more held than there is", []impl.Row{row(0, 1, 0, 1)}, impl.ErrStock},
	{"a key twice", []impl.Row{row(0, 1, 1, 0), row(0, 1, 2, 0)}, impl.ErrForm},
	{"unsorted by Sku", []impl.Row{row(0, 2, 1, 0), row(0, 1, 2, 0)}, impl.ErrForm},
	{"unsorted by Loc", []impl.Row{row(1, 1, 1, 0), row(0, 2, 2, 0)}, impl.ErrForm},
	{"range before form in one row", []impl.Row{row(0, 2, 1, 0), row(0, 1, -1, 0)}, impl.ErrRange},
	{"stock before form in one row", []impl.Row{row(0, 2, 1, 0), row(0, 1, 1, 2)}, impl.ErrStock},
	{"form of an earlier row", []impl.Row{row(0, 2, 1, 0), row(0, 1, 1, 0), row(9, 9, 9, 9)}, impl.ErrForm},
	{"stock of an earlier row", []impl.Row{row(0, 2, 1, 2), row(9, 9, 9, 9), row(0, 1, 1, 0)}, impl.ErrStock},
	{"range of an earlier row", []impl.Row{row(0, 0, 1, 0), row(0, 1, 1, 2)}, impl.ErrRange},
	{"keys that would wrap around", []impl.Row{row(0, 1, 1, 0), row(math.MaxInt64, 1, 1, 0)}, impl.ErrRange},
}

func TestRowLimits(t *testing.T) {
	if impl.MaxRows != 12 || impl.MaxLoc != 3 || impl.MaxSku != 20 {
		t.Error("limits")
	}
}

func TestKeyOf(t *testing.T) {
	wantInt(t, "1 and 2", impl.KeyOf(1, 2), impl.OK, 23)
	wantInt(t, "least", impl.KeyOf(0, 1), impl.OK, 1)
	wantInt(t, "greatest", impl.KeyOf(3, 20), impl.OK, 83)
	wantInt(t, "end of a location", impl.KeyOf(0, 20), impl.OK, 20)
	wantInt(t, "next location", impl.KeyOf(1, 1), impl.OK, 22)
	bad := [][2]int64{{-1, 1}, {4, 1}, {0, 0}, {0, 21}, {0, -1}, {-1, 22}, {math.MinInt64, 1}, {math.MaxInt64, 1}, {0, math.MinInt64}, {0, math.MaxInt64}}
	for _, b := range bad {
		wantInt(t, "out of range", impl.KeyOf(b[0], b[1]), impl.ErrRange, 0)
	}
}

func TestKeysAreUnique(t *testing.T) {
	last := int64(0)
	for loc := int64(0); loc <= 3; loc++ {
		for sku := int64(1); sku <= 20; sku++ {
			key := impl.KeyOf(loc, sku)
			if key.Code != impl.OK || key.Value <= last {
				t.Errorf("%d, %d: got %+v after %d", loc, sku, key, last)
			}
			last = key.Value
		}
	}
}

func TestRowFault(t *testing.T) {
	good := []impl.Row{row(0, 1, 0, 0), row(3, 20, 9999, 9999), row(0, 1, 9999, 0), row(1, 2, 5, 5), row(1, 2, 5, 4)}
	for _, r := range good {
		wantCode(t, "valid", impl.RowFault(r), impl.OK)
	}
	for _, n := range []int64{-1, 4, math.MinInt64, math.MaxInt64} {
		wantCode(t, "Loc", impl.RowFault(row(n, 1, 5, 1)), impl.ErrRange)
	}
	for _, n := range []int64{-1, 0, 21, math.MinInt64, math.MaxInt64} {
		wantCode(t, "Sku", impl.RowFault(row(1, n, 5, 1)), impl.ErrRange)
	}
	for _, n := range []int64{-1, 10000, math.MinInt64, math.MaxInt64} {
		wantCode(t, "Hand", impl.RowFault(row(1, 1, n, 0)), impl.ErrRange)
		wantCode(t, "Held", impl.RowFault(row(1, 1, 9999, n)), impl.ErrRange)
	}
	for _, r := range []impl.Row{row(0, 1, 0, 1), row(1, 2, 5, 6), row(3, 20, 9998, 9999), row(0, 1, 0, 9999)} {
		wantCode(t, "held", impl.RowFault(r), impl.ErrStock)
	}
	for _, r := range []impl.Row{row(4, 1, 0, 1), row(0, 0, 0, 1), row(0, 1, -1, 0), row(0, 1, 0, 10000), {}} {
		wantCode(t, "range first", impl.RowFault(r), impl.ErrRange)
	}
}

func TestRowsFault(t *testing.T) {
	good := [][]impl.Row{nil, {}, manyRows(1), manyRows(12), {row(0, 1, 0, 0)}, {row(0, 20, 1, 0), row(1, 1, 1, 0)}, {row(0, 1, 0, 0), row(3, 20, 9999, 9999)}}
	for _, list := range good {
		wantCode(t, "valid", impl.RowsFault(list), impl.OK)
	}
	for _, c := range faultyRows {
		wantCode(t, c.what, impl.RowsFault(c.list), c.code)
	}
}

func TestFunctionsReturnTheRowsFault(t *testing.T) {
	for _, c := range faultyRows {
		wantRow(t, "find: "+c.what, impl.FindRow(c.list, 9, 9), c.code, impl.Row{})
		wantRows(t, "put: "+c.what, impl.PutRow(c.list, row(9, 9, 9, 9)), c.code)
		wantRows(t, "put an empty row: "+c.what, impl.PutRow(c.list, row(0, 1, 0, 0)), c.code)
		wantRows(t, "cut: "+c.what, impl.CutRows(c.list, 5, 4), c.code)
		wantRows(t, "cut: "+c.what, impl.CutRows(c.list, 0, 0), c.code)
		wantRows(t, "join: "+c.what, impl.JoinRows(c.list, nil), c.code)
		wantRows(t, "join: "+c.what, impl.JoinRows(nil, c.list), c.code)
		for _, d := range faultyRows {
			wantRows(t, "join: "+c.what+", "+d.what, impl.JoinRows(c.list, d.list), c.code)
		}
	}
}

func TestFindRow(t *testing.T) {
	list := []impl.Row{row(0, 1, 0, 0), row(0, 20, 7, 0), row(1, 1, 5, 5), row(3, 20, 9999, 1)}
	for _, r := range list {
		wantRow(t, "there", impl.FindRow(list, r.Loc, r.Sku), impl.OK, r)
	}
	for _, key := range [][2]int64{{0, 2}, {1, 20}, {2, 1}, {3, 1}} {
		wantRow(t, "not there", impl.FindRow(list, key[0], key[1]), impl.ErrNone, impl.Row{})
		wantRow(t, "no rows", impl.FindRow(nil, key[0], key[1]), impl.ErrNone, impl.Row{})
		wantRow(t, "no rows", impl.FindRow([]impl.Row{}, key[0], key[1]), impl.ErrNone, impl.Row{})
	}
	// The last of these has the key of a row without being in range.
	for _, key := range [][2]int64{{-1, 1}, {4, 1}, {0, 0}, {0, 21}, {math.MaxInt64, 1}, {0, math.MinInt64}, {0, 22}} {
		wantRow(t, "out of range", impl.FindRow(list, key[0], key[1]), impl.ErrRange, impl.Row{})
		wantRow(t, "out of range", impl.FindRow(nil, key[0], key[1]), impl.ErrRange, impl.Row{})
	}
}

func TestPutRow(t *testing.T) {
	a, b, c := row(0, 9, 7, 0), row(1, 2, 5, 1), row(1, 3, 1, 0)
	wantRows(t, "into nil", impl.PutRow(nil, b), impl.OK, b)
	wantRows(t, "into an empty list", impl.PutRow([]impl.Row{}, b), impl.OK, b)
	wantRows(t, "first", impl.PutRow([]impl.Row{b, c}, a), impl.OK, a, b, c)
	wantRows(t, "between", impl.PutRow([]impl.Row{a, c}, b), impl.OK, a, b, c)
	wantRows(t, "last", impl.PutRow([]impl.Row{a, b}, c), impl.OK, a, b, c)
	wantRows(t, "the same", impl.PutRow([]impl.Row{a, b, c}, b), impl.OK, a, b, c)
	again := row(1, 2, 9999, 9999)
	wantRows(t, "again", impl.PutRow([]impl.Row{a, b, c}, again), impl.OK, a, again, c)
	wantRows(t, "ends", impl.PutRow([]impl.Row{row(3, 20, 1, 0)}, row(0, 1, 1, 0)), impl.OK, row(0, 1, 1, 0), row(3, 20, 1, 0))
	wantRows(t, "hand without held", impl.PutRow(nil, row(0, 1, 1, 0)), impl.OK, row(0, 1, 1, 0))
}

func TestPutEmptyRow(t *testing.T) {
	a, b, c := row(0, 9, 7, 0), row(1, 2, 5, 1), row(1, 3, 1, 0)
	list := []impl.Row{a, b, c}
	wantRows(t, "first", impl.PutRow(list, row(0, 9, 0, 0)), impl.OK, b, c)
	wantRows(t, "between", impl.PutRow(list, row(1, 2, 0, 0)), impl.OK, a, c)
	wantRows(t, "last", impl.PutRow(list, row(1, 3, 0, 0)), impl.OK, a, b)
	wantRows(t, "only", impl.PutRow([]impl.Row{a}, row(0, 9, 0, 0)), impl.OK)
	wantRows(t, "no such row", impl.PutRow(list, row(1, 4, 0, 0)), impl.OK, a, b, c)
	wantRows(t, "no rows", impl.PutRow(nil, row(1, 4, 0, 0)), impl.OK)
	empty := row(0, 9, 0, 0)
	wantRows(t, "an empty row again", impl.PutRow([]impl.Row{empty, b}, empty), impl.OK, b)
	wantRows(t, "beside an empty row", impl.PutRow([]impl.Row{empty, b}, row(1, 2, 0, 0)), impl.OK, empty)
	wantRows(t, "beside an empty row", impl.PutRow([]impl.Row{empty, b}, c), impl.OK, empty, b, c)
	wantRows(t, "for an empty row", impl.PutRow([]impl.Row{empty, b}, a), impl.OK, a, b)
}

func TestPutRowIntoFullRows(t *testing.T) {
	full := manyRows(12)
	next := row(3, 20, 1, 0)
	wantRows(t, "the 12th", impl.PutRow(full[:11], next), impl.OK, append(slices.Clone(full[:11]), next)...)
	wantRows(t, "the 13th", impl.PutRow(full, next), impl.ErrFull)
	wantRows(t, "the 13th, between", impl.PutRow(append(slices.Clone(full[:11]), next), full[11]), impl.ErrFull)
	wantRows(t, "an empty one", impl.PutRow(full, row(3, 20, 0, 0)), impl.OK, full...)
	changed := slices.Clone(full)
	changed[4].Hand = 9999
	wantRows(t, "again", impl.PutRow(full, changed[4]), impl.OK, changed...)
	gone := impl.Row{Loc: full[4].Loc, Sku: full[4].Sku}
	wantRows(t, "removed", impl.PutRow(full, gone), impl.OK, slices.Delete(slices.Clone(full), 4, 5)...)
}

func TestPutRowReturnsTheFaultOfTheRow(t *testing.T) {
	for _, list := range [][]impl.Row{nil, manyRows(3), manyRows(12)} {
		wantRows(t, "Loc", impl.PutRow(list, row(4, 1, 1, 0)), impl.ErrRange)
		wantRows(t, "Sku of an empty row", impl.PutRow(list, row(0, 0, 0, 0)), impl.ErrRange)
		wantRows(t, "Sku of an empty row", impl.PutRow(list, row(0, 21, 0, 0)), impl.ErrRange)
		wantRows(t, "Hand", impl.PutRow(list, row(0, 1, 10000, 0)), impl.ErrRange)
		wantRows(t, "Held", impl.PutRow(list, row(0, 1, 0, -1)), impl.ErrRange)
		wantRows(t, "stock", impl.PutRow(list, row(3, 1, 0, 1)), impl.ErrStock)
	}
}

// Promise 3: a row that was put is found unless it is empty, and all others are unchanged.
func TestPutRowsAreFound(t *testing.T) {
	for seed := range uint64(300) {
		list := sampleRows(seed, int(seed%13))
		wantCode(t, "sample", impl.RowsFault(list), impl.OK)
		for key := int64(1); key < 84; key++ {
			if key%21 == 0 {
				continue
			}
			for _, r := range []impl.Row{rowAt(key, 0, 0), rowAt(key, 8, 3), rowAt(key, 9999, 9999)} {
				checkPut(t, list, r)
			}
		}
	}
}

func checkPut(t *testing.T, list []impl.Row, r impl.Row) {
	t.Helper()
	isNew := impl.FindRow(list, r.Loc, r.Sku).Code == impl.ErrNone
	put := impl.PutRow(list, r)
	if isNew && r.Hand > 0 && len(list) == 12 {
		wantRows(t, "full", put, impl.ErrFull)
		return
	}
	wantCode(t, "put", put.Code, impl.OK)
	wantCode(t, "rows with a row that was put", impl.RowsFault(put.Rows), impl.OK)
	for key := int64(1); key < 84; key++ {
		if key%21 == 0 {
			continue
		}
		loc, sku := key/21, key%21
		found := impl.FindRow(put.Rows, loc, sku)
		switch {
		case loc != r.Loc || sku != r.Sku:
			before := impl.FindRow(list, loc, sku)
			wantRow(t, "another row", found, before.Code, before.Row)
		case r.Hand == 0:
			wantRow(t, "an empty row", found, impl.ErrNone, impl.Row{})
		default:
			wantRow(t, "the row", found, impl.OK, r)
		}
	}
}

func TestJoinRows(t *testing.T) {
	a, b, c, d := row(0, 9, 7, 0), row(1, 2, 5, 1), row(1, 3, 1, 0), row(3, 20, 1, 1)
	wantRows(t, "one each", impl.JoinRows([]impl.Row{b}, []impl.Row{a}), impl.OK, a, b)
	wantRows(t, "alternating", impl.JoinRows([]impl.Row{b, d}, []impl.Row{a, c}), impl.OK, a, b, c, d)
	wantRows(t, "in order", impl.JoinRows([]impl.Row{a, b}, []impl.Row{c, d}), impl.OK, a, b, c, d)
	wantRows(t, "around", impl.JoinRows([]impl.Row{a, d}, []impl.Row{b, c}), impl.OK, a, b, c, d)
	wantRows(t, "first empty", impl.JoinRows(nil, []impl.Row{a, b}), impl.OK, a, b)
	wantRows(t, "second empty", impl.JoinRows([]impl.Row{a, b}, []impl.Row{}), impl.OK, a, b)
	wantRows(t, "both empty", impl.JoinRows(nil, []impl.Row{}), impl.OK)
	empty := row(2, 1, 0, 0)
	wantRows(t, "an empty row", impl.JoinRows([]impl.Row{d}, []impl.Row{empty}), impl.OK, empty, d)
	wantRows(t, "the same rows", impl.JoinRows([]impl.Row{a, b}, []impl.Row{a, b}), impl.ErrTaken)
	wantRows(t, "one key", impl.JoinRows([]impl.Row{a, b, d}, []impl.Row{c, row(3, 20, 9, 0)}), impl.ErrTaken)
	wantRows(t, "the key of an empty row", impl.JoinRows([]impl.Row{row(0, 9, 0, 0)}, []impl.Row{a}), impl.ErrTaken)
}

func TestJoinRowsAtItsLimit(t *testing.T) {
	all := manyRows(24)
	for n := range 13 {
		wantRows(t, "12", impl.JoinRows(all[n:12], all[:n]), impl.OK, all[:12]...)
	}
	for n := 1; n < 13; n++ {
		wantRows(t, "13", impl.JoinRows(all[n:13], all[:n]), impl.ErrMany)
	}
	wantRows(t, "24", impl.JoinRows(all[:12], all[12:]), impl.ErrMany)
	wantRows(t, "24 with a common key", impl.JoinRows(all[:12], append([]impl.Row{all[11]}, all[12:23]...)), impl.ErrTaken)
	wantRows(t, "12 twice", impl.JoinRows(all[:12], all[:12]), impl.ErrTaken)
}

func TestCutRows(t *testing.T) {
	a, b, c, d := row(0, 1, 7, 0), row(1, 2, 5, 1), row(1, 3, 0, 0), row(3, 20, 1, 1)
	list := []impl.Row{a, b, c, d} // with the keys 1, 23, 24 and 83
	wantRows(t, "all", impl.CutRows(list, 0, 100), impl.OK, list...)
	wantRows(t, "nothing from 0", impl.CutRows(list, 0, 0), impl.OK)
	wantRows(t, "nothing from 100", impl.CutRows(list, 100, 100), impl.OK)
	wantRows(t, "nothing at a key", impl.CutRows(list, 23, 23), impl.OK)
	wantRows(t, "to is left out", impl.CutRows(list, 0, 23), impl.OK, a)
	wantRows(t, "from is taken", impl.CutRows(list, 23, 100), impl.OK, b, c, d)
	wantRows(t, "one key", impl.CutRows(list, 23, 24), impl.OK, b)
	wantRows(t, "least key", impl.CutRows(list, 1, 2), impl.OK, a)
	wantRows(t, "up to the least key", impl.CutRows(list, 0, 1), impl.OK)
	wantRows(t, "greatest key", impl.CutRows(list, 83, 84), impl.OK, d)
	wantRows(t, "up to the greatest key", impl.CutRows(list, 25, 83), impl.OK)
	wantRows(t, "after the greatest key", impl.CutRows(list, 84, 100), impl.OK)
	wantRows(t, "of nil", impl.CutRows(nil, 0, 100), impl.OK)
	wantRows(t, "of an empty list", impl.CutRows([]impl.Row{}, 0, 100), impl.OK)
	bad := [][2]int64{{-1, 5}, {5, 4}, {1, 0}, {0, 101}, {100, 101}, {101, 101}, {101, 100}, {100, 99}, {-1, -1}, {0, -1}, {math.MinInt64, 5}, {5, math.MinInt64}, {5, math.MaxInt64}, {math.MaxInt64, math.MaxInt64}}
	for _, b := range bad {
		wantRows(t, "out of range", impl.CutRows(list, b[0], b[1]), impl.ErrRange)
		wantRows(t, "out of range", impl.CutRows(nil, b[0], b[1]), impl.ErrRange)
	}
}

// Promise 3: rows that were cut are joined to the same rows.
func TestCutRowsAreJoined(t *testing.T) {
	for seed := range uint64(60) {
		list := sampleRows(seed, int(seed%13))
		for at := int64(0); at <= 100; at++ {
			low, high := impl.CutRows(list, 0, at), impl.CutRows(list, at, 100)
			wantCode(t, "low", low.Code, impl.OK)
			wantCode(t, "high", high.Code, impl.OK)
			wantRows(t, "joined", impl.JoinRows(low.Rows, high.Rows), impl.OK, list...)
			wantRows(t, "joined the other way", impl.JoinRows(high.Rows, low.Rows), impl.OK, list...)
			for to := at; to <= 100; to += 7 {
				cut := impl.CutRows(list, at, to)
				both := impl.JoinRows(cut.Rows, impl.CutRows(list, to, 100).Rows)
				wantRows(t, "joined parts", both, impl.OK, high.Rows...)
			}
		}
	}
}

func TestSameRows(t *testing.T) {
	list := manyRows(3)
	same := func(what string, a, b []impl.Row, want bool) {
		t.Helper()
		if impl.SameRows(a, b) != want || impl.SameRows(b, a) != want {
			t.Errorf("%s: want %v", what, want)
		}
	}
	same("itself", list, list, true)
	same("a copy", list, slices.Clone(list), true)
	same("nil and nil", nil, nil, true)
	same("nil and empty", nil, []impl.Row{}, true)
	same("nil and a row", nil, list[:1], false)
	same("nil and an empty row", nil, []impl.Row{row(0, 1, 0, 0)}, false)
	same("a prefix", list, list[:2], false)
	same("another order", []impl.Row{list[0], list[1]}, []impl.Row{list[1], list[0]}, false)
	for i := range list {
		for field := range 4 {
			other := slices.Clone(list)
			*[]*int64{&other[i].Loc, &other[i].Sku, &other[i].Hand, &other[i].Held}[field]++
			same("one field", list, other, false)
		}
	}
	// Rows need not be valid to be compared.
	wild := []impl.Row{row(-1, 99, math.MinInt64, math.MaxInt64), row(-1, 99, 0, 1), {}}
	same("invalid rows", wild, slices.Clone(wild), true)
	same("13 rows", manyRows(13), manyRows(13), true)
	same("13 rows and 12", manyRows(13), manyRows(12), false)
}

// callRowFunctions calls every function of chapter 2 that takes rows, with valid and invalid arguments.
func callRowFunctions(a, b []impl.Row) {
	impl.RowsFault(a)
	impl.SameRows(a, b)
	impl.JoinRows(a, b)
	for key := int64(-1); key <= 101; key++ {
		impl.FindRow(a, key/21, key%21)
		impl.PutRow(a, rowAt(key, 0, 0))
		impl.PutRow(a, rowAt(key, 3, 1))
		impl.PutRow(a, rowAt(key, 1, 3))
		impl.CutRows(a, key, 90)
		impl.CutRows(a, 0, key)
	}
}

// Promise 1: arguments are unchanged, up to their capacity.
func TestRowArgumentsAreUnchanged(t *testing.T) {
	mark := row(2, 7, 77, 7)
	inputs := [][]impl.Row{nil, manyRows(1), manyRows(6), manyRows(11), manyRows(12), manyRows(13), sampleRows(5, 8)}
	for _, c := range faultyRows {
		inputs = append(inputs, c.list)
	}
	for _, first := range inputs {
		for _, second := range [][]impl.Row{nil, {row(3, 19, 1, 1), row(3, 20, 2, 0)}, first} {
			a, b := withSpare(first, mark), withSpare(second, mark)
			callRowFunctions(a, b)
			callRowFunctions(b, a)
			if !slices.Equal(a, first) || !slices.Equal(b, second) {
				t.Errorf("%v or %v was changed", first, second)
			}
			for _, r := range slices.Concat(a[len(a):cap(a)], b[len(b):cap(b)]) {
				if r != mark {
					t.Errorf("the spare capacity of %v or %v was changed", first, second)
				}
			}
		}
	}
}

// Promise 1: a result shares no memory with an argument.
func TestRowResultsAreNew(t *testing.T) {
	mark := row(2, 7, 77, 7)
	list, other := manyRows(6), []impl.Row{row(3, 19, 1, 1), row(3, 20, 2, 0)}
	calls := map[string]func(a, b []impl.Row) impl.RowsResult{
		"put":                func(a, b []impl.Row) impl.RowsResult { return impl.PutRow(a, b[0]) },
		"put the same":       func(a, b []impl.Row) impl.RowsResult { return impl.PutRow(a, a[3]) },
		"put an empty row":   func(a, b []impl.Row) impl.RowsResult { return impl.PutRow(a, row(3, 1, 0, 0)) },
		"remove the first":   func(a, b []impl.Row) impl.RowsResult { return impl.PutRow(a, row(a[0].Loc, a[0].Sku, 0, 0)) },
		"remove the last":    func(a, b []impl.Row) impl.RowsResult { return impl.PutRow(a, row(a[5].Loc, a[5].Sku, 0, 0)) },
		"join":               func(a, b []impl.Row) impl.RowsResult { return impl.JoinRows(a, b) },
		"join, second empty": func(a, b []impl.Row) impl.RowsResult { return impl.JoinRows(a, nil) },
		"join, first empty":  func(a, b []impl.Row) impl.RowsResult { return impl.JoinRows(nil, b) },
		"cut all":            func(a, b []impl.Row) impl.RowsResult { return impl.CutRows(a, 0, 100) },
		"cut the first ones": func(a, b []impl.Row) impl.RowsResult { return impl.CutRows(a, 0, 3) },
		"cut the last ones":  func(a, b []impl.Row) impl.RowsResult { return impl.CutRows(a, 3, 100) },
	}
	for what, call := range calls {
		a, b := withSpare(list, mark), withSpare(other, mark)
		want := slices.Clone(call(a, b).Rows)
		got := call(a, b)
		again := call(a, b)
		overwrite(again.Rows, mark)
		wantRows(t, what+", another result overwritten", got, impl.OK, want...)
		if !slices.Equal(a, list) || !slices.Equal(b, other) {
			t.Errorf("%s: an argument was changed through a result", what)
		}
		overwrite(a, mark)
		overwrite(b, mark)
		wantRows(t, what+", arguments overwritten", got, impl.OK, want...)
	}
}
