package tests

import (
	"math"
	"slices"
	"strconv"
	"testing"

	"loop.example/g00623/impl"
)

func isNone(r impl.Row) bool { return r.Hand == 0 && r.Held == 0 }

func noneOf(r impl.Row) impl.Row { return row(r.Loc, r.Sku, 0, 0) }

func withoutNone(list []impl.Row) []impl.Row {
	return slices.DeleteFunc(slices.Clone(list), isNone)
}

// plainRowSum returns the sum of a valid row, without the program.
func plainRowSum(r impl.Row) int64 {
	if isNone(r) {
		return 0
	}
	return plainSum([]byte{4, 0, byte(r.Loc), 0, byte(r.Sku), byte(r.Hand / 256), byte(r.Hand % 256), byte(r.Held / 256), byte(r.Held % 256)})
}

func plainDigest(list []impl.Row) int64 {
	sum := int64(0)
	for _, r := range list {
		sum += plainRowSum(r)
	}
	return sum % 65521
}

// plainCut returns the rows whose key is at least from and less than to, without the program.
func plainCut(list []impl.Row, from, to int64) []impl.Row {
	return slices.DeleteFunc(slices.Clone(list), func(r impl.Row) bool {
		key := 21*r.Loc + r.Sku
		return key < from || key >= to
	})
}

// plainDiffer returns the least key for which valid rows differ, without the program.
func plainDiffer(a, b []impl.Row) impl.IntResult {
	for key := int64(1); key < 84; key++ {
		// Empty rows are left out, and what is missing is the zero row on either side.
		x, _ := plainFind(withoutNone(a), key/21, key%21)
		y, _ := plainFind(withoutNone(b), key/21, key%21)
		if x != y {
			return impl.IntResult{Value: key}
		}
	}
	return impl.IntResult{Code: impl.ErrNone}
}

func wantDiffer(t *testing.T, what string, a, b []impl.Row, want impl.IntResult) {
	t.Helper()
	wantInt(t, what, impl.DifferAt(a, b), want.Code, want.Value)
	wantInt(t, what+", the other way", impl.DifferAt(b, a), want.Code, want.Value)
}

// wantSame checks whether the digests of two layouts are the same.
func wantSame(t *testing.T, what string, p impl.Places, parts []impl.Part, want bool) {
	t.Helper()
	if impl.SameDigest(p, parts) != want {
		t.Errorf("%s: want %v for %+v and %+v", what, want, p, parts)
	}
}

// Different rows whose sums are equal, with sums calculated from the formula of the checksum.
var collidingRows = []struct {
	a, b impl.Row
	sum  int64
}{
	{row(0, 3, 500, 241), row(0, 3, 500, 256), 40477},
	{row(0, 3, 1, 0), row(0, 4, 7891, 0), 37541},
	{row(0, 3, 1, 0), row(2, 9, 2545, 0), 37541},
	{row(2, 9, 2545, 0), row(2, 9, 2560, 0), 37541},
	{row(0, 1, 3445, 0), row(2, 16, 7533, 0), 65520},
	{row(0, 4, 4713, 0), row(1, 2, 1268, 0), 0},
	{row(0, 4, 4713, 0), row(0, 4, 0, 0), 0},
}

// Different lists of rows whose digests are equal.
var collidingLists = []struct {
	what string
	a, b []impl.Row
	key  int64
}{
	{"one unit held elsewhere", rows(row(0, 3, 10, 1), row(2, 5, 10, 2)), rows(row(0, 3, 10, 2), row(2, 5, 10, 1)), 3},
	{"one unit moved", rows(row(0, 3, 10, 0), row(0, 7, 5, 0), row(2, 5, 10, 0)), rows(row(0, 3, 10, 0), row(0, 7, 6, 0), row(2, 5, 9, 0)), 7},
	{"a row with the sum 0", nil, rows(row(1, 2, 1268, 0)), 23},
	{"a row with the sum 0 among others", rows(row(0, 3, 1, 0), row(2, 5, 4, 1)), rows(row(0, 3, 1, 0), row(1, 2, 1268, 0), row(2, 5, 4, 1)), 23},
	{"another row with the sum 0", rows(row(1, 2, 1268, 0)), rows(row(0, 4, 4713, 0)), 4},
	{"the last one only", rows(row(0, 3, 1, 0), row(3, 20, 500, 241)), rows(row(0, 3, 1, 0), row(3, 20, 500, 256)), 83},
	{"all of them", rows(row(0, 3, 1, 0), row(0, 4, 4713, 0)), rows(row(1, 2, 1268, 0), row(2, 9, 2560, 0)), 3},
}

func TestDigestExamples(t *testing.T) {
	a, b := row(0, 3, 1, 0), row(2, 5, 4, 1)
	both := impl.AddDigest(impl.RowSum(a).Value, impl.RowSum(b).Value)
	wantInt(t, "the digest of two rows", impl.DigestOf(rows(a, b)), impl.OK, both.Value)
	wantInt(t, "the sum of two rows", both, impl.OK, 4028)
	wantInt(t, "the key 47 is missing", impl.DifferAt(rows(a, b), rows(a)), impl.OK, 47)
	wantInt(t, "from the table", impl.SumOf(nil), impl.OK, 19)
	wantInt(t, "from the table", impl.KeyOf(1, 2), impl.OK, 23)
	wantBytes(t, "from the table", impl.PutNumber(-1), impl.OK, 255, 255)
}

func TestRowSum(t *testing.T) {
	// Calculated from the formula of the checksum.
	sums := map[impl.Row]int64{
		row(0, 3, 1, 0):        37541,
		row(2, 5, 4, 1):        32008,
		row(0, 1, 1, 0):        60831,
		row(0, 1, 1, 1):        60832,
		row(3, 20, 9999, 9999): 49375,
		row(0, 20, 9999, 0):    45368,
		row(1, 2, 256, 255):    52946,
		row(1, 2, 1268, 0):     0,
		row(0, 1, 3445, 0):     65520,
	}
	for r, sum := range sums {
		wantInt(t, "written out", impl.RowSum(r), impl.OK, sum)
	}
	for loc := range int64(4) {
		for sku := int64(1); sku <= 20; sku++ {
			wantInt(t, "an empty row", impl.RowSum(row(loc, sku, 0, 0)), impl.OK, 0)
			for _, hand := range []int64{1, 2, 255, 256, 257, 9998, 9999} {
				for _, held := range []int64{0, 1, hand - 1, hand} {
					r := row(loc, sku, hand, held)
					packed := impl.PackNumbers([]int64{loc, sku, hand, held}).Bytes
					wantInt(t, "by the formula", impl.RowSum(r), impl.OK, plainRowSum(r))
					wantInt(t, "checksum", impl.RowSum(r), impl.OK, impl.SumOf(packed).Value)
				}
			}
		}
	}
	for hand := int64(1); hand <= 9999; hand++ {
		r := row(1, 2, hand, hand/2)
		wantInt(t, "each Hand", impl.RowSum(r), impl.OK, plainRowSum(r))
	}
}

func TestRowSumReturnsTheRowFault(t *testing.T) {
	for _, n := range []int64{-1, 4, 65536, math.MinInt64, math.MaxInt64} {
		wantInt(t, "Loc", impl.RowSum(row(n, 1, 5, 1)), impl.ErrRange, 0)
		wantInt(t, "Loc of an empty row", impl.RowSum(row(n, 1, 0, 0)), impl.ErrRange, 0)
	}
	for _, n := range []int64{-1, 0, 21, 65537, math.MinInt64, math.MaxInt64} {
		wantInt(t, "Sku", impl.RowSum(row(1, n, 5, 1)), impl.ErrRange, 0)
		wantInt(t, "Sku of an empty row", impl.RowSum(row(1, n, 0, 0)), impl.ErrRange, 0)
	}
	for _, n := range []int64{-1, 10000, 32768, math.MinInt64, math.MaxInt64} {
		wantInt(t, "Hand", impl.RowSum(row(1, 1, n, 0)), impl.ErrRange, 0)
		wantInt(t, "Held", impl.RowSum(row(1, 1, 9999, n)), impl.ErrRange, 0)
	}
	for _, r := range rows(row(0, 1, 0, 1), row(1, 2, 5, 6), row(3, 20, 9998, 9999)) {
		wantInt(t, "held", impl.RowSum(r), impl.ErrStock, 0)
	}
	for _, r := range rows(row(4, 1, 0, 1), row(0, 0, 0, 1), row(0, 1, 0, 10000), impl.Row{}) {
		wantInt(t, "range first", impl.RowSum(r), impl.ErrRange, 0)
	}
}

func TestAddDigest(t *testing.T) {
	add := func(a, b, want int64) {
		t.Helper()
		wantInt(t, "sum", impl.AddDigest(a, b), impl.OK, want)
		wantInt(t, "sum, the other way", impl.AddDigest(b, a), impl.OK, want)
	}
	add(0, 0, 0)
	add(0, 1, 1)
	add(37541, 32008, 4028)
	add(65520, 0, 65520)
	add(65520, 1, 0)
	add(65520, 2, 1)
	add(65520, 65520, 65519)
	add(32760, 32760, 65520)
	add(32760, 32761, 0)
	add(32761, 32761, 1)
	for a := range int64(65521) {
		add(a, 0, a)
		add(a, 65520-a, 65520)
		add(a, 65520, (a+65520)%65521)
		if a > 0 {
			add(a, 65521-a, 0)
		}
	}
}

func TestAddDigestOutOfRange(t *testing.T) {
	outside := []int64{-1, 65521, 65522, -65521, 131041, math.MinInt64, math.MaxInt64}
	for _, n := range outside {
		for _, m := range []int64{0, 1, 32760, 65520} {
			wantInt(t, "a", impl.AddDigest(n, m), impl.ErrRange, 0)
			wantInt(t, "b", impl.AddDigest(m, n), impl.ErrRange, 0)
		}
		for _, m := range outside {
			wantInt(t, "a and b", impl.AddDigest(n, m), impl.ErrRange, 0)
		}
	}
}

func TestDigestOf(t *testing.T) {
	a, b, c := row(0, 3, 1, 0), row(1, 1, 0, 0), row(2, 5, 4, 1)
	wantInt(t, "nil", impl.DigestOf(nil), impl.OK, 0)
	wantInt(t, "no rows", impl.DigestOf(rows()), impl.OK, 0)
	wantInt(t, "an empty row only", impl.DigestOf(rows(b)), impl.OK, 0)
	wantInt(t, "one row", impl.DigestOf(rows(a)), impl.OK, 37541)
	wantInt(t, "two rows", impl.DigestOf(rows(a, c)), impl.OK, 4028)
	wantInt(t, "an empty row between", impl.DigestOf(rows(a, b, c)), impl.OK, 4028)
	wantInt(t, "empty rows around", impl.DigestOf(rows(row(0, 1, 0, 0), a, c, row(3, 20, 0, 0))), impl.OK, 4028)
	wantInt(t, "the greatest sum", impl.DigestOf(rows(row(0, 1, 3445, 0))), impl.OK, 65520)
	wantInt(t, "the greatest sum twice", impl.DigestOf(rows(row(0, 1, 3445, 0), row(2, 16, 7533, 0))), impl.OK, 65519)
	for n := range int64(13) {
		list := manyRows(n)
		wantInt(t, "many rows", impl.DigestOf(list), impl.OK, plainDigest(list))
		for i, r := range list {
			other := slices.Clone(list)
			other[i] = noneOf(r)
			less := slices.Delete(slices.Clone(list), i, i+1)
			wantInt(t, "an empty row", impl.DigestOf(other), impl.OK, plainDigest(less))
			wantInt(t, "without a row", impl.DigestOf(less), impl.OK, plainDigest(less))
			wantInt(t, "with the row again", impl.AddDigest(plainDigest(less), impl.RowSum(r).Value), impl.OK, plainDigest(list))
		}
	}
	for _, c := range faultyRows {
		wantInt(t, c.what, impl.DigestOf(c.list), c.code, 0)
	}
}

func TestRangeDigest(t *testing.T) {
	a, b, c, d := row(0, 3, 1, 0), row(1, 1, 0, 0), row(2, 5, 4, 1), row(3, 20, 500, 241)
	list := rows(a, b, c, d) // with the keys 3, 22 (empty), 47 and 83
	digest := func(what string, from, to, want int64) {
		t.Helper()
		wantInt(t, what, impl.RangeDigest(list, from, to), impl.OK, want)
	}
	digest("all", 0, 100, plainDigest(list))
	digest("all, closely", 3, 84, plainDigest(list))
	digest("the first one", 0, 20, 37541)
	digest("the first one's key", 3, 4, 37541)
	digest("to is left out", 0, 3, 0)
	digest("the empty one's key", 22, 23, 0)
	digest("none between", 4, 47, 0)
	digest("the first two", 0, 48, 4028)
	digest("the last one", 83, 84, 33668)
	digest("up to the last one", 48, 83, 0)
	digest("after the last one", 84, 100, 0)
	digest("nothing from 0", 0, 0, 0)
	digest("nothing from 100", 100, 100, 0)
	digest("nothing at a key", 47, 47, 0)
	for from := int64(0); from <= 100; from++ {
		for to := from; to <= 100; to++ {
			digest("any range", from, to, plainDigest(plainCut(list, from, to)))
		}
		wantInt(t, "of nil", impl.RangeDigest(nil, from, 100), impl.OK, 0)
		wantInt(t, "of no rows", impl.RangeDigest(rows(), 0, from), impl.OK, 0)
	}
}

func TestRangeDigestReturnsTheCodesOfCutRows(t *testing.T) {
	outside := [][2]int64{{-1, 5}, {5, 4}, {1, 0}, {0, 101}, {100, 101}, {101, 101}, {101, 100}, {100, 99}, {-1, -1}, {0, -1}, {math.MinInt64, 5}, {5, math.MinInt64}, {5, math.MaxInt64}, {math.MaxInt64, math.MaxInt64}}
	for _, o := range outside {
		for _, list := range [][]impl.Row{nil, rows(), rows(row(0, 1, 0, 0)), manyRows(12)} {
			wantInt(t, "range", impl.RangeDigest(list, o[0], o[1]), impl.ErrRange, 0)
		}
	}
	for _, c := range faultyRows {
		for _, o := range append(outside, [2]int64{0, 100}, [2]int64{0, 0}, [2]int64{90, 95}) {
			wantInt(t, c.what, impl.RangeDigest(c.list, o[0], o[1]), c.code, 0)
		}
	}
}

func TestDifferAt(t *testing.T) {
	a, b, c := row(0, 3, 1, 0), row(1, 1, 0, 0), row(2, 5, 4, 1)
	none := impl.IntResult{Code: impl.ErrNone}
	at := func(key int64) impl.IntResult { return impl.IntResult{Value: key} }
	wantDiffer(t, "nil and nil", nil, nil, none)
	wantDiffer(t, "nil and no rows", nil, rows(), none)
	wantDiffer(t, "no rows and an empty one", nil, rows(b), none)
	wantDiffer(t, "different empty rows", rows(row(0, 3, 0, 0)), rows(b, row(3, 20, 0, 0)), none)
	wantDiffer(t, "themselves", rows(a, b, c), rows(a, b, c), none)
	wantDiffer(t, "without an empty row", rows(a, b, c), rows(a, c), none)
	wantDiffer(t, "the last one is missing", rows(a, c), rows(a), at(47))
	wantDiffer(t, "the last one is missing beside an empty row", rows(a, b, c), rows(a), at(47))
	wantDiffer(t, "the last one is empty", rows(a, c), rows(a, noneOf(c)), at(47))
	wantDiffer(t, "the first one is missing", rows(a, c), rows(c), at(3))
	wantDiffer(t, "the first one is empty", rows(a, c), rows(noneOf(a), c), at(3))
	wantDiffer(t, "both are missing", rows(a, c), nil, at(3))
	wantDiffer(t, "both are empty", rows(a, c), rows(noneOf(a), noneOf(c)), at(3))
	wantDiffer(t, "one each", rows(a), rows(c), at(3))
	wantDiffer(t, "one each beside empty ones", rows(noneOf(a), c), rows(row(0, 1, 0, 0), a), at(3))
	wantDiffer(t, "Hand", rows(a, c), rows(a, row(2, 5, 5, 1)), at(47))
	wantDiffer(t, "Held", rows(a, c), rows(a, row(2, 5, 4, 2)), at(47))
	wantDiffer(t, "Hand and Held", rows(a, c), rows(row(0, 3, 2, 2), row(2, 5, 9, 9)), at(3))
	wantDiffer(t, "a missing one before a change", rows(a, c), rows(row(2, 5, 9, 9)), at(3))
	wantDiffer(t, "a change before a missing one", rows(a, c), rows(row(0, 3, 2, 0)), at(3))
	wantDiffer(t, "the least key", rows(row(0, 1, 1, 0)), nil, at(1))
	wantDiffer(t, "the greatest key", rows(row(3, 20, 1, 0)), nil, at(83))
	wantDiffer(t, "another Loc", rows(row(1, 3, 1, 0)), rows(row(2, 3, 1, 0)), at(24))
	wantDiffer(t, "alternating", rows(row(0, 2, 1, 0), row(0, 4, 1, 0)), rows(row(0, 3, 1, 0), row(0, 5, 1, 0)), at(2))
	wantDiffer(t, "12 rows and none", manyRows(12), nil, at(1))
	wantDiffer(t, "12 rows and 12 others", manyRows(12), manyRows(24)[12:], at(1))
}

// Every key can be the first one for which rows differ, missing, empty or changed, on either side.
func TestDifferAtEveryKey(t *testing.T) {
	for key := int64(1); key < 84; key++ {
		if key%21 == 0 {
			continue
		}
		r := rowAt(key, 5, 1)
		for _, list := range [][]impl.Row{nil, manyRows(5), sampleRows(uint64(key), 7), rowsOfPart(key%3, 11)} {
			others := slices.DeleteFunc(slices.Clone(list), func(x impl.Row) bool { return x.Loc == r.Loc && x.Sku == r.Sku })
			with := func(hand, held int64) []impl.Row { return plainPut(others, r.Loc, r.Sku, hand, held) }
			less := plainCut(others, 0, key)
			for _, side := range [][]impl.Row{with(5, 2), with(6, 1), with(1, 1), with(0, 0), others, less} {
				wantDiffer(t, "key "+strconv.FormatInt(key, 10), with(5, 1), side, impl.IntResult{Value: key})
			}
			wantDiffer(t, "an empty row", with(0, 0), others, impl.IntResult{Code: impl.ErrNone})
		}
	}
}

func TestDifferAtChecksInOrder(t *testing.T) {
	for _, c := range faultyRows {
		for _, list := range [][]impl.Row{nil, rows(row(0, 1, 0, 0)), manyRows(12), sampleRows(3, 5)} {
			wantInt(t, "a: "+c.what, impl.DifferAt(c.list, list), c.code, 0)
			wantInt(t, "b: "+c.what, impl.DifferAt(list, c.list), c.code, 0)
		}
		for _, d := range faultyRows {
			wantInt(t, "a and b: "+c.what+", "+d.what, impl.DifferAt(c.list, d.list), c.code, 0)
		}
	}
}

// Colliding sums: digests do not tell such rows apart, but the first difference is found.
func TestCollidingSums(t *testing.T) {
	for _, c := range collidingRows {
		wantInt(t, "sum", impl.RowSum(c.a), impl.OK, c.sum)
		wantInt(t, "the same sum", impl.RowSum(c.b), impl.OK, c.sum)
		least := min(21*c.a.Loc+c.a.Sku, 21*c.b.Loc+c.b.Sku)
		wantDiffer(t, "one row each", rows(c.a), rows(c.b), impl.IntResult{Value: least})
		wantSame(t, "one row each", plainPlaces(4, rows(c.a)), plainParts(marks{1, 2, 3}, rows(c.b)), true)
		wantSame(t, "one row each", plainPlaces(4, rows(c.b)), plainParts(marks{1, 2, 3}, rows(c.a)), true)
	}
	for _, c := range collidingLists {
		digest := impl.DigestOf(c.a)
		wantInt(t, c.what, digest, impl.OK, plainDigest(c.a))
		wantInt(t, c.what, impl.DigestOf(c.b), impl.OK, digest.Value)
		wantInt(t, c.what, impl.RangeDigest(c.b, 0, 100), impl.OK, digest.Value)
		wantDiffer(t, c.what, c.a, c.b, impl.IntResult{Value: c.key})
		wantSame(t, c.what, plainPlaces(7, c.a), plainParts(marks{}, c.b), true)
		wantSame(t, c.what+", the other way", plainPlaces(0, c.b), plainParts(marks{7, 7, 7}, c.a), true)
	}
}

func TestSameDigest(t *testing.T) {
	a, b := row(0, 3, 1, 0), row(2, 5, 4, 1)
	same := func(what string, old, parted []impl.Row, want bool) {
		t.Helper()
		for _, mark := range []int64{0, 1, 999} {
			wantSame(t, what, plainPlaces(mark, old), plainParts(marks{9, 0, 999}, parted), want)
			wantSame(t, what+", the other way", plainPlaces(mark, parted), plainParts(marks{mark, mark, mark}, old), want)
		}
	}
	same("no rows", nil, nil, true)
	same("the same row", rows(a), rows(a), true)
	same("the same rows", rows(a, b), rows(a, b), true)
	same("12 rows", manyRows(12), manyRows(12), true)
	same("a row is missing", rows(a, b), rows(a), false)
	same("all rows are missing", rows(a, b), nil, false)
	same("another Hand", rows(a, b), rows(a, row(2, 5, 5, 1)), false)
	same("another Held", rows(a, b), rows(a, row(2, 5, 4, 2)), false)
	same("another Loc", rows(a, b), rows(row(1, 3, 1, 0), b), false)
	same("another Sku", rows(a, b), rows(row(0, 2, 1, 0), b), false)
	for what, p := range goodPlaces {
		wantSame(t, what, p, plainParts(marks{5, 6, 7}, rowsOfFiles(p)), true)
		for other, parts := range goodParts {
			want := plainDigest(rowsOfFiles(p)) == plainDigest(rowsOfParts(parts))
			wantSame(t, what+" and "+other, p, parts, want)
		}
	}
	for what, parts := range goodParts {
		wantSame(t, what, plainPlaces(8, rowsOfParts(parts)), parts, true)
	}
}

// validRows returns the nonempty ones of rows that are valid, sorted, each key once, and at most 12.
func validRows(list []impl.Row) []impl.Row {
	var valid []impl.Row
	for _, r := range list {
		if plainRowFault(r) == impl.OK && !isNone(r) {
			valid = plainWrite(valid, r)
		}
	}
	return valid[:min(12, len(valid))]
}

// Invalid layouts have not the same digest, even where their rows have.
func TestSameDigestOfInvalidLayouts(t *testing.T) {
	for _, c := range faultyPlaces() {
		list := validRows(rowsOfFiles(c.places))
		wantSame(t, "places: "+c.what, c.places, plainParts(marks{5, 5, 5}, list), false)
		wantSame(t, "places: "+c.what+", no rows", c.places, partsWith(marks{}), false)
		for _, d := range faultyParts() {
			wantSame(t, "both: "+c.what+", "+d.what, c.places, d.parts, false)
		}
	}
	for _, d := range faultyParts() {
		list := validRows(rowsOfParts(d.parts))
		wantSame(t, "parts: "+d.what, plainPlaces(5, list), d.parts, false)
		wantSame(t, "parts: "+d.what+", no rows", placesOf(0), d.parts, false)
	}
}
