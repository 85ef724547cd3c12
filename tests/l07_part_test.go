package tests

import (
	"math"
	"slices"
	"strconv"
	"testing"

	"loop.example/g00623/impl"
)

// plainPart returns the part of a Loc and Sku in range, without the program.
func plainPart(loc, sku int64) int64 {
	return plainSum([]byte{2, 0, byte(loc), 0, byte(sku)}) % 3
}

type marks [3]int64

// plainParts puts valid sorted rows into their parts, without the program.
func plainParts(m marks, list []impl.Row) []impl.Part {
	parts := []impl.Part{{Mark: m[0]}, {Mark: m[1]}, {Mark: m[2]}}
	for _, r := range list {
		if r.Hand != 0 || r.Held != 0 {
			p := &parts[plainPart(r.Loc, r.Sku)]
			p.Rows = append(p.Rows, r)
		}
	}
	return parts
}

// rowsOfPart returns the first n rows of a part.
func rowsOfPart(at, n int64) []impl.Row {
	var list []impl.Row
	for key := int64(1); int64(len(list)) < n; key++ {
		if key%21 != 0 && plainPart(key/21, key%21) == at {
			list = append(list, rowAt(key, 10+key, key%5))
		}
	}
	return list
}

// partsWith returns parts that have so many rows.
func partsWith(m marks, counts ...int64) []impl.Part {
	parts := plainParts(m, nil)
	for at, n := range counts {
		parts[at].Rows = rowsOfPart(int64(at), n)
	}
	return parts
}

// rowsOfParts returns all rows, sorted, without the program.
func rowsOfParts(parts []impl.Part) []impl.Row {
	var list []impl.Row
	for _, p := range parts {
		list = append(list, p.Rows...)
	}
	slices.SortFunc(list, func(a, b impl.Row) int { return int(21*(a.Loc-b.Loc) + a.Sku - b.Sku) })
	return list
}

func marksOf(parts []impl.Part) marks {
	return marks{parts[0].Mark, parts[1].Mark, parts[2].Mark}
}

// equalParts compares parts without the program; an empty list and nil are equal.
func equalParts(a, b []impl.Part) bool {
	return slices.EqualFunc(a, b, func(x, y impl.Part) bool { return x.Mark == y.Mark && slices.Equal(x.Rows, y.Rows) })
}

func cloneParts(list []impl.Part) []impl.Part {
	var parts []impl.Part
	for _, p := range list {
		parts = append(parts, impl.Part{Rows: slices.Clone(p.Rows), Mark: p.Mark})
	}
	return parts
}

func wantParts(t *testing.T, what string, got impl.PartsResult, want []impl.Part) {
	t.Helper()
	if got.Code != impl.OK || !equalParts(got.Parts, want) {
		t.Errorf("%s: got %+v, want %+v", what, got, want)
	}
}

// wantNoParts checks that a code comes with no parts.
func wantNoParts(t *testing.T, what string, got impl.PartsResult, code int64) {
	t.Helper()
	if got.Code != code || len(got.Parts) != 0 {
		t.Errorf("%s: got %+v, want code %d and no parts", what, got, code)
	}
}

var goodParts = map[string][]impl.Part{
	"no rows":              partsWith(marks{}),
	"no rows, not nil":     {{Rows: rows()}, {Rows: rows()}, {Rows: rows()}},
	"the greatest Mark":    partsWith(marks{999, 999, 999}, 1, 1, 1),
	"the ends of Marks":    partsWith(marks{0, 999, 0}, 0, 2, 1),
	"different Marks":      partsWith(marks{7, 5, 900}, 2, 3, 4),
	"the ends of rows":     plainParts(marks{1, 2, 3}, rows(row(0, 1, 1, 0), row(0, 20, 9999, 9999), row(1, 1, 1, 1), row(1, 20, 2, 0), row(3, 1, 3, 0), row(3, 20, 4, 4))),
	"12 rows in all":       partsWith(marks{3, 3, 3}, 4, 4, 4),
	"12 rows in the first": partsWith(marks{3, 3, 3}, 12),
	"12 rows in the last":  partsWith(marks{3, 3, 3}, 0, 0, 12),
	"11 rows and 1":        partsWith(marks{3, 1, 2}, 0, 11, 1),
	"11 rows":              partsWith(marks{500, 499, 501}, 2, 9, 0),
}

type faultyPart struct {
	what  string
	parts []impl.Part
	code  int64
}

// faultyPartRows has parts with each code that the rows of a part can have, and for their order.
func faultyPartRows() []faultyPart {
	zero := []impl.Part{{}, {}, {}}
	with := func(at int64, list ...impl.Row) []impl.Part {
		parts := slices.Clone(zero)
		parts[at].Rows = list
		return parts
	}
	// The parts of these rows are 0, 1 and 2.
	a, b, c := row(0, 1, 5, 1), row(0, 2, 5, 1), row(0, 3, 5, 1)
	list := []faultyPart{
		{"a row of the last part in the first one", with(0, c), impl.ErrForm},
		{"the last row of another part", with(0, a, row(0, 4, 1, 0), row(0, 5, 1, 0)), impl.ErrForm},
		{"the first row of another part", with(1, a, b), impl.ErrForm},
		{"two parts that are exchanged", []impl.Part{{Rows: rows(a)}, {Rows: rows(c)}, {Rows: rows(b)}}, impl.ErrForm},
		{"a row in the file of its Loc", with(1, row(1, 1, 1, 0)), impl.ErrForm},
		{"an empty row", with(0, row(0, 1, 0, 0)), impl.ErrForm},
		{"an empty row first", with(1, row(0, 2, 0, 0), row(0, 5, 1, 0)), impl.ErrForm},
		{"an empty row last", with(2, c, row(3, 20, 0, 0)), impl.ErrForm},
		{"an empty row of another part", with(2, row(0, 1, 0, 0)), impl.ErrForm},
		{"13 rows with an empty one", with(0, append(rowsOfPart(0, 12), row(3, 18, 0, 0))...), impl.ErrMany},
		{"RowsFault before another part", with(0, b, row(0, 4, 1, 2)), impl.ErrStock},
		{"RowsFault before an empty row", with(0, row(0, 1, 0, 0), row(0, 4, 10000, 0)), impl.ErrRange},
		{"many rows before another part", with(1, rowsOfPart(0, 13)...), impl.ErrMany},
		{"another part before RowsFault of a later one", []impl.Part{{Rows: rows(b)}, {Rows: rows(row(0, 2, 1, 2))}, {}}, impl.ErrForm},
		{"an empty row before RowsFault of a later part", []impl.Part{{}, {Rows: rows(row(0, 2, 0, 0))}, {Rows: manyRows(13)}}, impl.ErrForm},
		{"RowsFault before another part of a later row", []impl.Part{{Rows: rows(row(0, 1, 1, 2))}, {Rows: rows(a)}, {}}, impl.ErrStock},
		{"RowsFault of an earlier part", []impl.Part{{Rows: rows(row(0, 1, 1, 2))}, {Rows: manyRows(13)}, {Rows: rows(row(9, 9, 9, 9))}}, impl.ErrStock},
	}
	for at := range int64(3) {
		what := "part " + strconv.FormatInt(at, 10) + ": "
		list = append(list,
			faultyPart{what + "a row of the next part", with(at, rowsOfPart((at+1)%3, 1)...), impl.ErrForm},
			faultyPart{what + "a row of the part before", with(at, rowsOfPart((at+2)%3, 1)...), impl.ErrForm})
		for _, c := range faultyRows {
			list = append(list, faultyPart{what + c.what, with(at, c.list...), c.code})
		}
	}
	return list
}

// faultyMarks has parts with Marks out of range, which are checked part by part.
func faultyMarks() []faultyPart {
	var list []faultyPart
	bad := row(0, 1, 1, 2)
	for at := range 3 {
		what := "part " + strconv.Itoa(at) + ": Mark "
		for _, mark := range []int64{-1, 1000, math.MinInt64, math.MaxInt64} {
			parts := partsWith(marks{}, 2, 0, 3)
			parts[at].Mark = mark
			list = append(list, faultyPart{what + strconv.FormatInt(mark, 10), parts, impl.ErrRange})
		}
		before, other, empty, later := partsWith(marks{}), partsWith(marks{}), partsWith(marks{}), partsWith(marks{})
		before[at] = impl.Part{Rows: manyRows(13), Mark: -1}
		other[at] = impl.Part{Rows: rowsOfPart(int64(at+1)%3, 2), Mark: 1000}
		empty[at] = impl.Part{Rows: rows(row(0, int64(at)+1, 0, 0)), Mark: -1}
		later[at] = impl.Part{Mark: 1000}
		if at < 2 {
			later[at+1].Rows = rows(bad)
		}
		list = append(list, faultyPart{what + "before its rows", before, impl.ErrRange}, faultyPart{what + "before another part", other, impl.ErrRange}, faultyPart{what + "before an empty row", empty, impl.ErrRange}, faultyPart{what + "before rows of a later part", later, impl.ErrRange})
	}
	return append(list,
		faultyPart{"rows before the Mark of a later part", []impl.Part{{Rows: rows(bad)}, {Mark: -1}, {}}, impl.ErrStock},
		faultyPart{"another part before the Mark of a later one", []impl.Part{{}, {Rows: rowsOfPart(0, 1)}, {Mark: 1000}}, impl.ErrForm},
		faultyPart{"an empty row before the Mark of a later part", []impl.Part{{Rows: rows(row(0, 1, 0, 0))}, {}, {Mark: 1000}}, impl.ErrForm},
		faultyPart{"Mark before the total", partsWith(marks{0, 0, 1000}, 5, 5, 5), impl.ErrRange})
}

// faultyPartTotals has parts with too many rows in total, and for what is checked before.
func faultyPartTotals() []faultyPart {
	empty, stock, other := partsWith(marks{}, 4, 4, 5), partsWith(marks{}, 4, 4, 5), partsWith(marks{}, 4, 4, 4)
	empty[2].Rows[4] = row(3, 20, 0, 0)
	stock[2].Rows[4] = row(3, 20, 1, 2)
	other[2].Rows = append(other[2].Rows, row(3, 18, 1, 0))
	return []faultyPart{
		{"13 rows in total", partsWith(marks{3, 3, 3}, 5, 4, 4), impl.ErrMany},
		{"13 rows in total, the last part", partsWith(marks{3, 3, 3}, 4, 4, 5), impl.ErrMany},
		{"12 rows and 1", partsWith(marks{3, 3, 3}, 12, 0, 1), impl.ErrMany},
		{"1 row and 12", partsWith(marks{3, 3, 3}, 1, 12), impl.ErrMany},
		{"36 rows", partsWith(marks{3, 3, 3}, 12, 12, 12), impl.ErrMany},
		{"a 13th row that is empty", empty, impl.ErrForm},
		{"RowsFault before the total", stock, impl.ErrStock},
		{"another part before the total", other, impl.ErrForm},
	}
}

// faultyParts has parts for each code of PartsFault, and for their order.
func faultyParts() []faultyPart {
	good := partsWith(marks{5, 5, 5}, 3, 0, 1)
	list := []faultyPart{
		{"nil", nil, impl.ErrMany},
		{"no parts", []impl.Part{}, impl.ErrMany},
		{"1 part", good[:1], impl.ErrMany},
		{"2 parts", good[:2], impl.ErrMany},
		{"4 parts", append(slices.Clone(good), impl.Part{Mark: 5}), impl.ErrMany},
		{"100 parts", make([]impl.Part, 100), impl.ErrMany},
		{"2 parts before Mark", []impl.Part{{Mark: -1}, {}}, impl.ErrMany},
		{"4 parts before Mark", []impl.Part{{}, {}, {}, {Mark: 1000}}, impl.ErrMany},
		{"2 parts before rows", []impl.Part{{Rows: rows(row(9, 9, 9, 9))}, {}}, impl.ErrMany},
		{"4 parts before rows", []impl.Part{{Rows: rows(row(0, 2, 1, 2))}, {}, {}, {}}, impl.ErrMany},
	}
	return slices.Concat(list, faultyMarks(), faultyPartRows(), faultyPartTotals())
}

func TestPartsExamples(t *testing.T) {
	parts := plainParts(marks{7, 7, 7}, rows(row(0, 3, 1, 0), row(2, 5, 4, 1)))
	r := row(2, 4, 9, 0)
	once := impl.WritePart(parts, r, 8)
	wantParts(t, "a change", once, plainParts(marks{7, 8, 7}, rows(row(0, 3, 1, 0), row(2, 4, 9, 0), row(2, 5, 4, 1))))
	wantParts(t, "the change again", impl.WritePart(once.Parts, r, 8), once.Parts)
	wantParts(t, "another row with its mark", impl.WritePart(once.Parts, row(2, 4, 1, 1), 8), once.Parts)
	wantInt(t, "from the table", impl.KeyOf(1, 2), impl.OK, 23)
	wantInt(t, "from the table", impl.SumOf(nil), impl.OK, 19)
	if impl.MaxParts != 3 {
		t.Error("MaxParts")
	}
}

func TestPartOf(t *testing.T) {
	// Written out from the formula of the checksum, for the Skus 1 to 20 of each Loc.
	want := [4]string{"01201201201201201201", "01201201201201201201", "12012012012012012012", "12012012012012012012"}
	for loc, digits := range want {
		for i, digit := range digits {
			sku := int64(i + 1)
			got := impl.PartOf(int64(loc), sku)
			wantInt(t, "part", got, impl.OK, int64(digit-'0'))
			wantInt(t, "part", got, impl.OK, plainPart(int64(loc), sku))
			wantInt(t, "checksum", got, impl.OK, impl.SumOf(impl.PackNumbers([]int64{int64(loc), sku}).Bytes).Value%3)
		}
	}
	for _, loc := range []int64{-1, 4, 5, 65536, -32769, math.MinInt64, math.MaxInt64} {
		for _, sku := range []int64{-1, 0, 1, 20, 21, math.MaxInt64} {
			wantInt(t, "Loc", impl.PartOf(loc, sku), impl.ErrRange, 0)
		}
	}
	for _, sku := range []int64{-1, 0, 21, 22, 65537, 32768, math.MinInt64, math.MaxInt64} {
		for _, loc := range []int64{0, 1, 2, 3, 4, -1, math.MinInt64} {
			wantInt(t, "Sku", impl.PartOf(loc, sku), impl.ErrRange, 0)
		}
	}
}

func TestPartsFault(t *testing.T) {
	for what, parts := range goodParts {
		wantCode(t, what, impl.PartsFault(parts), impl.OK)
	}
	for _, c := range faultyParts() {
		wantCode(t, c.what, impl.PartsFault(c.parts), c.code)
	}
}

// The fault of the parts comes before the codes of the functions themselves.
func TestFunctionsReturnThePartsFault(t *testing.T) {
	written := rows(row(0, 2, 1, 0), row(3, 20, 0, 0), row(0, 2, 1, 2), row(9, 9, 9, 9), impl.Row{})
	for _, c := range faultyParts() {
		wantRows(t, "rows: "+c.what, impl.RowsOf(c.parts), c.code)
		wantInt(t, "least: "+c.what, impl.LeastMark(c.parts), c.code, 0)
		for _, r := range written {
			for _, mark := range []int64{0, 5, 999, 1000, -1, math.MinInt64, math.MaxInt64} {
				wantNoParts(t, "write: "+c.what, impl.WritePart(c.parts, r, mark), c.code)
			}
		}
	}
}

func TestPartsFrom(t *testing.T) {
	// The parts of these rows are 0, 1, 2, 0 and 2.
	a, b, c, d, e := row(0, 1, 7, 0), row(0, 20, 5, 1), row(1, 3, 1, 0), row(2, 18, 1, 1), row(3, 20, 9999, 9999)
	from := func(what string, mark int64, list []impl.Row, lists ...[]impl.Row) {
		t.Helper()
		want := plainParts(marks{mark, mark, mark}, nil)
		for at, own := range lists {
			want[at].Rows = own
		}
		wantParts(t, what, impl.PartsFrom(list, mark), want)
	}
	from("nil", 0, nil)
	from("no rows", 999, rows())
	from("one row", 1, rows(c), nil, nil, rows(c))
	from("rows of all parts", 7, rows(a, b, c, d, e), rows(a, d), rows(b), rows(c, e))
	from("rows of two parts", 999, rows(a, c, d), rows(a, d), nil, rows(c))
	none := func(r impl.Row) impl.Row { return row(r.Loc, r.Sku, 0, 0) }
	from("the first one empty", 7, rows(none(a), b, c, d, e), rows(d), rows(b), rows(c, e))
	from("the only one of its part empty", 7, rows(a, none(b), c, d, e), rows(a, d), nil, rows(c, e))
	from("the last one empty", 7, rows(a, b, c, d, none(e)), rows(a, d), rows(b), rows(c))
	from("all empty", 7, rows(none(a), none(b), none(c), none(d), none(e)))
	for at := range int64(3) {
		full := partsWith(marks{9, 9, 9})
		full[at].Rows = rowsOfPart(at, 12)
		wantParts(t, "12 rows of one part", impl.PartsFrom(full[at].Rows, 9), full)
	}
	half := manyRows(12)
	wantParts(t, "12 rows", impl.PartsFrom(half, 5), plainParts(marks{5, 5, 5}, half))
	for i := 0; i < 12; i += 2 {
		half[i] = none(half[i])
	}
	wantParts(t, "12 rows with 6 empty ones", impl.PartsFrom(half, 5), plainParts(marks{5, 5, 5}, half))
	for mark := range int64(1000) {
		wantParts(t, "marks", impl.PartsFrom(rows(a, c), mark), plainParts(marks{mark, mark, mark}, rows(a, c)))
	}
}

func TestPartsFromChecksInOrder(t *testing.T) {
	outside := []int64{-1, 1000, math.MinInt64, math.MaxInt64}
	for _, c := range faultyRows {
		for _, mark := range append(outside, 0, 7, 999) {
			wantNoParts(t, c.what, impl.PartsFrom(c.list, mark), c.code)
		}
	}
	for _, list := range [][]impl.Row{nil, {}, rows(row(0, 1, 0, 0)), rows(row(1, 3, 1, 0)), manyRows(12)} {
		for _, mark := range outside {
			wantNoParts(t, "mark", impl.PartsFrom(list, mark), impl.ErrRange)
		}
	}
}

func TestRowsOf(t *testing.T) {
	for what, parts := range goodParts {
		got := impl.RowsOf(parts)
		wantRows(t, what, got, impl.OK, rowsOfParts(parts)...)
		wantCode(t, what, impl.RowsFault(got.Rows), impl.OK)
	}
	// The rows of the parts alternate.
	parts := []impl.Part{{Rows: rows(row(0, 1, 1, 0), row(0, 4, 4, 0))}, {Rows: rows(row(0, 2, 2, 0), row(2, 1, 6, 0))}, {Rows: rows(row(0, 3, 3, 0), row(0, 6, 5, 0)), Mark: 4}}
	wantRows(t, "alternating", impl.RowsOf(parts), impl.OK, row(0, 1, 1, 0), row(0, 2, 2, 0), row(0, 3, 3, 0), row(0, 4, 4, 0), row(0, 6, 5, 0), row(2, 1, 6, 0))
	wantRows(t, "no rows", impl.RowsOf(partsWith(marks{1, 2, 3})), impl.OK)
	wantRows(t, "the last part only", impl.RowsOf(partsWith(marks{1, 2, 3}, 0, 0, 2)), impl.OK, rowsOfPart(2, 2)...)
}

func TestLeastMark(t *testing.T) {
	least := func(m marks, want int64) {
		t.Helper()
		wantInt(t, "no rows", impl.LeastMark(partsWith(m)), impl.OK, want)
		wantInt(t, "12 rows", impl.LeastMark(partsWith(m, 4, 0, 8)), impl.OK, want)
	}
	for _, m := range []marks{{1, 2, 3}, {1, 3, 2}, {2, 1, 3}, {3, 1, 2}, {2, 3, 1}, {3, 2, 1}, {1, 1, 2}, {1, 2, 1}, {2, 1, 1}, {1, 999, 999}, {999, 1, 999}, {999, 999, 1}} {
		least(m, 1)
	}
	for mark := range int64(1000) {
		least(marks{mark, mark, mark}, mark)
	}
	least(marks{0, 999, 999}, 0)
	least(marks{999, 0, 999}, 0)
	least(marks{999, 999, 0}, 0)
	least(marks{998, 999, 999}, 998)
}

func TestWritePart(t *testing.T) {
	for at := range int64(3) {
		own := rowsOfPart(at, 4)
		a, b, c := own[0], own[1], own[3]
		b2 := row(b.Loc, b.Sku, 9999, 9999)
		none := func(r impl.Row) impl.Row { return row(r.Loc, r.Sku, 0, 0) }
		write := func(what string, before, after []impl.Row, r impl.Row) {
			t.Helper()
			parts, want := partsWith(marks{5, 5, 5}, 2, 0, 3), partsWith(marks{5, 5, 5}, 2, 0, 3)
			parts[at].Rows = before
			want[at] = impl.Part{Rows: after, Mark: 6}
			wantParts(t, what+", part "+strconv.FormatInt(at, 10), impl.WritePart(parts, r, 6), want)
		}
		write("into an empty part", nil, rows(b), b)
		write("into an empty part, not nil", rows(), rows(b), b)
		write("first", rows(b, c), rows(a, b, c), a)
		write("between", rows(a, c), rows(a, b, c), b)
		write("last", rows(a, b), rows(a, b, c), c)
		write("the same", rows(a, b, c), rows(a, b, c), b)
		write("again", rows(a, b, c), rows(a, b2, c), b2)
		write("an empty row, first", rows(a, b, c), rows(b, c), none(a))
		write("an empty row, between", rows(a, b, c), rows(a, c), none(b))
		write("an empty row, last", rows(a, b, c), rows(a, b), none(c))
		write("an empty row, the only one", rows(b), nil, none(b))
		write("an empty row, none there", rows(a, c), rows(a, c), none(b))
		write("an empty row into an empty part", nil, nil, none(b))
		want := partsWith(marks{})
		want[at] = impl.Part{Rows: rows(b), Mark: 1}
		first := impl.WritePart(partsWith(marks{}), b, 1)
		wantParts(t, "the only row of all parts", first, want)
		want[at] = impl.Part{Mark: 2}
		wantParts(t, "without any rows again", impl.WritePart(first.Parts, none(b), 2), want)
	}
}

// Promise 8: a change that a part has applied does not change it again, whatever the other parts have applied.
func TestWritePartMarks(t *testing.T) {
	levels := []int64{0, 1, 499, 500, 501, 998, 999}
	for at := range int64(3) {
		own := rowsOfPart(at, 3)
		changes := rows(own[2], row(own[0].Loc, own[0].Sku, 77, 7), row(own[1].Loc, own[1].Sku, 0, 0), row(own[2].Loc, own[2].Sku, 0, 0))
		for _, mine := range levels {
			for _, other := range levels {
				m := marks{other, other, other}
				m[at], m[(at+1)%3] = mine, 999-other
				before := partsWith(m, 2, 2, 2)
				for _, mark := range levels {
					what := "part " + strconv.FormatInt(at, 10) + ", Mark " + strconv.FormatInt(mine, 10) + ", then " + strconv.FormatInt(mark, 10)
					for _, r := range changes {
						want := before
						if mark > mine {
							after := m
							after[at] = mark
							want = plainParts(after, plainWrite(rowsOfParts(before), r))
						}
						wantParts(t, what, impl.WritePart(before, r, mark), want)
					}
				}
			}
		}
	}
}

func TestWritePartAtEveryMark(t *testing.T) {
	r := row(1, 2, 5, 1)
	for mark := range int64(1000) {
		parts := plainParts(marks{3, mark, 700}, nil)
		wantParts(t, "the same mark", impl.WritePart(parts, r, mark), parts)
		if mark < 999 {
			wantParts(t, "the next mark", impl.WritePart(parts, r, mark+1), plainParts(marks{3, mark + 1, 700}, rows(r)))
			wantParts(t, "the last mark", impl.WritePart(parts, r, 999), plainParts(marks{3, 999, 700}, rows(r)))
		}
		if mark > 0 {
			wantParts(t, "the mark before", impl.WritePart(parts, r, mark-1), parts)
			wantParts(t, "the first mark", impl.WritePart(parts, r, 0), parts)
		}
	}
}

// The parts may have MaxRows rows in all, however few of them the part has that is written.
func TestWritePartIntoFullParts(t *testing.T) {
	fresh := rows(row(2, 18, 1, 0), row(3, 19, 9999, 9999), row(3, 20, 1, 1))
	for _, counts := range [][]int64{{4, 4, 4}, {12}, {0, 12}, {0, 0, 12}, {0, 1, 11}, {11, 0, 1}, {10, 1, 1}} {
		m := marks{41, 40, 42}
		parts := partsWith(m, counts...)
		all := rowsOfParts(parts)
		for at, r := range fresh {
			next := m
			next[at] = 43
			wantNoParts(t, "the 13th", impl.WritePart(parts, r, 43), impl.ErrFull)
			wantParts(t, "the 13th, applied already", impl.WritePart(parts, r, m[at]), parts)
			wantParts(t, "an empty one", impl.WritePart(parts, row(r.Loc, r.Sku, 0, 0), 43), plainParts(next, all))
		}
		for i, r := range all {
			changed, less, next := slices.Clone(all), slices.Delete(slices.Clone(all), i, i+1), m
			changed[i].Hand = 9999
			next[plainPart(r.Loc, r.Sku)] = 43
			wantParts(t, "again", impl.WritePart(parts, changed[i], 43), plainParts(next, changed))
			removed := impl.WritePart(parts, row(r.Loc, r.Sku, 0, 0), 43)
			wantParts(t, "removed", removed, plainParts(next, less))
			for at, last := range fresh {
				end := next
				end[at] = 44
				wantParts(t, "the 12th", impl.WritePart(removed.Parts, last, 44), plainParts(end, plainWrite(less, last)))
			}
		}
	}
}

// The codes come in the order RowFault, ErrRange of the mark, none for a change that was applied, ErrFull.
func TestWritePartChecksInOrder(t *testing.T) {
	outside := []int64{-1, 1000, 1001, math.MinInt64, math.MaxInt64}
	for what, parts := range goodParts {
		for _, mark := range append(outside, 0, 3, 4, 999) {
			for _, r := range rows(row(4, 1, 1, 0), row(-1, 1, 1, 0), row(math.MinInt64, 1, 0, 0), row(math.MaxInt64, 1, 0, 0), row(0, 0, 0, 0), row(0, 21, 0, 0), row(0, 1, 10000, 0), row(0, 1, 0, -1), row(4, 1, 1, 2), impl.Row{}) {
				wantNoParts(t, "row: "+what, impl.WritePart(parts, r, mark), impl.ErrRange)
			}
			wantNoParts(t, "stock: "+what, impl.WritePart(parts, row(3, 19, 0, 1), mark), impl.ErrStock)
		}
		for _, mark := range outside {
			for at := range int64(3) {
				wantNoParts(t, "mark: "+what, impl.WritePart(parts, row(3, 18+at, 1, 0), mark), impl.ErrRange)
				wantNoParts(t, "mark of an empty row: "+what, impl.WritePart(parts, row(3, 18+at, 0, 0), mark), impl.ErrRange)
			}
		}
	}
	full := partsWith(marks{999, 0, 5}, 4, 4, 4)
	for mark := range int64(1000) {
		wantParts(t, "no mark is left", impl.WritePart(full, row(3, 18, 1, 0), mark), full)
	}
	wantParts(t, "mark 0", impl.WritePart(full, row(3, 19, 1, 0), 0), full)
	wantNoParts(t, "mark 1", impl.WritePart(full, row(3, 19, 1, 0), 1), impl.ErrFull)
	wantParts(t, "mark 5", impl.WritePart(full, row(3, 20, 1, 0), 5), full)
	wantNoParts(t, "mark 6", impl.WritePart(full, row(3, 20, 1, 0), 6), impl.ErrFull)
}

func TestSameParts(t *testing.T) {
	same := func(what string, a, b []impl.Part, want bool) {
		t.Helper()
		if impl.SameParts(a, b) != want || impl.SameParts(b, a) != want {
			t.Errorf("%s: want %v", what, want)
		}
	}
	same("nil", nil, nil, true)
	same("no parts and nil", nil, []impl.Part{}, true)
	same("empty parts and nil", goodParts["no rows"], goodParts["no rows, not nil"], true)
	same("no parts and 3 empty ones", nil, partsWith(marks{}), false)
	same("2 parts and 3", partsWith(marks{})[:2], partsWith(marks{}), false)
	wild := []impl.Part{{Rows: rows(row(-1, 99, math.MaxInt64, 7), impl.Row{}), Mark: math.MinInt64}, {Rows: rows(impl.Row{})}, {Mark: 5}, {Rows: rows(row(0, 1, 1, 2))}}
	// Parts need not be valid to be compared.
	for _, c := range faultyParts() {
		same(c.what, c.parts, cloneParts(c.parts), true)
		same(c.what+" and others", c.parts, wild, false)
	}
	for what, parts := range goodParts {
		same(what, parts, cloneParts(parts), true)
		same(what+" and others", parts, wild, false)
	}
	changed := func(what string, change func(parts []impl.Part) []impl.Part) {
		t.Helper()
		same(what, wild, change(cloneParts(wild)), false)
	}
	changed("without the last row of a part", func(p []impl.Part) []impl.Part { p[0].Rows = p[0].Rows[:1]; return p })
	changed("without a row", func(p []impl.Part) []impl.Part { p[1].Rows = nil; return p })
	changed("without the last part", func(p []impl.Part) []impl.Part { return p[:3] })
	changed("another order of rows", func(p []impl.Part) []impl.Part { slices.Reverse(p[0].Rows); return p })
	changed("another order of parts", func(p []impl.Part) []impl.Part { p[1], p[2] = p[2], p[1]; return p })
	changed("a row in another part", func(p []impl.Part) []impl.Part { p[1].Rows, p[2].Rows = p[2].Rows, p[1].Rows; return p })
	changed("a Mark in another part", func(p []impl.Part) []impl.Part { p[1].Mark, p[2].Mark = p[2].Mark, p[1].Mark; return p })
	for field := range 20 {
		other := cloneParts(wild)
		var fields []*int64
		for i := range other {
			fields = append(fields, &other[i].Mark)
			for j := range other[i].Rows {
				r := &other[i].Rows[j]
				fields = append(fields, &r.Loc, &r.Sku, &r.Hand, &r.Held)
			}
		}
		*fields[field] ^= 1
		same("field "+strconv.Itoa(field), wild, other, false)
	}
}
