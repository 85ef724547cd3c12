package tests

import (
	"math"
	"slices"
	"strconv"
	"testing"

	"loop.example/g00623/impl"
)

func hold(id, loc, sku, qty, until int64) impl.Hold {
	return impl.Hold{Id: id, Loc: loc, Sku: sku, Qty: qty, Until: until}
}

func book(now int64, rows []impl.Row, holds ...impl.Hold) impl.Book {
	return impl.Book{Now: now, Rows: rows, Holds: holds}
}

func rows(list ...impl.Row) []impl.Row { return list }

func receive(loc, sku, qty int64) impl.Op { return op(impl.OpReceive, 0, loc, 0, sku, qty, 0) }

func take(loc, sku, qty int64) impl.Op { return op(impl.OpTake, 0, loc, 0, sku, qty, 0) }

func reserve(loc, sku, qty, id, wait int64) impl.Op {
	return op(impl.OpReserve, 0, loc, wait, sku, qty, id)
}

func commit(id int64) impl.Op { return op(impl.OpCommit, 0, 0, 0, 0, 0, id) }

func release(id int64) impl.Op { return op(impl.OpRelease, 0, 0, 0, 0, 0, id) }

func transfer(loc, to, sku, qty int64) impl.Op { return op(impl.OpTransfer, 0, loc, to, sku, qty, 0) }

func tick(qty int64) impl.Op { return op(impl.OpTick, 0, 0, 0, 0, qty, 0) }

// equalBooks compares books without the program; an empty list and nil are equal.
func equalBooks(a, b impl.Book) bool {
	return a.Now == b.Now && slices.Equal(a.Rows, b.Rows) && slices.Equal(a.Holds, b.Holds)
}

func cloneBook(b impl.Book) impl.Book {
	return impl.Book{Now: b.Now, Rows: slices.Clone(b.Rows), Holds: slices.Clone(b.Holds)}
}

func wantBook(t *testing.T, what string, got impl.BookResult, code, value int64, b impl.Book) {
	t.Helper()
	if got.Code != code || got.Value != value || !equalBooks(got.Book, b) {
		t.Errorf("%s: got %+v, want code %d, value %d and book %+v", what, got, code, value, b)
	}
}

// wantFail checks that a code comes with zero values.
func wantFail(t *testing.T, what string, got impl.BookResult, code int64) {
	t.Helper()
	wantBook(t, what, got, code, 0, impl.Book{})
}

func wantOps(t *testing.T, what string, got impl.OpsResult, want impl.OpsResult) {
	t.Helper()
	if got.Code != want.Code || !slices.Equal(got.Codes, want.Codes) || !slices.Equal(got.Values, want.Values) || !equalBooks(got.Book, want.Book) {
		t.Errorf("%s: got %+v, want %+v", what, got, want)
	}
}

// freeRows returns n rows with the keys 1, 2, 3 and so on, with 10 units each and none of them held.
func freeRows(n int64) []impl.Row {
	list := manyRows(n)
	for i := range list {
		list[i].Hand, list[i].Held = 10, 0
	}
	return list
}

// holdsOf returns n holds of a unit each at Loc 0 and Sku 1, with the Ids 2, 4, 6 and so on.
func holdsOf(n int64) []impl.Hold {
	var list []impl.Hold
	for i := range n {
		list = append(list, hold(2*i+2, 0, 1, 1, 50))
	}
	return list
}

// heldBook has one row of 20 units with n of them held.
func heldBook(n int64) impl.Book {
	return book(0, rows(row(0, 1, 20, n)), holdsOf(n)...)
}

var goodBooks = map[string]impl.Book{
	"zero":                      {},
	"empty lists":               {Rows: []impl.Row{}, Holds: []impl.Hold{}},
	"the last moment":           book(9999, nil),
	"an empty row":              book(0, rows(row(0, 1, 0, 0))),
	"12 rows":                   book(7, freeRows(12)),
	"all limits":                book(9999, rows(row(0, 1, 1, 1), row(3, 20, 9999, 9999)), hold(1, 0, 1, 1, 0), hold(50, 3, 20, 9999, 19998)),
	"6 holds on a row":          heldBook(6),
	"holds that are over":       book(9, rows(row(1, 2, 5, 5)), hold(3, 1, 2, 2, 8), hold(4, 1, 2, 3, 0)),
	"holds on two rows by turn": book(0, rows(row(0, 1, 9, 3), row(1, 1, 9, 6)), hold(1, 1, 1, 4, 9), hold(2, 0, 1, 3, 9), hold(3, 1, 1, 2, 9)),
	"rows beside held ones":     book(0, rows(row(0, 1, 9, 0), row(0, 2, 9, 9), row(0, 3, 0, 0), row(1, 2, 9, 0)), hold(9, 0, 2, 9, 9)),
}

type faultyBook struct {
	what string
	book impl.Book
	code int64
}

// faultyBooks has books for each code of BookFault, and for their order.
func faultyBooks() []faultyBook {
	held := rows(row(0, 1, 9, 1))
	ok := hold(1, 0, 1, 1, 5)
	list := []faultyBook{
		{"Now before rows", book(-1, manyRows(13)), impl.ErrRange},
		{"rows before many holds", book(0, rows(row(0, 1, 1, 2)), holdsOf(7)...), impl.ErrStock},
		{"unsorted rows before a bad hold", book(0, rows(row(0, 2, 1, 0), row(0, 1, 1, 0)), hold(0, 0, 0, 0, 0)), impl.ErrForm},
		{"7 holds", heldBook(7), impl.ErrMany},
		{"7 holds, one out of range", book(0, rows(row(0, 1, 20, 6)), append(holdsOf(6), hold(51, 0, 1, 1, 5))...), impl.ErrMany},
		{"7 holds, unsorted", book(0, rows(row(0, 1, 20, 7)), append(holdsOf(6), hold(1, 0, 1, 1, 5))...), impl.ErrMany},
		{"an Id twice", book(0, rows(row(0, 1, 9, 2)), ok, ok), impl.ErrForm},
		{"Ids unsorted", book(0, rows(row(0, 1, 9, 2)), hold(2, 0, 1, 1, 5), ok), impl.ErrForm},
		{"range before form in one hold", book(0, rows(row(0, 1, 9, 2)), hold(2, 0, 1, 1, 5), hold(1, 0, 1, 0, 5)), impl.ErrRange},
		{"form of an earlier hold", book(0, rows(row(0, 1, 9, 2)), hold(2, 0, 1, 1, 5), ok, hold(9, 9, 9, 9, 9)), impl.ErrForm},
		{"range of an earlier hold", book(0, rows(row(0, 1, 9, 2)), hold(2, 0, 1, 1, -5), ok, ok), impl.ErrRange},
		{"range of a hold before stock", book(0, rows(row(0, 1, 9, 5)), hold(51, 0, 1, 1, 5)), impl.ErrRange},
		{"form of a hold before stock", book(0, rows(row(0, 1, 9, 5)), ok, ok), impl.ErrForm},
		{"form of a hold before none", book(0, held, ok, hold(1, 3, 3, 1, 5)), impl.ErrForm},
		{"held without a hold", book(0, rows(row(0, 1, 1, 1))), impl.ErrStock},
		{"a hold without held", book(0, rows(row(0, 1, 1, 0)), ok), impl.ErrStock},
		{"a hold of an empty row", book(0, rows(row(0, 1, 0, 0)), ok), impl.ErrStock},
		{"less held than the holds", book(0, rows(row(0, 1, 9, 2)), ok, hold(2, 0, 1, 2, 5)), impl.ErrStock},
		{"more held than the holds", book(0, rows(row(0, 1, 9, 4)), ok, hold(2, 0, 1, 2, 5)), impl.ErrStock},
		{"a hold of another Sku", book(0, rows(row(0, 1, 9, 1), row(0, 2, 9, 0)), hold(1, 0, 2, 1, 5)), impl.ErrStock},
		{"a hold of another Loc", book(0, rows(row(0, 1, 9, 1), row(1, 1, 9, 0)), hold(1, 1, 1, 1, 5)), impl.ErrStock},
		{"a later row", book(0, rows(row(0, 1, 9, 1), row(1, 1, 9, 1)), ok), impl.ErrStock},
		{"stock before none", book(0, rows(row(3, 3, 9, 1)), ok), impl.ErrStock},
		{"a hold without rows", book(0, nil, ok), impl.ErrNone},
		{"a hold without a row", book(0, held, ok, hold(2, 1, 1, 1, 5)), impl.ErrNone},
		{"an earlier hold without a row", book(0, held, hold(1, 0, 2, 1, 5), hold(2, 0, 1, 1, 5)), impl.ErrNone},
	}
	for _, now := range []int64{-1, 10000, math.MinInt64, math.MaxInt64} {
		list = append(list, faultyBook{"Now " + strconv.FormatInt(now, 10), book(now, held, ok), impl.ErrRange})
	}
	for _, c := range faultyRows {
		list = append(list, faultyBook{"rows: " + c.what, book(0, c.list), c.code})
	}
	bad := [5][]int64{{0, -1, 51}, {-1, 4}, {0, -1, 21}, {0, -1, 10000}, {-1, 19999}}
	for field, numbers := range bad {
		for _, n := range append(numbers, math.MinInt64, math.MaxInt64) {
			h := ok
			*[]*int64{&h.Id, &h.Loc, &h.Sku, &h.Qty, &h.Until}[field] = n
			what := "field " + strconv.Itoa(field) + " of a hold is " + strconv.FormatInt(n, 10)
			list = append(list, faultyBook{what, book(0, held, h), impl.ErrRange})
		}
	}
	return list
}

func TestBookLimits(t *testing.T) {
	if impl.MaxHolds != 6 {
		t.Error("limits")
	}
}

func TestBookExamples(t *testing.T) {
	b := impl.DoOp(impl.Book{}, receive(1, 2, 10)).Book
	b = impl.DoOp(b, reserve(1, 2, 4, 7, 5)).Book
	wantInt(t, "after receiving 10 and reserving 4", impl.FreeOf(b, 1, 2), impl.OK, 6)
	wantFail(t, "taking 7", impl.DoOp(b, take(1, 2, 7)), impl.ErrStock)
	b = impl.DoOp(b, tick(6)).Book
	wantInt(t, "after the duration of the hold", impl.FreeOf(b, 1, 2), impl.OK, 10)
}

func TestBookFault(t *testing.T) {
	for what, b := range goodBooks {
		wantCode(t, what, impl.BookFault(b), impl.OK)
	}
	for _, c := range faultyBooks() {
		wantCode(t, c.what, impl.BookFault(c.book), c.code)
	}
}

func TestFunctionsReturnTheBookFault(t *testing.T) {
	for _, c := range faultyBooks() {
		wantInt(t, "free: "+c.what, impl.FreeOf(c.book, 9, 99), c.code, 0)
		wantInt(t, "free: "+c.what, impl.FreeOf(c.book, 0, 1), c.code, 0)
		wantInt(t, "held: "+c.what, impl.HeldOf(c.book, 9, 99), c.code, 0)
		wantInt(t, "held: "+c.what, impl.HeldOf(c.book, 0, 1), c.code, 0)
		wantInt(t, "total: "+c.what, impl.TotalOf(c.book, 99), c.code, 0)
		wantInt(t, "total: "+c.what, impl.TotalOf(c.book, 1), c.code, 0)
		wantFail(t, "do nothing: "+c.what, impl.DoOp(c.book, impl.Op{}), c.code)
		wantFail(t, "receive: "+c.what, impl.DoOp(c.book, receive(0, 1, 1)), c.code)
		wantFail(t, "tick: "+c.what, impl.DoOp(c.book, tick(1)), c.code)
		for _, n := range []int{0, 1, 20, 21} {
			wantOps(t, "run: "+c.what, impl.RunOps(c.book, make([]impl.Op, n)), impl.OpsResult{Code: c.code})
		}
	}
}

func TestSameBooks(t *testing.T) {
	same := func(what string, a, b impl.Book, want bool) {
		t.Helper()
		if impl.SameBooks(a, b) != want || impl.SameBooks(b, a) != want {
			t.Errorf("%s: want %v", what, want)
		}
	}
	same("empty lists and nil", impl.Book{}, goodBooks["empty lists"], true)
	// Books need not be valid to be compared.
	for _, c := range faultyBooks() {
		same(c.what, c.book, cloneBook(c.book), true)
	}
	wild := book(math.MinInt64, rows(row(-1, 99, math.MaxInt64, 7), impl.Row{}), hold(-1, 99, 0, math.MaxInt64, 7), impl.Hold{})
	for what, b := range goodBooks {
		same(what, b, cloneBook(b), true)
		same(what+" and another", b, wild, false)
	}
	same("one without holds", wild, book(wild.Now, wild.Rows), false)
	same("one without rows", wild, book(wild.Now, nil, wild.Holds...), false)
	same("one without the last hold", wild, book(wild.Now, wild.Rows, wild.Holds[0]), false)
	same("one without the last row", wild, book(wild.Now, wild.Rows[:1], wild.Holds...), false)
	same("another order of rows", wild, book(wild.Now, rows(wild.Rows[1], wild.Rows[0]), wild.Holds...), false)
	same("another order of holds", wild, book(wild.Now, wild.Rows, wild.Holds[1], wild.Holds[0]), false)
	for field := range 20 {
		other := cloneBook(wild)
		fields := []*int64{&other.Now}
		for i := range other.Rows {
			r, h := &other.Rows[i], &other.Holds[i]
			fields = append(fields, &r.Loc, &r.Sku, &r.Hand, &r.Held, &h.Id, &h.Loc, &h.Sku, &h.Qty, &h.Until)
		}
		if field < len(fields) {
			*fields[field] ^= 1
			same("field "+strconv.Itoa(field), wild, other, false)
		}
	}
}

func TestFreeOfAndHeldOf(t *testing.T) {
	b := book(9, rows(row(0, 1, 0, 0), row(0, 2, 9, 3), row(1, 2, 9999, 9999), row(3, 20, 9999, 0)), hold(3, 1, 2, 9999, 0), hold(4, 0, 2, 1, 9), hold(5, 0, 2, 2, 20))
	for _, r := range b.Rows {
		wantInt(t, "free", impl.FreeOf(b, r.Loc, r.Sku), impl.OK, r.Hand-r.Held)
		wantInt(t, "held", impl.HeldOf(b, r.Loc, r.Sku), impl.OK, r.Held)
	}
	for _, key := range [][2]int64{{0, 3}, {1, 1}, {2, 20}, {3, 1}} {
		wantInt(t, "free without a row", impl.FreeOf(b, key[0], key[1]), impl.OK, 0)
		wantInt(t, "held without a row", impl.HeldOf(b, key[0], key[1]), impl.OK, 0)
		wantInt(t, "free without rows", impl.FreeOf(impl.Book{}, key[0], key[1]), impl.OK, 0)
		wantInt(t, "held without rows", impl.HeldOf(impl.Book{}, key[0], key[1]), impl.OK, 0)
	}
	// The last of these has the key of a row without being in range.
	for _, key := range [][2]int64{{-1, 1}, {4, 1}, {0, 0}, {0, 21}, {math.MinInt64, 1}, {math.MaxInt64, 1}, {0, math.MinInt64}, {0, math.MaxInt64}, {0, 23}} {
		wantInt(t, "free out of range", impl.FreeOf(b, key[0], key[1]), impl.ErrRange, 0)
		wantInt(t, "held out of range", impl.HeldOf(b, key[0], key[1]), impl.ErrRange, 0)
		wantInt(t, "free out of range", impl.FreeOf(impl.Book{}, key[0], key[1]), impl.ErrRange, 0)
		wantInt(t, "held out of range", impl.HeldOf(impl.Book{}, key[0], key[1]), impl.ErrRange, 0)
	}
}

func TestTotalOf(t *testing.T) {
	b := book(0, rows(row(0, 1, 9999, 0), row(0, 2, 5, 5), row(1, 1, 9999, 0), row(1, 20, 0, 0), row(2, 1, 9999, 9999), row(3, 1, 9999, 1), row(3, 2, 7, 0)), hold(1, 0, 2, 5, 9), hold(2, 2, 1, 9999, 9), hold(3, 3, 1, 1, 9))
	wantInt(t, "every location", impl.TotalOf(b, 1), impl.OK, 4*9999)
	wantInt(t, "two locations", impl.TotalOf(b, 2), impl.OK, 12)
	wantInt(t, "an empty row", impl.TotalOf(b, 20), impl.OK, 0)
	wantInt(t, "no row", impl.TotalOf(b, 3), impl.OK, 0)
	wantInt(t, "no rows", impl.TotalOf(impl.Book{}, 1), impl.OK, 0)
	for _, sku := range []int64{0, 21, -1, math.MinInt64, math.MaxInt64} {
		wantInt(t, "out of range", impl.TotalOf(b, sku), impl.ErrRange, 0)
		wantInt(t, "out of range", impl.TotalOf(impl.Book{}, sku), impl.ErrRange, 0)
	}
}

func TestReceive(t *testing.T) {
	b := book(3, rows(row(0, 9, 7, 2), row(1, 2, 5, 0)), hold(1, 0, 9, 2, 9))
	wantBook(t, "into nothing", impl.DoOp(impl.Book{}, receive(1, 2, 10)), impl.OK, 10, book(0, rows(row(1, 2, 10, 0))))
	wantBook(t, "first", impl.DoOp(b, receive(0, 1, 1)), impl.OK, 1, book(3, rows(row(0, 1, 1, 0), b.Rows[0], b.Rows[1]), b.Holds...))
	wantBook(t, "between", impl.DoOp(b, receive(1, 1, 1)), impl.OK, 1, book(3, rows(b.Rows[0], row(1, 1, 1, 0), b.Rows[1]), b.Holds...))
	wantBook(t, "last", impl.DoOp(b, receive(3, 20, 9999)), impl.OK, 9999, book(3, rows(b.Rows[0], b.Rows[1], row(3, 20, 9999, 0)), b.Holds...))
	wantBook(t, "more", impl.DoOp(b, receive(0, 9, 4)), impl.OK, 9, book(3, rows(row(0, 9, 11, 2), b.Rows[1]), b.Holds...))
	wantBook(t, "up to the limit", impl.DoOp(b, receive(0, 9, 9992)), impl.OK, 9997, book(3, rows(row(0, 9, 9999, 2), b.Rows[1]), b.Holds...))
	wantFail(t, "beyond the limit", impl.DoOp(b, receive(0, 9, 9993)), impl.ErrFull)
	wantFail(t, "at the limit", impl.DoOp(book(0, rows(row(0, 1, 9999, 0))), receive(0, 1, 1)), impl.ErrFull)
	wantBook(t, "for an empty row", impl.DoOp(book(0, rows(row(0, 1, 0, 0))), receive(0, 1, 3)), impl.OK, 3, book(0, rows(row(0, 1, 3, 0))))
	wantBook(t, "beside an empty row", impl.DoOp(book(0, rows(row(0, 1, 0, 0))), receive(0, 2, 3)), impl.OK, 3, book(0, rows(row(0, 1, 0, 0), row(0, 2, 3, 0))))
}

func TestReceiveIntoFullRows(t *testing.T) {
	full := freeRows(12)
	more := slices.Clone(full)
	more[11].Hand = 15
	wantBook(t, "with a row", impl.DoOp(book(0, full), receive(full[11].Loc, full[11].Sku, 5)), impl.OK, 15, book(0, more))
	wantFail(t, "without a row", impl.DoOp(book(0, full), receive(3, 20, 5)), impl.ErrFull)
	wantBook(t, "the 12th", impl.DoOp(book(0, full[:11]), receive(3, 20, 5)), impl.OK, 5, book(0, append(slices.Clone(full[:11]), row(3, 20, 5, 0))))
	empty := slices.Clone(full)
	empty[3].Hand = 0
	wantFail(t, "without a row, one of them empty", impl.DoOp(book(0, empty), receive(3, 20, 5)), impl.ErrFull)
	wantBook(t, "with an empty row", impl.DoOp(book(0, empty), receive(full[3].Loc, full[3].Sku, 10)), impl.OK, 10, book(0, full))
}

func TestTake(t *testing.T) {
	b := book(3, rows(row(0, 9, 7, 2), row(1, 2, 5, 0)), hold(1, 0, 9, 2, 9))
	wantBook(t, "one", impl.DoOp(b, take(0, 9, 1)), impl.OK, 4, book(3, rows(row(0, 9, 6, 2), b.Rows[1]), b.Holds...))
	wantBook(t, "all that is free", impl.DoOp(b, take(0, 9, 5)), impl.OK, 0, book(3, rows(row(0, 9, 2, 2), b.Rows[1]), b.Holds...))
	wantFail(t, "more than is free", impl.DoOp(b, take(0, 9, 6)), impl.ErrStock)
	wantFail(t, "all that is there", impl.DoOp(b, take(0, 9, 7)), impl.ErrStock)
	wantBook(t, "a whole row", impl.DoOp(b, take(1, 2, 5)), impl.OK, 0, book(3, rows(b.Rows[0]), b.Holds...))
	wantFail(t, "more than a row", impl.DoOp(b, take(1, 2, 6)), impl.ErrStock)
	wantFail(t, "without a row", impl.DoOp(b, take(1, 9, 1)), impl.ErrStock)
	wantFail(t, "without rows", impl.DoOp(impl.Book{}, take(1, 2, 1)), impl.ErrStock)
	wantBook(t, "the only row", impl.DoOp(book(0, rows(row(3, 20, 9999, 0))), take(3, 20, 9999)), impl.OK, 0, impl.Book{})
	empty := book(0, rows(row(0, 1, 0, 0), row(0, 2, 3, 0)))
	wantFail(t, "of an empty row", impl.DoOp(empty, take(0, 1, 1)), impl.ErrStock)
	wantBook(t, "beside an empty row, which does not become empty", impl.DoOp(empty, take(0, 2, 3)), impl.OK, 0, book(0, empty.Rows[:1]))
}

func TestReserve(t *testing.T) {
	b := book(3, rows(row(0, 9, 7, 2), row(1, 2, 5, 0)), hold(10, 0, 9, 2, 9))
	old := b.Holds[0]
	wantBook(t, "an Id before", impl.DoOp(b, reserve(1, 2, 4, 7, 5)), impl.OK, 1, book(3, rows(b.Rows[0], row(1, 2, 5, 4)), hold(7, 1, 2, 4, 8), old))
	wantBook(t, "an Id after", impl.DoOp(b, reserve(0, 9, 1, 11, 1)), impl.OK, 4, book(3, rows(row(0, 9, 7, 3), b.Rows[1]), old, hold(11, 0, 9, 1, 4)))
	wantBook(t, "all that is free", impl.DoOp(b, reserve(0, 9, 5, 50, 999)), impl.OK, 0, book(3, rows(row(0, 9, 7, 7), b.Rows[1]), old, hold(50, 0, 9, 5, 1002)))
	wantFail(t, "more than is free", impl.DoOp(b, reserve(0, 9, 6, 11, 1)), impl.ErrStock)
	wantFail(t, "without a row", impl.DoOp(b, reserve(1, 9, 1, 11, 1)), impl.ErrStock)
	wantFail(t, "an Id that is taken", impl.DoOp(b, reserve(1, 2, 1, 10, 1)), impl.ErrTaken)
	wantFail(t, "taken before stock", impl.DoOp(b, reserve(1, 2, 6, 10, 1)), impl.ErrTaken)
	late := book(9999, rows(row(3, 20, 9999, 0)))
	wantBook(t, "at the last moment", impl.DoOp(late, reserve(3, 20, 9999, 1, 999)), impl.OK, 0, book(9999, rows(row(3, 20, 9999, 9999)), hold(1, 3, 20, 9999, 10998)))
}

func TestReserveWithFullHolds(t *testing.T) {
	five, six := heldBook(5), heldBook(6)
	wantBook(t, "the 6th", impl.DoOp(five, reserve(0, 1, 1, 12, 50)), impl.OK, 14, six)
	wantFail(t, "the 7th", impl.DoOp(six, reserve(0, 1, 14, 1, 50)), impl.ErrFull)
	wantFail(t, "taken before full", impl.DoOp(six, reserve(0, 1, 1, 12, 50)), impl.ErrTaken)
	wantFail(t, "stock before full", impl.DoOp(six, reserve(0, 1, 15, 1, 50)), impl.ErrStock)
	wantFail(t, "taken before stock and full", impl.DoOp(six, reserve(0, 1, 15, 2, 50)), impl.ErrTaken)
	// A hold whose time is over is still there until the next tick.
	over := cloneBook(six)
	over.Now = 60
	wantFail(t, "the 7th, others over", impl.DoOp(over, reserve(0, 1, 1, 1, 50)), impl.ErrFull)
	wantFail(t, "taken by one that is over", impl.DoOp(over, reserve(0, 1, 1, 2, 50)), impl.ErrTaken)
}

func TestCommit(t *testing.T) {
	b := book(3, rows(row(0, 9, 7, 5), row(1, 2, 4, 4), row(2, 2, 4, 0)), hold(10, 0, 9, 2, 9), hold(20, 1, 2, 4, 9), hold(30, 0, 9, 3, 9))
	h := b.Holds
	wantBook(t, "first", impl.DoOp(b, commit(10)), impl.OK, 2, book(3, rows(row(0, 9, 5, 3), b.Rows[1], b.Rows[2]), h[1], h[2]))
	wantBook(t, "last", impl.DoOp(b, commit(30)), impl.OK, 2, book(3, rows(row(0, 9, 4, 2), b.Rows[1], b.Rows[2]), h[0], h[1]))
	wantBook(t, "a whole row", impl.DoOp(b, commit(20)), impl.OK, 0, book(3, rows(b.Rows[0], b.Rows[2]), h[0], h[2]))
	wantBook(t, "the only row", impl.DoOp(book(0, rows(row(3, 20, 9999, 9999)), hold(1, 3, 20, 9999, 0)), commit(1)), impl.OK, 0, impl.Book{})
	over := book(60, b.Rows, h...)
	wantBook(t, "a hold that is over", impl.DoOp(over, commit(10)), impl.OK, 2, book(60, rows(row(0, 9, 5, 3), b.Rows[1], b.Rows[2]), h[1], h[2]))
	for _, id := range []int64{1, 9, 11, 50} {
		wantFail(t, "no such hold", impl.DoOp(b, commit(id)), impl.ErrNone)
		wantFail(t, "no holds", impl.DoOp(impl.Book{}, commit(id)), impl.ErrNone)
	}
}

func TestRelease(t *testing.T) {
	b := book(3, rows(row(0, 9, 7, 5), row(1, 2, 4, 4), row(2, 2, 4, 0)), hold(10, 0, 9, 2, 9), hold(20, 1, 2, 4, 9), hold(30, 0, 9, 3, 9))
	h := b.Holds
	wantBook(t, "first", impl.DoOp(b, release(10)), impl.OK, 4, book(3, rows(row(0, 9, 7, 3), b.Rows[1], b.Rows[2]), h[1], h[2]))
	wantBook(t, "last", impl.DoOp(b, release(30)), impl.OK, 5, book(3, rows(row(0, 9, 7, 2), b.Rows[1], b.Rows[2]), h[0], h[1]))
	wantBook(t, "a whole row, which stays", impl.DoOp(b, release(20)), impl.OK, 4, book(3, rows(b.Rows[0], row(1, 2, 4, 0), b.Rows[2]), h[0], h[2]))
	over := book(60, b.Rows, h...)
	wantBook(t, "a hold that is over", impl.DoOp(over, release(10)), impl.OK, 4, book(60, rows(row(0, 9, 7, 3), b.Rows[1], b.Rows[2]), h[1], h[2]))
	for _, id := range []int64{1, 9, 11, 50} {
		wantFail(t, "no such hold", impl.DoOp(b, release(id)), impl.ErrNone)
		wantFail(t, "no holds", impl.DoOp(impl.Book{}, release(id)), impl.ErrNone)
	}
}

func TestTransfer(t *testing.T) {
	b := book(3, rows(row(0, 2, 7, 2), row(1, 2, 5, 0), row(2, 2, 9990, 1)), hold(1, 0, 2, 2, 9), hold(2, 2, 2, 1, 9))
	wantBook(t, "to a row", impl.DoOp(b, transfer(0, 1, 2, 3)), impl.OK, 2, book(3, rows(row(0, 2, 4, 2), row(1, 2, 8, 0), b.Rows[2]), b.Holds...))
	wantBook(t, "back", impl.DoOp(b, transfer(1, 0, 2, 3)), impl.OK, 2, book(3, rows(row(0, 2, 10, 2), row(1, 2, 2, 0), b.Rows[2]), b.Holds...))
	wantBook(t, "to no row", impl.DoOp(b, transfer(0, 3, 2, 3)), impl.OK, 2, book(3, rows(row(0, 2, 4, 2), b.Rows[1], b.Rows[2], row(3, 2, 3, 0)), b.Holds...))
	wantBook(t, "all that is free", impl.DoOp(b, transfer(0, 1, 2, 5)), impl.OK, 0, book(3, rows(row(0, 2, 2, 2), row(1, 2, 10, 0), b.Rows[2]), b.Holds...))
	wantFail(t, "more than is free", impl.DoOp(b, transfer(0, 1, 2, 6)), impl.ErrStock)
	wantFail(t, "from no row", impl.DoOp(b, transfer(3, 1, 2, 1)), impl.ErrStock)
	wantFail(t, "of another Sku", impl.DoOp(b, transfer(0, 1, 3, 1)), impl.ErrStock)
	wantBook(t, "a whole row to a row", impl.DoOp(b, transfer(1, 0, 2, 5)), impl.OK, 0, book(3, rows(row(0, 2, 12, 2), b.Rows[2]), b.Holds...))
	wantBook(t, "a whole row to no row", impl.DoOp(b, transfer(1, 3, 2, 5)), impl.OK, 0, book(3, rows(b.Rows[0], b.Rows[2], row(3, 2, 5, 0)), b.Holds...))
	high := book(0, rows(row(0, 2, 20, 0), row(2, 2, 9990, 0)))
	wantBook(t, "up to the limit", impl.DoOp(high, transfer(0, 2, 2, 9)), impl.OK, 11, book(0, rows(row(0, 2, 11, 0), row(2, 2, 9999, 0))))
	wantFail(t, "beyond the limit", impl.DoOp(high, transfer(0, 2, 2, 10)), impl.ErrFull)
	wantFail(t, "beyond the limit with a whole row", impl.DoOp(high, transfer(0, 2, 2, 20)), impl.ErrFull)
	wantFail(t, "stock before full", impl.DoOp(high, transfer(0, 2, 2, 21)), impl.ErrStock)
	empty := book(0, rows(row(0, 2, 4, 0), row(1, 2, 0, 0)))
	wantBook(t, "to an empty row", impl.DoOp(empty, transfer(0, 1, 2, 4)), impl.OK, 0, book(0, rows(row(1, 2, 4, 0))))
	wantFail(t, "from an empty row", impl.DoOp(empty, transfer(1, 0, 2, 1)), impl.ErrStock)
}

func TestTransferWithFullRows(t *testing.T) {
	full := freeRows(12) // at Loc 0, with the Skus 1 to 12
	wantFail(t, "to no row", impl.DoOp(book(0, full), transfer(0, 1, 5, 9)), impl.ErrFull)
	moved := append(slices.Delete(slices.Clone(full), 4, 5), row(1, 5, 10, 0))
	wantBook(t, "a whole row to no row", impl.DoOp(book(0, full), transfer(0, 1, 5, 10)), impl.OK, 0, book(0, moved))
	wantFail(t, "stock before full", impl.DoOp(book(0, full), transfer(0, 1, 5, 11)), impl.ErrStock)
	both := append(slices.Clone(full[:11]), row(1, 5, 1, 0))
	after := slices.Clone(both)
	after[4].Hand, after[11].Hand = 7, 4
	wantBook(t, "to a row", impl.DoOp(book(0, both), transfer(0, 1, 5, 3)), impl.OK, 7, book(0, after))
	eleven := append(slices.Clone(full[:11]), row(1, 5, 3, 0))
	eleven[4].Hand = 7
	wantBook(t, "the 12th row", impl.DoOp(book(0, full[:11]), transfer(0, 1, 5, 3)), impl.OK, 7, book(0, eleven))
	held := slices.Clone(full)
	held[4].Held = 1
	wantFail(t, "all that is free to no row, the rest held", impl.DoOp(book(0, held, hold(1, 0, 5, 1, 9)), transfer(0, 1, 5, 9)), impl.ErrFull)
	empty := append(slices.Clone(full[:11]), row(1, 5, 0, 0))
	wantBook(t, "to an empty row", impl.DoOp(book(0, empty), transfer(0, 1, 5, 3)), impl.OK, 7, book(0, eleven))
	wantFail(t, "to no row beside an empty row", impl.DoOp(book(0, empty), transfer(0, 2, 5, 3)), impl.ErrFull)
}

func TestTick(t *testing.T) {
	b := book(3, rows(row(0, 9, 7, 5), row(1, 2, 4, 4), row(2, 2, 0, 0)), hold(10, 0, 9, 2, 9), hold(20, 1, 2, 4, 9), hold(30, 0, 9, 3, 10))
	h := b.Holds
	wantBook(t, "before", impl.DoOp(b, tick(1)), impl.OK, 0, book(4, b.Rows, h...))
	wantBook(t, "holds that last until Now", impl.DoOp(b, tick(6)), impl.OK, 0, book(9, b.Rows, h...))
	// A row whose units were all held keeps them when the hold expires, so it does not become empty.
	wantBook(t, "two holds that expire in the very tick, on two rows", impl.DoOp(b, tick(7)), impl.OK, 2, book(10, rows(row(0, 9, 7, 3), row(1, 2, 4, 0), b.Rows[2]), h[2]))
	wantBook(t, "all holds", impl.DoOp(b, tick(8)), impl.OK, 3, book(11, rows(row(0, 9, 7, 0), row(1, 2, 4, 0), b.Rows[2])))
	wantBook(t, "long after", impl.DoOp(b, tick(999)), impl.OK, 3, book(1002, rows(row(0, 9, 7, 0), row(1, 2, 4, 0), b.Rows[2])))
	wantBook(t, "6 holds of a row", impl.DoOp(heldBook(6), tick(51)), impl.OK, 6, book(51, rows(row(0, 1, 20, 0))))
	wantBook(t, "6 holds of a row that last until Now", impl.DoOp(heldBook(6), tick(50)), impl.OK, 0, book(50, rows(row(0, 1, 20, 6)), holdsOf(6)...))
	wantBook(t, "holds that were over before", impl.DoOp(book(60, rows(row(0, 1, 20, 6)), holdsOf(6)...), tick(1)), impl.OK, 6, book(61, rows(row(0, 1, 20, 0))))
	wantBook(t, "nothing there", impl.DoOp(impl.Book{}, tick(5)), impl.OK, 0, book(5, nil))
	all := book(0, rows(row(3, 20, 9999, 9999)), hold(1, 3, 20, 9999, 0))
	wantBook(t, "a row that was all held", impl.DoOp(all, tick(1)), impl.OK, 1, book(1, rows(row(3, 20, 9999, 0))))
}

func TestTickToTheEndOfTime(t *testing.T) {
	wantBook(t, "to MaxTime", impl.DoOp(book(9000, nil), tick(999)), impl.OK, 0, book(9999, nil))
	wantFail(t, "beyond MaxTime", impl.DoOp(book(9001, nil), tick(999)), impl.ErrRange)
	wantFail(t, "beyond MaxTime by one", impl.DoOp(book(9999, nil), tick(1)), impl.ErrRange)
	b := book(9990, rows(row(0, 1, 9, 9)), hold(1, 0, 1, 4, 9998), hold(2, 0, 1, 5, 9999))
	wantBook(t, "to MaxTime with holds", impl.DoOp(b, tick(9)), impl.OK, 1, book(9999, rows(row(0, 1, 9, 5)), b.Holds[1]))
	wantFail(t, "beyond MaxTime with holds", impl.DoOp(b, tick(10)), impl.ErrRange)
}

func TestDoOpReturnsTheFaultOfTheOperation(t *testing.T) {
	for what, b := range goodBooks {
		for _, c := range faultyOps {
			wantFail(t, what+": "+c.what, impl.DoOp(b, c.op), c.code)
		}
	}
	// Without their faults these would have codes of their own.
	wantFail(t, "a take of nothing", impl.DoOp(impl.Book{}, take(0, 1, 0)), impl.ErrRange)
	wantFail(t, "a commit of hold 51", impl.DoOp(impl.Book{}, commit(51)), impl.ErrRange)
	wantFail(t, "a release with a Loc", impl.DoOp(impl.Book{}, op(5, 0, 1, 0, 0, 0, 1)), impl.ErrForm)
	wantFail(t, "a transfer to its own location", impl.DoOp(impl.Book{}, transfer(1, 1, 1, 1)), impl.ErrTaken)
	wantFail(t, "a tick with a Req", impl.DoOp(book(9999, nil), op(7, 1, 0, 0, 0, 1, 0)), impl.ErrForm)
}

func TestDoOpIgnoresReq(t *testing.T) {
	b := book(3, rows(row(0, 9, 70, 2), row(1, 9, 70, 0)), hold(7, 0, 9, 2, 9))
	for _, o := range []impl.Op{receive(0, 9, 4), take(0, 9, 4), reserve(0, 9, 4, 8, 4), commit(7), release(7), transfer(0, 1, 9, 4), commit(9)} {
		want := impl.DoOp(b, o)
		got := impl.DoOp(b, with(o, fieldReq, 999))
		wantBook(t, "with a Req", got, want.Code, want.Value, want.Book)
	}
}
