package tests

import (
	"math"
	"slices"
	"strconv"
	"testing"

	"loop.example/g00623/impl"
)

func saw(req, value int64) impl.Seen {
	return impl.Seen{Req: req, Value: value}
}

func seens(list ...impl.Seen) []impl.Seen { return list }

func ledger(b impl.Book, list ...impl.Seen) impl.Ledger {
	return impl.Ledger{Book: b, Seen: list}
}

// asked returns the operation with a Req.
func asked(req int64, o impl.Op) impl.Op { return with(o, fieldReq, req) }

// manySeen returns n seen requests with the Reqs 100, 99, 98 and so on.
func manySeen(n int64) []impl.Seen {
	var list []impl.Seen
	for i := range n {
		list = append(list, saw(100-i, 7*i))
	}
	return list
}

// equalLedgers compares ledgers without the program; an empty list and nil are equal.
func equalLedgers(a, b impl.Ledger) bool {
	return equalBooks(a.Book, b.Book) && slices.Equal(a.Seen, b.Seen)
}

func cloneLedger(l impl.Ledger) impl.Ledger {
	return impl.Ledger{Book: cloneBook(l.Book), Seen: slices.Clone(l.Seen)}
}

func wantSeen(t *testing.T, what string, got impl.SeenResult, code int64, list ...impl.Seen) {
	t.Helper()
	if got.Code != code || !slices.Equal(got.Seen, list) {
		t.Errorf("%s: got %+v, want code %d and seen %+v", what, got, code, list)
	}
}

func wantLedger(t *testing.T, what string, got, want impl.LedgerResult) {
	t.Helper()
	if got.Code != want.Code || got.Value != want.Value || got.Again != want.Again || !equalLedgers(got.Ledger, want.Ledger) {
		t.Errorf("%s: got %+v, want %+v", what, got, want)
	}
}

func wantDone(t *testing.T, what string, got impl.LedgerResult, value int64, l impl.Ledger) {
	t.Helper()
	wantLedger(t, what, got, impl.LedgerResult{Value: value, Ledger: l})
}

func wantAgain(t *testing.T, what string, got impl.LedgerResult, value int64, l impl.Ledger) {
	t.Helper()
	wantLedger(t, what, got, impl.LedgerResult{Value: value, Again: true, Ledger: l})
}

// wantRefused checks that a code comes with zero values.
func wantRefused(t *testing.T, what string, got impl.LedgerResult, code int64) {
	t.Helper()
	wantLedger(t, what, got, impl.LedgerResult{Code: code})
}

var goodSeens = map[string][]impl.Seen{
	"nil":               nil,
	"an empty list":     {},
	"one":               {saw(9, 10)},
	"all limits":        {saw(999, 0), saw(1, 19998)},
	"6":                 manySeen(6),
	"one Value for all": {saw(3, 5), saw(1, 5), saw(2, 5)},
}

type faultySeen struct {
	what string
	list []impl.Seen
	code int64
}

// faultySeens has lists for each code of SeenFault, and for their order.
func faultySeens() []faultySeen {
	ok := saw(5, 1)
	list := []faultySeen{
		{"7", manySeen(7), impl.ErrMany},
		{"100", manySeen(100), impl.ErrMany},
		{"7, the first out of range", append(seens(saw(0, 0)), manySeen(6)...), impl.ErrMany},
		{"7, the last out of range", append(manySeen(6), saw(1, -1)), impl.ErrMany},
		{"7, two with a Req", append(manySeen(6), saw(100, 0)), impl.ErrMany},
		{"7 zero ones", make([]impl.Seen, 7), impl.ErrMany},
		{"6 zero ones", make([]impl.Seen, 6), impl.ErrRange},
		{"the last of 6 out of range", append(manySeen(5), saw(1000, 0)), impl.ErrRange},
		{"the same twice", seens(ok, ok), impl.ErrTaken},
		{"a Req twice with two Values", seens(ok, saw(5, 2)), impl.ErrTaken},
		{"a Req twice, not side by side", seens(ok, saw(6, 1), saw(5, 2)), impl.ErrTaken},
		{"the first Req of 6 is the last", append(manySeen(5), saw(100, 0)), impl.ErrTaken},
		{"range before taken in one", seens(ok, saw(5, -1)), impl.ErrRange},
		{"a Req out of range twice", seens(saw(0, 1), saw(0, 1)), impl.ErrRange},
		{"taken of an earlier one", seens(ok, ok, saw(0, 1)), impl.ErrTaken},
		{"range of an earlier one", seens(saw(1000, 1), ok, ok), impl.ErrRange},
		{"range between", seens(ok, saw(6, 19999), ok), impl.ErrRange},
	}
	for _, n := range []int64{0, -1, 1000, math.MinInt64, math.MaxInt64} {
		list = append(list, faultySeen{"Req " + strconv.FormatInt(n, 10), seens(saw(n, 1)), impl.ErrRange})
	}
	for _, n := range []int64{-1, 19999, math.MinInt64, math.MaxInt64} {
		list = append(list, faultySeen{"Value " + strconv.FormatInt(n, 10), seens(saw(5, n)), impl.ErrRange})
	}
	return list
}

func TestSeenLimits(t *testing.T) {
	if impl.MaxSeen != 6 {
		t.Error("limits")
	}
}

func TestSeenExamples(t *testing.T) {
	o := impl.Op{Kind: impl.OpReceive, Req: 9, Loc: 1, Sku: 2, Qty: 10}
	want := ledger(book(0, rows(row(1, 2, 10, 0))), saw(9, 10))
	wantDone(t, "first", impl.AskLedger(impl.Ledger{}, o), 10, want)
	wantAgain(t, "second", impl.AskLedger(want, o), 10, want)
}

func TestSeenFault(t *testing.T) {
	for what, list := range goodSeens {
		wantCode(t, what, impl.SeenFault(list), impl.OK)
	}
	for _, c := range faultySeens() {
		wantCode(t, c.what, impl.SeenFault(c.list), c.code)
	}
}

func TestFunctionsReturnTheSeenFault(t *testing.T) {
	for _, c := range faultySeens() {
		for _, req := range []int64{0, 5, 100, 200, 1000} {
			wantInt(t, "find: "+c.what, impl.FindSeen(c.list, req), c.code, 0)
			wantSeen(t, "note: "+c.what, impl.NoteSeen(c.list, saw(req, 1)), c.code)
			wantSeen(t, "note a bad Value: "+c.what, impl.NoteSeen(c.list, saw(req, -1)), c.code)
		}
	}
}

func TestFindSeen(t *testing.T) {
	for what, list := range goodSeens {
		for _, x := range list {
			wantInt(t, what, impl.FindSeen(list, x.Req), impl.OK, x.Value)
		}
		for _, req := range []int64{0, 500, -1, 1000, math.MinInt64, math.MaxInt64} {
			wantInt(t, what+" without it", impl.FindSeen(list, req), impl.ErrNone, 0)
		}
	}
}

func TestNoteSeen(t *testing.T) {
	wantSeen(t, "to nil", impl.NoteSeen(nil, saw(9, 10)), impl.OK, saw(9, 10))
	wantSeen(t, "to an empty list", impl.NoteSeen([]impl.Seen{}, saw(1, 0)), impl.OK, saw(1, 0))
	wantSeen(t, "all limits", impl.NoteSeen(seens(saw(1, 0)), saw(999, 19998)), impl.OK, saw(1, 0), saw(999, 19998))
	wantSeen(t, "a smaller Req", impl.NoteSeen(seens(saw(9, 10)), saw(3, 10)), impl.OK, saw(9, 10), saw(3, 10))
	wantSeen(t, "the 6th", impl.NoteSeen(manySeen(5), saw(95, 35)), impl.OK, manySeen(6)...)
	wantSeen(t, "the 7th", impl.NoteSeen(manySeen(6), saw(94, 42)), impl.OK, manySeen(7)[1:]...)
	for _, x := range seens(saw(0, 1), saw(-1, 1), saw(1000, 1), saw(math.MinInt64, 1), saw(math.MaxInt64, 1), saw(1, -1), saw(1, 19999), saw(1, math.MinInt64), saw(1, math.MaxInt64), impl.Seen{}) {
		for what, list := range goodSeens {
			wantSeen(t, "out of range to "+what, impl.NoteSeen(list, x), impl.ErrRange)
		}
	}
	for what, list := range goodSeens {
		for _, x := range list {
			wantSeen(t, "taken in "+what, impl.NoteSeen(list, x), impl.ErrTaken)
			wantSeen(t, "taken with another Value in "+what, impl.NoteSeen(list, saw(x.Req, 77)), impl.ErrTaken)
			wantSeen(t, "range before taken in "+what, impl.NoteSeen(list, saw(x.Req, 19999)), impl.ErrRange)
		}
	}
}

// Promise 6: the latest requests are remembered, and no others.
func TestNotedRequestsAreTheLatest(t *testing.T) {
	all := manySeen(50)
	var list []impl.Seen
	for i, x := range all {
		noted := impl.NoteSeen(list, x)
		wantSeen(t, "noted", noted, impl.OK, all[max(0, i-5):i+1]...)
		list = noted.Seen
		for j, y := range all {
			if j <= i && j > i-6 {
				wantInt(t, "remembered", impl.FindSeen(list, y.Req), impl.OK, y.Value)
				continue
			}
			wantInt(t, "not remembered", impl.FindSeen(list, y.Req), impl.ErrNone, 0)
		}
	}
	wantSeen(t, "one that was dropped", impl.NoteSeen(list, all[0]), impl.OK, append(slices.Clone(list[1:]), all[0])...)
}

func TestLedgerFault(t *testing.T) {
	wantCode(t, "zero", impl.LedgerFault(impl.Ledger{}), impl.OK)
	for what, b := range goodBooks {
		for seen, list := range goodSeens {
			wantCode(t, what+" and "+seen, impl.LedgerFault(ledger(b, list...)), impl.OK)
		}
		for _, c := range faultySeens() {
			wantCode(t, what+" and "+c.what, impl.LedgerFault(ledger(b, c.list...)), c.code)
		}
	}
	for _, c := range faultyBooks() {
		wantCode(t, c.what, impl.LedgerFault(ledger(c.book)), c.code)
		wantCode(t, c.what+" and 6 seen", impl.LedgerFault(ledger(c.book, manySeen(6)...)), c.code)
		for _, seen := range faultySeens() {
			wantCode(t, c.what+" before "+seen.what, impl.LedgerFault(ledger(c.book, seen.list...)), c.code)
		}
	}
}

func TestSameLedgers(t *testing.T) {
	same := func(what string, a, b impl.Ledger, want bool) {
		t.Helper()
		if impl.SameLedgers(a, b) != want || impl.SameLedgers(b, a) != want {
			t.Errorf("%s: want %v", what, want)
		}
	}
	same("zero", impl.Ledger{}, impl.Ledger{}, true)
	same("empty lists and nil", impl.Ledger{}, impl.Ledger{Book: goodBooks["empty lists"], Seen: []impl.Seen{}}, true)
	// Ledgers need not be valid to be compared.
	for _, c := range faultySeens() {
		l := ledger(memoryBook(), c.list...)
		same(c.what, l, cloneLedger(l), true)
	}
	for _, c := range faultyBooks() {
		same(c.what, ledger(c.book, saw(1, 1)), cloneLedger(ledger(c.book, saw(1, 1))), true)
	}
	l := ledger(memoryBook(), saw(0, math.MinInt64), saw(-1, math.MaxInt64), impl.Seen{})
	same("without the last seen", l, ledger(l.Book, l.Seen[:2]...), false)
	same("without seen", l, ledger(l.Book), false)
	same("without a book", l, ledger(impl.Book{}, l.Seen...), false)
	same("another order of seen", l, ledger(l.Book, l.Seen[1], l.Seen[0], l.Seen[2]), false)
	for field := range 6 {
		other := cloneLedger(l)
		x := &other.Seen[field/2]
		*[]*int64{&x.Req, &x.Value}[field%2] ^= 1
		same("field "+strconv.Itoa(field)+" of seen", l, other, false)
	}
	for field := range 3 {
		other := cloneLedger(l)
		*[]*int64{&other.Book.Now, &other.Book.Rows[3].Hand, &other.Book.Holds[1].Until}[field] ^= 1
		same("field "+strconv.Itoa(field)+" of the book", l, other, false)
	}
}

// kindsOnce has an operation of each kind with a Req that succeeds with memoryBook, and its Value.
var kindsOnce = []struct {
	op    impl.Op
	value int64
}{
	{receive(0, 2, 5), 9},
	{take(0, 2, 4), 0},
	{reserve(0, 2, 3, 30, 9), 1},
	{commit(10), 4},
	{release(20), 3},
	{transfer(1, 0, 1, 4), 0},
}

// Promise 6: a repeated request is performed once and answered as before.
func TestAskLedgerOnceForEachKind(t *testing.T) {
	for _, k := range kindsOnce {
		for _, req := range []int64{1, 9, 999} {
			o := asked(req, k.op)
			want := ledger(plainDo(memoryBook(), k.op).Book, saw(500, 3), saw(req, k.value))
			got := impl.AskLedger(ledger(memoryBook(), saw(500, 3)), o)
			wantDone(t, plainText(o), got, k.value, want)
			for range 3 {
				got = impl.AskLedger(got.Ledger, o)
				wantAgain(t, plainText(o)+" again", got, k.value, want)
			}
		}
	}
	// A tick has no Req, so it is never remembered.
	l := ledger(memoryBook(), saw(500, 3))
	for i := range int64(3) {
		got := impl.AskLedger(l, tick(7))
		want := plainDo(l.Book, tick(7))
		wantDone(t, "tick "+strconv.FormatInt(i, 10), got, want.Value, ledger(want.Book, l.Seen...))
		l = got.Ledger
	}
}

// A repeated request is answered before it is looked at what the book allows now.
func TestAskLedgerAgainWhereItCouldNotBePerformed(t *testing.T) {
	full, late := book(0, freeRows(12)), book(9999, nil)
	cases := []struct {
		what string
		book impl.Book
		op   impl.Op
		code int64
	}{
		{"a receipt beyond the limit", book(0, rows(row(0, 1, 9999, 0))), receive(0, 1, 1), impl.ErrFull},
		{"a receipt without a row", full, receive(3, 20, 1), impl.ErrFull},
		{"a take of nothing left", impl.Book{}, take(0, 1, 1), impl.ErrStock},
		{"a reservation of nothing left", late, reserve(0, 1, 1, 1, 1), impl.ErrStock},
		{"a reservation with an Id that is taken", heldBook(6), reserve(0, 1, 1, 12, 50), impl.ErrTaken},
		{"a reservation without room", heldBook(6), reserve(0, 1, 1, 1, 50), impl.ErrFull},
		{"a commit that was made", impl.Book{}, commit(7), impl.ErrNone},
		{"a release that was made", heldBook(6), release(1), impl.ErrNone},
		{"a transfer of nothing left", impl.Book{}, transfer(0, 1, 2, 1), impl.ErrStock},
		{"a transfer without room", full, transfer(0, 1, 5, 9), impl.ErrFull},
	}
	for _, c := range cases {
		l := ledger(c.book, saw(8, 1), saw(9, 19998), saw(7, 0))
		wantRefused(t, c.what+", new", impl.AskLedger(l, asked(10, c.op)), c.code)
		wantRefused(t, c.what+", without a Req", impl.AskLedger(l, c.op), c.code)
		wantAgain(t, c.what+", first", impl.AskLedger(l, asked(8, c.op)), 1, l)
		wantAgain(t, c.what+", between", impl.AskLedger(l, asked(9, c.op)), 19998, l)
		wantAgain(t, c.what+", last", impl.AskLedger(l, asked(7, c.op)), 0, l)
	}
}

// What was seen is the Req, whatever is asked with it.
func TestAskLedgerWithTheReqOfAnotherOperation(t *testing.T) {
	for _, first := range kindsOnce {
		done := impl.AskLedger(ledger(memoryBook()), asked(9, first.op))
		for _, second := range kindsOnce {
			wantAgain(t, plainText(first.op)+", then "+plainText(second.op), impl.AskLedger(done.Ledger, asked(9, second.op)), first.value, done.Ledger)
		}
		// The tick has no Req, so it is performed.
		want := plainDo(done.Ledger.Book, tick(1))
		wantDone(t, "then a tick", impl.AskLedger(done.Ledger, tick(1)), want.Value, ledger(want.Book, done.Ledger.Seen...))
	}
}

// An operation without a Req is performed each time and not remembered.
func TestAskLedgerWithoutReq(t *testing.T) {
	for _, list := range goodSeens {
		l := ledger(impl.Book{}, list...)
		for i := range int64(3) {
			got := impl.AskLedger(l, receive(1, 2, 10))
			wantDone(t, "receive", got, 10*i+10, ledger(book(0, rows(row(1, 2, 10*i+10, 0))), list...))
			l = got.Ledger
		}
		got := impl.AskLedger(l, take(1, 2, 30))
		wantDone(t, "take", got, 0, ledger(impl.Book{}, list...))
		wantRefused(t, "take again", impl.AskLedger(got.Ledger, take(1, 2, 30)), impl.ErrStock)
	}
}

// Promise 6: MaxSeen requests are remembered, and by one more the first one is dropped.
func TestAskLedgerDropsTheFirst(t *testing.T) {
	var l impl.Ledger
	var all []impl.Seen
	for req := int64(1); req <= 20; req++ {
		o := asked(req, receive(0, 1, req))
		got := impl.AskLedger(l, o)
		all = append(all, saw(req, req*(req+1)/2))
		l = ledger(book(0, rows(row(0, 1, req*(req+1)/2, 0))), all[max(0, len(all)-6):]...)
		wantDone(t, plainText(o), got, req*(req+1)/2, l)
		for old := max(1, req-5); old <= req; old++ {
			wantAgain(t, plainText(o)+", then an older one", impl.AskLedger(l, asked(old, receive(0, 1, old))), old*(old+1)/2, l)
		}
	}
	// Request 14 was dropped: it is performed and remembered anew, and 15 is dropped for it.
	got := impl.AskLedger(l, asked(14, receive(0, 1, 14)))
	l = ledger(book(0, rows(row(0, 1, 224, 0))), append(slices.Clone(all[15:]), saw(14, 224))...)
	wantDone(t, "one that was dropped", got, 224, l)
	wantAgain(t, "one that was dropped, again", impl.AskLedger(got.Ledger, asked(14, receive(0, 1, 14))), 224, l)
	wantDone(t, "the one that was dropped then", impl.AskLedger(l, asked(15, receive(0, 1, 15))), 239, ledger(book(0, rows(row(0, 1, 239, 0))), append(slices.Clone(l.Seen[1:]), saw(15, 239))...))
}

// A repeated request is not the latest one for that: its place among the seen ones stays.
func TestAskLedgerAgainDoesNotRenew(t *testing.T) {
	l := ledger(book(0, rows(row(0, 1, 10, 0))), manySeen(6)...)
	for range 3 {
		got := impl.AskLedger(l, asked(100, take(0, 1, 1)))
		wantAgain(t, "the oldest one", got, 0, l)
		l = got.Ledger
	}
	got := impl.AskLedger(l, asked(1, take(0, 1, 1)))
	wantDone(t, "a new one", got, 9, ledger(book(0, rows(row(0, 1, 9, 0))), append(manySeen(6)[1:], saw(1, 9))...))
}

// An operation with a code is not remembered and changes nothing, so it can be asked again.
func TestAskLedgerDoesNotRememberCodes(t *testing.T) {
	for _, n := range []int64{0, 1, 5, 6} {
		l := ledger(memoryBook(), manySeen(n)...)
		before := cloneLedger(l)
		wantRefused(t, "a take", impl.AskLedger(l, asked(9, take(0, 2, 5))), impl.ErrStock)
		wantRefused(t, "a take, again", impl.AskLedger(l, asked(9, take(0, 2, 5))), impl.ErrStock)
		wantRefused(t, "a commit", impl.AskLedger(l, asked(9, commit(9))), impl.ErrNone)
		wantRefused(t, "a reservation", impl.AskLedger(l, asked(9, reserve(0, 2, 1, 10, 1))), impl.ErrTaken)
		wantRefused(t, "a receipt", impl.AskLedger(l, asked(9, receive(0, 2, 9999))), impl.ErrFull)
		if !equalLedgers(l, before) {
			t.Errorf("the ledger is %+v", l)
		}
		want := append(manySeen(n), saw(9, 0))
		got := impl.AskLedger(l, asked(9, take(0, 2, 4)))
		wantDone(t, "the same Req", got, 0, ledger(plainDo(memoryBook(), take(0, 2, 4)).Book, want[max(0, len(want)-6):]...))
	}
	late := ledger(book(9999, nil), manySeen(6)...)
	wantRefused(t, "a tick", impl.AskLedger(late, tick(1)), impl.ErrRange)
}

// The codes come in the order BookFault, SeenFault, OpFault and those of the operation.
func TestAskLedgerChecksInOrder(t *testing.T) {
	for _, b := range faultyBooks() {
		for _, seen := range faultySeens() {
			l := ledger(b.book, seen.list...)
			wantRefused(t, b.what+" before "+seen.what, impl.AskLedger(l, impl.Op{}), b.code)
			wantRefused(t, b.what+" before "+seen.what, impl.AskLedger(l, asked(5, take(3, 19, 1))), b.code)
		}
		l := ledger(b.book, saw(5, 1))
		wantRefused(t, b.what+" before an operation with a fault", impl.AskLedger(l, asked(5, take(0, 1, 0))), b.code)
		wantRefused(t, b.what+" before a seen request", impl.AskLedger(l, asked(5, take(0, 1, 1))), b.code)
		wantRefused(t, b.what+" before a code", impl.AskLedger(l, asked(6, take(3, 19, 1))), b.code)
	}
	for _, seen := range faultySeens() {
		l := ledger(memoryBook(), seen.list...)
		for _, o := range faultyOps {
			wantRefused(t, seen.what+" before "+o.what, impl.AskLedger(l, o.op), seen.code)
		}
		wantRefused(t, seen.what+" before a seen request", impl.AskLedger(l, asked(5, take(0, 2, 1))), seen.code)
		wantRefused(t, seen.what+" before a code", impl.AskLedger(l, asked(6, commit(9))), seen.code)
		wantRefused(t, seen.what+" without a Req", impl.AskLedger(l, take(0, 2, 1)), seen.code)
	}
	for _, o := range faultyOps {
		for _, list := range [][]impl.Seen{nil, manySeen(6), seens(saw(1, 1), saw(999, 9))} {
			wantRefused(t, o.what, impl.AskLedger(ledger(memoryBook(), list...), o.op), o.code)
			wantRefused(t, o.what, impl.AskLedger(ledger(impl.Book{}, list...), o.op), o.code)
		}
	}
	l := ledger(impl.Book{}, saw(5, 1))
	wantRefused(t, "a fault before a seen request", impl.AskLedger(l, asked(5, take(0, 1, 0))), impl.ErrRange)
	wantRefused(t, "a form before a seen request", impl.AskLedger(l, asked(5, tick(1))), impl.ErrForm)
	wantRefused(t, "a transfer to itself before a seen request", impl.AskLedger(l, asked(5, transfer(1, 1, 1, 1))), impl.ErrTaken)
	wantRefused(t, "a fault before a code", impl.AskLedger(l, asked(6, take(0, 1, 10000))), impl.ErrRange)
}
