package tests

import (
	"slices"
	"strconv"
	"sync"
	"testing"

	"loop.example/g00623/impl"
)

// plainPut changes the row with a Loc and Sku, and removes it if it is empty then.
func plainPut(list []impl.Row, loc, sku, hand, held int64) []impl.Row {
	var result []impl.Row
	isNew := true
	for _, r := range list {
		if r.Loc == loc && r.Sku == sku {
			isNew = false
			r.Hand += hand
			r.Held += held
			if r.Hand == 0 && r.Held == 0 {
				continue
			}
		}
		result = append(result, r)
	}
	if isNew {
		result = append(result, row(loc, sku, hand, held))
	}
	slices.SortFunc(result, func(a, b impl.Row) int { return int(21*a.Loc + a.Sku - 21*b.Loc - b.Sku) })
	return result
}

func plainFind(list []impl.Row, loc, sku int64) (impl.Row, bool) {
	i := slices.IndexFunc(list, func(r impl.Row) bool { return r.Loc == loc && r.Sku == sku })
	if i < 0 {
		return impl.Row{}, false
	}
	return list[i], true
}

func plainFree(b impl.Book, loc, sku int64) int64 {
	r, _ := plainFind(b.Rows, loc, sku)
	return r.Hand - r.Held
}

func plainDrop(b impl.Book, i int) impl.Book {
	h := b.Holds[i]
	return book(b.Now, plainPut(b.Rows, h.Loc, h.Sku, 0, -h.Qty), slices.Delete(slices.Clone(b.Holds), i, i+1)...)
}

// plainStock has the operations that move units, as chapter 4 says them.
func plainStock(b impl.Book, o impl.Op) impl.BookResult {
	there, _ := plainFind(b.Rows, o.Loc, o.Sku)
	if o.Kind != impl.OpReceive && there.Hand-there.Held < o.Qty {
		return impl.BookResult{Code: impl.ErrStock}
	}
	list := b.Rows
	if o.Kind != impl.OpReceive {
		list = plainPut(list, o.Loc, o.Sku, -o.Qty, 0)
	}
	if o.Kind != impl.OpTake {
		loc := o.Loc
		if o.Kind == impl.OpTransfer {
			loc = o.To
		}
		if r, _ := plainFind(b.Rows, loc, o.Sku); r.Hand+o.Qty > 9999 {
			return impl.BookResult{Code: impl.ErrFull}
		}
		list = plainPut(list, loc, o.Sku, o.Qty, 0)
	}
	if len(list) > 12 {
		return impl.BookResult{Code: impl.ErrFull}
	}
	after := book(b.Now, list, b.Holds...)
	return impl.BookResult{Value: plainFree(after, o.Loc, o.Sku), Book: after}
}

// plainHold has the operations that name a hold, as chapter 4 says them.
func plainHold(b impl.Book, o impl.Op) impl.BookResult {
	i := slices.IndexFunc(b.Holds, func(h impl.Hold) bool { return h.Id == o.Hold })
	if o.Kind != impl.OpReserve {
		if i < 0 {
			return impl.BookResult{Code: impl.ErrNone}
		}
		h := b.Holds[i]
		after := plainDrop(b, i)
		if o.Kind == impl.OpCommit {
			after.Rows = plainPut(after.Rows, h.Loc, h.Sku, -h.Qty, 0)
		}
		return impl.BookResult{Value: plainFree(after, h.Loc, h.Sku), Book: after}
	}
	switch {
	case i >= 0:
		return impl.BookResult{Code: impl.ErrTaken}
	case plainFree(b, o.Loc, o.Sku) < o.Qty:
		return impl.BookResult{Code: impl.ErrStock}
	case len(b.Holds) == 6:
		return impl.BookResult{Code: impl.ErrFull}
	}
	after := book(b.Now, plainPut(b.Rows, o.Loc, o.Sku, 0, o.Qty), append(slices.Clone(b.Holds), hold(o.Hold, o.Loc, o.Sku, o.Qty, b.Now+o.To))...)
	slices.SortFunc(after.Holds, func(x, y impl.Hold) int { return int(x.Id - y.Id) })
	return impl.BookResult{Value: plainFree(after, o.Loc, o.Sku), Book: after}
}

func plainTick(b impl.Book, o impl.Op) impl.BookResult {
	if b.Now+o.Qty > 9999 {
		return impl.BookResult{Code: impl.ErrRange}
	}
	after := cloneBook(b)
	after.Now += o.Qty
	count := int64(0)
	for i := len(after.Holds) - 1; i >= 0; i-- {
		if after.Holds[i].Until < after.Now {
			after = plainDrop(after, i)
			count++
		}
	}
	return impl.BookResult{Value: count, Book: after}
}

// plainDo performs an operation on lists, without the program. The book is valid.
func plainDo(b impl.Book, o impl.Op) impl.BookResult {
	if fault := plainOpFault(o); fault != impl.OK {
		return impl.BookResult{Code: fault}
	}
	switch o.Kind {
	case impl.OpReceive, impl.OpTake, impl.OpTransfer:
		return plainStock(b, o)
	case impl.OpTick:
		return plainTick(b, o)
	}
	return plainHold(b, o)
}

// walkOp returns an operation that depends on seed only, of few rows and holds, so that operations meet.
func walkOp(seed uint64) impl.Op {
	n := sampleNumbers(seed, 7)
	for i := range n {
		n[i] += 32768
	}
	loc, sku, qty := n[1]%4, 1+n[2]%5, 1+n[3]%9
	if n[4]%8 == 0 {
		qty = 9985 + n[3]%15
	}
	switch n[0] % 16 {
	case 0, 1, 2, 3:
		return receive(loc, sku, qty)
	case 4, 5:
		return take(loc, sku, qty)
	case 6, 7, 8, 9:
		return reserve(loc, sku, 1+n[3]%3, 1+n[5]%12, 1+n[6]%60)
	case 10:
		return commit(1 + n[5]%12)
	case 11:
		return release(1 + n[5]%12)
	case 12, 13:
		return transfer(loc, n[5]%4, sku, qty)
	case 14:
		return tick(1 + n[6]%40)
	}
	return with(sampleOp(seed), int(n[5]%6), n[6]%3)
}

// startOf returns the book with which a walk begins; some have empty rows, some are near the end of time.
func startOf(seed uint64) impl.Book {
	switch seed % 4 {
	case 1:
		return book(0, rows(row(0, 1, 0, 0), row(1, 3, 0, 0), row(3, 5, 9, 0)))
	case 2:
		return book(9800, freeRows(12))
	case 3:
		return book(40, rows(row(0, 1, 9, 7), row(2, 4, 4, 4)), hold(3, 2, 4, 1, 20), hold(5, 0, 1, 7, 60), hold(12, 2, 4, 3, 40))
	}
	return impl.Book{}
}

// checkBook checks what holds after every operation: promise 5 without what was there before.
func checkBook(t *testing.T, what string, b impl.Book) {
	t.Helper()
	wantCode(t, what, impl.BookFault(b), impl.OK)
	sums := map[[2]int64]int64{}
	for _, h := range b.Holds {
		sums[[2]int64{h.Loc, h.Sku}] += h.Qty
	}
	for _, r := range b.Rows {
		if r.Held > r.Hand || r.Held != sums[[2]int64{r.Loc, r.Sku}] {
			t.Errorf("%s: held %+v, holds %+v", what, r, b.Holds)
		}
		wantInt(t, what+": free", impl.FreeOf(b, r.Loc, r.Sku), impl.OK, r.Hand-r.Held)
		wantInt(t, what+": held", impl.HeldOf(b, r.Loc, r.Sku), impl.OK, r.Held)
		delete(sums, [2]int64{r.Loc, r.Sku})
	}
	if len(sums) != 0 {
		t.Errorf("%s: holds without a row: %v", what, sums)
	}
}

// checkChange checks what an operation without a code may do: promise 5 with what was there before.
func checkChange(t *testing.T, before impl.Book, o impl.Op, after impl.BookResult) {
	t.Helper()
	what := plainText(o)
	free := impl.FreeOf(before, o.Loc, o.Sku).Value
	switch o.Kind {
	case impl.OpTake, impl.OpReserve, impl.OpTransfer:
		if o.Qty > free {
			t.Errorf("%s: only %d are free", what, free)
		}
	case impl.OpTick:
		if i := slices.IndexFunc(after.Book.Holds, func(h impl.Hold) bool { return h.Until < after.Book.Now }); i >= 0 {
			t.Errorf("%s: %+v is expired", what, after.Book.Holds[i])
		}
	}
	if o.Kind == impl.OpReserve {
		wantBook(t, what+" and its release", impl.DoOp(after.Book, release(o.Hold)), impl.OK, free, before)
	}
}

// countStock notes what an operation without a code received and removed.
func countStock(total map[int64]int64, before impl.Book, o impl.Op) {
	switch o.Kind {
	case impl.OpReceive:
		total[o.Sku] += o.Qty
	case impl.OpTake:
		total[o.Sku] -= o.Qty
	case impl.OpCommit:
		i := slices.IndexFunc(before.Holds, func(h impl.Hold) bool { return h.Id == o.Hold })
		total[before.Holds[i].Sku] -= before.Holds[i].Qty
	}
}

type kindAndCode struct{ kind, code int64 }

// walk performs operations one after the other and notes which codes they return.
func walk(t *testing.T, seed uint64, reached map[kindAndCode]int) {
	b := startOf(seed)
	total := map[int64]int64{}
	for _, r := range b.Rows {
		total[r.Sku] += r.Hand
	}
	for i := range uint64(150) {
		o := walkOp(seed*1000 + i)
		what := "walk " + strconv.FormatUint(seed, 10) + ", " + plainText(o)
		want, got := plainDo(b, o), impl.DoOp(b, o)
		wantBook(t, what, got, want.Code, want.Value, want.Book)
		reached[kindAndCode{o.Kind, got.Code}]++
		if got.Code != impl.OK {
			continue
		}
		checkBook(t, what, got.Book)
		checkChange(t, b, o, got)
		countStock(total, b, o)
		for sku := int64(1); sku <= 20; sku++ {
			wantInt(t, what+": total", impl.TotalOf(got.Book, sku), impl.OK, total[sku])
		}
		if t.Failed() {
			return
		}
		b = got.Book
	}
}

// Promise 5, along many walks, which reach every code of every kind.
func TestWalks(t *testing.T) {
	reached := map[kindAndCode]int{}
	for seed := range uint64(400) {
		walk(t, seed, reached)
	}
	codes := map[int64][]int64{
		impl.OpReceive:  {impl.OK, impl.ErrFull},
		impl.OpTake:     {impl.OK, impl.ErrStock},
		impl.OpReserve:  {impl.OK, impl.ErrTaken, impl.ErrStock, impl.ErrFull},
		impl.OpCommit:   {impl.OK, impl.ErrNone},
		impl.OpRelease:  {impl.OK, impl.ErrNone},
		impl.OpTransfer: {impl.OK, impl.ErrStock, impl.ErrFull, impl.ErrTaken},
		impl.OpTick:     {impl.OK, impl.ErrRange},
	}
	for kind, list := range codes {
		for _, code := range list {
			if reached[kindAndCode{kind, code}] == 0 {
				t.Errorf("no %s returned %d", opKinds[kind-1].word, code)
			}
		}
	}
}

// plainRun performs operations one by one; one with a code changes nothing.
func plainRun(b impl.Book, list []impl.Op) impl.OpsResult {
	result := impl.OpsResult{Book: b}
	for _, o := range list {
		done := plainDo(result.Book, o)
		result.Codes = append(result.Codes, done.Code)
		result.Values = append(result.Values, done.Value)
		if done.Code == impl.OK {
			result.Book = done.Book
		}
	}
	return result
}

func TestRunOps(t *testing.T) {
	b := book(3, rows(row(1, 2, 10, 0)))
	wantOps(t, "nil", impl.RunOps(b, nil), impl.OpsResult{Book: b})
	wantOps(t, "an empty list", impl.RunOps(b, []impl.Op{}), impl.OpsResult{Book: b})
	wantOps(t, "nothing at all", impl.RunOps(impl.Book{}, nil), impl.OpsResult{})
	list := []impl.Op{take(1, 2, 3), reserve(1, 2, 5, 7, 4), take(1, 2, 3), {}, reserve(1, 2, 1, 7, 4), transfer(1, 1, 2, 1), tick(5), take(1, 2, 7)}
	wantOps(t, "codes between", impl.RunOps(b, list), impl.OpsResult{
		Codes:  []int64{0, 0, impl.ErrStock, impl.ErrForm, impl.ErrTaken, impl.ErrTaken, 0, 0},
		Values: []int64{7, 2, 0, 0, 0, 0, 1, 0},
		Book:   book(8, nil),
	})
	wantOps(t, "a code only", impl.RunOps(b, []impl.Op{commit(1)}), impl.OpsResult{Codes: []int64{impl.ErrNone}, Values: []int64{0}, Book: b})
	wantOps(t, "a code first", impl.RunOps(b, []impl.Op{commit(1), take(1, 2, 1)}), impl.OpsResult{Codes: []int64{impl.ErrNone, 0}, Values: []int64{0, 9}, Book: book(3, rows(row(1, 2, 9, 0)))})
	wantOps(t, "a code last", impl.RunOps(b, []impl.Op{take(1, 2, 1), commit(1)}), impl.OpsResult{Codes: []int64{0, impl.ErrNone}, Values: []int64{9, 0}, Book: book(3, rows(row(1, 2, 9, 0)))})
}

func TestRunOpsAtItsLimit(t *testing.T) {
	list := make([]impl.Op, 22)
	for i := range list {
		list[i] = receive(0, 1, 2)
	}
	want := impl.OpsResult{Book: book(0, rows(row(0, 1, 40, 0)))}
	for i := range int64(20) {
		want.Codes = append(want.Codes, impl.OK)
		want.Values = append(want.Values, 2*i+2)
	}
	wantOps(t, "20", impl.RunOps(impl.Book{}, list[:20]), want)
	for n := 21; n <= 22; n++ {
		wantOps(t, "too many", impl.RunOps(impl.Book{}, list[:n]), impl.OpsResult{Code: impl.ErrMany})
		wantOps(t, "too many with faults", impl.RunOps(impl.Book{}, make([]impl.Op, n)), impl.OpsResult{Code: impl.ErrMany})
	}
	wantOps(t, "20 with faults", impl.RunOps(impl.Book{}, make([]impl.Op, 20)), impl.OpsResult{Codes: slices.Repeat([]int64{impl.ErrForm}, 20), Values: make([]int64, 20)})
}

func TestRunOpsAlongWalks(t *testing.T) {
	for seed := range uint64(400) {
		b := startOf(seed)
		for round := range uint64(8) {
			var list []impl.Op
			for i := range (seed + 7*round) % 21 {
				list = append(list, walkOp(seed*1000+round*20+i))
			}
			want, got := plainRun(b, list), impl.RunOps(b, list)
			wantOps(t, "walk "+strconv.FormatUint(seed, 10), got, want)
			checkBook(t, "after a run", got.Book)
			b = got.Book
		}
	}
}

// spareBook returns a copy of a book with spare capacity.
func spareBook(b impl.Book) impl.Book {
	return impl.Book{Now: b.Now, Rows: withSpare(b.Rows, row(2, 7, 77, 7)), Holds: withSpare(b.Holds, hold(7, 2, 7, 77, 7))}
}

// wholeBook returns a copy of a book with what its lists have up to their capacity.
func wholeBook(b impl.Book) impl.Book {
	return impl.Book{Now: b.Now, Rows: slices.Clone(b.Rows[:cap(b.Rows)]), Holds: slices.Clone(b.Holds[:cap(b.Holds)])}
}

func overwriteBook(b impl.Book) {
	overwrite(b.Rows, row(2, 7, 77, 7))
	overwrite(b.Holds, hold(7, 2, 7, 77, 7))
}

// memoryOps has operations of each kind that succeed with memoryBook, and others that do not.
func memoryOps() []impl.Op {
	return []impl.Op{receive(0, 1, 1), receive(3, 20, 1), receive(0, 2, 1), take(0, 2, 1), take(1, 1, 4), reserve(0, 2, 1, 1, 9), reserve(0, 2, 1, 30, 9), commit(10), commit(20), release(10), release(20), transfer(0, 2, 2, 1), transfer(1, 0, 1, 4), tick(1), tick(20), tick(999), {}, commit(9), take(0, 1, 1), receive(0, 2, 9999)}
}

func memoryBook() impl.Book {
	return book(3, rows(row(0, 2, 9, 5), row(1, 1, 4, 0), row(1, 3, 3, 3), row(2, 2, 1, 0)), hold(10, 0, 2, 5, 9), hold(20, 1, 3, 3, 30))
}

// Promise 1: arguments are unchanged, up to their capacity.
func TestBookArgumentsAreUnchanged(t *testing.T) {
	list := faultyBooks()
	for what, b := range goodBooks {
		list = append(list, faultyBook{what, b, impl.OK})
	}
	list = append(list, faultyBook{"memory", memoryBook(), impl.OK})
	ops := memoryOps()
	for _, c := range list {
		b, given := spareBook(c.book), withSpare(ops, tick(77))
		before, givenBefore := wholeBook(b), slices.Clone(given[:cap(given)])
		impl.BookFault(b)
		impl.FreeOf(b, 0, 1)
		impl.HeldOf(b, 0, 1)
		impl.TotalOf(b, 1)
		impl.SameBooks(b, b)
		for _, o := range given {
			impl.DoOp(b, o)
		}
		impl.RunOps(b, nil)
		impl.RunOps(b, given)
		impl.RunOps(b, given[:1])
		if !equalBooks(wholeBook(b), before) || !slices.Equal(given[:cap(given)], givenBefore) {
			t.Errorf("%s: an argument was changed", c.what)
		}
	}
}

// Promise 1: the book of a result shares no memory with the book given or with another result.
func TestBookResultsAreNew(t *testing.T) {
	calls := map[string]func(b impl.Book) impl.Book{
		"run nothing": func(b impl.Book) impl.Book { return impl.RunOps(b, nil).Book },
		"run a code":  func(b impl.Book) impl.Book { return impl.RunOps(b, []impl.Op{{}}).Book },
		"run all":     func(b impl.Book) impl.Book { return impl.RunOps(b, memoryOps()).Book },
	}
	for _, o := range memoryOps() {
		calls[plainText(o)] = func(b impl.Book) impl.Book { return impl.DoOp(b, o).Book }
		calls["run "+plainText(o)] = func(b impl.Book) impl.Book { return impl.RunOps(b, []impl.Op{o}).Book }
	}
	for what, call := range calls {
		b := spareBook(memoryBook())
		before := wholeBook(b)
		want := cloneBook(call(b))
		got, again := call(b), call(b)
		overwriteBook(again)
		if !equalBooks(got, want) {
			t.Errorf("%s: another result was overwritten", what)
		}
		if !equalBooks(wholeBook(b), before) {
			t.Errorf("%s: the argument was changed through a result", what)
		}
		overwriteBook(b)
		if !equalBooks(got, want) {
			t.Errorf("%s: the result was changed through the argument", what)
		}
	}
}

// Promise 1: Codes and Values share no memory with each other or with another result.
func TestRunOpsListsAreNew(t *testing.T) {
	want := plainRun(memoryBook(), memoryOps())
	for _, n := range []int{1, 2, 3, 5, 8, 13, 20} {
		ops := memoryOps()[:n]
		part := plainRun(memoryBook(), ops)
		got, again := impl.RunOps(memoryBook(), ops), impl.RunOps(memoryBook(), ops)
		overwrite(again.Codes, 77)
		overwrite(again.Values, 78)
		overwrite(ops, tick(77))
		wantOps(t, "another result overwritten", got, part)
		overwrite(got.Codes, 77)
		if !slices.Equal(got.Values, want.Values[:n]) {
			t.Errorf("Values %v after Codes were overwritten", got.Values)
		}
		overwrite(got.Values, 78)
		if !slices.Equal(got.Codes, slices.Repeat([]int64{77}, n)) {
			t.Errorf("Codes %v after Values were overwritten", got.Codes)
		}
	}
}

// Promise 1: results depend on the arguments only, whatever was called before and beside.
func TestBookResultsAreRepeatable(t *testing.T) {
	full := book(0, freeRows(12))
	moved := impl.DoOp(full, transfer(0, 3, 5, 10))
	run := plainRun(memoryBook(), memoryOps())
	var all sync.WaitGroup
	for range 8 {
		all.Go(func() {
			for range 50 {
				wantBook(t, "again", impl.DoOp(full, transfer(0, 3, 5, 10)), moved.Code, moved.Value, moved.Book)
				wantOps(t, "run again", impl.RunOps(memoryBook(), memoryOps()), run)
				wantOps(t, "nothing run again", impl.RunOps(full, nil), impl.OpsResult{Book: full})
			}
		})
	}
	all.Wait()
}
