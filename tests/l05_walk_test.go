package tests

import (
	"slices"
	"strconv"
	"sync"
	"testing"

	"loop.example/g00623/impl"
)

// plainAsk answers an operation on lists, without the program. The ledger is valid.
func plainAsk(l impl.Ledger, o impl.Op) impl.LedgerResult {
	if fault := plainOpFault(o); fault != impl.OK {
		return impl.LedgerResult{Code: fault}
	}
	i := slices.IndexFunc(l.Seen, func(x impl.Seen) bool { return x.Req == o.Req })
	if o.Req != 0 && i >= 0 {
		return impl.LedgerResult{Value: l.Seen[i].Value, Again: true, Ledger: cloneLedger(l)}
	}
	done := plainDo(l.Book, o)
	if done.Code != impl.OK {
		return impl.LedgerResult{Code: done.Code}
	}
	list := slices.Clone(l.Seen)
	if o.Req != 0 {
		list = append(list, saw(o.Req, done.Value))
	}
	return impl.LedgerResult{Value: done.Value, Ledger: ledger(done.Book, list[max(0, len(list)-6):]...)}
}

// askOp returns an operation that depends on seed only, with one of few Reqs, so that requests are repeated.
func askOp(seed uint64) impl.Op {
	o := walkOp(seed)
	req := (sampleNumbers(seed+77, 1)[0] + 32768) % 14
	if o.Kind == impl.OpTick && req < 12 {
		return o
	}
	return asked(req, o)
}

// askSeen returns the seen requests with which a walk begins.
func askSeen(seed uint64) []impl.Seen {
	list := seens(saw(5, 19998), saw(999, 7), saw(3, 0), saw(13, 4), saw(1, 1), saw(500, 2))
	return list[:seed/4%7]
}

// checkAnswer checks promise 6 for an answer without a code, by what was answered before it.
func checkAnswer(t *testing.T, what string, before impl.Ledger, o impl.Op, got impl.LedgerResult, history []impl.Seen) []impl.Seen {
	t.Helper()
	latest := history[max(0, len(history)-6):]
	i := slices.IndexFunc(latest, func(x impl.Seen) bool { return x.Req == o.Req })
	if got.Again != (o.Req != 0 && i >= 0) {
		t.Errorf("%s: Again is %v after %+v", what, got.Again, latest)
	}
	switch {
	case got.Again && i >= 0:
		wantAgain(t, what, got, latest[i].Value, before)
	case o.Req != 0:
		history = append(history, saw(o.Req, got.Value))
	}
	if !slices.Equal(got.Ledger.Seen, history[max(0, len(history)-6):]) {
		t.Errorf("%s: seen %+v after %+v", what, got.Ledger.Seen, history)
	}
	if o.Req != 0 {
		wantAgain(t, what+", asked again", impl.AskLedger(got.Ledger, o), got.Value, got.Ledger)
	}
	return history
}

type askOutcome struct {
	kind, code int64
	again      bool
}

// askWalk asks one operation after the other and notes how they are answered.
func askWalk(t *testing.T, seed uint64, reached map[askOutcome]int) {
	l := ledger(startOf(seed), askSeen(seed)...)
	history := slices.Clone(l.Seen)
	for i := range uint64(120) {
		o := askOp(seed*1000 + i)
		what := "walk " + strconv.FormatUint(seed, 10) + ", " + plainText(o)
		want, got := plainAsk(l, o), impl.AskLedger(l, o)
		wantLedger(t, what, got, want)
		reached[askOutcome{o.Kind, got.Code, got.Again}]++
		if got.Code != impl.OK {
			continue
		}
		wantCode(t, what, impl.LedgerFault(got.Ledger), impl.OK)
		history = checkAnswer(t, what, l, o, got, history)
		if t.Failed() {
			return
		}
		l = got.Ledger
	}
}

// Promise 6, along many walks, which reach every code of every kind.
func TestAskWalks(t *testing.T) {
	reached := map[askOutcome]int{}
	for seed := range uint64(400) {
		askWalk(t, seed, reached)
	}
	codes := map[int64][]int64{
		impl.OpReceive:  {impl.ErrFull},
		impl.OpTake:     {impl.ErrStock},
		impl.OpReserve:  {impl.ErrTaken, impl.ErrStock, impl.ErrFull},
		impl.OpCommit:   {impl.ErrNone},
		impl.OpRelease:  {impl.ErrNone},
		impl.OpTransfer: {impl.ErrStock, impl.ErrFull, impl.ErrTaken},
		impl.OpTick:     {impl.ErrRange, impl.ErrForm},
	}
	for kind, list := range codes {
		for _, code := range append(list, impl.OK) {
			if reached[askOutcome{kind, code, false}] == 0 {
				t.Errorf("no %s was answered by %d", opKinds[kind-1].word, code)
			}
		}
		if kind != impl.OpTick && reached[askOutcome{kind, impl.OK, true}] == 0 {
			t.Errorf("no %s was answered again", opKinds[kind-1].word)
		}
	}
}

// spareLedger returns a copy of a ledger with spare capacity.
func spareLedger(l impl.Ledger) impl.Ledger {
	return impl.Ledger{Book: spareBook(l.Book), Seen: withSpare(l.Seen, saw(77, 77))}
}

// wholeLedger returns a copy of a ledger with what its lists have up to their capacity.
func wholeLedger(l impl.Ledger) impl.Ledger {
	return impl.Ledger{Book: wholeBook(l.Book), Seen: slices.Clone(l.Seen[:cap(l.Seen)])}
}

func overwriteLedger(l impl.Ledger) {
	overwriteBook(l.Book)
	overwrite(l.Seen, saw(77, 77))
}

// memoryAsks has the operations of memoryOps without a Req, with one that was seen, and with a new one.
func memoryAsks() []impl.Op {
	list := memoryOps()
	for _, o := range memoryOps() {
		list = append(list, asked(100, o), asked(98, o), asked(9, o))
	}
	return list
}

// memoryLedgers has ledgers with some, with one less than the most, and with the most seen requests.
func memoryLedgers() []impl.Ledger {
	return []impl.Ledger{ledger(memoryBook()), ledger(memoryBook(), manySeen(3)...), ledger(memoryBook(), manySeen(5)...), ledger(memoryBook(), manySeen(6)...)}
}

// Promise 1: arguments are unchanged, up to their capacity.
func TestLedgerArgumentsAreUnchanged(t *testing.T) {
	list := memoryLedgers()
	for _, c := range faultyBooks() {
		list = append(list, ledger(c.book, manySeen(6)...))
	}
	for _, c := range faultySeens() {
		list = append(list, ledger(memoryBook(), c.list...))
	}
	for _, given := range list {
		l := spareLedger(given)
		before := wholeLedger(l)
		impl.SeenFault(l.Seen)
		impl.LedgerFault(l)
		impl.SameLedgers(l, l)
		for _, req := range []int64{0, 9, 98, 100, 1000} {
			impl.FindSeen(l.Seen, req)
			impl.NoteSeen(l.Seen, saw(req, 1))
		}
		for _, o := range memoryAsks() {
			impl.AskLedger(l, o)
		}
		if !equalLedgers(wholeLedger(l), before) {
			t.Errorf("%+v was changed", given)
		}
	}
}

// Promise 1: the ledger of a result shares no memory with the ledger given or with another result.
func TestLedgerResultsAreNew(t *testing.T) {
	for _, given := range memoryLedgers() {
		for _, o := range memoryAsks() {
			l := spareLedger(given)
			before := wholeLedger(l)
			// The plain ledger may share memory with what it is given, which is not what is overwritten.
			want := plainAsk(given, o)
			got, again := impl.AskLedger(l, o), impl.AskLedger(l, o)
			overwriteLedger(again.Ledger)
			wantLedger(t, plainText(o)+": another result overwritten", got, want)
			if !equalLedgers(wholeLedger(l), before) {
				t.Errorf("%s: the argument was changed through a result", plainText(o))
			}
			overwriteLedger(l)
			wantLedger(t, plainText(o)+": the argument overwritten", got, want)
		}
	}
}

// Promise 1: a list that was noted shares no memory with the list given or with another result.
func TestNotedListsAreNew(t *testing.T) {
	for n := range int64(7) {
		list := withSpare(manySeen(n), saw(77, 77))
		before := slices.Clone(list[:cap(list)])
		want := append(manySeen(n), saw(9, 1))
		want = want[max(0, len(want)-6):]
		got, again := impl.NoteSeen(list, saw(9, 1)), impl.NoteSeen(list, saw(9, 1))
		overwrite(again.Seen, saw(77, 77))
		wantSeen(t, "another result overwritten", got, impl.OK, want...)
		if !slices.Equal(list[:cap(list)], before) {
			t.Error("the argument was changed through a result")
		}
		overwrite(list, saw(78, 78))
		wantSeen(t, "the argument overwritten", got, impl.OK, want...)
	}
}

// Promise 1: results depend on the arguments only, whatever was called before and beside.
func TestLedgerResultsAreRepeatable(t *testing.T) {
	var all sync.WaitGroup
	for range 8 {
		all.Go(func() {
			for _, l := range memoryLedgers() {
				for _, o := range memoryAsks() {
					wantLedger(t, plainText(o), impl.AskLedger(l, o), plainAsk(l, o))
				}
				want := append(slices.Clone(l.Seen), saw(9, 1))
				wantSeen(t, "noted", impl.NoteSeen(l.Seen, saw(9, 1)), impl.OK, want[max(0, len(want)-6):]...)
			}
		})
	}
	all.Wait()
}
