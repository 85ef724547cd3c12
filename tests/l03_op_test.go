package tests

import (
	"bytes"
	"math"
	"slices"
	"strconv"
	"strings"
	"sync"
	"testing"

	"loop.example/g00623/impl"
)

func op(kind, req, loc, to, sku, qty, hold int64) impl.Op {
	return impl.Op{Kind: kind, Req: req, Loc: loc, To: to, Sku: sku, Qty: qty, Hold: hold}
}

// fieldOf returns the place of a field in the order Req, Loc, To, Sku, Qty, Hold.
func fieldOf(o *impl.Op, field int) *int64 {
	return []*int64{&o.Req, &o.Loc, &o.To, &o.Sku, &o.Qty, &o.Hold}[field]
}

func with(o impl.Op, field int, n int64) impl.Op {
	*fieldOf(&o, field) = n
	return o
}

const (
	fieldReq = iota
	fieldLoc
	fieldTo
	fieldSku
	fieldQty
	fieldHold
)

type fieldRange struct{ field, least, most int64 }

// opKinds has what chapter 3 says of each kind: its word, the fields that it uses, and an ordinary operation with its forms.
var opKinds = []struct {
	word  string
	uses  []fieldRange
	plain impl.Op
	bytes []byte
	text  string
}{
	{
		"receive", []fieldRange{{fieldReq, 0, 999}, {fieldLoc, 0, 3}, {fieldSku, 1, 20}, {fieldQty, 1, 9999}},
		op(1, 1, 3, 0, 2, 10, 0), []byte{7, 0, 1, 0, 1, 0, 3, 0, 0, 0, 2, 0, 10, 0, 0}, "receive 1 3 0 2 10 0",
	},
	{
		"take", []fieldRange{{fieldReq, 0, 999}, {fieldLoc, 0, 3}, {fieldSku, 1, 20}, {fieldQty, 1, 9999}},
		op(2, 999, 1, 0, 20, 9999, 0), []byte{7, 0, 2, 3, 231, 0, 1, 0, 0, 0, 20, 39, 15, 0, 0}, "take 999 1 0 20 9999 0",
	},
	{
		"reserve", []fieldRange{{fieldReq, 0, 999}, {fieldLoc, 0, 3}, {fieldTo, 1, 999}, {fieldSku, 1, 20}, {fieldQty, 1, 9999}, {fieldHold, 1, 50}},
		op(3, 3, 1, 9, 2, 4, 7), []byte{7, 0, 3, 0, 3, 0, 1, 0, 9, 0, 2, 0, 4, 0, 7}, "reserve 3 1 9 2 4 7",
	},
	{
		"commit", []fieldRange{{fieldReq, 0, 999}, {fieldHold, 1, 50}},
		op(4, 300, 0, 0, 0, 0, 50), []byte{7, 0, 4, 1, 44, 0, 0, 0, 0, 0, 0, 0, 0, 0, 50}, "commit 300 0 0 0 0 50",
	},
	{
		"release", []fieldRange{{fieldReq, 0, 999}, {fieldHold, 1, 50}},
		op(5, 0, 0, 0, 0, 0, 4), []byte{7, 0, 5, 0, 0, 0, 0, 0, 0, 0, 0, 0, 0, 0, 4}, "release 0 0 0 0 0 4",
	},
	{
		"transfer", []fieldRange{{fieldReq, 0, 999}, {fieldLoc, 0, 3}, {fieldTo, 0, 3}, {fieldSku, 1, 20}, {fieldQty, 1, 9999}},
		op(6, 12, 2, 1, 19, 258, 0), []byte{7, 0, 6, 0, 12, 0, 2, 0, 1, 0, 19, 1, 2, 0, 0}, "transfer 12 2 1 19 258 0",
	},
	{
		"tick", []fieldRange{{fieldQty, 1, 999}},
		op(7, 0, 0, 0, 0, 999, 0), []byte{7, 0, 7, 0, 0, 0, 0, 0, 0, 0, 0, 3, 231, 0, 0}, "tick 0 0 0 0 999 0",
	},
}

// rangeOf returns the range of a field, and false if the kind does not use it.
func rangeOf(kind int64, field int) (fieldRange, bool) {
	uses := opKinds[kind-1].uses
	i := slices.IndexFunc(uses, func(r fieldRange) bool { return r.field == int64(field) })
	if i < 0 {
		return fieldRange{}, false
	}
	return uses[i], true
}

// plainOpFault follows the document's list of codes word by word.
func plainOpFault(o impl.Op) int64 {
	if o.Kind < 1 || o.Kind > 7 {
		return impl.ErrForm
	}
	isOut := false
	for field := range 6 {
		r, used := rangeOf(o.Kind, field)
		n := *fieldOf(&o, field)
		if !used && n != 0 {
			return impl.ErrForm
		}
		isOut = isOut || used && (n < r.least || n > r.most)
	}
	if isOut {
		return impl.ErrRange
	}
	if o.Kind == impl.OpTransfer && o.Loc == o.To {
		return impl.ErrTaken
	}
	return impl.OK
}

// plainNumbers packs the numbers of an operation, whether or not it has a fault.
func plainNumbers(o impl.Op) impl.BytesResult {
	return impl.PackNumbers([]int64{o.Kind, o.Req, o.Loc, o.To, o.Sku, o.Qty, o.Hold})
}

// plainText writes the text of an operation, whether or not it has a fault.
func plainText(o impl.Op) string {
	text := "wink"
	if o.Kind >= 1 && o.Kind <= 7 {
		text = opKinds[o.Kind-1].word
	}
	for field := range 6 {
		text += " " + strconv.FormatInt(*fieldOf(&o, field), 10)
	}
	return text
}

// faultyOps has an operation for each code of OpFault, and for their order.
var faultyOps = []struct {
	what string
	op   impl.Op
	code int64
}{
	{"zero", impl.Op{}, impl.ErrForm},
	{"Kind 0", op(0, 0, 0, 0, 1, 1, 0), impl.ErrForm},
	{"Kind 8", op(8, 0, 0, 0, 1, 1, 0), impl.ErrForm},
	{"Kind -1", op(-1, 0, 0, 0, 1, 1, 0), impl.ErrForm},
	{"Kind 65537, whose last bytes are those of 1", op(65537, 0, 0, 0, 1, 1, 0), impl.ErrForm},
	{"least Kind", op(math.MinInt64, 0, 0, 0, 1, 1, 0), impl.ErrForm},
	{"greatest Kind", op(math.MaxInt64, 0, 0, 0, 1, 1, 0), impl.ErrForm},
	{"a tick with a Req", op(7, 1, 0, 0, 0, 5, 0), impl.ErrForm},
	{"a tick with a Req out of range", op(7, 1000, 0, 0, 0, 5, 0), impl.ErrForm},
	{"a receipt with a To", op(1, 0, 1, 1, 1, 1, 0), impl.ErrForm},
	{"a take with a Hold", op(2, 0, 1, 0, 1, 1, 1), impl.ErrForm},
	{"a commit with a Qty", op(4, 0, 0, 0, 0, 1, 1), impl.ErrForm},
	{"a release with a Loc", op(5, 0, 1, 0, 0, 0, 1), impl.ErrForm},
	{"a transfer with a Hold", op(6, 0, 1, 2, 1, 1, 1), impl.ErrForm},
	{"form before range, set field last", op(1, 1000, 4, 0, 21, 0, 1), impl.ErrForm},
	{"form before range, set field first", op(7, 1, 0, 0, 0, 0, 0), impl.ErrForm},
	{"form before range, set field between", op(5, 1000, 0, 0, -1, 0, 51), impl.ErrForm},
	{"form before range, Kind", op(8, 1000, 4, 4, 21, 0, 51), impl.ErrForm},
	{"form before taken", op(6, 0, 1, 1, 1, 1, 1), impl.ErrForm},
	{"a receipt of nothing", op(1, 0, 0, 0, 1, 0, 0), impl.ErrRange},
	{"a take without a Sku", op(2, 0, 0, 0, 0, 1, 0), impl.ErrRange},
	{"a reservation without a duration", op(3, 0, 0, 0, 1, 1, 1), impl.ErrRange},
	{"a reservation without a Hold", op(3, 0, 0, 1, 1, 1, 0), impl.ErrRange},
	{"a commit without a Hold", op(4, 0, 0, 0, 0, 0, 0), impl.ErrRange},
	{"a release without a Hold", op(5, 0, 0, 0, 0, 0, 0), impl.ErrRange},
	{"a tick of nothing", op(7, 0, 0, 0, 0, 0, 0), impl.ErrRange},
	{"a tick of 1000", op(7, 0, 0, 0, 0, 1000, 0), impl.ErrRange},
	{"Req 1000", op(1, 1000, 0, 0, 1, 1, 0), impl.ErrRange},
	{"range before taken, To", op(6, 0, 4, 4, 1, 1, 0), impl.ErrRange},
	{"range before taken, Qty", op(6, 0, 1, 1, 1, 0, 0), impl.ErrRange},
	{"range before taken, Req", op(6, -1, 1, 1, 1, 1, 0), impl.ErrRange},
	{"a transfer to its own location", op(6, 0, 1, 1, 1, 1, 0), impl.ErrTaken},
	{"a transfer to its own location 0", op(6, 0, 0, 0, 1, 1, 0), impl.ErrTaken},
	{"a transfer to its own location 3", op(6, 999, 3, 3, 20, 9999, 0), impl.ErrTaken},
}

func wantOp(t *testing.T, what string, got impl.OpResult, code int64, o impl.Op) {
	t.Helper()
	if got != (impl.OpResult{Code: code, Op: o}) {
		t.Errorf("%s: got %+v, want code %d and operation %+v", what, got, code, o)
	}
}

func wantText(t *testing.T, what string, got impl.TextResult, code int64, text string) {
	t.Helper()
	if got != (impl.TextResult{Code: code, Text: text}) {
		t.Errorf("%s: got %+v, want code %d and text %q", what, got, code, text)
	}
}

func TestOpConstants(t *testing.T) {
	kinds := []int64{impl.OpReceive, impl.OpTake, impl.OpReserve, impl.OpCommit, impl.OpRelease, impl.OpTransfer, impl.OpTick}
	if !slices.Equal(kinds, []int64{1, 2, 3, 4, 5, 6, 7}) {
		t.Errorf("kinds %v", kinds)
	}
	if impl.MaxHold != 50 || impl.MaxTime != 9999 {
		t.Error("limits")
	}
}

func TestOpExamples(t *testing.T) {
	wantText(t, "a release of hold 4", impl.OpText(impl.Op{Kind: impl.OpRelease, Hold: 4}), impl.OK, "release 0 0 0 0 0 4")
	wantCode(t, "a transfer from a location to itself", impl.OpFault(impl.Op{Kind: impl.OpTransfer, Loc: 2, To: 2, Sku: 1, Qty: 1}), impl.ErrTaken)
}

func TestOpFault(t *testing.T) {
	for i, k := range opKinds {
		wantCode(t, k.word, impl.OpFault(k.plain), impl.OK)
		if k.plain.Kind != int64(i+1) {
			t.Errorf("%s: kind %d", k.word, k.plain.Kind)
		}
	}
	for _, c := range faultyOps {
		wantCode(t, c.what, impl.OpFault(c.op), c.code)
	}
}

func TestOpFaultOfKinds(t *testing.T) {
	for _, k := range opKinds {
		for _, kind := range []int64{math.MinInt64, -7, -1, 0, 8, 9, 257, 65537, 1<<32 + 1, math.MaxInt64} {
			o := k.plain
			o.Kind = kind
			wantCode(t, "no kind", impl.OpFault(o), impl.ErrForm)
		}
	}
}

func TestOpFaultOfFieldsThatAreNotUsed(t *testing.T) {
	for _, k := range opKinds {
		for field := range 6 {
			if _, used := rangeOf(k.plain.Kind, field); used {
				continue
			}
			for _, n := range []int64{math.MinInt64, -65536, -1, 1, 3, 65536, 1 << 32, math.MaxInt64} {
				wantCode(t, k.word+" with a field that is not used", impl.OpFault(with(k.plain, field, n)), impl.ErrForm)
			}
		}
	}
}

func TestOpFaultOfRanges(t *testing.T) {
	for _, k := range opKinds {
		for _, r := range k.uses {
			for _, n := range []int64{math.MinInt64, r.least - 65536, -1, r.least - 1, r.most + 1, r.least + 65536, math.MaxInt64} {
				if n >= r.least && n <= r.most {
					continue
				}
				wantCode(t, k.word+" out of range", impl.OpFault(with(k.plain, int(r.field), n)), impl.ErrRange)
			}
			for n := r.least; n <= r.most; n++ {
				o := with(k.plain, int(r.field), n)
				if o.Kind != impl.OpTransfer || o.Loc != o.To {
					wantCode(t, k.word+" in range", impl.OpFault(o), impl.OK)
				}
			}
		}
	}
}

func TestOpFaultOfReq(t *testing.T) {
	for _, k := range opKinds[:6] {
		wantCode(t, k.word+" without Req", impl.OpFault(with(k.plain, fieldReq, 0)), impl.OK)
		wantCode(t, k.word+" with Req 999", impl.OpFault(with(k.plain, fieldReq, 999)), impl.OK)
		wantCode(t, k.word+" with Req 1000", impl.OpFault(with(k.plain, fieldReq, 1000)), impl.ErrRange)
		wantCode(t, k.word+" with Req -1", impl.OpFault(with(k.plain, fieldReq, -1)), impl.ErrRange)
	}
	for _, req := range []int64{-1, 1, 999, 1000} {
		wantCode(t, "tick with Req", impl.OpFault(with(opKinds[6].plain, fieldReq, req)), impl.ErrForm)
	}
}

func TestOpFaultOfTransfers(t *testing.T) {
	for loc := int64(-1); loc <= 4; loc++ {
		for to := int64(-1); to <= 4; to++ {
			want := int64(impl.OK)
			if loc < 0 || loc > 3 || to < 0 || to > 3 {
				want = impl.ErrRange
			} else if loc == to {
				want = impl.ErrTaken
			}
			wantCode(t, "transfer", impl.OpFault(op(6, 0, loc, to, 1, 1, 0)), want)
		}
	}
	wantCode(t, "a reservation whose duration is its Loc", impl.OpFault(op(3, 0, 2, 2, 1, 1, 1)), impl.OK)
}

func TestPackOp(t *testing.T) {
	for _, k := range opKinds {
		wantBytes(t, k.word, impl.PackOp(k.plain), impl.OK, k.bytes...)
	}
	for _, c := range faultyOps {
		wantBytes(t, c.what, impl.PackOp(c.op), c.code)
	}
}

func TestReadOp(t *testing.T) {
	for _, k := range opKinds {
		wantOp(t, k.word, impl.ReadOp(k.bytes), impl.OK, k.plain)
	}
	for _, c := range faultyOps {
		if packed := plainNumbers(c.op); packed.Code == impl.OK {
			wantOp(t, c.what, impl.ReadOp(packed.Bytes), impl.ErrText, impl.Op{})
		}
	}
}

func TestReadOpOfUnreadableBytes(t *testing.T) {
	wantOp(t, "nil", impl.ReadOp(nil), impl.ErrText, impl.Op{})
	wantOp(t, "empty", impl.ReadOp([]byte{}), impl.ErrText, impl.Op{})
	for _, k := range opKinds {
		for n := range k.bytes {
			wantOp(t, "too short", impl.ReadOp(k.bytes[:n]), impl.ErrText, impl.Op{})
			wantOp(t, "without the first", impl.ReadOp(k.bytes[n+1:]), impl.ErrText, impl.Op{})
		}
		for n := 1; n <= 40; n++ {
			wantOp(t, "too long", impl.ReadOp(append(slices.Clone(k.bytes), make([]byte, n)...)), impl.ErrText, impl.Op{})
		}
		for count := range 256 {
			if count == 7 {
				continue
			}
			data := slices.Clone(k.bytes)
			data[0] = byte(count)
			wantOp(t, "another count", impl.ReadOp(data), impl.ErrText, impl.Op{})
			// Bytes that PackNumbers does yield, for up to 20 of them.
			data = append(data, make([]byte, 510)...)[:1+2*count]
			wantOp(t, "another count of numbers", impl.ReadOp(data), impl.ErrText, impl.Op{})
		}
	}
}

func TestOpText(t *testing.T) {
	for _, k := range opKinds {
		wantText(t, k.word, impl.OpText(k.plain), impl.OK, k.text)
	}
	for _, c := range faultyOps {
		wantText(t, c.what, impl.OpText(c.op), c.code, "")
	}
}

func TestParseOp(t *testing.T) {
	for _, k := range opKinds {
		wantOp(t, k.word, impl.ParseOp(k.text), impl.OK, k.plain)
	}
	for _, c := range faultyOps {
		wantOp(t, c.what, impl.ParseOp(plainText(c.op)), impl.ErrText, impl.Op{})
	}
}

func TestParseOpOfUnreadableTexts(t *testing.T) {
	bad := map[string][]string{
		"empty":           {"", " ", "      ", "\n"},
		"unknown word":    {"wink 0 0 0 0 0 4", "Release 0 0 0 0 0 4", "RELEASE 0 0 0 0 0 4", "releas 0 0 0 0 0 4", "releases 0 0 0 0 0 4", " 0 0 0 0 0 4", "5 0 0 0 0 0 4", "0 0 0 0 0 0 4", "4 0 0 0 0 0 release", "\xff 0 0 0 0 0 4"},
		"too few words":   {"release", "release 4", "release 0 0 0 0 4", "reserve 3 1 9 2 4", "0 0 0 0 0 4"},
		"too many words":  {"release 0 0 0 0 0 4 0", "release 0 0 0 0 0 0 4", "release 0 0 0 0 0 4 release 0 0 0 0 0 4", "release release 0 0 0 0 0 4"},
		"two blanks":      {"release  0 0 0 0 0 4", "release 0 0  0 0 0 4", "release 0 0 0 0 0  4", "release  0 0 0 0 4", "release 0 0 0 0 0 "},
		"a blank outside": {" release 0 0 0 0 0 4", "release 0 0 0 0 0 4 ", " release 0 0 0 0 4", "release 0 0 0 0 4 "},
		"other space":     {"release\t0 0 0 0 0 4", "release 0 0 0 0 0\n4", "release 0 0 0 0 0 4\n", "\nrelease 0 0 0 0 0 4", "release 0 0 0 0 0 4\r", "release 0 0 0 0 0\u00a04", "release 0 0 0 0 0 4\x00", "release,0,0,0,0,0,4"},
		"leading zero":    {"release 0 0 0 0 0 04", "release 00 0 0 0 0 4", "release 0 00 0 0 0 4", "release 0 0 0 0 000 4", "release 012 0 0 0 0 4"},
		"sign":            {"release 0 0 0 0 0 +4", "release +0 0 0 0 0 4", "release -0 0 0 0 0 4", "release 0 -0 0 0 0 4", "release 0 0 0 0 0 -4", "release -1 0 0 0 0 4", "release 0 0 0 0 0 -", "release 0 0 0 0 0 +"},
		"too large":       {"release 0 0 0 0 0 9223372036854775807", "release 0 0 0 0 0 9223372036854775808", "release 0 0 0 0 0 18446744073709551620", "release 0 0 0 0 0 4294967300", "release 0 0 0 0 0 65540", "release 18446744073709551616 0 0 0 0 4", "release 0 0 0 0 0 -9223372036854775809", "release " + strings.Repeat("9", 5000) + " 0 0 0 0 4"},
		"no number":       {"release 0 0 0 0 0 x", "release 0 0 0 0 0 four", "release a b c d e f", "release 0 0 0 0 0 4x", "release 0 0 0 0 0 0x4", "release 0 0 0 0 0 4.0", "release 0 0 0 0 0 4e0", "release 0 0 0 0 0 1_0", "release 0 0 0 0 0 \u0664", "release 0 0 0 0 0 \uff14", "release 0 0 0 0 0 \xff"},
		"a fault":         {"release 0 0 0 0 0 0", "release 0 0 0 0 0 51", "release 1000 0 0 0 0 4", "release 0 1 0 0 0 4", "tick 1 0 0 0 5 0", "tick 0 0 0 0 1000 0", "transfer 0 1 1 1 1 0", "receive 0 4 0 1 1 0", "receive 0 0 0 0 1 0", "receive 0 0 0 1 10000 0"},
		"long":            {strings.Repeat(" ", 100000), strings.Repeat("release 0 0 0 0 0 4", 1000), strings.Repeat("0 ", 50000), "release 0 0 0 0 0 4" + strings.Repeat(" ", 100000), "release 0 0 0 0 0 " + strings.Repeat("0", 100000) + "4"},
	}
	for what, texts := range bad {
		for _, text := range texts {
			wantOp(t, what+": "+strconv.Quote(text[:min(len(text), 60)]), impl.ParseOp(text), impl.ErrText, impl.Op{})
		}
	}
}

// checkForms checks both forms of an operation that may have a fault.
func checkForms(t *testing.T, o impl.Op) {
	t.Helper()
	fault := plainOpFault(o)
	packed, text := impl.PackOp(o), impl.OpText(o)
	wantCode(t, plainText(o), impl.OpFault(o), fault)
	if fault != impl.OK {
		wantBytes(t, "packed with a fault", packed, fault)
		wantText(t, "written with a fault", text, fault, "")
		wantOp(t, "read with a fault", impl.ReadOp(plainNumbers(o).Bytes), impl.ErrText, impl.Op{})
		wantOp(t, "parsed with a fault", impl.ParseOp(plainText(o)), impl.ErrText, impl.Op{})
		return
	}
	wantBytes(t, "packed", packed, impl.OK, plainNumbers(o).Bytes...)
	wantText(t, "written", text, impl.OK, plainText(o))
	wantOp(t, "read", impl.ReadOp(packed.Bytes), impl.OK, o)
	wantOp(t, "parsed", impl.ParseOp(text.Text), impl.OK, o)
}

// Promise 4: an operation is decoded from its bytes and parsed from its text, here at both ends of all ranges and outside.
func TestOpsAreReadAndParsed(t *testing.T) {
	values := [6][]int64{{-1, 0, 999, 1000}, {-1, 0, 3, 4}, {-1, 0, 1, 3, 4, 999, 1000}, {0, 1, 20, 21}, {-1, 0, 1, 999, 1000, 9999, 10000}, {0, 1, 50, 51}}
	total := 1
	for _, list := range values {
		total *= len(list)
	}
	for kind := int64(0); kind <= 8; kind++ {
		for n := range total {
			o := impl.Op{Kind: kind}
			for field, list := range values {
				*fieldOf(&o, field) = list[n%len(list)]
				n /= len(list)
			}
			checkForms(t, o)
		}
	}
}

// sampleOp returns a valid operation that depends on seed only.
func sampleOp(seed uint64) impl.Op {
	numbers := sampleNumbers(seed, 6)
	o := impl.Op{Kind: 1 + int64(seed%7)}
	for _, r := range opKinds[o.Kind-1].uses {
		*fieldOf(&o, int(r.field)) = r.least + (numbers[r.field]+32768)%(r.most-r.least+1)
	}
	if o.Kind == impl.OpTransfer && o.Loc == o.To {
		o.To = 3 - o.Loc
	}
	return o
}

// Promise 4, for operations inside the ranges.
func TestSampleOpsAreReadAndParsed(t *testing.T) {
	for seed := range uint64(7000) {
		o := sampleOp(seed)
		wantCode(t, "sample", impl.OpFault(o), impl.OK)
		checkForms(t, o)
	}
}

// Promise 4: bytes that can be read are the bytes of what is read.
func TestReadOpsArePackedToTheSameBytes(t *testing.T) {
	for seed := range uint64(70) {
		packed := impl.PackOp(sampleOp(seed)).Bytes
		for at := range packed {
			for b := range 256 {
				data := slices.Clone(packed)
				data[at] = byte(b)
				read := impl.ReadOp(data)
				if read.Code != impl.OK {
					wantOp(t, "changed", read, impl.ErrText, impl.Op{})
					continue
				}
				wantBytes(t, "packed again", impl.PackOp(read.Op), impl.OK, data...)
			}
		}
	}
}

// Promise 4: a text that can be parsed is the text of what is parsed.
func TestParsedOpsHaveTheSameText(t *testing.T) {
	for seed := range uint64(70) {
		text := impl.OpText(sampleOp(seed)).Text
		for at := range len(text) + 1 {
			next := min(at+1, len(text))
			for _, piece := range []string{"", " ", "0", "1", "9", "-", "+", "_", "x", "\n", "\x00", "  ", "00", " 0"} {
				for _, changed := range []string{text[:at] + piece + text[at:], text[:at] + piece + text[next:]} {
					parsed := impl.ParseOp(changed)
					if parsed.Code != impl.OK {
						wantOp(t, "changed: "+changed, parsed, impl.ErrText, impl.Op{})
						continue
					}
					wantText(t, "written again", impl.OpText(parsed.Op), impl.OK, changed)
				}
			}
		}
	}
}

// Promise 1: bytes are unchanged, up to their capacity.
func TestOpArgumentsAreUnchanged(t *testing.T) {
	inputs := [][]byte{nil, {}, {0}, {7}, make([]byte, 15), sampleBytes(1, 500)}
	for _, k := range opKinds {
		inputs = append(inputs, k.bytes, k.bytes[:14], append(slices.Clone(k.bytes), 0))
	}
	for _, input := range inputs {
		data := withSpare(input, 77)
		before := slices.Clone(data[:cap(data)])
		impl.ReadOp(data)
		if !bytes.Equal(data[:cap(data)], before) {
			t.Errorf("%v was changed", input)
		}
	}
}

// Promise 1: ReadOp does not look beyond the length of its argument.
func TestReadOpReadsNoSpareCapacity(t *testing.T) {
	data := slices.Clone(opKinds[2].bytes)
	wantOp(t, "beyond the length", impl.ReadOp(data[:14]), impl.ErrText, impl.Op{})
	wantOp(t, "beyond the length", impl.ReadOp(data[:0]), impl.ErrText, impl.Op{})
	wantOp(t, "whole", impl.ReadOp(withSpare(data, 77)), impl.OK, opKinds[2].plain)
}

// Promise 1: a result shares no memory with an argument or with another result.
func TestOpResultsAreNew(t *testing.T) {
	for _, k := range opKinds {
		data := slices.Clone(k.bytes)
		read := impl.ReadOp(data)
		overwrite(data, 9)
		wantOp(t, "argument overwritten", read, impl.OK, k.plain)

		first, second := impl.PackOp(k.plain), impl.PackOp(k.plain)
		overwrite(second.Bytes, 9)
		wantBytes(t, "another result overwritten", first, impl.OK, k.bytes...)
		wantBytes(t, "packed again", impl.PackOp(k.plain), impl.OK, k.bytes...)

		letters := []byte(k.text)
		parsed := impl.ParseOp(string(letters))
		overwrite(letters, 'x')
		wantOp(t, "text overwritten", parsed, impl.OK, k.plain)
	}
}

// Promise 1: results depend on the arguments only, whatever was called before and beside.
func TestOpResultsAreRepeatable(t *testing.T) {
	var all sync.WaitGroup
	for i := range 4 * len(opKinds) {
		all.Go(func() {
			k := opKinds[i%len(opKinds)]
			for range 50 {
				impl.ReadOp(nil)
				impl.ParseOp("wink")
				impl.PackOp(impl.Op{})
				impl.OpText(impl.Op{})
				wantBytes(t, k.word, impl.PackOp(k.plain), impl.OK, k.bytes...)
				wantOp(t, k.word, impl.ReadOp(k.bytes), impl.OK, k.plain)
				wantText(t, k.word, impl.OpText(k.plain), impl.OK, k.text)
				wantOp(t, k.word, impl.ParseOp(k.text), impl.OK, k.plain)
			}
		})
	}
	all.Wait()
}
