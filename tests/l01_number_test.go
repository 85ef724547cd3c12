package tests

import (
	"bytes"
	"math"
	"slices"
	"sync"
	"testing"

	"loop.example/g00623/impl"
)

// plainSum follows the document's formula word by word.
func plainSum(data []byte) int64 {
	sum := int64(19)
	for _, b := range data {
		sum = (241*sum + int64(b) + 1) % 65521
	}
	return sum
}

// sampleBytes returns n bytes that depend on seed only.
func sampleBytes(seed uint64, n int) []byte {
	data := make([]byte, n)
	for i := range data {
		seed = seed*6364136223846793005 + 1442695040888963407
		data[i] = byte(seed >> 56)
	}
	return data
}

func sampleNumbers(seed uint64, n int) []int64 {
	list := make([]int64, n)
	for i, b := range sampleBytes(seed, 2*n) {
		list[i/2] = list[i/2]*256 + int64(b)
	}
	for i := range list {
		list[i] -= 32768
	}
	return list
}

func wantInt(t *testing.T, what string, got impl.IntResult, code int64, value int64) {
	t.Helper()
	if got != (impl.IntResult{Code: code, Value: value}) {
		t.Errorf("%s: got %+v, want code %d and value %d", what, got, code, value)
	}
}

func wantBytes(t *testing.T, what string, got impl.BytesResult, code int64, data ...byte) {
	t.Helper()
	if got.Code != code || !bytes.Equal(got.Bytes, data) {
		t.Errorf("%s: got %+v, want code %d and bytes %v", what, got, code, data)
	}
}

func wantInts(t *testing.T, what string, got impl.IntsResult, code int64, list ...int64) {
	t.Helper()
	if got.Code != code || !slices.Equal(got.List, list) {
		t.Errorf("%s: got %+v, want code %d and list %v", what, got, code, list)
	}
}

func TestCodes(t *testing.T) {
	codes := []int64{impl.OK, impl.ErrForm, impl.ErrMany, impl.ErrRange, impl.ErrNone, impl.ErrText, impl.ErrTaken, impl.ErrStock, impl.ErrFull, impl.ErrState, impl.ErrSpace}
	for i, code := range codes {
		if code != int64(i) {
			t.Errorf("code %d is %d", i, code)
		}
	}
	if impl.MaxSum != 65520 || impl.MaxQty != 9999 {
		t.Error("limits")
	}
}

func TestSumOf(t *testing.T) {
	wantInt(t, "no bytes", impl.SumOf(nil), impl.OK, 19)
	wantInt(t, "empty", impl.SumOf([]byte{}), impl.OK, 19)
	wantInt(t, "one byte 0", impl.SumOf([]byte{0}), impl.OK, 4580)
	wantInt(t, "one byte 255", impl.SumOf([]byte{255}), impl.OK, 4835)
	wantInt(t, "beyond the modulus", impl.SumOf([]byte{0, 0}), impl.OK, 55445)
}

func TestSumOfFollowsTheFormula(t *testing.T) {
	for b := range 65536 {
		for _, last := range []byte{0, 127, 128, 255} {
			data := []byte{byte(b >> 8), byte(b), last}
			wantInt(t, "three bytes", impl.SumOf(data), impl.OK, plainSum(data))
		}
	}
	for n := range 501 {
		data := sampleBytes(uint64(n), n)
		wantInt(t, "many bytes", impl.SumOf(data), impl.OK, plainSum(data))
	}
}

func TestSumOfAtItsLimit(t *testing.T) {
	for _, b := range []byte{0, 255} {
		data := bytes.Repeat([]byte{b}, 501)
		wantInt(t, "500 bytes", impl.SumOf(data[:500]), impl.OK, plainSum(data[:500]))
		wantInt(t, "501 bytes", impl.SumOf(data), impl.ErrMany, 0)
	}
	wantInt(t, "100000 bytes", impl.SumOf(make([]byte, 100000)), impl.ErrMany, 0)
}

func TestSumOfTakesEveryValueInItsRangeOnly(t *testing.T) {
	reached := make([]bool, impl.MaxSum+1)
	left := len(reached)
	for n := 0; n < 256*65536 && left > 0; n++ {
		sum := impl.SumOf([]byte{byte(n >> 16), byte(n >> 8), byte(n)}).Value
		if sum < 0 || sum > impl.MaxSum {
			t.Fatalf("sum %d is out of range", sum)
		}
		if !reached[sum] {
			reached[sum] = true
			left--
		}
	}
	if left > 0 {
		t.Errorf("%d sums are never reached", left)
	}
}

func TestPutNumber(t *testing.T) {
	wantBytes(t, "-1", impl.PutNumber(-1), impl.OK, 255, 255)
	wantBytes(t, "0", impl.PutNumber(0), impl.OK, 0, 0)
	wantBytes(t, "1", impl.PutNumber(1), impl.OK, 0, 1)
	wantBytes(t, "258", impl.PutNumber(258), impl.OK, 1, 2)
	wantBytes(t, "-2", impl.PutNumber(-2), impl.OK, 255, 254)
	wantBytes(t, "-256", impl.PutNumber(-256), impl.OK, 255, 0)
	wantBytes(t, "-257", impl.PutNumber(-257), impl.OK, 254, 255)
	wantBytes(t, "least", impl.PutNumber(-32768), impl.OK, 128, 0)
	wantBytes(t, "greatest", impl.PutNumber(32767), impl.OK, 127, 255)
	for _, n := range []int64{-32769, 32768, -65536, 65535, 65536, 1 << 32, math.MinInt64, math.MaxInt64} {
		wantBytes(t, "not short", impl.PutNumber(n), impl.ErrRange)
	}
}

func TestGetNumber(t *testing.T) {
	data := []byte{1, 2, 3, 128, 0, 127, 255, 255, 255}
	for at, want := range []int64{258, 515, 896, -32768, 127, 32767, -1, -1} {
		wantInt(t, "inside", impl.GetNumber(data, int64(at)), impl.OK, want)
	}
	for _, at := range []int64{-1, 8, 9, 10, math.MinInt64, math.MaxInt64, math.MaxInt64 - 1} {
		wantInt(t, "outside", impl.GetNumber(data, at), impl.ErrRange, 0)
	}
	for _, short := range [][]byte{nil, {}, {7}} {
		for _, at := range []int64{-2, -1, 0, 1, 2} {
			wantInt(t, "too short", impl.GetNumber(short, at), impl.ErrRange, 0)
		}
	}
}

func TestGetNumberReadsNoSpareCapacity(t *testing.T) {
	data := []byte{1, 2, 3, 4}
	wantInt(t, "beyond the length", impl.GetNumber(data[:3], 2), impl.ErrRange, 0)
}

// Promise 2: two bytes and a short number determine each other.
func TestEveryShortNumberHasOneEncoding(t *testing.T) {
	numberOf := map[string]int64{}
	for n := int64(-32768); n <= 32767; n++ {
		put := impl.PutNumber(n)
		if put.Code != impl.OK || len(put.Bytes) != 2 {
			t.Fatalf("%d: got %+v", n, put)
		}
		wantInt(t, "decoded", impl.GetNumber(put.Bytes, 0), impl.OK, n)
		numberOf[string(put.Bytes)] = n
	}
	if len(numberOf) != 65536 {
		t.Errorf("%d encodings for 65536 numbers", len(numberOf))
	}
}

func TestPackNumbers(t *testing.T) {
	wantBytes(t, "nil", impl.PackNumbers(nil), impl.OK, 0)
	wantBytes(t, "empty", impl.PackNumbers([]int64{}), impl.OK, 0)
	wantBytes(t, "two", impl.PackNumbers([]int64{258, -2}), impl.OK, 2, 1, 2, 255, 254)
	wantBytes(t, "ends", impl.PackNumbers([]int64{-32768, 32767}), impl.OK, 2, 128, 0, 127, 255)
	wantBytes(t, "20", impl.PackNumbers(make([]int64, 20)), impl.OK, append([]byte{20}, make([]byte, 40)...)...)
	wantBytes(t, "21", impl.PackNumbers(make([]int64, 21)), impl.ErrMany)
	wantBytes(t, "257", impl.PackNumbers(make([]int64, 257)), impl.ErrMany)
	for _, n := range []int64{-32769, 32768, math.MinInt64, math.MaxInt64} {
		wantBytes(t, "first", impl.PackNumbers([]int64{n, 1, 2}), impl.ErrRange)
		wantBytes(t, "last", impl.PackNumbers([]int64{1, 2, n}), impl.ErrRange)
	}
}

func TestPackNumbersChecksTheCountFirst(t *testing.T) {
	list := make([]int64, 21)
	list[0] = 32768
	wantBytes(t, "both", impl.PackNumbers(list), impl.ErrMany)
	wantBytes(t, "range only", impl.PackNumbers(list[:20]), impl.ErrRange)
}

func TestReadNumbers(t *testing.T) {
	wantInts(t, "none", impl.ReadNumbers([]byte{0}), impl.OK)
	wantInts(t, "one", impl.ReadNumbers([]byte{1, 0, 7}), impl.OK, 7)
	wantInts(t, "negative", impl.ReadNumbers([]byte{2, 128, 0, 255, 255}), impl.OK, -32768, -1)
	wantInts(t, "20", impl.ReadNumbers(append([]byte{20}, make([]byte, 40)...)), impl.OK, make([]int64, 20)...)
	bad := [][]byte{
		nil, {}, {1}, {1, 0}, {2, 0, 7}, {0, 0}, {0, 0, 0}, {1, 0, 7, 0}, {1, 0, 7, 0, 8}, {255},
		append([]byte{21}, make([]byte, 42)...),
		append([]byte{20}, make([]byte, 39)...),
		append([]byte{20}, make([]byte, 41)...),
		append([]byte{128}, make([]byte, 256)...),
		append([]byte{255}, make([]byte, 510)...),
		make([]byte, 513),
	}
	for _, data := range bad {
		wantInts(t, "unreadable", impl.ReadNumbers(data), impl.ErrText)
	}
}

// Promise 2: a list is read from its bytes.
func TestPackedNumbersAreRead(t *testing.T) {
	for n := range 21 {
		for seed := range uint64(50) {
			list := sampleNumbers(seed, n)
			packed := impl.PackNumbers(list)
			if packed.Code != impl.OK || len(packed.Bytes) != 1+2*n {
				t.Fatalf("%v: got %+v", list, packed)
			}
			wantInts(t, "read", impl.ReadNumbers(packed.Bytes), impl.OK, list...)
		}
	}
}

// Promise 2: bytes that can be read are the only encoding of what is read.
func TestReadNumbersArePackedToTheSameBytes(t *testing.T) {
	for count := range 256 {
		for size := range 64 {
			data := append([]byte{byte(count)}, sampleBytes(uint64(count*64+size), size)...)
			read := impl.ReadNumbers(data)
			if count > 20 || size != 2*count {
				wantInts(t, "unreadable", read, impl.ErrText)
				continue
			}
			if read.Code != impl.OK || len(read.List) != count {
				t.Fatalf("%v: got %+v", data, read)
			}
			wantBytes(t, "packed again", impl.PackNumbers(read.List), impl.OK, data...)
		}
	}
}

func TestAddQty(t *testing.T) {
	cases := []struct{ a, b, code, value int64 }{
		{0, 0, impl.OK, 0},
		{5, 6, impl.OK, 11},
		{5, -5, impl.OK, 0},
		{5, -6, impl.ErrStock, 0},
		{9999, 0, impl.OK, 9999},
		{9998, 1, impl.OK, 9999},
		{0, 9999, impl.OK, 9999},
		{9999, -9999, impl.OK, 0},
		{9999, 1, impl.ErrFull, 0},
		{1, 9999, impl.ErrFull, 0},
		{9999, 9999, impl.ErrFull, 0},
		{0, -1, impl.ErrStock, 0},
		{0, -9999, impl.ErrStock, 0},
		{9998, -9999, impl.ErrStock, 0},
		{-1, 1, impl.ErrRange, 0},
		{10000, -1, impl.ErrRange, 0},
		{0, 10000, impl.ErrRange, 0},
		{0, -10000, impl.ErrRange, 0},
		{9999, -10000, impl.ErrRange, 0},
		{math.MinInt64, 0, impl.ErrRange, 0},
		{math.MaxInt64, 0, impl.ErrRange, 0},
		{0, math.MinInt64, impl.ErrRange, 0},
		{0, math.MaxInt64, impl.ErrRange, 0},
		{math.MaxInt64, math.MaxInt64, impl.ErrRange, 0},
		{math.MinInt64, math.MinInt64, impl.ErrRange, 0},
		{math.MaxInt64, math.MinInt64, impl.ErrRange, 0},
	}
	for _, c := range cases {
		wantInt(t, "sum", impl.AddQty(c.a, c.b), c.code, c.value)
	}
}

func TestAddQtyChecksTheRangeFirst(t *testing.T) {
	wantInt(t, "range and stock", impl.AddQty(-1, -1), impl.ErrRange, 0)
	wantInt(t, "range and stock", impl.AddQty(0, -10000), impl.ErrRange, 0)
	wantInt(t, "range and full", impl.AddQty(10000, 1), impl.ErrRange, 0)
	wantInt(t, "range and full", impl.AddQty(9999, 10000), impl.ErrRange, 0)
}

// Promise 2: adding and subtracting a quantity restores it.
func TestAddQtyIsUndone(t *testing.T) {
	for a := int64(0); a <= impl.MaxQty; a += 101 {
		for b := int64(0); b <= impl.MaxQty; b += 101 {
			sum := impl.AddQty(a, b)
			if a+b > impl.MaxQty {
				wantInt(t, "full", sum, impl.ErrFull, 0)
				continue
			}
			wantInt(t, "added", sum, impl.OK, a+b)
			wantInt(t, "restored", impl.AddQty(sum.Value, -b), impl.OK, a)
		}
	}
}

// withSpare returns a copy with spare capacity, in which a careless append would show.
func withSpare[T any](list []T, mark T) []T {
	room := make([]T, 0, len(list)+64)
	room = append(room, list...)
	for i := len(list); i < cap(room); i++ {
		room[:cap(room)][i] = mark
	}
	return room
}

// Promise 1: arguments are unchanged, up to their capacity.
func TestNumberArgumentsAreUnchanged(t *testing.T) {
	inputs := [][]byte{{}, {0}, {1, 0, 7}, {2, 0, 7}, {2, 1, 2, 255, 254}, sampleBytes(1, 500), sampleBytes(2, 501)}
	for _, input := range inputs {
		data := withSpare(input, 77)
		before := slices.Clone(data[:cap(data)])
		impl.SumOf(data)
		impl.GetNumber(data, 0)
		impl.GetNumber(data, -1)
		impl.ReadNumbers(data)
		if !bytes.Equal(data[:cap(data)], before) {
			t.Errorf("%v was changed", input)
		}
	}
	for _, input := range [][]int64{{}, {1}, {258, -2}, {1, 40000}, sampleNumbers(3, 20), sampleNumbers(4, 21)} {
		list := withSpare(input, 77)
		before := slices.Clone(list[:cap(list)])
		impl.PackNumbers(list)
		if !slices.Equal(list[:cap(list)], before) {
			t.Errorf("%v was changed", input)
		}
	}
}

func overwrite[T any](list []T, mark T) {
	for i := range list[:cap(list)] {
		list[:cap(list)][i] = mark
	}
}

// Promise 1: a result shares no memory with an argument or with another result.
func TestNumberResultsAreNew(t *testing.T) {
	data := []byte{2, 1, 2, 255, 254}
	read := impl.ReadNumbers(data)
	overwrite(data, 9)
	wantInts(t, "argument overwritten", read, impl.OK, 258, -2)

	list := []int64{258, -2}
	packed := impl.PackNumbers(list)
	overwrite(list, 9)
	wantBytes(t, "argument overwritten", packed, impl.OK, 2, 1, 2, 255, 254)

	data, list = []byte{2, 1, 2, 255, 254}, []int64{258, -2}
	overwrite(impl.ReadNumbers(data).List, 9)
	overwrite(impl.PackNumbers(list).Bytes, 9)
	overwrite(impl.PackNumbers(nil).Bytes, 9)
	overwrite(impl.PutNumber(258).Bytes, 9)
	if !bytes.Equal(data, []byte{2, 1, 2, 255, 254}) || !slices.Equal(list, []int64{258, -2}) {
		t.Error("an argument was changed through a result")
	}
	wantInts(t, "read again", impl.ReadNumbers(data), impl.OK, 258, -2)
	wantBytes(t, "packed again", impl.PackNumbers(list), impl.OK, data...)
	wantBytes(t, "packed again", impl.PackNumbers(nil), impl.OK, 0)
	wantBytes(t, "put again", impl.PutNumber(258), impl.OK, 1, 2)
}

// Promise 1: a later call leaves an earlier result as it was.
func TestNumberResultsLast(t *testing.T) {
	put := impl.PutNumber(258)
	packed := impl.PackNumbers([]int64{258, -2})
	read := impl.ReadNumbers([]byte{2, 1, 2, 255, 254})
	impl.PutNumber(-1)
	impl.PackNumbers([]int64{3, 4})
	impl.ReadNumbers([]byte{2, 0, 3, 0, 4})
	wantBytes(t, "put", put, impl.OK, 1, 2)
	wantBytes(t, "packed", packed, impl.OK, 2, 1, 2, 255, 254)
	wantInts(t, "read", read, impl.OK, 258, -2)
}

// Promise 1: results depend on the arguments only, whatever was called before and beside.
func TestNumberResultsAreRepeatable(t *testing.T) {
	data := sampleBytes(5, 500)
	want := plainSum(data)
	sums := make([]int64, 8)
	var all sync.WaitGroup
	for i := range sums {
		all.Go(func() { sums[i] = impl.SumOf(data).Value })
	}
	all.Wait()
	for _, sum := range sums {
		if sum != want {
			t.Errorf("sum %d, want %d", sum, want)
		}
	}
	impl.SumOf(make([]byte, 501))
	impl.PackNumbers(make([]int64, 21))
	impl.ReadNumbers(nil)
	wantInt(t, "after invalid calls", impl.SumOf(data), impl.OK, want)
	wantInt(t, "after invalid calls", impl.SumOf(nil), impl.OK, 19)
}
