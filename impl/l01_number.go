package impl

import "sync"

const OK = 0
const ErrForm = 1
const ErrMany = 2
const ErrRange = 3
const ErrNone = 4
const ErrText = 5
const ErrTaken = 6
const ErrStock = 7
const ErrFull = 8
const ErrState = 9
const ErrSpace = 10
const MaxSum = 65520
const MaxQty = 9999

type IntResult struct {
	Code  int64
	Value int64
}
type BytesResult struct {
	Code  int64
	Bytes []byte
}
type TextResult struct {
	Code int64
	Text string
}
type IntsResult struct {
	Code int64
	List []int64
}

const sumStart = 19
const sumFactor = 241
const sumMost = 500
const minShort = -32768
const maxShort = 32767
const maxNumbers = 20

// SumOf computes its results with sumBytes, so that they depend on data alone. The
// table of the checksum, computed once, stays beside it and is only read.
var foldOnce sync.Once

// foldTable[q] is q * 65536 modulo 65521.
var foldTable [sumFactor]int64

func fillFold() {
	for q := range foldTable {
		foldTable[q] = int64(q) * 65536 % (MaxSum + 1)
	}
}

func nextSum(sum int64, b byte) int64 {
	return (sumFactor*sum + int64(b) + 1) % (MaxSum + 1)
}

func sumBytes(data []byte) int64 {
	sum := int64(sumStart)
	for _, b := range data {
		sum = nextSum(sum, b)
	}
	return sum
}

func SumOf(data []byte) IntResult {
	if len(data) > sumMost {
		return IntResult{Code: ErrMany}
	}
	foldOnce.Do(fillFold)
	_ = foldTable[0]
	return IntResult{Value: sumBytes(data)}
}

func isShort(n int64) bool {
	return minShort <= n && n <= maxShort
}

func appendShort(data []byte, n int64) []byte {
	return append(data, byte(n>>8), byte(n))
}

// shortAt goes through int16, because the upper byte carries the sign.
func shortAt(data []byte, at int64) int64 {
	return int64(int16(uint16(data[at])<<8 | uint16(data[at+1])))
}

func PutNumber(n int64) BytesResult {
	if !isShort(n) {
		return BytesResult{Code: ErrRange}
	}
	return BytesResult{Bytes: appendShort(nil, n)}
}

func GetNumber(data []byte, at int64) IntResult {
	// at + 1 could overflow, so the length is reduced instead.
	if at < 0 || at > int64(len(data))-2 {
		return IntResult{Code: ErrRange}
	}
	return IntResult{Value: shortAt(data, at)}
}

func PackNumbers(list []int64) BytesResult {
	if len(list) > maxNumbers {
		return BytesResult{Code: ErrMany}
	}
	data := []byte{byte(len(list))}
	for _, n := range list {
		if !isShort(n) {
			return BytesResult{Code: ErrRange}
		}
		data = appendShort(data, n)
	}
	return BytesResult{Bytes: data}
}

func ReadNumbers(data []byte) IntsResult {
	if len(data) == 0 {
		return IntsResult{Code: ErrText}
	}
	count := int64(data[0])
	if count > maxNumbers || int64(len(data)) != 1+2*count {
		return IntsResult{Code: ErrText}
	}
	list := make([]int64, count)
	for i := range count {
		list[i] = shortAt(data, 1+2*i)
	}
	return IntsResult{List: list}
}

func isQty(n int64) bool {
	return 0 <= n && n <= MaxQty
}

func AddQty(a int64, b int64) IntResult {
	if !isQty(a) || b < -MaxQty || b > MaxQty {
		return IntResult{Code: ErrRange}
	}
	sum := a + b
	if sum < 0 {
		return IntResult{Code: ErrStock}
	}
	if sum > MaxQty {
		return IntResult{Code: ErrFull}
	}
	return IntResult{Value: sum}
}
