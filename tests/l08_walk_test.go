package tests

import (
	"slices"
	"strconv"
	"sync"
	"testing"

	"loop.example/g00623/impl"
)

// checkDigests checks promise 9 for both layouts of the rows of list, which has no empty ones.
func checkDigests(t *testing.T, what string, p impl.Places, parts []impl.Part, list []impl.Row) {
	t.Helper()
	digest := plainDigest(list)
	wantInt(t, what, impl.DigestOf(list), impl.OK, digest)
	wantInt(t, what+", the old layout", impl.DigestOf(impl.RowsIn(p).Rows), impl.OK, digest)
	wantInt(t, what+", the new layout", impl.DigestOf(impl.RowsOf(parts).Rows), impl.OK, digest)
	wantDiffer(t, what+", the old layout", impl.RowsIn(p).Rows, list, impl.IntResult{Code: impl.ErrNone})
	wantDiffer(t, what+", the new layout", impl.RowsOf(parts).Rows, list, impl.IntResult{Code: impl.ErrNone})
	wantDiffer(t, what+", both layouts", impl.RowsIn(p).Rows, impl.RowsOf(parts).Rows, impl.IntResult{Code: impl.ErrNone})
	wantSame(t, what, p, parts, true)
	wantInt(t, what+", file by file", digestOfLists(p.Files), impl.OK, digest)
	var own [][]impl.Row
	for _, part := range parts {
		own = append(own, part.Rows)
	}
	wantInt(t, what+", part by part", digestOfLists(own), impl.OK, digest)
}

// digestOfLists adds the digests of lists.
func digestOfLists(lists [][]impl.Row) impl.IntResult {
	sum := impl.IntResult{}
	for _, list := range lists {
		digest := impl.DigestOf(list)
		if digest.Code != impl.OK {
			return digest
		}
		sum = impl.AddDigest(sum.Value, digest.Value)
	}
	return sum
}

// checkPieces checks that the digests of ranges and of the pieces of a scan add up to the digest of all rows.
func checkPieces(t *testing.T, what string, p impl.Places, list []impl.Row) {
	t.Helper()
	for _, at := range []int64{0, 1, 20, 21, 22, 42, 50, 83, 84, 100} {
		low, high := impl.RangeDigest(list, 0, at), impl.RangeDigest(list, at, 100)
		wantInt(t, what+", below", low, impl.OK, plainDigest(plainCut(list, 0, at)))
		wantInt(t, what+", the rest", high, impl.OK, plainDigest(plainCut(list, at, 100)))
		wantInt(t, what+", two ranges", impl.AddDigest(low.Value, high.Value), impl.OK, plainDigest(list))
	}
	for most := int64(1); most <= 12; most++ {
		scanned := scanInPieces(t, p, most)
		wantInt(t, what+", scanned", impl.DigestOf(scanned), impl.OK, plainDigest(list))
		wantDiffer(t, what+", scanned", scanned, list, impl.IntResult{Code: impl.ErrNone})
	}
}

// digestWalk writes one row after the other to both layouts, and notes whether a write to one of them only was seen.
func digestWalk(t *testing.T, seed uint64, reached map[bool]int) {
	given := sampleRows(seed, int(seed%13))
	list := withoutNone(given)
	p, parts := impl.PlacesOf(given, 100).Places, impl.PartsFrom(given, 100).Parts
	checkDigests(t, "walk "+strconv.FormatUint(seed, 10), p, parts, list)
	wantInt(t, "with empty rows", impl.DigestOf(given), impl.OK, plainDigest(list))
	wantDiffer(t, "with empty rows", given, list, impl.IntResult{Code: impl.ErrNone})
	for i := range uint64(40) {
		r, mark := writeRow(seed*1000+i), p.Mark+1
		after := plainWrite(list, r)
		if plainRowFault(r) != impl.OK || len(after) > 12 {
			continue
		}
		what := "walk " + strconv.FormatUint(seed, 10) + ", write " + strconv.FormatUint(i, 10)
		next, nextParts := impl.WritePlace(p, r, mark), impl.WritePart(parts, r, mark)
		differ := plainDiffer(list, after)
		wantDiffer(t, what+", what was written", impl.RowsIn(p).Rows, impl.RowsIn(next.Places).Rows, differ)
		wantDiffer(t, what+", the old layout first", impl.RowsIn(next.Places).Rows, impl.RowsOf(parts).Rows, differ)
		seen := plainDigest(list) != plainDigest(after)
		reached[seen]++
		wantSame(t, what+", the old layout first", next.Places, parts, !seen)
		wantSame(t, what+", the new layout first", p, nextParts.Parts, !seen)
		p, parts, list = next.Places, nextParts.Parts, after
		checkDigests(t, what, p, parts, list)
		if t.Failed() {
			return
		}
	}
	checkPieces(t, "walk "+strconv.FormatUint(seed, 10), p, list)
}

// Promises 7 and 9, along many walks.
func TestDigestWalks(t *testing.T) {
	reached := map[bool]int{}
	for seed := range uint64(200) {
		digestWalk(t, seed, reached)
	}
	if reached[false] == 0 || reached[true] == 0 {
		t.Errorf("writes that a digest shows and that it does not: %v", reached)
	}
}

// Any two lists of rows, against the plain functions.
func TestDigestsOfSamples(t *testing.T) {
	for seed := range uint64(150) {
		a := sampleRows(seed, int(seed%13))
		for other := range uint64(40) {
			b := sampleRows(seed+other, int((seed+other*5)%13))
			wantDiffer(t, "samples", a, b, plainDiffer(a, b))
			same := plainDigest(a) == plainDigest(b)
			wantSame(t, "samples", impl.PlacesOf(a, 1).Places, impl.PartsFrom(b, 2).Parts, same)
			from := int64(seed+other) % 101
			to := from + int64(seed*other)%(101-from)
			wantInt(t, "range", impl.RangeDigest(b, from, to), impl.OK, plainDigest(plainCut(b, from, to)))
		}
	}
}

// callDigestFunctions calls every function of chapter 8 that takes rows or layouts, with valid and invalid arguments.
func callDigestFunctions(a, b []impl.Row, p impl.Places, parts []impl.Part) {
	impl.DigestOf(a)
	impl.DifferAt(a, b)
	impl.DifferAt(b, a)
	impl.SameDigest(p, parts)
	for key := int64(-1); key <= 101; key++ {
		impl.RangeDigest(a, key, 90)
		impl.RangeDigest(a, 0, key)
	}
}

// Promise 1: arguments are unchanged, up to their capacity.
func TestDigestArgumentsAreUnchanged(t *testing.T) {
	lists := [][]impl.Row{nil, {row(0, 1, 0, 0), row(1, 2, 3, 0)}, manyRows(1), manyRows(12), manyRows(13), sampleRows(5, 8)}
	for _, c := range faultyRows {
		lists = append(lists, c.list)
	}
	for _, first := range lists {
		for _, second := range lists {
			a, b := withSpare(first, placeMark), withSpare(second, placeMark)
			before := slices.Concat(a[:cap(a)], b[:cap(b)])
			callDigestFunctions(a, b, impl.Places{}, nil)
			if !slices.Equal(slices.Concat(a[:cap(a)], b[:cap(b)]), before) {
				t.Errorf("%v or %v was changed", first, second)
			}
		}
	}
	var given []impl.Places
	for _, p := range goodPlaces {
		given = append(given, p)
	}
	for _, c := range faultyPlaces() {
		given = append(given, c.places)
	}
	partLists := append(memoryParts(), goodParts["the ends of rows"])
	for _, c := range faultyParts() {
		partLists = append(partLists, c.parts)
	}
	for _, one := range given {
		for _, list := range partLists {
			p, parts := sparePlaces(one), spareParts(list)
			before, beforeParts := wholePlaces(p), wholeParts(parts)
			impl.SameDigest(p, parts)
			if !equalPlaces(wholePlaces(p), before) || !equalParts(wholeParts(parts), beforeParts) {
				t.Errorf("%+v or %+v was changed", one, list)
			}
		}
	}
}

// Promise 1: results depend on the arguments only, neither on spare capacity nor on what was called before and beside.
func TestDigestResultsAreRepeatable(t *testing.T) {
	var all sync.WaitGroup
	for range 8 {
		all.Go(func() {
			for seed := range uint64(30) {
				a, b := sampleRows(seed, 8), withSpare(sampleRows(seed+1, 12), placeMark)
				p, parts := sparePlaces(plainPlaces(3, a)), spareParts(plainParts(marks{1, 2, 3}, a))
				callDigestFunctions(a, b, p, parts)
				wantInt(t, "digest", impl.DigestOf(a), impl.OK, plainDigest(a))
				wantInt(t, "range", impl.RangeDigest(b, 10, 60), impl.OK, plainDigest(plainCut(b, 10, 60)))
				wantDiffer(t, "differ", a, b, plainDiffer(a, b))
				wantSame(t, "layouts", p, parts, true)
				for _, r := range a {
					wantInt(t, "row", impl.RowSum(r), impl.OK, plainRowSum(r))
				}
			}
		})
	}
	all.Wait()
}
