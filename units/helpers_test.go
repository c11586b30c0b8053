package units_test

import (
	"math"
	"math/big"
	"math/rand"
	"testing"

	"boule/api"
)

const most = api.MaxNumber

// hostile are integers at and around all limits.
var hostile = []int{math.MinInt, math.MinInt + 1, -most - 1, -most, -api.MaxCoord - 1, -api.MaxCoord, -2, -1, 0, 1, 2, 3, api.MaxCoord, api.MaxCoord + 1, most - 1, most, most + 1, math.MaxInt}

func span(low, high int) api.Range { return api.Range{Low: low, High: high} }

func frac(num, den int) api.Frac { return api.Frac{Num: num, Den: den} }

// hill is the table of the document's examples.
func hill() []api.Knot { return []api.Knot{{X: 0, Y: 0}, {X: 10, Y: 5}, {X: 20, Y: 0}} }

func repeat[T any](x T, n int) []T {
	l := make([]T, n)
	for i := range l {
		l[i] = x
	}
	return l
}

// dice returns the same numbers in every run.
func dice() *rand.Rand { return rand.New(rand.NewSource(1)) }

// anyNumber returns a number of any size, often an end of the numbers.
func anyNumber(r *rand.Rand) int {
	switch r.Intn(6) {
	case 0:
		return r.Intn(7) - 3
	case 1:
		return r.Intn(20001) - 10000
	case 2:
		return most - r.Intn(3)
	case 3:
		return r.Intn(3) - most
	}
	return r.Intn(2*most+1) - most
}

// anyDivisor returns a number of any size from 1 on.
func anyDivisor(r *rand.Rand) int { return max(1, max(anyNumber(r), -anyNumber(r))) }

func anyRange(r *rand.Rand) api.Range {
	a, b := anyNumber(r), anyNumber(r)
	return span(min(a, b), max(a, b))
}

// smallRange returns a range whose ends are from -size to size.
func smallRange(r *rand.Rand, size int) api.Range {
	a, b := r.Intn(2*size+1)-size, r.Intn(2*size+1)-size
	return span(min(a, b), max(a, b))
}

// ratio returns a times b divided by c.
func ratio(a, b, c int) *big.Rat {
	x := new(big.Int).Mul(big.NewInt(int64(a)), big.NewInt(int64(b)))
	return new(big.Rat).SetFrac(x, big.NewInt(int64(c)))
}

func whole(n int) *big.Rat { return new(big.Rat).SetInt64(int64(n)) }

// downOf returns the greatest integer that is not above x.
func downOf(x *big.Rat) *big.Int { return new(big.Int).Div(x.Num(), x.Denom()) } // Div rounds down for divisors above 0.

// upOf returns the least integer that is not below x.
func upOf(x *big.Rat) *big.Int { return new(big.Int).Neg(downOf(new(big.Rat).Neg(x))) }

// leastRange returns the least range that has all results, or ErrOver.
func leastRange(results []*big.Rat) (api.Range, api.Errno) {
	low, high := downOf(results[0]), upOf(results[0])
	for _, x := range results {
		if d := downOf(x); d.Cmp(low) < 0 {
			low = d
		}
		if u := upOf(x); u.Cmp(high) > 0 {
			high = u
		}
	}
	limit := big.NewInt(most)
	if low.CmpAbs(limit) > 0 || high.CmpAbs(limit) > 0 {
		return api.Range{}, api.ErrOver
	}
	return span(int(low.Int64()), int(high.Int64())), api.OK
}

// inside reports whether a lies in b.
func inside(a, b api.Range) bool { return b.Low <= a.Low && a.High <= b.High }

// wantRange checks the results of a call that returns a range.
func wantRange(t *testing.T, name string, got api.Range, e api.Errno, want api.Range, wantE api.Errno) {
	t.Helper()
	if got != want || e != wantE {
		t.Errorf("%s: got %v, error %d; want %v, error %d", name, got, e, want, wantE)
	}
}
