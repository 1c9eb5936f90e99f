package plan_test

import (
	"math"
	"math/big"
	"testing"

	"larder/api"
)

// The steps of section 17.4, each reckoned by itself without loss, or with far more bits than a float64 has, and then rounded: so they hang on nothing that a machine's or a compiler's floats do.

const exact = 2400 // bits: more than a sum or a product of two float64 can have

func bigOf(x float64) *big.Float { return new(big.Float).SetPrec(exact).SetFloat64(x) }

func rounded(x *big.Float) float64 {
	y, _ := x.Float64()
	return y
}

func plus(x, y float64) float64 {
	return rounded(new(big.Float).SetPrec(exact).Add(bigOf(x), bigOf(y)))
}
func minus(x, y float64) float64 { return plus(x, -y) }

func times(x, y float64) float64 {
	return rounded(new(big.Float).SetPrec(exact).Mul(bigOf(x), bigOf(y)))
}

// over and root have 400 bits: no quotient and no root of float64s lies as near to a half between two others without being one.

func over(x, y float64) float64 {
	return rounded(new(big.Float).SetPrec(400).Quo(bigOf(x), bigOf(y)))
}

func root(x float64) float64 {
	return rounded(new(big.Float).SetPrec(400).Sqrt(bigOf(x)))
}

// whole makes a whole number a float64.
func whole(n int) float64 { return rounded(new(big.Float).SetPrec(exact).SetInt64(int64(n))) }

func steppedStats(history []int) (mean, dev float64) {
	if len(history) == 0 {
		return 0, 0
	}
	sum, count := 0, whole(len(history))
	for _, n := range history {
		sum += n
	}
	mean = over(whole(sum), count)
	squares := 0.0
	for _, n := range history {
		off := minus(whole(n), mean)
		squares = plus(squares, times(off, off))
	}
	return mean, root(over(squares, count))
}

func steppedSmooth(history []int, weight float64) []float64 {
	var l []float64
	for i, n := range history {
		x := whole(n)
		if i > 0 {
			x = plus(times(weight, x), times(minus(1, weight), l[i-1]))
		}
		l = append(l, x)
	}
	return l
}

func steppedPoint(n api.Need) int {
	lead := whole(n.Lead)
	sum := plus(times(n.Mean, lead), times(times(n.Z, n.Dev), root(lead)))
	up, how := bigOf(sum).Int(nil)
	if how == big.Below {
		up.Add(up, big.NewInt(1))
	}
	return int(up.Int64())
}

// steppedQuarters multiplies by -i again and again, in whole numbers.
func steppedQuarters(history []int) []complex128 {
	var q []complex128
	for k := range 4 {
		re, im := 0, 0
		for t, n := range history {
			x, y := n, 0
			for range k * t % 4 {
				x, y = y, -x
			}
			re, im = re+x, im+y
		}
		q = append(q, complex(whole(re), whole(im)))
	}
	return q
}

func steppedStrength(c complex128) float64 {
	re, im := times(real(c), real(c)), times(imag(c), imag(c))
	if math.IsInf(re, 0) || math.IsInf(im, 0) {
		return math.Inf(1)
	}
	return plus(re, im)
}

// TestSteps: the test's own steps are those of float64, one by one.
func TestSteps(t *testing.T) {
	r := drawn(11)
	number := func() float64 { return math.Ldexp(r.Float64(), r.Intn(80)-40) }
	for range 3000 {
		x, y := number(), number()
		if plus(x, y) != x+y || minus(x, y) != x-y || times(x, y) != x*y || over(x, y) != x/y || root(x) != math.Sqrt(x) {
			t.Fatalf("%v, %v", x, y)
		}
	}
}
