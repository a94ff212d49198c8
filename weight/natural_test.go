package weight

import (
	"math/big"
	"math/rand"
	"testing"
)

// limbsOf returns n as a natural.
func limbsOf(n *big.Int) natural {
	return parse(n.String())
}

// odd returns a number with limbs that are empty, full, or anything.
func odd(random *rand.Rand, limbs int) *big.Int {
	n := new(big.Int)
	for range limbs {
		limb := new(big.Int).SetUint64([]uint64{0, 1, 1<<64 - 1, 1 << 63, 1<<63 - 1, random.Uint64(), 1 << random.Intn(64)}[random.Intn(7)])
		n.Or(n.Lsh(n, 64), limb)
	}
	return n
}

// same checks a natural: its value, and that it has no zeros at its end.
func same(t *testing.T, what string, got natural, want *big.Int) {
	t.Helper()
	if got.digits() != want.String() || len(got) != (want.BitLen()+63)/64 {
		t.Errorf("%s: %v, want %s", what, got, want)
	}
}

// TestNaturals checks what no fraction shows: guesses of a quotient's limb that are too great, and numbers of many limbs.
func TestNaturals(t *testing.T) {
	random := rand.New(rand.NewSource(11))
	for range 20000 {
		x, y := odd(random, random.Intn(9)), odd(random, random.Intn(6))
		if x.Cmp(y) < 0 {
			x, y = y, x
		}
		n, m := limbsOf(x), limbsOf(y)
		same(t, "parse", n, x)
		same(t, "sum", n.plus(m), new(big.Int).Add(x, y))
		same(t, "sum", m.plus(n), new(big.Int).Add(x, y))
		same(t, "difference", n.minus(m), new(big.Int).Sub(x, y))
		same(t, "product", n.times(m), new(big.Int).Mul(x, y))
		same(t, "gcd", gcd(n, m), new(big.Int).GCD(nil, nil, x, y))
		same(t, "gcd", gcd(m, n), new(big.Int).GCD(nil, nil, x, y))
		if n.compare(m) != x.Cmp(y) || m.compare(n) != y.Cmp(x) || n.bitLength() != x.BitLen() {
			t.Errorf("%s and %s compare as %d", x, y, n.compare(m))
		}
		if y.Sign() > 0 {
			q, r := n.divide(m)
			wantQ, wantR := new(big.Int).QuoRem(x, y, new(big.Int))
			same(t, "quotient", q, wantQ)
			same(t, "rest", r, wantR)
			same(t, "exact quotient", n.times(m).over(m), x)
		}
		same(t, "first argument", n, x)
		same(t, "second argument", m, y)
	}
}

// TestGroupsEnd checks that the iterator ends when it is told to.
func TestGroupsEnd(t *testing.T) {
	for group, room := range groups("1234567890123456789012345") {
		if group != 123456789012345678 || room != 1000000000000000000 {
			t.Errorf("the first group is %d, its room %d", group, room)
		}
		break
	}
}
