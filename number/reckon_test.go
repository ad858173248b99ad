package number_test

import (
	"math/big"
	"testing"

	"legation/api"
	"legation/number"
)

type reckon func(a, b api.Num) (api.Num, api.Errno)

type reckoning struct {
	a, b, want api.Num
	e          api.Errno
}

func checkReckonings(t *testing.T, name string, f reckon, l []reckoning) {
	t.Helper()
	for _, one := range l {
		if n, e := f(one.a, one.b); n != one.want || e != one.e {
			t.Errorf("%s %+v %+v: %+v %d", name, one.a, one.b, n, e)
		}
	}
}

const most = api.MaxValue

// P2.2: sums and differences written out.
func TestAddAndSub(t *testing.T) {
	none, over := api.Num{}, api.ErrOver
	checkReckonings(t, "Add", number.Add, []reckoning{
		{whole(1), whole(2), whole(3), api.OK},
		{whole(1), whole(-1), whole(0), api.OK},
		{whole(5), whole(5), whole(10), api.OK},
		{whole(1), decimal(2, 0), decimal(3, 0), api.OK},
		{decimal(1, 0), decimal(-1, 0), decimal(0, 0), api.OK},
		{decimal(5, 1), decimal(5, 1), decimal(1, 0), api.OK},
		{decimal(5, 1), decimal(-5, 1), decimal(0, 0), api.OK},
		{decimal(15, 1), decimal(25, 2), decimal(175, 2), api.OK},
		{decimal(9999, 4), decimal(1, 4), decimal(1, 0), api.OK},
		{decimal(-1, 4), whole(1), decimal(9999, 4), api.OK},
		{whole(most - 1), whole(1), whole(most), api.OK},
		{whole(1 - most), whole(-1), whole(-most), api.OK},
		{decimal(most-1, 4), decimal(1, 4), decimal(most, 4), api.OK},
		{decimal(most, 4), decimal(1, 4), decimal(100000, 0), api.OK},
		{decimal(-most, 4), decimal(-1, 4), decimal(-100000, 0), api.OK},
		{decimal(most, 1), decimal(1, 1), decimal(100000000, 0), api.OK},
		{whole(most), whole(1), none, over},
		{whole(-most), whole(-1), none, over},
		{whole(most), whole(most), none, over},
		{decimal(most, 0), whole(1), none, over},
		{decimal(most, 4), decimal(2, 4), none, over},
		{decimal(-most, 4), decimal(-2, 4), none, over},
		{whole(most), decimal(1, 4), none, over},
		{whole(100000000), decimal(1, 1), none, over},
	})
	checkReckonings(t, "Sub", number.Sub, []reckoning{
		{whole(1), whole(2), whole(-1), api.OK},
		{whole(2), whole(2), whole(0), api.OK},
		{whole(2), decimal(2, 0), decimal(0, 0), api.OK},
		{whole(1), decimal(5, 1), decimal(5, 1), api.OK},
		{decimal(5, 1), whole(1), decimal(-5, 1), api.OK},
		{decimal(15, 1), decimal(5, 1), decimal(1, 0), api.OK},
		{decimal(1, 0), decimal(1, 4), decimal(9999, 4), api.OK},
		{whole(1 - most), whole(1), whole(-most), api.OK},
		{decimal(-most, 4), decimal(1, 4), decimal(-100000, 0), api.OK},
		{whole(-most), whole(1), none, over},
		{whole(most), whole(-1), none, over},
		{whole(-most), whole(most), none, over},
		{decimal(-most, 4), decimal(2, 4), none, over},
		{whole(most), decimal(1, 4), none, over},
	})
}

// P2.2: products and quotients written out, cut down towards 0.
func TestMulAndDiv(t *testing.T) {
	none, over := api.Num{}, api.ErrOver
	checkReckonings(t, "Mul", number.Mul, []reckoning{
		{whole(2), whole(3), whole(6), api.OK},
		{whole(-2), whole(3), whole(-6), api.OK},
		{whole(5), whole(20), whole(100), api.OK},
		{whole(2), decimal(3, 0), decimal(6, 0), api.OK},
		{decimal(5, 1), decimal(5, 1), decimal(25, 2), api.OK},
		{decimal(5, 1), whole(2), decimal(1, 0), api.OK},
		{decimal(5, 1), whole(0), decimal(0, 0), api.OK},
		{decimal(1, 4), decimal(1, 4), decimal(0, 0), api.OK},
		{decimal(-1, 4), decimal(1, 4), decimal(0, 0), api.OK},
		{decimal(19999, 4), decimal(9999, 4), decimal(19997, 4), api.OK},
		{decimal(-19999, 4), decimal(9999, 4), decimal(-19997, 4), api.OK},
		{decimal(99, 3), decimal(9, 2), decimal(89, 4), api.OK},
		{decimal(-99, 3), decimal(9, 2), decimal(-89, 4), api.OK},
		{decimal(1001, 4), decimal(9, 1), decimal(9, 2), api.OK},
		{whole(most), whole(1), whole(most), api.OK},
		{whole(most), whole(-1), whole(-most), api.OK},
		{decimal(most, 4), decimal(1, 4), decimal(99999, 4), api.OK},
		{decimal(most, 4), decimal(11, 1), none, over},
		{decimal(most, 4), whole(9999), none, over},
		{whole(31623), whole(31623), none, over},
		{whole(-31623), whole(31623), none, over},
		{whole(500000000), whole(2), none, over},
		{whole(-500000000), whole(2), none, over},
		{whole(most), whole(most), none, over},
		{whole(-most), decimal(most, 0), none, over},
		{decimal(most, 4), decimal(most, 4), none, over},
		{decimal(100000, 0), decimal(100001, 4), decimal(1000010, 0), api.OK},
	})
	checkReckonings(t, "Div", number.Div, []reckoning{
		{whole(1), whole(3), decimal(3333, 4), api.OK},
		{whole(-1), whole(3), decimal(-3333, 4), api.OK},
		{whole(1), whole(-3), decimal(-3333, 4), api.OK},
		{whole(-2), whole(-3), decimal(6666, 4), api.OK},
		{whole(4), whole(2), decimal(2, 0), api.OK},
		{whole(0), whole(2), decimal(0, 0), api.OK},
		{whole(0), decimal(-1, 4), decimal(0, 0), api.OK},
		{whole(1), whole(10001), decimal(0, 0), api.OK},
		{whole(-1), whole(10001), decimal(0, 0), api.OK},
		{whole(1), whole(10000), decimal(1, 4), api.OK},
		{whole(1), whole(8), decimal(125, 3), api.OK},
		{decimal(1, 4), decimal(3, 4), decimal(3333, 4), api.OK},
		{decimal(1, 4), decimal(2, 0), decimal(0, 0), api.OK},
		{decimal(15, 1), decimal(5, 1), decimal(3, 0), api.OK},
		{whole(1), decimal(1, 4), decimal(10000, 0), api.OK},
		{whole(most), whole(1), decimal(most, 0), api.OK},
		{whole(most), whole(-1), decimal(-most, 0), api.OK},
		{decimal(most, 4), whole(1), decimal(most, 4), api.OK},
		{decimal(most, 4), decimal(1, 4), decimal(most, 0), api.OK},
		{whole(1), whole(0), none, over},
		{whole(0), whole(0), none, over},
		{decimal(1, 4), decimal(0, 0), none, over},
		{whole(most), decimal(1, 1), none, over},
		{whole(-most), decimal(1, 4), none, over},
		{whole(100000), decimal(1, 4), none, over},
		{whole(most), whole(7), none, over},
		{whole(-most), whole(7), none, over},
	})
}

// plainReckoning tells what the chapter says of two right numbers, by numbers without a bound; the quotient by 0 is none's.
func plainReckoning(op byte, a, b api.Num) (api.Num, api.Errno) {
	if op == '/' && b.Value == 0 {
		return api.Num{}, api.ErrOver
	}
	x, y, z := ratio(a), ratio(b), new(big.Rat)
	switch op {
	case '+':
		z.Add(x, y)
	case '-':
		z.Sub(x, y)
	case '*':
		z.Mul(x, y)
	case '/':
		z.Quo(x, y)
	}
	// Cut to MaxScale places towards 0, then without noughts behind.
	z.Mul(z, big.NewRat(10000, 1))
	v := new(big.Int).Quo(z.Num(), z.Denom())
	scale, ten := api.MaxScale, big.NewInt(10)
	for scale > 0 {
		q, r := new(big.Int).QuoRem(v, ten, new(big.Int))
		if r.Sign() != 0 {
			break
		}
		v, scale = q, scale-1
	}
	if v.CmpAbs(big.NewInt(api.MaxValue)) > 0 {
		return api.Num{}, api.ErrOver
	}
	return api.Num{Value: v.Int64(), Scale: scale, Decimal: a.Decimal || b.Decimal || op == '/'}, api.OK
}

func ratio(n api.Num) *big.Rat {
	power := int64(1)
	for range n.Scale {
		power *= 10
	}
	return big.NewRat(n.Value, power)
}

// P2.2: each two of many numbers, against numbers without a bound.
func TestReckonings(t *testing.T) {
	l := some()
	for v, step := int64(1), int64(0); v <= most; v, step = v*2+step%5, step+1 {
		for scale := 0; scale <= api.MaxScale && (scale == 0 || v%10 != 0); scale++ {
			l = append(l, decimal(v, scale), decimal(-v, scale))
		}
	}
	fine, over := 0, 0
	for _, a := range l {
		for _, b := range l {
			for op, f := range map[byte]reckon{'+': number.Add, '-': number.Sub, '*': number.Mul, '/': number.Div} {
				want, we := plainReckoning(op, a, b)
				if n, e := f(a, b); n != want || e != we {
					t.Fatalf("%+v %c %+v: %+v %d", a, op, b, n, e)
				}
				if we == api.OK {
					fine++
				} else {
					over++
				}
			}
			want := ratio(a).Cmp(ratio(b))
			if c, e := number.Compare(a, b); c != want || e != api.OK {
				t.Fatalf("%+v against %+v: %d %d", a, b, c, e)
			}
		}
	}
	if fine < 10000 || over < 10000 {
		t.Errorf("just %d, %d over", fine, over)
	}
}

// P2.2: ErrForm, if one of the two is not right, ahead of whatever else there is.
func TestReckoningsOfWrongOnes(t *testing.T) {
	right := []api.Num{whole(0), whole(1), whole(-most), decimal(0, 0), decimal(most, 4)}
	for _, w := range wrong() {
		for _, r := range append(right, wrong()...) {
			for name, f := range map[string]reckon{"Add": number.Add, "Sub": number.Sub, "Mul": number.Mul, "Div": number.Div} {
				if n, e := f(w, r); n != (api.Num{}) || e != api.ErrForm {
					t.Errorf("%s %+v %+v: %+v %d", name, w, r, n, e)
				}
				if n, e := f(r, w); n != (api.Num{}) || e != api.ErrForm {
					t.Errorf("%s %+v %+v: %+v %d", name, r, w, n, e)
				}
			}
			if c, e := number.Compare(w, r); c != 0 || e != api.ErrForm {
				t.Errorf("Compare %+v %+v: %d %d", w, r, c, e)
			}
			if c, e := number.Compare(r, w); c != 0 || e != api.ErrForm {
				t.Errorf("Compare %+v %+v: %d %d", r, w, c, e)
			}
		}
	}
}

// P2.4: sums and products hang on no order; a difference added to what was taken off is what there was.
func TestOrder(t *testing.T) {
	l := some()
	back := 0
	for _, a := range l {
		for _, b := range l {
			x, e := number.Add(a, b)
			if y, f := number.Add(b, a); x != y || e != f {
				t.Errorf("%+v + %+v: %+v %d, %+v %d", a, b, x, e, y, f)
			}
			x, e = number.Mul(a, b)
			if y, f := number.Mul(b, a); x != y || e != f {
				t.Errorf("%+v * %+v: %+v %d, %+v %d", a, b, x, e, y, f)
			}
			d, e := number.Sub(a, b)
			if e != api.OK {
				continue
			}
			back++
			sum, e := number.Add(d, b)
			want := a
			want.Decimal = a.Decimal || b.Decimal
			if e != api.OK || sum != want {
				t.Errorf("%+v - %+v + %+v: %+v %d", a, b, b, sum, e)
			}
		}
	}
	if back < 1000 {
		t.Errorf("just %d", back)
	}
}

// P2.4: three summed in each order are the same, where nothing passes its bounds.
func TestOrderOfThree(t *testing.T) {
	l := []api.Num{whole(0), whole(1), whole(-70), decimal(0, 0), decimal(5, 1), decimal(-25, 2), decimal(12345, 4), decimal(-1, 4), decimal(999, 3)}
	sum := func(a, b api.Num) api.Num {
		n, e := number.Add(a, b)
		if e != api.OK {
			t.Errorf("%+v + %+v: %d", a, b, e)
		}
		return n
	}
	for _, a := range l {
		for _, b := range l {
			for _, c := range l {
				if x, y := sum(sum(a, b), c), sum(a, sum(b, c)); x != y {
					t.Errorf("%+v + %+v + %+v: %+v, %+v", a, b, c, x, y)
				}
			}
		}
	}
}

// P2.5: of two numbers of one amount the one is as much as the other, whole or decimal; Compare is an order.
func TestCompare(t *testing.T) {
	l := []api.Num{
		whole(-most), decimal(-most, 1), decimal(-most, 4), whole(-2), decimal(-15, 1), decimal(-10001, 4), whole(-1), decimal(-9999, 4), decimal(-1, 1), decimal(-1, 4),
		whole(0), decimal(1, 4), decimal(1, 3), decimal(99, 3), decimal(1, 1), decimal(9999, 4), whole(1), decimal(10001, 4), decimal(15, 1), whole(2), whole(10), decimal(most, 4), decimal(most, 1), whole(most),
	}
	for i, a := range l {
		for j, b := range l {
			want := 0
			if i < j {
				want = -1
			} else if i > j {
				want = 1
			}
			c, e := number.Compare(a, b)
			if c != want || e != api.OK {
				t.Errorf("%+v against %+v: %d %d", a, b, c, e)
			}
		}
		if a.Scale != 0 {
			continue
		}
		d := decimal(a.Value, 0)
		if c, e := number.Compare(a, d); c != 0 || e != api.OK {
			t.Errorf("%+v against %+v: %d %d", a, d, c, e)
		}
		if c, e := number.Compare(d, a); c != 0 || e != api.OK {
			t.Errorf("%+v against %+v: %d %d", d, a, c, e)
		}
	}
}

// P2.5: of terms too.
func TestCompareOfTerms(t *testing.T) {
	a, e := number.Of(api.Term{Kind: api.Literal, Text: "+002", Type: api.TypeInteger})
	for s, want := range map[string]int{"2.00": 0, "02.0": 0, "2.0001": -1, "1.9999": 1, "-2.0": 1} {
		b, f := number.Of(api.Term{Kind: api.Literal, Text: s, Type: api.TypeDecimal})
		c, g := number.Compare(a, b)
		if c != want || e != api.OK || f != api.OK || g != api.OK {
			t.Errorf("%+v against %+v: %d", a, b, c)
		}
	}
}
