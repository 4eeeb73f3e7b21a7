package stat

import (
	"math"
	"testing"

	"hawthorn/api"
)

// The numbers that are asked for here were worked out from the document by another program.

const (
	most  = math.MaxInt64
	least = math.MinInt64
)

var (
	none = math.NaN()
	inf  = math.Inf(1)
	neg0 = math.Copysign(0, -1)
)

// otherNone is what is no number either, of other bits and with the sign of a number below 0.
var otherNone = math.Float64frombits(0xfff8000000000007)

// same holds the bits against each other, so that 0 and -0 are two; all that are no numbers are one.
func same(a, b float64) bool {
	if math.IsNaN(a) || math.IsNaN(b) {
		return math.IsNaN(a) && math.IsNaN(b)
	}
	return math.Float64bits(a) == math.Float64bits(b)
}

func TestRateIsHitsByAsked(t *testing.T) {
	for _, x := range []struct {
		hits, asked int64
		want        uint64
	}{
		{1, 3, 0x3fd5555555555555},
		{2, 3, 0x3fe5555555555555},
		{0, 7, 0},
		{7, 7, 0x3ff0000000000000},
		{9, 4, 0x4002000000000000}, // more than were asked for
		{-1, 3, 0xbfd5555555555555},
		{1, -3, 0xbfd5555555555555},
		{0, -3, 0x8000000000000000},
		{1<<53 + 1, 1, 0x4340000000000000}, // no float has it: the next even one
		{1<<53 + 3, 3, 0x4325555555555558},
		{most, most, 0x3ff0000000000000},
		{most, least, 0xbff0000000000000},
		{1, most, 0x3c00000000000000},
		{least, -1, 0x43e0000000000000},
	} {
		got := Rate(api.Tally{Asked: x.asked, Hits: x.hits})
		if math.Float64bits(got) != x.want {
			t.Errorf("Rate of %d of %d is %v (%x), not %x", x.hits, x.asked, got, math.Float64bits(got), x.want)
		}
	}
}

func TestRateOfNothingAsked(t *testing.T) {
	for _, x := range []struct {
		hits int64
		want float64
	}{{0, none}, {1, inf}, {most, inf}, {-1, -inf}, {least, -inf}} {
		if got := Rate(api.Tally{Hits: x.hits}); !same(got, x.want) {
			t.Errorf("Rate of %d of 0 is %v, not %v", x.hits, got, x.want)
		}
	}
}

func TestBlendMovesOnByTheWeight(t *testing.T) {
	for _, x := range []struct {
		old, now, weight float64
		want             uint64
	}{
		{0.5, 1, 0.25, 0x3fe4000000000000},
		{2, 4, 0, 0x4000000000000000},
		{2, 4, 1, 0x4010000000000000},
		{1, 2, 3, 0x4010000000000000}, // a weight may be above 1, and below 0
		{1, 2, -1, 0},
		{0.1, 0.2, 0.3, 0x3fc0a3d70a3d70a4},
		// With a product that isn't rounded ahead of the sum these would be others.
		{0.72, 0.23, 0.95, 0x3fd049ba5e353f7e},
		{0.83, 0.67, 0.3, 0x3fe90624dd2f1aa0},
		{0.19, 0.1, 0.67, 0x3fc09a027525460a},
		{0.98, 0.3, 0.6, 0x3fe24dd2f1a9fbe8},
	} {
		got := Blend(x.old, x.now, x.weight)
		if math.Float64bits(got) != x.want {
			t.Errorf("Blend(%v, %v, %v) is %v (%x), not %x", x.old, x.now, x.weight, got, math.Float64bits(got), x.want)
		}
	}
}

func TestBlendOfWhatIsNoNumber(t *testing.T) {
	for _, x := range []struct{ old, now, weight, want float64 }{
		{none, 2, 0.5, 2},
		{otherNone, neg0, 0.5, neg0},
		{none, 2, none, 2},
		{none, none, 0.5, none},
		{none, inf, 0, inf},
		{none, none, none, none},
		{1, none, 0.5, 1},
		{1, otherNone, 0.5, 1},
		{1, 2, none, 1},
		{1, 2, otherNone, 1},
		{neg0, none, none, neg0},
		{inf, none, 0.5, inf},
	} {
		if got := Blend(x.old, x.now, x.weight); !same(got, x.want) {
			t.Errorf("Blend(%v, %v, %v) is %v, not %v", x.old, x.now, x.weight, got, x.want)
		}
	}
}

func TestBlendOfWhatIsInfinite(t *testing.T) {
	for _, x := range []struct{ old, now, weight, want float64 }{
		{inf, 2, 0.5, inf},
		{1, -inf, 0.5, -inf},
		{inf, -inf, 0.5, none},
		{inf, 2, 1, none}, // infinite times 0
		{1, inf, 0, none},
		{1, 2, inf, none},
		{-1, 2, inf, inf},
		{1e308, 1e308, -10, none}, // each product is infinite, on one side each
		{neg0, neg0, 0.5, neg0},
	} {
		if got := Blend(x.old, x.now, x.weight); !same(got, x.want) {
			t.Errorf("Blend(%v, %v, %v) is %v, not %v", x.old, x.now, x.weight, got, x.want)
		}
	}
}

func TestClampIsBetweenTwo(t *testing.T) {
	for _, x := range []struct{ f, low, high, want float64 }{
		{0.5, 0, 1, 0.5},
		{-0.5, 0, 1, 0},
		{1.5, 0, 1, 1},
		{0, 0, 1, 0},
		{1, 0, 1, 1},
		{inf, 0, 1, 1},
		{-inf, 0, 1, 0},
		{inf, -inf, inf, inf},
		{-inf, -inf, inf, -inf},
		{neg0, 0, 1, neg0}, // it is at least 0
		{0, neg0, 1, 0},
		{0, -1, neg0, 0}, // it is not above -0
		{math.SmallestNonzeroFloat64, 0, 0, 0},
		{none, 0, 1, 0},
		{otherNone, 3, 2, 3},
		{none, none, 1, none},
		{0.5, none, 1, none}, // nothing is at least what is no number
		{0.5, 0, none, 0.5},  // nor above it
		{-1, 0, none, 0},
		{0.5, 3, 2, 3}, // the lower one is held first
		{2.5, 3, 2, 3},
		{5, 3, 2, 2},
	} {
		if got := Clamp(x.f, x.low, x.high); !same(got, x.want) {
			t.Errorf("Clamp(%v, %v, %v) is %v, not %v", x.f, x.low, x.high, got, x.want)
		}
	}
}

func TestPerMilleIsRoundedDown(t *testing.T) {
	for _, x := range []struct {
		f    float64
		want int
	}{
		{0, 0},
		{neg0, 0},
		{math.SmallestNonzeroFloat64, 0},
		{0.0009999, 0},
		{math.Nextafter(0.001, 0), 0},
		{0.001, 1},
		{0.5005, 500},
		{2.0 / 3, 666},
		{0.9999999, 999},
		{math.Nextafter(1, 0), 999},
		{1, 1000},
	} {
		if got := PerMille(x.f); got != x.want {
			t.Errorf("PerMille(%v) is %d, not %d", x.f, got, x.want)
		}
	}
}

func TestPerMilleOfThousandths(t *testing.T) {
	for n := range int64(1001) {
		if got := PerMille(Rate(api.Tally{Asked: 1000, Hits: n})); got != int(n) {
			t.Errorf("PerMille of %d of 1000 is %d", n, got)
		}
	}
}

func TestPerMilleOfWhatIsNoRate(t *testing.T) {
	for _, f := range []float64{
		none, otherNone, inf, -inf, math.Nextafter(1, 2), 2, -1,
		-math.SmallestNonzeroFloat64, math.MaxFloat64, -math.MaxFloat64,
	} {
		if got := PerMille(f); got != -1 {
			t.Errorf("PerMille(%v) is %d, not -1", f, got)
		}
	}
}

func TestPerMilleOfARate(t *testing.T) {
	for _, x := range []struct {
		hits, asked int64
		want        int
	}{{1, 3, 333}, {2, 3, 666}, {0, 5, 0}, {5, 5, 1000}, {0, 0, -1}, {1, 0, -1}, {6, 5, -1}, {-1, 5, -1}, {0, -5, 0}} {
		if got := PerMille(Rate(api.Tally{Asked: x.asked, Hits: x.hits})); got != x.want {
			t.Errorf("PerMille of %d of %d is %d, not %d", x.hits, x.asked, got, x.want)
		}
	}
}

func TestOrderOfAllKinds(t *testing.T) {
	rising := []float64{
		-inf, -math.MaxFloat64, -2, math.Nextafter(-1, -2), -1, -math.SmallestNonzeroFloat64, neg0,
		0, math.SmallestNonzeroFloat64, 0.1, math.Nextafter(0.1, 1), 1, math.MaxFloat64, inf, none,
	}
	for i, a := range rising {
		for j, b := range rising {
			want := 0
			if i < j {
				want = -1
			}
			if i > j {
				want = 1
			}
			if got := Order(a, b); got != want {
				t.Errorf("Order(%v, %v) is %d, not %d", a, b, got, want)
			}
		}
	}
}

func TestOrderOfWhatIsNoNumberIsOne(t *testing.T) {
	if Order(none, otherNone) != 0 || Order(otherNone, none) != 0 || Order(otherNone, otherNone) != 0 {
		t.Error("two that are no numbers are not one")
	}
	if Order(otherNone, inf) != 1 || Order(inf, otherNone) != -1 || Order(otherNone, -inf) != 1 {
		t.Error("one that is no number, with a sign, is not above all")
	}
}

func TestAddAddsBothParts(t *testing.T) {
	for _, x := range []struct{ a, b, want api.Tally }{
		{api.Tally{}, api.Tally{}, api.Tally{}},
		{api.Tally{Asked: 3, Hits: 1}, api.Tally{Asked: 40, Hits: 20}, api.Tally{Asked: 43, Hits: 21}},
		{api.Tally{Asked: -3, Hits: 1}, api.Tally{Asked: 1, Hits: -3}, api.Tally{Asked: -2, Hits: -2}},
		{api.Tally{Asked: most}, api.Tally{Asked: 1}, api.Tally{Asked: least}},
		{api.Tally{Hits: least}, api.Tally{Hits: -1}, api.Tally{Hits: most}},
		{api.Tally{Asked: most, Hits: least}, api.Tally{Asked: most, Hits: least}, api.Tally{Asked: -2}},
	} {
		if got := Add(x.a, x.b); got != x.want {
			t.Errorf("Add(%v, %v) is %v, not %v", x.a, x.b, got, x.want)
		}
		if got := Add(x.b, x.a); got != x.want {
			t.Errorf("Add(%v, %v) is %v, not %v", x.b, x.a, got, x.want)
		}
	}
}
