package blake

import (
	"encoding/hex"
	"strconv"
	"strings"
	"testing"

	"hawthorn/api"
)

// The sums that are asked for here were worked out by another program.

// sample is so many bytes that look alike in no two blocks.
func sample(row, n int) string {
	b := make([]byte, n)
	for j := range b {
		b[j] = byte(j*7 + row*13 + (j>>8)*3)
	}
	return string(b)
}

func wantSum(t *testing.T, name, s, want string) {
	t.Helper()
	if got := hex.EncodeToString([]byte(Sum(s))); got != want {
		t.Errorf("the sum of %s is %s, not %s", name, got, want)
	}
}

func TestSumOfTexts(t *testing.T) {
	wantSum(t, "abc", "abc", "508c5e8c327c14e2e1a72ba34eeb452f37458b209ed63a294d999b4c86675982")
	wantSum(t, "nothing", "", "69217a3079908094e11121d042354a7c1f55b6482ca1a51e1b250dfd1ed0eef9")
}

// The lengths go round a block's end: a full block is the last one, or it is not.
func TestSumAtBlockEnds(t *testing.T) {
	for _, x := range []struct {
		n    int
		want string
	}{
		{1, "e34d74dbaf4ff4c6abd871cc220451d2ea2648846c7757fbaac82fe51ad64bea"},
		{3, "bdc03378e3c4d48479bf451277980fc8ee1b10ba7ab1fee16685e14901d05faa"},
		{4, "f6acb73571ed1089a61ed8610a58e6a861380a4771dbad60323a8438fee8f2a8"},
		{63, "8711b32e3542deae1acce6409fec6577d9ca7daf80e1dcb5534236beea38e6b3"},
		{64, "b09537398e20f8cd56dca19d34b4b467633721bef880f40f2f707ebffd097551"},
		{65, "8936ffcf32a157440820fc06674e4682f76fe78fa7184bfad264c2f6eff6a151"},
		{127, "e75dc97ed5109a0511a064ffecc29b07676d5532ab9d1455aa18ec998a3020e6"},
		{128, "9462ab46c9c7779556af81a31d87fe184e631d5e4836bbda5998669d86a6544b"},
		{129, "9f8fd169776b12dcccd43b31edd795c1542759f975cc5842e88355a96c38234b"},
		{255, "b67826c0dce186d31d57ecd0c72c8495f136a208952c9752394af8097d220b60"},
		{256, "d20b5a775a7ab1383e5243d0b1b19da1d4371923c9834829f53f2795ed960bb1"},
		{1000, "151ba0b6d97ddce2211be5ff63f10ae7ebd926448dbb7725e9235e9e9d49bde1"},
		{4096, "7a7e493016ea31a7e64e64630177826a4f5293e2a73fa5efd3759d597bf66251"},
	} {
		wantSum(t, strconv.Itoa(x.n)+" bytes", sample(0, x.n), x.want)
	}
}

func TestSumOfEachLength(t *testing.T) {
	var all strings.Builder
	for n := range 301 {
		s := Sum(sample(n, n))
		if len(s) != api.SumBytes {
			t.Fatalf("the sum of %d bytes has %d bytes", n, len(s))
		}
		all.WriteString(s)
	}
	wantSum(t, "all these sums", all.String(), "1cd992e9394b47fc322f5e50d4acdd159e6b5c405f1795014524a91be9fe512c")
}

// Bytes that 32 bits don't count are more than a test may take: a last block with such a count is asked by itself.
func TestCountHasTwoWords(t *testing.T) {
	words := first
	words[0] ^= kind
	const want = "12eb3cdc44aa80f5ebb1c2782d1912ad54ee2598702830a9778e59068fdbd9b9"
	if got := hex.EncodeToString([]byte(bytesOf(compress(words, block("abc"), 2<<32+3, true)))); got != want {
		t.Errorf("with %d bytes the words are %s, not %s", uint64(2<<32+3), got, want)
	}
}

func TestSumKeepsNothing(t *testing.T) {
	before := Sum("abc")
	Sum("abd")
	if Sum("abc") != before {
		t.Error("a sum hangs on an earlier one")
	}
}
