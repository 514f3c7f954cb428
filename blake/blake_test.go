package blake_test

import (
	"bytes"
	"encoding/hex"
	"testing"

	"althing/api"
	"althing/blake"
)

// text is n bytes that are unlike one another.
func text(n int) []byte {
	b := make([]byte, n)
	for i := range b {
		b[i] = byte(i*7 + 3)
	}
	return b
}

// sums is digests by how many bytes of text are hashed.
var sums = []struct {
	n   int
	hex string
}{
	{0, "0e5751c026e543b2e8ab2eb06099daa1d1e5df47778f7787faab45cdf12fe3a8"},
	{1, "e88bd757ad5b9bedf372d8d3f0cf6c962a469db61a265f6418e1ffed86da29ec"},
	{3, "9facd640130c81e7f318a8d5c660bc1b0f5d03861ffbd4cc1358e0e904593c28"},
	{64, "586c0dd87616ec042093edc5f87f880d37ca73618e99b03d5850ce9be478721f"},
	{127, "c9ae3859964b35f04c54b36d33cf299d7290ee621005d28e51598a943560aaaa"},
	{128, "f0501d06597880592bc49234eef100ec1ff349058d0e9d9b753504e24af86dd6"},
	{129, "a34a4e1e03c541dfbf3099c4b6c143c022ced65c28bd7e8a10e0a098461aecf0"},
	{255, "f2d64a40e9412a3414161ff6250075225418fd7c271c1123e162e1bca0de9f93"},
	{256, "d93ebb9c802f5630ab22516fd82b6c21bc8bd551d531349b715f046ed11ed871"},
	{257, "4ce481b24d387422d2bc2baa03d1afd55a1327939ff537c71eb9b38709268649"},
	{1000, "d62b6c768ce1afc8367e0498ab2f8e3f7c178c35b1429f14c4604b545d200f52"},
}

// keyed is digests by how many bytes the key has (text from its sixth byte on), and how many bytes of text are hashed.
var keyed = []struct {
	k, n int
	hex  string
}{
	{1, 0, "8ce604c06ce8932fd7e2a81ed0038527e96193dc52d3c133bd2e80c996321a44"},
	{1, 1, "9c64cd80a94ed2ad88e979f61f21bf95700c667356293e3aa8c4d727efa88d18"},
	{1, 128, "681e96819e9d4f19037825b395972b43c1b194ee7347f87dcf955f39d7947138"},
	{1, 129, "85604a9bb42180319cc56c4ef154070ce17fdbfb105c6493cf300115aed4002c"},
	{32, 0, "721839aa4baccef8252b5785a5291b549faeeb0bdf69ce40ff3e567b8259624e"},
	{32, 1, "abc658ba9352c1ef3a0ed76c3a3f285e43a216993521dd9cbc73799f5eeebdd6"},
	{32, 128, "993b4035bbb378448c19b35b3fb572c8e13aa19fe351d00b11c2e860fcb3d27f"},
	{32, 129, "bd3ca1125bf5b1014232bb94572f6cf91f8d8a2d305058bfe27d9eeeb09c1850"},
	{63, 0, "c2a6a062c10efb65b1fbe5948bc82a52db4f9573878d8da558eba6c9b9a4e6b0"},
	{63, 1, "533376c25254e1b07465e1df93804e9ea7fb47d064bc6a418effd9de28c78c6b"},
	{64, 0, "24c63a73f976620ddaeee6b627a38a09e841051de1852a21b23bba48abbc09f8"},
	{64, 1, "2975223e44b210a69ac685334776de8c64cc10412723aeb1092239c85595b653"},
	{64, 128, "1a314741bbf6ca43ea850857d2cabbad2bc5cfcebab96739f28cd276a246d875"},
	{64, 129, "0eabed7f17590480a1b51af543e1a3b537c6eb1c20a24d0dc311d5ad17d232cd"},
}

func TestP21Digests(t *testing.T) {
	for _, s := range sums {
		if h := blake.Keyed(nil, text(s.n)); hex.EncodeToString(h[:]) != s.hex {
			t.Errorf("of %d bytes: %x, want %s", s.n, h, s.hex)
		}
		if h := blake.Keyed([]byte{}, text(s.n)); hex.EncodeToString(h[:]) != s.hex {
			t.Errorf("of %d bytes, with an empty key: %x, want %s", s.n, h, s.hex)
		}
	}
}

func TestP21DigestsWithAKey(t *testing.T) {
	for _, s := range keyed {
		if h := blake.Keyed(text(s.k + 5)[5:], text(s.n)); hex.EncodeToString(h[:]) != s.hex {
			t.Errorf("of %d bytes with a key of %d: %x, want %s", s.n, s.k, h, s.hex)
		}
	}
	if blake.Keyed([]byte{0}) == blake.Keyed(nil) || blake.Keyed([]byte{0}) == blake.Keyed([]byte{0, 0}) {
		t.Error("a key of noughts is none")
	}
}

func TestP21KeysCountUpTo64Bytes(t *testing.T) {
	for _, n := range []int{0, 1, 128} {
		want := blake.Keyed(text(64), text(n))
		for _, k := range []int{65, 100, 128, 1000} {
			if h := blake.Keyed(text(k), text(n)); h != want {
				t.Errorf("of %d bytes with a key of %d: %x, want %x", n, k, h, want)
			}
		}
	}
}

func TestP22SumHasNoKey(t *testing.T) {
	for _, s := range sums {
		if h := blake.Sum(text(s.n)); hex.EncodeToString(h[:]) != s.hex {
			t.Errorf("of %d bytes: %x, want %s", s.n, h, s.hex)
		}
	}
	if got := blake.Hex(blake.Sum([]byte("abc"))); got != "bddd813c634239723171ef3fee98579b94964e3bb1cb3e427262c8c068d52319" {
		t.Error(got)
	}
	if got := blake.Hex(blake.Sum()); got != sums[0].hex {
		t.Error(got)
	}
}

func TestP22HexIsSmallDigits(t *testing.T) {
	var h api.Hash
	for i := range h {
		h[i] = byte(i*0x11 + 0x0f)
	}
	if got, want := blake.Hex(h), hex.EncodeToString(h[:]); got != want {
		t.Errorf("%s, want %s", got, want)
	}
	if got := blake.Hex(api.Hash{}); got != "0000000000000000000000000000000000000000000000000000000000000000" {
		t.Error(got)
	}
}

func TestP23HowBytesArePartedDoesNotMatter(t *testing.T) {
	b := text(300)
	want := blake.Sum(b)
	wantKeyed := blake.Keyed(text(9), b)
	for cut := range len(b) + 1 {
		if h := blake.Sum(b[:cut], nil, b[cut:]); h != want {
			t.Errorf("parted at %d: %x, want %x", cut, h, want)
		}
		if h := blake.Keyed(text(9), b[:cut], b[cut:], nil); h != wantKeyed {
			t.Errorf("with a key, parted at %d: %x, want %x", cut, h, wantKeyed)
		}
	}
	var single [][]byte
	for i := range b {
		single = append(single, b[i:i+1])
	}
	if h := blake.Sum(single...); h != want {
		t.Errorf("byte by byte: %x, want %x", h, want)
	}
	if blake.Sum(b[1:], b[:1]) == want {
		t.Error("the order of rows does not matter")
	}
	if blake.Sum(nil, []byte{}, nil) != blake.Sum() {
		t.Error("empty rows count")
	}
}

func TestP23ArgumentsAreNotWritten(t *testing.T) {
	key, b := text(100), text(300)
	blake.Keyed(key[:10], b[:130], b[130:200])
	blake.Sum(b[:3])
	if !bytes.Equal(key, text(100)) || !bytes.Equal(b, text(300)) {
		t.Error("what was handed in is changed")
	}
}
