package field_test

import (
	"math"
	"math/rand"
	"strconv"
	"strings"
	"testing"

	"crawlway/addr"
	"crawlway/api"
	"crawlway/cidr"
	"crawlway/field"
	"crawlway/pairline"
)

var (
	k    = api.Key{1, 31: 0xaf}
	hex  = "01" + strings.Repeat("00", 30) + "af"
	four = api.Endpoint{A: addr.Four([4]byte{192, 0, 2, 1}), Port: 9}
	six  = api.Endpoint{A: addr.Six([16]byte{32, 1, 15: 1}), Port: 65535}
	net  = api.Prefix{A: addr.Four([4]byte{10}), Bits: 8}
)

// names are the words as the chapter lists them.
func names() []string {
	return []string{
		"private_key", "listen_port", "fwmark", "replace_peers", "public_key", "remove", "update_only", "preshared_key",
		"endpoint", "persistent_keepalive_interval", "replace_allowed_ips", "allowed_ip", "protocol_version", "tx_bytes", "rx_bytes", "errno",
	}
}

// P37.1: each number has its word, and each word its number; nothing else has.
func TestNames(t *testing.T) {
	for i, name := range names() {
		if got := field.Name(i + 1); got != name {
			t.Errorf("Name(%d): %s", i+1, got)
		}
		if got := field.Word(name); got != i+1 {
			t.Errorf("Word(%s): %d", name, got)
		}
	}
	for _, word := range []int{0, -1, 17, 18, math.MinInt, math.MaxInt} {
		if got := field.Name(word); got != "" {
			t.Errorf("Name(%d): %s", word, got)
		}
	}
	for _, name := range []string{"", "set", "get", "Errno", "errno ", " errno", "err", "public_keys", "allowed_ips", "errno=0", "\n", "16"} {
		if got := field.Word(name); got != 0 {
			t.Errorf("Word(%s): %d", name, got)
		}
	}
}

// right are fields that may be, and their values' texts.
func right() []struct {
	f     api.Field
	value string
} {
	return []struct {
		f     api.Field
		value string
	}{
		{api.Field{Word: 1, Key: k}, hex},
		{api.Field{Word: 1}, strings.Repeat("0", 64)},
		{api.Field{Word: 2}, "0"},
		{api.Field{Word: 2, N: 65535}, "65535"},
		{api.Field{Word: 3}, "0"},
		{api.Field{Word: 3, N: 65536}, "65536"},
		{api.Field{Word: 3, N: 4294967295}, "4294967295"},
		{api.Field{Word: 4}, "true"},
		{api.Field{Word: 5, Key: k}, hex},
		{api.Field{Word: 5}, strings.Repeat("0", 64)},
		{api.Field{Word: 6}, "true"},
		{api.Field{Word: 7}, "true"},
		{api.Field{Word: 8, Key: k}, hex},
		{api.Field{Word: 8}, strings.Repeat("0", 64)},
		{api.Field{Word: 9, End: four}, "192.0.2.1:9"},
		{api.Field{Word: 9, End: six}, "[2001::1]:65535"},
		{api.Field{Word: 10}, "0"},
		{api.Field{Word: 10, N: 65535}, "65535"},
		{api.Field{Word: 11}, "true"},
		{api.Field{Word: 12, P: net}, "10.0.0.0/8"},
		{api.Field{Word: 12, P: cidr.Whole(six.A)}, "2001::1/128"},
		{api.Field{Word: 12, P: api.Prefix{A: api.Addr{V: 4}}}, "0.0.0.0/0"},
		{api.Field{Word: 12, P: api.Prefix{A: api.Addr{V: 6}}}, "::/0"},
		{api.Field{Word: 13, N: 1}, "1"},
		{api.Field{Word: 14}, "0"},
		{api.Field{Word: 14, N: math.MaxUint64}, "18446744073709551615"},
		{api.Field{Word: 15}, "0"},
		{api.Field{Word: 15, N: math.MaxUint64}, "18446744073709551615"},
		{api.Field{Word: 16}, "0"},
		{api.Field{Word: 16, N: 20}, "20"},
	}
}

// P37.2, P37.3, P37.4: a right field's pair, which is read as it.
func TestRight(t *testing.T) {
	for _, x := range right() {
		want := pairline.Pair{Key: names()[x.f.Word-1], Value: x.value}
		if p, fail := field.Pair(x.f); p != want || fail != api.OK || !field.Right(x.f) {
			t.Errorf("Pair(%v): %v, %v", x.f, p, fail)
		}
		if f, fail := field.Read(want); f != x.f || fail != api.OK {
			t.Errorf("Read(%v): %v, %v", want, f, fail)
		}
	}
}

// isWrong asks for a field that is not right.
func isWrong(t *testing.T, f api.Field) {
	t.Helper()
	if p, fail := field.Pair(f); p != (pairline.Pair{}) || fail != api.ErrArg {
		t.Errorf("Pair(%v): %v, %v", f, p, fail)
	}
	if field.Right(f) {
		t.Errorf("Right(%v)", f)
	}
}

// P37.2: a value that may not be, or a word that is none.
func TestWrong(t *testing.T) {
	for _, f := range []api.Field{
		{}, {Word: -1}, {Word: 17}, {Word: math.MinInt}, {Word: math.MaxInt}, {N: 1}, {Word: 0, Key: k}, {Word: 17, N: 1},
		{Word: 2, N: 65536}, {Word: 2, N: math.MaxUint64}, {Word: 3, N: 4294967296}, {Word: 10, N: 65536},
		{Word: 13}, {Word: 13, N: 2}, {Word: 16, N: 21}, {Word: 16, N: math.MaxUint64},
		{Word: 9}, {Word: 9, End: api.Endpoint{A: four.A}}, {Word: 9, End: api.Endpoint{Port: 9}}, {Word: 9, End: api.Endpoint{A: four.A, Port: 65536}},
		{Word: 9, End: api.Endpoint{A: api.Addr{V: 4, B: [16]byte{15: 1}}, Port: 9}}, {Word: 9, End: api.Endpoint{A: api.Addr{V: 5}, Port: 9}},
		{Word: 12}, {Word: 12, P: api.Prefix{A: net.A, Bits: 6}}, {Word: 12, P: api.Prefix{A: net.A, Bits: 33}}, {Word: 12, P: api.Prefix{A: net.A, Bits: -1}},
		{Word: 12, P: api.Prefix{A: api.Addr{V: 6}, Bits: 129}}, {Word: 12, P: api.Prefix{Bits: 8}},
	} {
		isWrong(t, f)
	}
}

// P37.2: what is not the word's own must be zero.
func TestOthers(t *testing.T) {
	for _, x := range right() {
		for name, does := range map[string]func(f *api.Field){
			"Key": func(f *api.Field) { f.Key[31] = 1 },
			"N":   func(f *api.Field) { f.N = 1 },
			"End": func(f *api.Field) { f.End = four },
			"P":   func(f *api.Field) { f.P = net },
			// No right values, but no zero ones.
			"End.Port": func(f *api.Field) { f.End.Port = 1 },
			"End.A.B":  func(f *api.Field) { f.End.A.B[15] = 1 },
			"End.A.V":  func(f *api.Field) { f.End.A.V = 4 },
			"P.Bits":   func(f *api.Field) { f.P.Bits = 1 },
			"P.A.V":    func(f *api.Field) { f.P.A.V = 4 },
		} {
			f := x.f
			does(&f)
			if own(x.f.Word) != name[:1] {
				isWrong(t, f)
			}
		}
	}
}

// own is what a word has, by its first letter.
func own(word int) string {
	switch word {
	case 1, 5, 8:
		return "K"
	case 2, 3, 10, 13, 14, 15, 16:
		return "N"
	case 9:
		return "E"
	case 12:
		return "P"
	}
	return ""
}

// P37.3: what can not be read, and why.
func TestRead(t *testing.T) {
	digits := strings.Repeat("0", 62)
	for _, x := range []struct {
		words string
		value string
		fail  api.Errno
	}{
		{"private_key public_key preshared_key", "", api.ErrShort},
		{"private_key public_key preshared_key", digits, api.ErrShort},
		{"private_key public_key preshared_key", digits + "0", api.ErrForm},
		{"private_key public_key preshared_key", digits + "0000", api.ErrLong},
		{"private_key public_key preshared_key", digits + "0A", api.ErrForm},
		{"private_key public_key preshared_key", digits + "0 ", api.ErrForm},
		{"private_key public_key preshared_key", "AAAAAAAAAAAAAAAAAAAAAAAAAAAAAAAAAAAAAAAAAAA=", api.ErrForm},
		{"listen_port fwmark persistent_keepalive_interval protocol_version tx_bytes rx_bytes errno", "", api.ErrForm},
		{"listen_port fwmark persistent_keepalive_interval protocol_version tx_bytes rx_bytes errno", "-1", api.ErrForm},
		{"listen_port fwmark persistent_keepalive_interval protocol_version tx_bytes rx_bytes errno", "+1", api.ErrForm},
		{"listen_port fwmark persistent_keepalive_interval protocol_version tx_bytes rx_bytes errno", "01", api.ErrForm},
		{"listen_port fwmark persistent_keepalive_interval protocol_version tx_bytes rx_bytes errno", "0x1", api.ErrForm},
		{"listen_port fwmark persistent_keepalive_interval protocol_version tx_bytes rx_bytes errno", "1 ", api.ErrForm},
		{"listen_port fwmark persistent_keepalive_interval protocol_version tx_bytes rx_bytes errno", "off", api.ErrForm},
		{"listen_port fwmark persistent_keepalive_interval protocol_version tx_bytes rx_bytes errno", "18446744073709551616", api.ErrRange},
		{"listen_port persistent_keepalive_interval protocol_version errno", "65536", api.ErrRange},
		{"fwmark listen_port persistent_keepalive_interval protocol_version errno", "4294967296", api.ErrRange},
		{"protocol_version", "0", api.ErrRange},
		{"protocol_version", "00", api.ErrForm},
		{"protocol_version", "2", api.ErrRange},
		{"errno", "21", api.ErrRange},
		{"replace_peers remove update_only replace_allowed_ips", "", api.ErrForm},
		{"replace_peers remove update_only replace_allowed_ips", "false", api.ErrForm},
		{"replace_peers remove update_only replace_allowed_ips", "True", api.ErrForm},
		{"replace_peers remove update_only replace_allowed_ips", "true ", api.ErrForm},
		{"replace_peers remove update_only replace_allowed_ips", "tru", api.ErrForm},
		{"replace_peers remove update_only replace_allowed_ips", "1", api.ErrForm},
		{"endpoint", "", api.ErrForm},
		{"endpoint", "192.0.2.1", api.ErrForm},
		{"endpoint", "192.0.2.1:0", api.ErrRange},
		{"endpoint", "192.0.2.1:65536", api.ErrRange},
		{"endpoint", "192.0.2.256:1", api.ErrRange},
		{"endpoint", "[192.0.2.1]:1", api.ErrForm},
		{"endpoint", "::1:9", api.ErrForm},
		{"endpoint", "localhost:9", api.ErrForm},
		{"allowed_ip", "", api.ErrForm},
		{"allowed_ip", "10.0.0.0/33", api.ErrRange},
		{"allowed_ip", "10.0.0.0/", api.ErrForm},
		{"allowed_ip", "10.0.0/8", api.ErrForm},
		{"allowed_ip", "::/129", api.ErrRange},
	} {
		for _, word := range strings.Fields(x.words) {
			p := pairline.Pair{Key: word, Value: x.value}
			if f, fail := field.Read(p); f != (api.Field{}) || fail != x.fail {
				t.Errorf("Read(%v): %v, %v", p, f, fail)
			}
		}
	}
}

// P37.3: that the key is no word counts ahead of all.
func TestReadWord(t *testing.T) {
	for _, name := range []string{"", "set", "get", "Remove", "remove ", "=", "5"} {
		for _, value := range []string{"", "true", "1", "x", hex, "\n"} {
			if f, fail := field.Read(pairline.Pair{Key: name, Value: value}); f != (api.Field{}) || fail != api.ErrWord {
				t.Errorf("Read(%s, %s): %v, %v", name, value, f, fail)
			}
		}
	}
}

// P37.3: a prefix or an endpoint may be read from another form than its own.
func TestReadLoose(t *testing.T) {
	for _, x := range []struct {
		name, value string
		want        api.Field
	}{
		{"allowed_ip", "10.1.2.3/8", api.Field{Word: 12, P: net}},
		{"allowed_ip", "192.0.2.1", api.Field{Word: 12, P: cidr.Whole(four.A)}},
		{"allowed_ip", "2001:0::1", api.Field{Word: 12, P: cidr.Whole(six.A)}},
		{"endpoint", "[2001:0:0:0:0:0:0:1]:65535", api.Field{Word: 9, End: six}},
	} {
		if f, fail := field.Read(pairline.Pair{Key: x.name, Value: x.value}); f != x.want || fail != api.OK {
			t.Errorf("Read(%s, %s): %v, %v", x.name, x.value, f, fail)
		}
	}
}

// anyField is some field, right or not.
func anyField(source *rand.Rand) api.Field {
	f := api.Field{Word: source.Intn(18)}
	a := api.Addr{V: 4 + 2*source.Intn(2)}
	for i := range a.B {
		if a.V == 6 || i < 4 {
			a.B[i] = byte(source.Intn(3) * source.Intn(128))
		}
	}
	if a.V == 6 && source.Intn(2) == 0 {
		a = addr.Six([16]byte{10: 255, 11: 255, 12: a.B[0], 13: 9})
	}
	switch source.Intn(6) {
	case 0:
		source.Read(f.Key[:])
	case 1, 2:
		f.N = source.Uint64() >> source.Intn(64)
	case 3:
		f.End = api.Endpoint{A: a, Port: 1 + source.Intn(65535)}
	case 4:
		f.P, _ = cidr.Of(a, source.Intn(33))
	}
	return f
}

// mayBe tells in plain words whether a field of a right value of its kind may be.
func mayBe(f api.Field) bool {
	most := map[int]uint64{2: 65535, 3: 1<<32 - 1, 10: 65535, 13: 1, 14: math.MaxUint64, 15: math.MaxUint64, 16: 20}
	n, isNumber := most[f.Word]
	if f.Word < 1 || f.Word > 16 || f.N != 0 && !isNumber || f.N > n || f.Word == 13 && f.N == 0 {
		return false
	}
	return (f.Key == api.Key{} || own(f.Word) == "K") && (f.End == api.Endpoint{}) == (f.Word != 9) && (f.P == api.Prefix{}) == (f.Word != 12)
}

// P37.2, P37.4: what Pair tells of a right field is read as it.
func TestFollows(t *testing.T) {
	source := rand.New(rand.NewSource(37))
	rights := map[int]int{}
	for range 30000 {
		f := anyField(source)
		if field.Right(f) != mayBe(f) {
			t.Fatalf("Right(%v): %t", f, field.Right(f))
		}
		p, fail := field.Pair(f)
		if fail != api.OK {
			continue
		}
		rights[f.Word]++
		if p.Key != field.Name(f.Word) || isNumber(f) && p.Value != strconv.FormatUint(f.N, 10) {
			t.Fatalf("Pair(%v): %v", f, p)
		}
		if back, fail := field.Read(p); back != f || fail != api.OK {
			t.Fatalf("Read(%v): %v, %v", p, back, fail)
		}
	}
	if len(rights) != 16 {
		t.Errorf("right: %v", rights)
	}
}

func isNumber(f api.Field) bool { return own(f.Word) == "N" }

// The chapter's examples.
func TestExample(t *testing.T) {
	if f, fail := field.Read(pairline.Pair{Key: "fwmark", Value: "0x5"}); f != (api.Field{}) || fail != api.ErrForm {
		t.Errorf("Read: %v, %v", f, fail)
	}
	if got := field.Word("errno"); got != 16 {
		t.Errorf("Word: %d", got)
	}
}
