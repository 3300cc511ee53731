package script_test

import (
	"bytes"
	"math"
	"math/rand"
	"slices"
	"strconv"
	"strings"
	"testing"

	"crawlway/addr"
	"crawlway/api"
	"crawlway/hostport"
	"crawlway/keys"
	"crawlway/script"
)

var (
	one  = api.Key{1, 31: 2}
	four = api.Endpoint{A: addr.Four([4]byte{192, 0, 2, 1}), Port: 9}
	six  = api.Endpoint{A: addr.Six([16]byte{32, 1, 15: 1}), Port: 65535}
)

// lines are items and their lines.
func lines() map[string]api.Item {
	return map[string]api.Item{
		"set -":                       {Kind: 1},
		"set 00":                      {Kind: 1, Bytes: []byte{0}},
		"set 6765743d310a0a":          {Kind: api.ItemSet, Bytes: []byte("get=1\n\n")},
		"load -":                      {Kind: 2},
		"load 00ff":                   {Kind: api.ItemLoad, Bytes: []byte{0, 255}},
		"out - !":                     {Kind: 3},
		"out - -":                     {Kind: 3, Ok: true},
		"out 45 !":                    {Kind: api.ItemOut, Bytes: []byte{0x45}},
		"out 45 -":                    {Kind: 3, Bytes: []byte{0x45}, Ok: true},
		"out 45 0a0b":                 {Kind: 3, Bytes: []byte{0x45}, Ok: true, Result: []byte{10, 11}},
		"out - 00":                    {Kind: 3, Ok: true, Result: []byte{0}},
		"in 192.0.2.1:9 - !":          {Kind: 4, From: four},
		"in 192.0.2.1:9 04 -":         {Kind: api.ItemIn, From: four, Bytes: []byte{4}, Ok: true},
		"in [2001::1]:65535 04 ff":    {Kind: 4, From: six, Bytes: []byte{4}, Ok: true, Result: []byte{255}},
		"install " + hex() + " 1 2 3": {Kind: api.ItemInstall, Key: one, Local: 1, Remote: 2, Next: 3},
		"install " + hex() + " 4294967295 4294967294 18446744073709551615": {Kind: 5, Key: one, Local: math.MaxUint32, Remote: math.MaxUint32 - 1, Next: math.MaxUint64},
		"install " + strings.Repeat("0", 64) + " 0 0 0":                    {Kind: 5},
		"forget 0":          {Kind: 6},
		"forget 7":          {Kind: api.ItemForget, Local: 7},
		"forget 4294967295": {Kind: 6, Local: math.MaxUint32},
	}
}

func hex() string { return "01" + strings.Repeat("0", 60) + "02" }

// P50.1, P50.2, P50.4: each line, there and back.
func TestText(t *testing.T) {
	for line, x := range lines() {
		if !script.Right(x) {
			t.Errorf("Right(%v) is false", x)
		}
		if got, fail := script.Text(x); got != line || fail != api.OK {
			t.Errorf("Text(%v): %q, %v, not %q", x, got, fail, line)
		}
		if got, fail := script.Parse(line); !script.Same(got, x) || fail != api.OK {
			t.Errorf("Parse(%q): %v, %v, not %v", line, got, fail, x)
		}
	}
	long := make([]byte, 70000)
	line, _ := script.Text(api.Item{Kind: api.ItemSet, Bytes: long})
	if x, fail := script.Parse(line); line != "set "+strings.Repeat("00", 70000) || fail != api.OK || len(x.Bytes) != 70000 {
		t.Errorf("Text of a long one: %d, %v", len(line), fail)
	}
}

// R1: no bytes are as good as nil.
func TestEmpty(t *testing.T) {
	for kind := range 7 {
		x := api.Item{Kind: kind, Ok: kind == 3, From: []api.Endpoint{4: four, 6: {}}[kind]}
		y := x
		y.Bytes, y.Result = []byte{}, []byte{}
		text, fail := script.Text(x)
		other, again := script.Text(y)
		if text != other || fail != again || script.Right(x) != script.Right(y) || script.Right(x) != (kind > 0) || !script.Same(x, y) {
			t.Errorf("Text of %d: %q, %v, not %q, %v", kind, other, again, text, fail)
		}
	}
}

// wrong asks for an item that is not right.
func wrong(t *testing.T, what string, x api.Item) {
	t.Helper()
	if script.Right(x) {
		t.Errorf("Right, %s: %v is right", what, x)
	}
	if line, fail := script.Text(x); line != "" || fail != api.ErrArg {
		t.Errorf("Text, %s: %q, %v", what, line, fail)
	}
	if text, fail := script.Script(api.Item{Kind: 1}, x, api.Item{Kind: 6}); text != "" || fail != api.ErrArg {
		t.Errorf("Script, %s: %q, %v", what, text, fail)
	}
}

// fields changes each field but Kind, by its name.
func fields() map[string]func(x *api.Item) {
	return map[string]func(x *api.Item){
		"Bytes":  func(x *api.Item) { x.Bytes = append(slices.Clone(x.Bytes), 0) },
		"From":   func(x *api.Item) { x.From.Port++; x.From.A.V = 6 },
		"Result": func(x *api.Item) { x.Result = append(slices.Clone(x.Result), 0) },
		"Ok":     func(x *api.Item) { x.Ok = !x.Ok },
		"Key":    func(x *api.Item) { x.Key[31]++ },
		"Local":  func(x *api.Item) { x.Local += 1 << 31 },
		"Remote": func(x *api.Item) { x.Remote++ },
		"Next":   func(x *api.Item) { x.Next += 1 << 63 },
	}
}

// P50.1: a field that a line does not have must be zero; one that it has may be anything, but for From.
func TestRight(t *testing.T) {
	has := map[int]string{1: "Bytes", 2: "Bytes", 3: "Bytes Result Ok", 4: "From Bytes Result Ok", 5: "Key Local Remote Next", 6: "Local"}
	for kind, names := range has {
		for name, does := range fields() {
			x := api.Item{Kind: kind, Ok: kind == 3 || kind == 4}
			if kind == 4 {
				x.From = four
			}
			does(&x)
			if !strings.Contains(" "+names+" ", " "+name+" ") {
				wrong(t, name, x)
			} else if !script.Right(x) {
				t.Errorf("Right(%v) is false: %s", x, name)
			}
		}
	}
	for name, x := range map[string]api.Item{
		"a result of false":          {Kind: 3, Result: []byte{0}},
		"a result of false, in":      {Kind: 4, From: four, Result: []byte{0}},
		"from none":                  {Kind: 4, Bytes: []byte{4}, Ok: true},
		"from port 0":                {Kind: 4, From: api.Endpoint{A: four.A}},
		"from port -1":               {Kind: 4, From: api.Endpoint{A: four.A, Port: -1}},
		"from port 65536":            {Kind: 4, From: api.Endpoint{A: four.A, Port: 65536}},
		"from no family":             {Kind: 4, From: api.Endpoint{A: api.Addr{V: 5}, Port: 1}},
		"from family 4 and more":     {Kind: 4, From: api.Endpoint{A: api.Addr{V: 4, B: six.A.B}, Port: 1}},
		"ok of a request":            {Kind: 1, Ok: true},
		"ok and a result of a file":  {Kind: 2, Ok: true, Result: []byte{1}},
		"ok and a result of a reset": {Kind: 6, Ok: true, Result: []byte{1}},
	} {
		wrong(t, name, x)
	}
	for _, kind := range []int{0, 7, 8, -1, 255, 256 + 1, 1<<32 + 6, math.MaxInt, math.MinInt} {
		wrong(t, "no kind", api.Item{Kind: kind})
		wrong(t, "no kind", api.Item{Kind: kind, Bytes: []byte{1}})
	}
}

// P50.1: each field of both counts, whatever the kind, right or not.
func TestSame(t *testing.T) {
	all := fields()
	all["nothing"] = func(*api.Item) {}
	all["Kind"] = func(x *api.Item) { x.Kind += 1 << 40 }
	all["a bit of Bytes"] = func(x *api.Item) { x.Bytes = []byte{8} }
	all["a bit of Result"] = func(x *api.Item) { x.Result = []byte{8} }
	for kind := range 8 {
		for first, does := range all {
			for second, did := range all {
				x := api.Item{Kind: kind, Bytes: []byte{9}, Result: []byte{9}, Key: one}
				y := x
				does(&x)
				did(&y)
				if script.Same(x, y) != (first == second) {
					t.Errorf("Same, %s and %s, is not %t", first, second, first == second)
				}
			}
		}
	}
}

// fails asks for a line that is no item's.
func fails(t *testing.T, line string, want api.Errno) {
	t.Helper()
	if x, fail := script.Parse(line); !script.Same(x, api.Item{}) || fail != want {
		t.Errorf("Parse(%.99q): %v, %v, not %v", line, x, fail, want)
	}
}

// P50.2: the first word, ahead of all else.
func TestParseWord(t *testing.T) {
	for _, line := range []string{
		"", " ", "  ", " set -", "Set -", "SET -", "sets -", "se -", "set- -", "set\t-", "set\n", "\nset -", "-", "!", "nope", "nope -", "get -",
		"reply -", "send", "drop 7", "forget\t7", "forget7", "installs", "out!", "1", "6 7", "set=1",
	} {
		fails(t, line, api.ErrWord)
	}
}

// P50.2: how many words there are, ahead of what they are.
func TestParseCount(t *testing.T) {
	for _, line := range []string{
		"set", "load", "out", "in", "install", "forget",
		"set - -", "set  -", "set - ", "set -  ", "set x x", "load - -", "load  00",
		"out -", "out - - -", "out  - -", "out - - ", "out x",
		"in 192.0.2.1:9", "in 192.0.2.1:9 -", "in 192.0.2.1:9 - - -", "in  192.0.2.1:9 - -", "in x x",
		"install " + hex(), "install " + hex() + " 1", "install " + hex() + " 1 2", "install " + hex() + " 1 2 3 4", "install " + hex() + " 1 2 3 ", "install x x",
		"forget ", "forget 1 2", "forget  1", "forget 1 ", "forget x x",
	} {
		fails(t, line, api.ErrForm)
	}
}

// P50.2: of each word its own errors, and of several that of the first one.
func TestParseWrong(t *testing.T) {
	for line, want := range map[string]api.Errno{
		"set ":                                 api.ErrForm,
		"set x":                                api.ErrForm,
		"set 0":                                api.ErrForm,
		"set 000":                              api.ErrForm,
		"set 0A":                               api.ErrForm,
		"set 0g":                               api.ErrForm,
		"set --":                               api.ErrForm,
		"set !":                                api.ErrForm,
		"set -00":                              api.ErrForm,
		"set 00\n":                             api.ErrForm,
		"load !":                               api.ErrForm,
		"load ":                                api.ErrForm,
		"out ! -":                              api.ErrForm,
		"out  -":                               api.ErrForm,
		"out - ":                               api.ErrForm,
		"out - x":                              api.ErrForm,
		"out - !!":                             api.ErrForm,
		"out - !-":                             api.ErrForm,
		"out - !00":                            api.ErrForm,
		"out - 0":                              api.ErrForm,
		"out - FF":                             api.ErrForm,
		"in 192.0.2.1 - -":                     api.ErrForm,
		"in  - -":                              api.ErrForm,
		"in - - -":                             api.ErrForm,
		"in 192.0.2.1:0 - -":                   api.ErrRange,
		"in 192.0.2.1:65536 - -":               api.ErrRange,
		"in 192.0.2.256:1 - -":                 api.ErrRange,
		"in 192.0.2.1:09 - -":                  api.ErrForm,
		"in ::1:9 - -":                         api.ErrForm,
		"in [192.0.2.1]:9 - -":                 api.ErrForm,
		"in 192.0.2.1:0 x x":                   api.ErrRange,
		"in 192.0.2.1:x - -":                   api.ErrForm,
		"in 192.0.2.1:9 ! -":                   api.ErrForm,
		"in 192.0.2.1:9 - x":                   api.ErrForm,
		"in 192.0.2.1:9  -":                    api.ErrForm,
		"in 192.0.2.1:9 - ":                    api.ErrForm,
		"install 00 1 2 3":                     api.ErrShort,
		"install  1 2 3":                       api.ErrShort,
		"install 0 1 2 3":                      api.ErrForm,
		"install - 1 2 3":                      api.ErrForm,
		"install " + hex() + "00 1 2 3":        api.ErrLong,
		"install " + hex()[1:] + " 1 2 3":      api.ErrForm,
		"install " + hex() + " 4294967296 2 3": api.ErrRange,
		"install " + hex() + " 1 4294967296 3": api.ErrRange,
		"install " + hex() + " 1 2 18446744073709551616":        api.ErrRange,
		"install " + hex() + " x 2 3":                           api.ErrForm,
		"install " + hex() + " 1 x 3":                           api.ErrForm,
		"install " + hex() + " 1 2 x":                           api.ErrForm,
		"install " + hex() + " 1 2 03":                          api.ErrForm,
		"install " + hex() + " 1 -2 3":                          api.ErrForm,
		"install 00 x 4294967296 x":                             api.ErrShort,
		"install " + hex() + " 4294967296 x x":                  api.ErrRange,
		"install " + hex() + " 1 x 18446744073709551616":        api.ErrForm,
		"install " + hex() + " 1 4294967296 x":                  api.ErrRange,
		"install " + strings.ToUpper("ab"+hex()[2:]) + " 1 2 3": api.ErrForm,
		"forget 4294967296":                                     api.ErrRange,
		"forget 18446744073709551616":                           api.ErrRange,
		"forget -1":                                             api.ErrForm,
		"forget 07":                                             api.ErrForm,
		"forget +7":                                             api.ErrForm,
		"forget -":                                              api.ErrForm,
		"forget !":                                              api.ErrForm,
		"forget 7\n":                                            api.ErrForm,
		"forget 7\r":                                            api.ErrForm,
	} {
		fails(t, line, want)
	}
}

// P50.2, P50.4: an endpoint is read in other forms than its own.
func TestParseEndpoint(t *testing.T) {
	for line, want := range map[string]string{
		"in [2001:0:0::1]:65535 - !":      "in [2001::1]:65535 - !",
		"in [2001:0::0.0.0.1]:65535 00 -": "in [2001::1]:65535 00 -",
		"in [::FFFF:1.2.3.4]:1 - 0f":      "in [::ffff:102:304]:1 - 0f",
	} {
		x, fail := script.Parse(line)
		if got, again := script.Text(x); fail != api.OK || again != api.OK || got != want {
			t.Errorf("Parse(%q): %v, %v, whose text is %q, %v", line, x, fail, got, again)
		}
	}
}

// P50.3: the lines of all, each with its end.
func TestScript(t *testing.T) {
	var all []api.Item
	var want strings.Builder
	for line, x := range lines() {
		all = append(all, x)
		want.WriteString(line + "\n")
	}
	text, fail := script.Script(all...)
	if text != want.String() || fail != api.OK {
		t.Errorf("Script: %q, %v, not %q", text, fail, want.String())
	}
	got, line, fail := script.Read(text)
	if !slices.EqualFunc(got, all, script.Same) || line != 0 || fail != api.OK {
		t.Errorf("Read: %v, %d, %v, not %v", got, line, fail, all)
	}
	if text, fail := script.Script(); text != "" || fail != api.OK {
		t.Errorf("Script of nothing: %q, %v", text, fail)
	}
	if got, line, fail := script.Read(""); len(got) != 0 || line != 0 || fail != api.OK {
		t.Errorf("Read of nothing: %v, %d, %v", got, line, fail)
	}
	wrong(t, "the last one", api.Item{Kind: 6, Remote: 1})
	if text, fail := script.Script(api.Item{Kind: 6, Remote: 1}); text != "" || fail != api.ErrArg {
		t.Errorf("Script of a wrong one: %q, %v", text, fail)
	}
}

// P50.3: what is no text of lines, or the first line that is wrong.
func TestReadWrong(t *testing.T) {
	for s, want := range map[string]struct {
		line int
		fail api.Errno
	}{
		"set -":                                  {0, api.ErrForm},
		"nope":                                   {0, api.ErrForm},
		"nope\nset -":                            {0, api.ErrForm},
		"set -\nset -\n ":                        {0, api.ErrForm},
		"\n":                                     {1, api.ErrWord},
		"set -\n\n":                              {2, api.ErrWord},
		"\nset -\n":                              {1, api.ErrWord},
		"nope\nset x\n":                          {1, api.ErrWord},
		"set x\nnope\n":                          {1, api.ErrForm},
		"set -\nforget 1\nforget -\n":            {3, api.ErrForm},
		"set -\nforget 4294967296\n \n":          {2, api.ErrRange},
		"set -\r\nforget 1\n":                    {1, api.ErrForm},
		"forget 1\ninstall 00 1 2 3\n":           {2, api.ErrShort},
		strings.Repeat("set -\n", 999) + "set\n": {1000, api.ErrForm},
	} {
		if l, line, fail := script.Read(s); l != nil || line != want.line || fail != want.fail {
			t.Errorf("Read(%.99q): %v, %d, %v, not %v", s, l, line, fail, want)
		}
	}
	if l, line, fail := script.Read(strings.Repeat("forget 3\n", 1000)); len(l) != 1000 || line != 0 || fail != api.OK || l[999].Local != 3 {
		t.Errorf("Read of many: %d, %d, %v", len(l), line, fail)
	}
}

// anyBytes are some.
func anyBytes(source *rand.Rand) []byte {
	b := make([]byte, source.Intn(2)*source.Intn(5))
	source.Read(b)
	return b
}

// anyItem is some right item.
func anyItem(source *rand.Rand) api.Item {
	x := api.Item{Kind: 1 + source.Intn(6)}
	switch x.Kind {
	case api.ItemIn:
		x.From = api.Endpoint{A: addr.Four([4]byte{byte(source.Intn(256)), 9}), Port: 1 + source.Intn(65535)}
		if source.Intn(2) == 0 {
			x.From.A = addr.Six([16]byte{byte(source.Intn(256)), 5: byte(source.Intn(2)), 12: byte(source.Intn(256))})
		}
		fallthrough
	case api.ItemOut:
		x.Ok = source.Intn(2) == 0
		if x.Ok {
			x.Result = anyBytes(source)
		}
		fallthrough
	case api.ItemSet, api.ItemLoad:
		x.Bytes = anyBytes(source)
	case api.ItemInstall:
		source.Read(x.Key[:])
		x.Remote, x.Next = source.Uint32()>>source.Intn(33), source.Uint64()>>source.Intn(65)
		fallthrough
	case api.ItemForget:
		x.Local = source.Uint32() >> source.Intn(33)
	}
	return x
}

// plain is an item's line, told by itself.
func plain(x api.Item) string {
	word := func(b []byte) string {
		if len(b) == 0 {
			return "-"
		}
		s := ""
		for _, c := range b {
			s += strconv.FormatInt(256+int64(c), 16)[1:]
		}
		return s
	}
	answer := "!"
	if x.Ok {
		answer = word(x.Result)
	}
	number := func(n uint64) string { return strconv.FormatUint(n, 10) }
	switch x.Kind {
	case 1:
		return "set " + word(x.Bytes)
	case 2:
		return "load " + word(x.Bytes)
	case 3:
		return "out " + word(x.Bytes) + " " + answer
	case 4:
		return "in " + hostport.Text(x.From) + " " + word(x.Bytes) + " " + answer
	case 5:
		return "install " + keys.Hex(x.Key) + " " + number(uint64(x.Local)) + " " + number(uint64(x.Remote)) + " " + number(x.Next)
	}
	return "forget " + number(uint64(x.Local))
}

// P50.1, P50.3, P50.4: lines and texts of right items are parsed as these.
func TestFollows(t *testing.T) {
	source := rand.New(rand.NewSource(50))
	for range 2000 {
		var l []api.Item
		var want strings.Builder
		for range source.Intn(4) {
			x := anyItem(source)
			line, fail := script.Text(x)
			if !script.Right(x) || fail != api.OK || line != plain(x) {
				t.Fatalf("Text(%v): %q, %v, not %q", x, line, fail, plain(x))
			}
			if y, fail := script.Parse(line); fail != api.OK || !script.Same(x, y) {
				t.Fatalf("Parse(%q): %v, %v", line, y, fail)
			}
			l = append(l, x)
			want.WriteString(line + "\n")
		}
		text, fail := script.Script(l...)
		if fail != api.OK || text != want.String() {
			t.Fatalf("Script(%v): %q, %v", l, text, fail)
		}
		if back, line, fail := script.Read(text); fail != api.OK || line != 0 || !slices.EqualFunc(back, l, script.Same) {
			t.Fatalf("Read(%q): %v, %d, %v", text, back, line, fail)
		}
	}
}

// P50.4, P1: what is parsed is right, and has its line, whatever the line is.
func TestWild(t *testing.T) {
	source := rand.New(rand.NewSource(1))
	words := []string{"set", "load", "out", "in", "install", "forget", "-", "!", "00", "0", "7", "4294967295", "4294967296", "18446744073709551615", hex(), "", "192.0.2.1:9", "[2001:0::1]:9", "x", "nope"}
	parsed := 0
	for range 200000 {
		l := []string{words[source.Intn(7)]}
		for range 1 + source.Intn(4) {
			l = append(l, words[6+source.Intn(len(words)-6)])
		}
		line := strings.Join(l, " ")
		if source.Intn(20) == 0 {
			b := []byte(line)
			b[source.Intn(len(b))] = byte(source.Intn(256))
			line = string(b)
		}
		x, fail := script.Parse(line)
		if fail != api.OK {
			if !script.Same(x, api.Item{}) {
				t.Fatalf("Parse(%q): %v, %v", line, x, fail)
			}
			continue
		}
		parsed++
		text, fail := script.Text(x)
		if !script.Right(x) || fail != api.OK || x.Kind != api.ItemIn && text != line {
			t.Fatalf("Parse(%q): %v, whose line is %q, %v", line, x, text, fail)
		}
	}
	if parsed < 500 {
		t.Errorf("%d parsed", parsed)
	}
}

// P1: no item is such that a call panics.
func TestWildItems(t *testing.T) {
	source := rand.New(rand.NewSource(2))
	for range 20000 {
		x := anyItem(source)
		y := anyItem(source)
		y.Kind = source.Intn(9) - 1
		y.Ok, y.Next, y.From.Port = x.Ok, x.Next, source.Intn(70000)-2
		line, fail := script.Text(y)
		if script.Right(y) != (fail == api.OK) || fail == api.OK && line != plain(y) || fail != api.OK && line != "" {
			t.Fatalf("Text(%v): %q, %v", y, line, fail)
		}
	}
}

// R2: what is handed in is as it was, and what is answered is new.
func TestAnew(t *testing.T) {
	x := api.Item{Kind: 4, From: four, Bytes: []byte{1, 2}, Ok: true, Result: []byte{3}}
	kept := api.Item{Kind: 4, From: four, Bytes: []byte{1, 2}, Ok: true, Result: []byte{3}}
	l := []api.Item{x, {Kind: 5, Key: one, Local: 1, Remote: 2, Next: 3}}
	script.Right(x)
	script.Text(x)
	text, _ := script.Script(l...)
	if !script.Same(x, kept) || !script.Same(l[0], kept) || l[1].Key != one || l[1].Next != 3 {
		t.Errorf("handed in: %v", l)
	}
	back, _, _ := script.Read(text)
	clear(back[0].Bytes)
	clear(back[0].Result)
	if again, _, _ := script.Read(text); !script.Same(again[0], kept) || !bytes.Equal(kept.Bytes, []byte{1, 2}) {
		t.Errorf("Read: %v", again)
	}
}

// The chapter's example.
func TestExample(t *testing.T) {
	if line, fail := script.Text(api.Item{Kind: api.ItemForget, Local: 7}); line != "forget 7" || fail != api.OK {
		t.Errorf("Text: %q, %v", line, fail)
	}
}
