package trace_test

import (
	"math"
	"math/rand"
	"slices"
	"strconv"
	"strings"
	"testing"

	"crawlway/addr"
	"crawlway/api"
	"crawlway/data"
	"crawlway/device"
	"crawlway/hostport"
	"crawlway/ipfour"
	"crawlway/keys"
	"crawlway/padding"
	"crawlway/trace"
)

var (
	one  = api.Key{1, 31: 2}
	four = api.Endpoint{A: addr.Four([4]byte{192, 0, 2, 1}), Port: 9}
	six  = api.Endpoint{A: addr.Six([16]byte{32, 1, 15: 1}), Port: 65535}
)

func hex() string { return "01" + strings.Repeat("0", 60) + "02" }

// lines are events and their lines.
func lines() map[string]api.Event {
	return map[string]api.Event{
		"reply -":                                               {Kind: 1},
		"reply 6572726e6f3d300a0a":                              {Kind: api.EventReply, Bytes: []byte("errno=0\n\n")},
		"send 192.0.2.1:9 " + hex() + " -":                      {Kind: 2, To: four, Key: one},
		"send [2001::1]:65535 " + hex() + " 04":                 {Kind: api.EventSend, To: six, Key: one, Bytes: []byte{4}},
		"send 192.0.2.1:9 " + strings.Repeat("0", 64) + " 00ff": {Kind: 2, To: four, Bytes: []byte{0, 255}},
		"deliver " + hex() + " -":                               {Kind: 3, Key: one},
		"deliver " + strings.Repeat("0", 64) + " 45":            {Kind: api.EventDeliver, Bytes: []byte{0x45}},
		"refuse -":                {Kind: 4},
		"refuse 0a0b":             {Kind: api.EventRefuse, Bytes: []byte{10, 11}},
		"drop 1":                  {Kind: 5, Why: api.ErrArg},
		"drop 9":                  {Kind: 5, Why: api.ErrKind},
		"drop 10":                 {Kind: 5, Why: api.ErrZero},
		"drop 19":                 {Kind: api.EventDrop, Why: api.ErrRoute},
		"drop 20":                 {Kind: 5, Why: api.ErrAway},
		"pass 192.0.2.1:9 -":      {Kind: 6, To: four},
		"pass [2001::1]:65535 03": {Kind: api.EventPass, To: six, Bytes: []byte{3}},
	}
}

// P51.1, P51.2, P51.4: each line, there and back.
func TestText(t *testing.T) {
	for line, x := range lines() {
		if !trace.Right(x) {
			t.Errorf("Right(%v) is false", x)
		}
		if got, fail := trace.Text(x); got != line || fail != api.OK {
			t.Errorf("Text(%v): %q, %v, not %q", x, got, fail, line)
		}
		if got, fail := trace.Parse(line); !trace.Same(got, x) || fail != api.OK {
			t.Errorf("Parse(%q): %v, %v, not %v", line, got, fail, x)
		}
	}
	long := make([]byte, 70000)
	line, _ := trace.Text(api.Event{Kind: api.EventReply, Bytes: long})
	if x, fail := trace.Parse(line); line != "reply "+strings.Repeat("00", 70000) || fail != api.OK || len(x.Bytes) != 70000 {
		t.Errorf("Text of a long one: %d, %v", len(line), fail)
	}
}

// R1: no bytes are as good as nil.
func TestEmpty(t *testing.T) {
	for line, x := range lines() {
		y := x
		if len(x.Bytes) > 0 {
			continue
		}
		y.Bytes = []byte{}
		if got, fail := trace.Text(y); got != line || fail != api.OK || !trace.Same(x, y) {
			t.Errorf("Text(%v): %q, %v, not %q", y, got, fail, line)
		}
	}
}

// wrong asks for an event that is not right.
func wrong(t *testing.T, what string, x api.Event) {
	t.Helper()
	if trace.Right(x) {
		t.Errorf("Right, %s: %v is right", what, x)
	}
	if line, fail := trace.Text(x); line != "" || fail != api.ErrArg {
		t.Errorf("Text, %s: %q, %v", what, line, fail)
	}
	if text, fail := trace.Trace(api.Event{Kind: 1}, x, api.Event{Kind: 4}); text != "" || fail != api.ErrArg {
		t.Errorf("Trace, %s: %q, %v", what, text, fail)
	}
}

// fields changes each field but Kind, by its name.
func fields() map[string]func(x *api.Event) {
	return map[string]func(x *api.Event){
		"Bytes": func(x *api.Event) { x.Bytes = append(slices.Clone(x.Bytes), 0) },
		"To":    func(x *api.Event) { x.To.Port++; x.To.A.V = 6 },
		"Key":   func(x *api.Event) { x.Key[31]++ },
		"Why":   func(x *api.Event) { x.Why++ },
	}
}

// P51.1: a field that a line does not have must be zero; of one that it has a value may be any, but for To and Why.
func TestRight(t *testing.T) {
	has := map[int]string{1: "Bytes", 2: "To Key Bytes", 3: "Key Bytes", 4: "Bytes", 5: "Why", 6: "To Bytes"}
	for kind, names := range has {
		for name, does := range fields() {
			x := api.Event{Kind: kind}
			if kind == 2 || kind == 6 {
				x.To = four
			}
			if kind == 5 {
				x.Why = 3
			}
			does(&x)
			if !strings.Contains(" "+names+" ", " "+name+" ") {
				wrong(t, name, x)
			} else if !trace.Right(x) {
				t.Errorf("Right(%v) is false: %s", x, name)
			}
		}
	}
	for name, x := range map[string]api.Event{
		"to none":              {Kind: 2, Key: one},
		"to none, pass":        {Kind: 6, Bytes: []byte{3}},
		"to port 0":            {Kind: 2, To: api.Endpoint{A: four.A}},
		"to port -1":           {Kind: 6, To: api.Endpoint{A: four.A, Port: -1}},
		"to port 65536":        {Kind: 6, To: api.Endpoint{A: four.A, Port: 65536}},
		"to no family":         {Kind: 6, To: api.Endpoint{A: api.Addr{V: 5}, Port: 1}},
		"to family 4 and more": {Kind: 2, To: api.Endpoint{A: api.Addr{V: 4, B: six.A.B}, Port: 1}},
		"why 0":                {Kind: 5},
		"why 21":               {Kind: 5, Why: 21},
		"why 256 and 1":        {Kind: 5, Why: 257},
		"why -1":               {Kind: 5, Why: -1},
		"why the least":        {Kind: 5, Why: math.MinInt},
		"why the greatest":     {Kind: 5, Why: math.MaxInt},
		"why of a reply":       {Kind: 1, Why: 1},
		"why -1 of a refusal":  {Kind: 4, Why: -1},
	} {
		wrong(t, name, x)
	}
	for why := api.ErrArg; why <= api.ErrAway; why++ {
		if !trace.Right(api.Event{Kind: 5, Why: why}) {
			t.Errorf("Right of why %d is false", why)
		}
	}
	for _, kind := range []int{0, 7, 8, -1, 255, 256 + 1, 1<<32 + 4, math.MaxInt, math.MinInt} {
		wrong(t, "no kind", api.Event{Kind: kind})
		wrong(t, "no kind", api.Event{Kind: kind, Bytes: []byte{1}})
	}
}

// P51.1: each field of both counts, whatever the kind, right or not.
func TestSame(t *testing.T) {
	all := fields()
	all["nothing"] = func(*api.Event) {}
	all["Kind"] = func(x *api.Event) { x.Kind += 1 << 40 }
	all["a bit of Bytes"] = func(x *api.Event) { x.Bytes = []byte{8} }
	for kind := range 8 {
		for first, does := range all {
			for second, did := range all {
				x := api.Event{Kind: kind, Bytes: []byte{9}, Key: one}
				y := x
				does(&x)
				did(&y)
				if trace.Same(x, y) != (first == second) {
					t.Errorf("Same, %s and %s, is not %t", first, second, first == second)
				}
			}
		}
	}
}

// fails asks for a line that is no event's.
func fails(t *testing.T, line string, want api.Errno) {
	t.Helper()
	if x, fail := trace.Parse(line); !trace.Same(x, api.Event{}) || fail != want {
		t.Errorf("Parse(%.99q): %v, %v, not %v", line, x, fail, want)
	}
}

// P51.2: the first word, ahead of all else; then how many words there are, ahead of what they are.
func TestParseWords(t *testing.T) {
	for _, line := range []string{
		"", " ", "  ", " reply -", "Reply -", "DROP 7", "drops 7", "dro 7", "drop\t7", "reply\n", "\nreply -", "-", "!", "nope -",
		"set -", "out - -", "install", "forget 7", "drop7", "5 7", "drop=7", "why 7 1",
	} {
		fails(t, line, api.ErrWord)
	}
	for _, line := range []string{
		"reply", "send", "deliver", "refuse", "drop", "pass",
		"reply - -", "reply  -", "reply - ", "reply x x", "refuse - -", "refuse  00",
		"send 192.0.2.1:9", "send 192.0.2.1:9 " + hex(), "send 192.0.2.1:9 " + hex() + " - -", "send 192.0.2.1:9 " + hex() + " - ", "send x x",
		"deliver " + hex(), "deliver " + hex() + " - -", "deliver  " + hex() + " -", "deliver x x x",
		"drop ", "drop 1 2", "drop  1", "drop 1 ", "drop x x",
		"pass 192.0.2.1:9", "pass 192.0.2.1:9 - -", "pass  192.0.2.1:9 -", "pass x",
	} {
		fails(t, line, api.ErrForm)
	}
}

// P51.2: of each word its own errors, and of several that of the first one.
func TestParseWrong(t *testing.T) {
	for line, want := range map[string]api.Errno{
		"reply ":                                api.ErrForm,
		"reply x":                               api.ErrForm,
		"reply 0":                               api.ErrForm,
		"reply 0A":                              api.ErrForm,
		"reply --":                              api.ErrForm,
		"reply !":                               api.ErrForm,
		"reply 00\n":                            api.ErrForm,
		"refuse ":                               api.ErrForm,
		"refuse !":                              api.ErrForm,
		"refuse 000":                            api.ErrForm,
		"send 192.0.2.1 " + hex() + " -":        api.ErrForm,
		"send - " + hex() + " -":                api.ErrForm,
		"send 192.0.2.1:0 " + hex() + " -":      api.ErrRange,
		"send 192.0.2.1:65536 x x":              api.ErrRange,
		"send 192.0.2.1:9 00 -":                 api.ErrShort,
		"send 192.0.2.1:9 00 x":                 api.ErrShort,
		"send 192.0.2.1:9 " + hex() + "00 x":    api.ErrLong,
		"send 192.0.2.1:9 - -":                  api.ErrForm,
		"send 192.0.2.1:9  -":                   api.ErrShort,
		"send 192.0.2.1:9 " + hex() + " x":      api.ErrForm,
		"send 192.0.2.1:9 " + hex() + " ":       api.ErrForm,
		"deliver 00 -":                          api.ErrShort,
		"deliver 00 x":                          api.ErrShort,
		"deliver " + hex()[1:] + " -":           api.ErrForm,
		"deliver " + hex() + "00 -":             api.ErrLong,
		"deliver " + hex() + " !":               api.ErrForm,
		"deliver " + hex() + " ":                api.ErrForm,
		"drop 0":                                api.ErrRange,
		"drop 21":                               api.ErrRange,
		"drop 257":                              api.ErrRange,
		"drop 18446744073709551617":             api.ErrRange,
		"drop 00":                               api.ErrForm,
		"drop 07":                               api.ErrForm,
		"drop -1":                               api.ErrForm,
		"drop -":                                api.ErrForm,
		"drop x":                                api.ErrForm,
		"drop 7\n":                              api.ErrForm,
		"pass 192.0.2.1 -":                      api.ErrForm,
		"pass  -":                               api.ErrForm,
		"pass 192.0.2.1:0 x":                    api.ErrRange,
		"pass ::1:9 -":                          api.ErrForm,
		"pass 192.0.2.1:9 x":                    api.ErrForm,
		"pass 192.0.2.1:9 ":                     api.ErrForm,
		"pass 192.0.2.1:9 !":                    api.ErrForm,
		"send [2001::1]:9 " + hex()[2:] + " 0x": api.ErrShort,
	} {
		fails(t, line, want)
	}
	for why := api.ErrArg; why <= api.ErrAway; why++ {
		if x, fail := trace.Parse("drop " + strconv.Itoa(int(why))); x.Why != why || fail != api.OK {
			t.Errorf("Parse of why %d: %v, %v", why, x, fail)
		}
	}
}

// P51.2: an endpoint is read in other forms than its own.
func TestParseEndpoint(t *testing.T) {
	for line, want := range map[string]string{
		"pass [2001:0:0::1]:65535 -":               "pass [2001::1]:65535 -",
		"send [2001:0::0.0.0.1]:1 " + hex() + " -": "send [2001::1]:1 " + hex() + " -",
	} {
		x, fail := trace.Parse(line)
		if got, again := trace.Text(x); fail != api.OK || again != api.OK || got != want {
			t.Errorf("Parse(%q): %v, %v, whose text is %q, %v", line, x, fail, got, again)
		}
	}
}

// P51.3: the lines of all, each with its end.
func TestTrace(t *testing.T) {
	var all []api.Event
	var want strings.Builder
	for line, x := range lines() {
		all = append(all, x)
		want.WriteString(line + "\n")
	}
	text, fail := trace.Trace(all...)
	if text != want.String() || fail != api.OK {
		t.Errorf("Trace: %q, %v, not %q", text, fail, want.String())
	}
	got, line, fail := trace.Read(text)
	if !slices.EqualFunc(got, all, trace.Same) || line != 0 || fail != api.OK {
		t.Errorf("Read: %v, %d, %v, not %v", got, line, fail, all)
	}
	if text, fail := trace.Trace(); text != "" || fail != api.OK {
		t.Errorf("Trace of nothing: %q, %v", text, fail)
	}
	if got, line, fail := trace.Read(""); len(got) != 0 || line != 0 || fail != api.OK {
		t.Errorf("Read of nothing: %v, %d, %v", got, line, fail)
	}
	if text, fail := trace.Trace(api.Event{Kind: 5}); text != "" || fail != api.ErrArg {
		t.Errorf("Trace of a wrong one: %q, %v", text, fail)
	}
}

// P51.3: what is no text of lines, or the first line that is wrong.
func TestReadWrong(t *testing.T) {
	for s, want := range map[string]struct {
		line int
		fail api.Errno
	}{
		"reply -":                   {0, api.ErrForm},
		"nope":                      {0, api.ErrForm},
		"nope\nreply -":             {0, api.ErrForm},
		"\n":                        {1, api.ErrWord},
		"reply -\n\n":               {2, api.ErrWord},
		"\nreply -\n":               {1, api.ErrWord},
		"nope\nreply x\n":           {1, api.ErrWord},
		"reply x\nnope\n":           {1, api.ErrForm},
		"reply -\ndrop 1\ndrop -\n": {3, api.ErrForm},
		"reply -\ndrop 0\n \n":      {2, api.ErrRange},
		"reply -\r\ndrop 1\n":       {1, api.ErrForm},
		"drop 1\ndeliver 00 -\n":    {2, api.ErrShort},
		strings.Repeat("drop 1\n", 999) + "drop\n": {1000, api.ErrForm},
	} {
		if l, line, fail := trace.Read(s); l != nil || line != want.line || fail != want.fail {
			t.Errorf("Read(%.99q): %v, %d, %v, not %v", s, l, line, fail, want)
		}
	}
	if l, line, fail := trace.Read(strings.Repeat("drop 3\n", 1000)); len(l) != 1000 || line != 0 || fail != api.OK || l[999].Why != 3 {
		t.Errorf("Read of many: %d, %d, %v", len(l), line, fail)
	}
}

// anyEvent is some right event.
func anyEvent(source *rand.Rand) api.Event {
	x := api.Event{Kind: 1 + source.Intn(6)}
	if x.Kind == api.EventDrop {
		x.Why = api.Errno(1 + source.Intn(20))
		return x
	}
	x.Bytes = make([]byte, source.Intn(2)*source.Intn(5))
	source.Read(x.Bytes)
	if x.Kind == api.EventSend || x.Kind == api.EventDeliver {
		source.Read(x.Key[:])
	}
	if x.Kind == api.EventSend || x.Kind == api.EventPass {
		x.To = api.Endpoint{A: addr.Four([4]byte{byte(source.Intn(256)), 9}), Port: 1 + source.Intn(65535)}
		if source.Intn(2) == 0 {
			x.To.A = addr.Six([16]byte{byte(source.Intn(256)), 5: byte(source.Intn(2)), 12: byte(source.Intn(256))})
		}
	}
	return x
}

// plain is an event's line, told by itself.
func plain(x api.Event) string {
	bytes := "-"
	if len(x.Bytes) > 0 {
		bytes = ""
		for _, c := range x.Bytes {
			bytes += strconv.FormatInt(256+int64(c), 16)[1:]
		}
	}
	switch x.Kind {
	case 1:
		return "reply " + bytes
	case 2:
		return "send " + hostport.Text(x.To) + " " + keys.Hex(x.Key) + " " + bytes
	case 3:
		return "deliver " + keys.Hex(x.Key) + " " + bytes
	case 4:
		return "refuse " + bytes
	case 5:
		return "drop " + strconv.Itoa(int(x.Why))
	}
	return "pass " + hostport.Text(x.To) + " " + bytes
}

// P51.1, P51.3, P51.4: lines and texts of right events are parsed as these.
func TestFollows(t *testing.T) {
	source := rand.New(rand.NewSource(51))
	for range 2000 {
		var l []api.Event
		var want strings.Builder
		for range source.Intn(4) {
			x := anyEvent(source)
			line, fail := trace.Text(x)
			if !trace.Right(x) || fail != api.OK || line != plain(x) {
				t.Fatalf("Text(%v): %q, %v, not %q", x, line, fail, plain(x))
			}
			if y, fail := trace.Parse(line); fail != api.OK || !trace.Same(x, y) {
				t.Fatalf("Parse(%q): %v, %v", line, y, fail)
			}
			l = append(l, x)
			want.WriteString(line + "\n")
		}
		text, fail := trace.Trace(l...)
		if fail != api.OK || text != want.String() {
			t.Fatalf("Trace(%v): %q, %v", l, text, fail)
		}
		if back, line, fail := trace.Read(text); fail != api.OK || line != 0 || !slices.EqualFunc(back, l, trace.Same) {
			t.Fatalf("Read(%q): %v, %d, %v", text, back, line, fail)
		}
	}
}

// P51.4: each event that a device tells is right, and its trace is read as it.
func TestDevice(t *testing.T) {
	d := device.New()
	b, _ := ipfour.Put(api.Head{Src: addr.Four([4]byte{10, 0, 0, 1}), Dst: addr.Four([4]byte{10, 0, 0, 2})}, []byte{1})
	padded, _ := padding.Pad(b)
	away, _ := ipfour.Put(api.Head{Src: addr.Four([4]byte{10, 0, 0, 1}), Dst: addr.Four([4]byte{11, 0, 0, 2})}, nil)
	message, _ := data.Bytes(api.Transport{Receiver: 1, Counter: 1, Body: make([]byte, 48)})
	set := "set=1\npublic_key=" + hex() + "\nendpoint=192.0.2.1:9\nallowed_ip=10.0.0.0/8\n\n"
	l := d.Run(
		api.Item{Kind: api.ItemSet, Bytes: []byte(set)},
		api.Item{Kind: api.ItemInstall, Key: one, Local: 1},
		api.Item{Kind: api.ItemOut, Bytes: b, Result: make([]byte, 48), Ok: true},
		api.Item{Kind: api.ItemIn, Bytes: message, From: six, Result: padded, Ok: true},
		api.Item{Kind: api.ItemOut, Bytes: away},
		api.Item{Kind: api.ItemIn, Bytes: append([]byte{3}, make([]byte, 63)...), From: six},
		api.Item{Kind: api.ItemLoad},
		api.Item{Kind: api.ItemForget, Local: 1},
		api.Item{},
	)
	var kinds []int
	for _, x := range l {
		kinds = append(kinds, x.Kind)
		if !trace.Right(x) {
			t.Errorf("Right(%v) is false", x)
		}
	}
	if !slices.Equal(kinds, []int{1, 2, 3, 4, 5, 6, 1, 5, 5}) {
		t.Errorf("Run: %v", l)
	}
	text, fail := trace.Trace(l...)
	back, line, again := trace.Read(text)
	if fail != api.OK || again != api.OK || line != 0 || !slices.EqualFunc(back, l, trace.Same) {
		t.Errorf("Trace: %q, %v, read as %v, %d, %v", text, fail, back, line, again)
	}
}

// P51.4, P1: what is parsed is right, whatever the line is.
func TestWild(t *testing.T) {
	source := rand.New(rand.NewSource(1))
	words := []string{"reply", "send", "deliver", "refuse", "drop", "pass", "-", "!", "00", "0", "7", "20", "21", hex(), "", "192.0.2.1:9", "[2001:0::1]:9", "x", "nope"}
	parsed := 0
	for range 200000 {
		l := []string{words[source.Intn(7)]}
		for range 1 + source.Intn(3) {
			l = append(l, words[6+source.Intn(len(words)-6)])
		}
		line := strings.Join(l, " ")
		if source.Intn(20) == 0 {
			b := []byte(line)
			b[source.Intn(len(b))] = byte(source.Intn(256))
			line = string(b)
		}
		x, fail := trace.Parse(line)
		if fail != api.OK {
			if !trace.Same(x, api.Event{}) {
				t.Fatalf("Parse(%q): %v, %v", line, x, fail)
			}
			continue
		}
		parsed++
		text, fail := trace.Text(x)
		if !trace.Right(x) || fail != api.OK || x.Kind != 2 && x.Kind != 6 && text != line {
			t.Fatalf("Parse(%q): %v, whose line is %q, %v", line, x, text, fail)
		}
	}
	if parsed < 500 {
		t.Errorf("%d parsed", parsed)
	}
}

// P1: no event is such that a call panics.
func TestWildEvents(t *testing.T) {
	source := rand.New(rand.NewSource(2))
	for range 20000 {
		y := anyEvent(source)
		y.Kind, y.To.Port = source.Intn(9)-1, source.Intn(70000)-2
		if source.Intn(2) == 0 {
			y.To, y.Key, y.Why = api.Endpoint{}, api.Key{}, api.Errno(source.Intn(24)-2)
		}
		line, fail := trace.Text(y)
		if trace.Right(y) != (fail == api.OK) || fail == api.OK && line != plain(y) || fail != api.OK && line != "" {
			t.Fatalf("Text(%v): %q, %v", y, line, fail)
		}
	}
}

// R2: what is handed in is as it was, and what is answered is new.
func TestAnew(t *testing.T) {
	made := func() []api.Event {
		return []api.Event{{Kind: 2, To: four, Key: one, Bytes: []byte{1, 2}}, {Kind: 5, Why: 7}}
	}
	l := made()
	trace.Right(l[0])
	trace.Text(l[0])
	text, _ := trace.Trace(l...)
	if !slices.EqualFunc(l, made(), trace.Same) {
		t.Errorf("handed in: %v", l)
	}
	back, _, _ := trace.Read(text)
	clear(back[0].Bytes)
	if again, _, _ := trace.Read(text); !slices.EqualFunc(again, made(), trace.Same) {
		t.Errorf("Read: %v", again)
	}
}

// The chapter's example.
func TestExample(t *testing.T) {
	if line, fail := trace.Text(api.Event{Kind: api.EventDrop, Why: api.ErrFull}); line != "drop 7" || fail != api.OK {
		t.Errorf("Text: %q, %v", line, fail)
	}
}
