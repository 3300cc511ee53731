package device_test

import (
	"bytes"
	"math"
	"math/rand"
	"slices"
	"strconv"
	"strings"
	"testing"

	"crawlway/addr"
	"crawlway/api"
	"crawlway/compile"
	"crawlway/data"
	"crawlway/device"
	"crawlway/getres"
	"crawlway/hostport"
	"crawlway/inbound"
	"crawlway/iniread"
	"crawlway/iniwrite"
	"crawlway/ipfour"
	"crawlway/keys"
	"crawlway/outbound"
	"crawlway/packet"
	"crawlway/padding"
	"crawlway/sessions"
	"crawlway/state"
	"crawlway/trace"
	"crawlway/uapi"
	"crawlway/view"
)

// key is the key of a number, hex its text in requests.
func key(i int) api.Key { return api.Key{30: byte(i >> 8), 31: byte(i)} }

func hex(i int) string { return keys.Hex(key(i)) }

// set is an item of a request, of lines behind the first one; load of a file, of lines.
func set(l ...string) api.Item {
	return api.Item{Kind: api.ItemSet, Bytes: []byte(strings.Join(append([]string{"set=1"}, l...), "\n") + "\n\n")}
}

func get() api.Item { return api.Item{Kind: api.ItemSet, Bytes: []byte("get=1\n\n")} }

func load(l ...string) api.Item {
	return api.Item{Kind: api.ItemLoad, Bytes: []byte(strings.Join(l, "\n"))}
}

// install is an item of a session of the key of a number.
func install(i int, local uint32) api.Item {
	return api.Item{Kind: api.ItemInstall, Key: key(i), Local: local, Remote: local + 70, Next: uint64(local) * 100}
}

func forget(local uint32) api.Item { return api.Item{Kind: api.ItemForget, Local: local} }

// between is a packet between two addresses, with so many bytes.
func between(src, dst [4]byte, n int) []byte {
	b, _ := ipfour.Put(api.Head{Proto: 17, Src: addr.Four(src), Dst: addr.Four(dst)}, make([]byte, n))
	return b
}

// out is an item of a packet that is sealed; in that of a datagram that is opened.
func out(b []byte) api.Item {
	padded, _ := padding.Pad(b)
	return api.Item{Kind: api.ItemOut, Bytes: b, Result: append(make([]byte, 16), padded...), Ok: true}
}

func in(local uint32, n uint64, b []byte) api.Item {
	padded, _ := padding.Pad(b)
	d, _ := data.Bytes(api.Transport{Receiver: local, Counter: n, Body: make([]byte, len(padded)+16)})
	from, _ := hostport.Parse("192.0.2.7:7")
	return api.Item{Kind: api.ItemIn, Bytes: d, From: from, Result: padded, Ok: true}
}

func reply(s string) api.Event { return api.Event{Kind: api.EventReply, Bytes: []byte(s)} }

// refused is the reply of an error.
func refused(e api.Errno) api.Event { return reply("errno=" + strconv.Itoa(int(e)) + "\n\n") }

func drop(why api.Errno) api.Event { return api.Event{Kind: api.EventDrop, Why: why} }

// tells holds events against those that are due.
func tells(t *testing.T, what string, got []api.Event, want ...api.Event) {
	t.Helper()
	if !slices.EqualFunc(got, want, trace.Same) {
		t.Errorf("%s: %v, not %v", what, got, want)
	}
}

// steps asks a device for what comes of an item.
func steps(t *testing.T, d *device.Device, x api.Item, want ...api.Event) {
	t.Helper()
	tells(t, "Step of "+strconv.Quote(string(x.Bytes)), d.Step(x), want...)
}

// locals asks for the numbers of a device's sessions.
func locals(t *testing.T, d *device.Device, want ...uint32) {
	t.Helper()
	if got := d.Locals(); !slices.Equal(got, want) {
		t.Errorf("Locals: %v, not %v", got, want)
	}
}

// made is a device with three peers, and four sessions: 1 and 4 of the first one, 2, and 3.
func made(t *testing.T) *device.Device {
	t.Helper()
	d := device.New()
	steps(t, d, set("listen_port=9",
		"public_key="+hex(1), "endpoint=192.0.2.1:1001", "allowed_ip=10.1.0.0/16",
		"public_key="+hex(2), "endpoint=192.0.2.2:1002", "allowed_ip=10.2.0.0/16",
		"public_key="+hex(3), "allowed_ip=10.3.0.0/16"), refused(api.OK))
	tells(t, "Run", d.Run(install(1, 1), install(2, 2), install(3, 3), install(1, 4)))
	locals(t, d, 1, 2, 3, 4)
	return d
}

// P49.1: a new device has nothing.
func TestNew(t *testing.T) {
	d := device.New()
	locals(t, d)
	if !view.Same(d.Conf(), api.Conf{}) {
		t.Errorf("Conf: %v", d.Conf())
	}
	e := device.New()
	d.Step(set("listen_port=9"))
	if e.Conf().Port != 0 || d.Conf().Port != 9 {
		t.Errorf("Conf: %v, %v", d.Conf(), e.Conf())
	}
}

// P49.1, P49.2: a request is answered as layer 41 answers it.
func TestSet(t *testing.T) {
	d, s := device.New(), state.New()
	for _, x := range []api.Item{
		get(),
		set("listen_port=51820", "public_key="+hex(1), "allowed_ip=10.0.0.0/8"),
		get(),
		set("listen_port=65536"),
		set("nope=1"),
		set("public_key=" + hex(0)),
		{Kind: api.ItemSet},
		{Kind: api.ItemSet, Bytes: []byte("get=1\n")},
		set("public_key="+hex(1), "remove=true", "public_key="+hex(2), "allowed_ip=::/0"),
		get(),
	} {
		steps(t, d, x, reply(string(uapi.Serve(s, x.Bytes))))
		if !view.Same(d.Conf(), view.Of(s)) {
			t.Errorf("Conf: %v, not %v", d.Conf(), view.Of(s))
		}
	}
}

// P49.1: a file is read and done, or the error is told, and nothing has changed.
func TestLoad(t *testing.T) {
	peer := func(i int, l ...string) []string {
		return append([]string{"[Peer]", "PublicKey = " + keys.Text(key(i))}, l...)
	}
	d := made(t)
	steps(t, d, load(append(peer(2, "Endpoint = 192.0.2.9:9", "AllowedIPs = 10.9.0.0/16, ::/0"), "[Interface]", "ListenPort = 7")...), refused(api.OK))
	end, _ := hostport.Parse("192.0.2.9:9")
	c := d.Conf()
	if c.Port != 7 || len(c.Peers) != 1 || c.Peers[0].Key != key(2) || c.Peers[0].End != end || len(c.Peers[0].Allowed) != 2 {
		t.Errorf("Conf: %v", c)
	}
	var many []string
	for i := range 17 {
		many = append(many, peer(100+i)...)
	}
	for text, want := range map[string]api.Errno{
		"[Interface]\nMTU = 5\n":            api.ErrWord,
		"[Interface]\nListenPort = 65536\n": api.ErrRange,
		"[Interface]\n[Interface]\n":        api.ErrTwice,
		"nothing\n":                         api.ErrForm,
		"[Peer]\n":                          api.ErrNone,
		strings.Join(peer(0), "\n"):         api.ErrZero,
		strings.Repeat("x", 513):            api.ErrLong,
		"[Interface]\nListenPort=8\n" + strings.Join(many, "\n"): api.ErrFull,
	} {
		steps(t, d, api.Item{Kind: api.ItemLoad, Bytes: []byte(text)}, refused(want))
		if !view.Same(d.Conf(), c) {
			t.Errorf("Conf: %v, not %v", d.Conf(), c)
		}
	}
	steps(t, d, load(), refused(api.OK))
	if !view.Same(d.Conf(), api.Conf{}) {
		t.Errorf("Conf: %v", d.Conf())
	}
}

// P49.1: sessions are there only of peers; what layer 31 refuses is told.
func TestInstall(t *testing.T) {
	d := made(t)
	steps(t, d, install(9, 9), drop(api.ErrNone))
	steps(t, d, install(0, 9), drop(api.ErrNone))
	steps(t, d, install(9, 1), drop(api.ErrNone))
	steps(t, d, install(2, 1), drop(api.ErrTwice))
	steps(t, d, install(2, 2), drop(api.ErrTwice))
	locals(t, d, 1, 2, 3, 4)
	steps(t, d, install(1, 0))
	locals(t, d, 0, 2, 3, 4)
	steps(t, d, install(2, math.MaxUint32))
	locals(t, d, 0, 2, 3, 4, math.MaxUint32)
	x := install(3, 33)
	x.Remote, x.Next = 0x0a0b0c0d, 1<<50
	steps(t, d, x)
	d.Step(in(33, 0, between([4]byte{10, 3, 0, 1}, [4]byte{1}, 5)))
	l := d.Step(out(between([4]byte{1}, [4]byte{10, 3, 0, 1}, 5)))
	if len(l) != 1 || l[0].Kind != api.EventSend || l[0].Key != key(3) {
		t.Fatalf("Step: %v", l)
	}
	if m, fail := data.Parse(l[0].Bytes); fail != api.OK || m.Receiver != 0x0a0b0c0d || m.Counter != 1<<50 {
		t.Errorf("Step: %v, %v", m, fail)
	}
}

// P49.1: what is forgotten is there no more.
func TestForget(t *testing.T) {
	d := made(t)
	steps(t, d, forget(9), drop(api.ErrNone))
	steps(t, d, forget(2))
	locals(t, d, 1, 3, 4)
	steps(t, d, forget(2), drop(api.ErrNone))
	steps(t, d, forget(4))
	l := d.Step(out(between([4]byte{1}, [4]byte{10, 1, 0, 1}, 5)))
	if m, fail := data.Parse(l[0].Bytes); fail != api.OK || m.Receiver != 71 || m.Counter != 100 {
		t.Errorf("Step: %v, %v", m, fail)
	}
	d.Run(forget(1), forget(3))
	locals(t, d)
}

// P49.1: of no kind.
func TestKind(t *testing.T) {
	d := made(t)
	c := d.Conf()
	for _, kind := range []int{0, 7, 8, 9, -1, -2, 256 + 1, 1<<32 + 1, math.MaxInt, math.MinInt} {
		x := set("listen_port=1")
		x.Kind = kind
		steps(t, d, x, drop(api.ErrKind))
	}
	if !view.Same(d.Conf(), c) {
		t.Errorf("Conf: %v, not %v", d.Conf(), c)
	}
	locals(t, d, 1, 2, 3, 4)
}

// P49.1: sessions go of each key whose peer went, or came again; of no others.
func TestLeave(t *testing.T) {
	all := []uint32{1, 2, 3, 4}
	for name, x := range map[string]struct {
		item api.Item
		left []uint32
	}{
		"get":                    {get(), all},
		"nothing":                {set(), all},
		"another port":           {set("listen_port=1"), all},
		"another peer":           {set("public_key=" + hex(9)), all},
		"another endpoint":       {set("public_key="+hex(1), "endpoint=192.0.2.9:9"), all},
		"no prefixes":            {set("public_key="+hex(1), "replace_allowed_ips=true"), all},
		"the prefixes of all":    {set("public_key="+hex(9), "allowed_ip=10.1.0.0/16", "allowed_ip=10.2.0.0/16"), all},
		"one goes":               {set("public_key="+hex(1), "remove=true"), []uint32{2, 3}},
		"another one goes":       {set("public_key="+hex(2), "remove=true"), []uint32{1, 3, 4}},
		"one that was not there": {set("public_key="+hex(9), "remove=true"), all},
		"one goes and comes":     {set("public_key="+hex(1), "remove=true", "public_key="+hex(1), "allowed_ip=10.1.0.0/16"), []uint32{2, 3}},
		"the last one, likewise": {set("public_key="+hex(3), "remove=true", "public_key="+hex(3)), []uint32{1, 2, 4}},
		"all go":                 {set("replace_peers=true"), nil},
		"all but one go":         {set("replace_peers=true", "public_key="+hex(2)), nil},
		"all come again":         {set("replace_peers=true", "public_key="+hex(1), "public_key="+hex(2), "public_key="+hex(3)), nil},
		"a wrong request":        {set("replace_peers=true", "nope=1"), all},
		"no request":             {api.Item{Kind: api.ItemSet}, all},
		"a file":                 {load("[Interface]"), nil},
		"a file of one":          {load("[Peer]", "PublicKey = "+keys.Text(key(1))), nil},
		"a file of all":          {load("[Peer]", "PublicKey="+keys.Text(key(1)), "[Peer]", "PublicKey="+keys.Text(key(2)), "[Peer]", "PublicKey="+keys.Text(key(3))), nil},
		"a wrong file":           {load("[Peer]"), all},
	} {
		d := made(t)
		d.Step(x.item)
		if got := d.Locals(); !slices.Equal(got, x.left) {
			t.Errorf("%s: %v, not %v", name, got, x.left)
		}
	}
}

// P49.1: of what can't be done no session goes, though its first parts take peers away.
func TestLeaveFull(t *testing.T) {
	var many []string
	for i := range 17 {
		many = append(many, "public_key="+hex(100+i))
	}
	d := made(t)
	steps(t, d, set(append([]string{"public_key=" + hex(1), "remove=true"}, many...)...), refused(api.ErrFull))
	steps(t, d, set(append([]string{"replace_peers=true"}, many...)...), refused(api.ErrFull))
	locals(t, d, 1, 2, 3, 4)
	steps(t, d, in(1, 0, between([4]byte{10, 1, 0, 1}, [4]byte{1}, 5)), api.Event{Kind: api.EventDeliver, Bytes: between([4]byte{10, 1, 0, 1}, [4]byte{1}, 5), Key: key(1)})
}

// P49.1: of a peer that came again the sessions are new ones.
func TestAgain(t *testing.T) {
	d := made(t)
	b := between([4]byte{10, 1, 0, 1}, [4]byte{1}, 5)
	steps(t, d, in(1, 5, b), api.Event{Kind: api.EventDeliver, Bytes: b, Key: key(1)})
	d.Step(set("public_key="+hex(1), "remove=true", "public_key="+hex(1), "allowed_ip=10.1.0.0/16"))
	steps(t, d, in(1, 6, b), drop(api.ErrNone))
	if c := d.Conf(); len(c.Peers) != 3 || c.Peers[2].Key != key(1) || c.Peers[2].Got != 0 {
		t.Errorf("Conf: %v", c)
	}
	steps(t, d, install(1, 1))
	steps(t, d, in(1, 5, b), api.Event{Kind: api.EventDeliver, Bytes: b, Key: key(1)})
	// The sessions of one that stays are the same ones through all requests.
	steps(t, d, in(1, 5, b), drop(api.ErrSeen))
	d.Run(set("public_key="+hex(1), "replace_allowed_ips=true"), get(), set("public_key="+hex(2), "remove=true"))
	steps(t, d, in(1, 5, b), drop(api.ErrSeen))
	steps(t, d, in(1, 6, b), drop(api.ErrOwner))
}

// P49.1: each kind takes what is its own, whatever the other fields are.
func TestFields(t *testing.T) {
	b := between([4]byte{1}, [4]byte{10, 1, 0, 1}, 5)
	for _, x := range []api.Item{set("fwmark=3"), get(), load("[Interface]"), out(b), in(1, 3, between([4]byte{10, 1, 0, 1}, [4]byte{1}, 5)), install(2, 9), forget(2)} {
		full := api.Item{Kind: x.Kind, Bytes: []byte("get=1\n\n"), Result: []byte{1}, Ok: true, Key: key(1), Local: 1, Remote: 1, Next: 1}
		full.From, _ = hostport.Parse("192.0.2.1:1")
		switch x.Kind {
		case api.ItemIn:
			full.From = x.From
			fallthrough
		case api.ItemOut:
			full.Result, full.Ok = x.Result, x.Ok
			fallthrough
		case api.ItemSet, api.ItemLoad:
			full.Bytes = x.Bytes
		case api.ItemInstall:
			full.Key, full.Remote, full.Next = x.Key, x.Remote, x.Next
			fallthrough
		case api.ItemForget:
			full.Local = x.Local
		}
		d, e := made(t), made(t)
		tells(t, "Step", d.Step(full), e.Step(x)...)
		if !view.Same(d.Conf(), e.Conf()) || !slices.Equal(d.Locals(), e.Locals()) {
			t.Errorf("Step of %v: %v, %v, not %v, %v", full, d.Conf(), d.Locals(), e.Conf(), e.Locals())
		}
	}
}

// plain is a device told by its layers, its sessions held by their keys' numbers.
type plain struct {
	s   *state.State
	x   *sessions.Table
	ids map[uint32]int
}

func (p *plain) step(x api.Item) []api.Event {
	switch x.Kind {
	case api.ItemSet:
		b := uapi.Serve(p.s, x.Bytes)
		p.clean()
		return []api.Event{reply(string(b))}
	case api.ItemLoad:
		file, _, fail := iniread.Read(string(x.Bytes))
		if fail == api.OK {
			fail = p.s.Apply(compile.Request(file))
		}
		p.clean()
		return []api.Event{reply(getres.Refusal(fail))}
	case api.ItemOut:
		return outbound.Send(p.s, p.x, x.Bytes, x.Result, x.Ok)
	case api.ItemIn:
		return inbound.Receive(p.s, p.x, x.Bytes, x.From, x.Result, x.Ok)
	case api.ItemInstall:
		id, is := p.s.Id(x.Key)
		if !is {
			return []api.Event{drop(api.ErrNone)}
		}
		if fail := p.x.Install(x.Key, x.Local, x.Remote, x.Next); fail != api.OK {
			return []api.Event{drop(fail)}
		}
		p.ids[x.Local] = id
		return nil
	case api.ItemForget:
		if fail := p.x.Forget(x.Local); fail != api.OK {
			return []api.Event{drop(fail)}
		}
		return nil
	}
	return []api.Event{drop(api.ErrKind)}
}

// clean takes out each session that was installed of a peer that is another one now.
func (p *plain) clean() {
	for _, local := range p.x.Locals() {
		with, _ := p.x.Get(local)
		if id, is := p.s.Id(with.Key); !is || id != p.ids[local] {
			p.x.Forget(local)
		}
	}
}

// anyItem is some item.
func anyItem(source *rand.Rand) api.Item {
	i := 1 + source.Intn(3)
	net := [4]byte{10, byte(1 + source.Intn(4)), 0, byte(source.Intn(3))}
	local := uint32(source.Intn(7))
	switch source.Intn(20) {
	case 0:
		return set([]string{"replace_peers=true", "fwmark=7", "listen_port=65536", "public_key=" + hex(0)}[source.Intn(4)])
	case 1:
		return set("public_key="+hex(i), "remove=true")
	case 2:
		return set("public_key="+hex(i), "remove=true", "public_key="+hex(i), "allowed_ip=10."+strconv.Itoa(i)+".0.0/16")
	case 3, 4, 5, 6:
		return set("public_key="+hex(i), "endpoint=192.0.2."+strconv.Itoa(i)+":9", "allowed_ip=10."+strconv.Itoa(i)+".0.0/16")
	case 7:
		if source.Intn(4) > 0 {
			return get()
		}
		return load("[Peer]", "PublicKey = "+keys.Text(key(i)), "AllowedIPs = 10."+strconv.Itoa(i)+".0.0/16", []string{"", "MTU = 1"}[source.Intn(2)])
	case 8, 9, 10, 11:
		return install(i, local)
	case 12:
		return forget(local)
	case 13:
		return api.Item{Kind: source.Intn(20)}
	case 14, 15, 16:
		x := out(between([4]byte{192, 0, 2, 9}, net, source.Intn(40)))
		x.Ok = source.Intn(5) > 0
		return x
	}
	x := in(local, uint64(source.Intn(20)), between(net, [4]byte{192, 0, 2, 9}, source.Intn(40)))
	x.Ok = source.Intn(5) > 0
	return x
}

// P49.1, P49.2: whatever is done, it tells what the layers tell; each event is right (P51.4), and each session a peer's.
func TestFollows(t *testing.T) {
	source := rand.New(rand.NewSource(49))
	kinds := [7]int{}
	for range 150 {
		d, p := device.New(), &plain{s: state.New(), x: sessions.New(), ids: map[uint32]int{}}
		for range 200 {
			x := anyItem(source)
			want := p.step(x)
			got := d.Step(x)
			tells(t, "Step", got, want...)
			if !view.Same(d.Conf(), view.Of(p.s)) || !slices.Equal(d.Locals(), p.x.Locals()) {
				t.Fatalf("Step of %v: %v, %v, not %v, %v", x, d.Conf(), d.Locals(), view.Of(p.s), p.x.Locals())
			}
			for _, e := range got {
				kinds[e.Kind]++
				if !trace.Right(e) {
					t.Fatalf("Step of %v: %v", x, e)
				}
			}
			if t.Failed() {
				t.FailNow()
			}
		}
	}
	if kinds[api.EventSend] < 100 || kinds[api.EventDeliver] < 100 || kinds[api.EventRefuse] < 100 || kinds[api.EventReply] < 100 {
		t.Errorf("%v", kinds)
	}
}

// P49.1: the events of all items, one behind the other.
func TestRun(t *testing.T) {
	source := rand.New(rand.NewSource(50))
	for range 50 {
		var l []api.Item
		for range source.Intn(60) {
			l = append(l, anyItem(source))
		}
		d, e := device.New(), device.New()
		var want []api.Event
		for _, x := range l {
			want = append(want, e.Step(x)...)
		}
		tells(t, "Run", d.Run(l...), want...)
		if !view.Same(d.Conf(), e.Conf()) || !slices.Equal(d.Locals(), e.Locals()) {
			t.Fatalf("Run: %v, %v, not %v, %v", d.Conf(), d.Locals(), e.Conf(), e.Locals())
		}
		tells(t, "Run of nothing", d.Run())
		if !view.Same(d.Conf(), e.Conf()) {
			t.Fatalf("Run of nothing: %v, not %v", d.Conf(), e.Conf())
		}
	}
}

// P49.3: of nil.
func TestNil(t *testing.T) {
	var d *device.Device
	l := []api.Item{get(), set("listen_port=1"), load(), out(between([4]byte{1}, [4]byte{10, 1, 0, 1}, 5)), out(nil), in(1, 1, nil), install(1, 1), forget(1), {}, {Kind: 9}, {Kind: -1}}
	for _, x := range l {
		steps(t, d, x, drop(api.ErrNil))
	}
	tells(t, "Run", d.Run(l[:3]...), drop(api.ErrNil), drop(api.ErrNil), drop(api.ErrNil))
	tells(t, "Run of nothing", d.Run())
	locals(t, d)
	if !view.Same(d.Conf(), api.Conf{}) {
		t.Errorf("Conf: %v", d.Conf())
	}
}

// P1: a zero device has no state that could change, and no sessions.
func TestZero(t *testing.T) {
	d := &device.Device{}
	source := rand.New(rand.NewSource(1))
	for range 500 {
		for _, e := range d.Step(anyItem(source)) {
			if !trace.Right(e) {
				t.Errorf("Step: %v", e)
			}
		}
	}
	locals(t, d)
	if !view.Same(d.Conf(), api.Conf{}) {
		t.Errorf("Conf: %v", d.Conf())
	}
}

// P1: whatever stands in an item.
func TestWild(t *testing.T) {
	source := rand.New(rand.NewSource(2))
	d := made(t)
	some := func() []byte {
		b := make([]byte, source.Intn(70))
		source.Read(b)
		if len(b) > 0 && source.Intn(2) == 0 {
			b[0] = []byte{4, 0x45, 0x60, '[', 's'}[source.Intn(5)]
		}
		return b
	}
	for range 20000 {
		x := api.Item{Kind: source.Intn(8), Bytes: some(), Result: some(), Ok: source.Intn(2) == 0, Key: key(source.Intn(5)), Local: uint32(source.Intn(5)), Next: source.Uint64()}
		x.From = api.Endpoint{A: addr.Four([4]byte{byte(source.Intn(256))}), Port: source.Intn(70000)}
		for _, e := range d.Step(x) {
			if !trace.Right(e) {
				t.Fatalf("Step of %v: %v", x, e)
			}
		}
	}
}

// R2: what is answered is new, and what is handed in is neither changed nor kept.
func TestAnew(t *testing.T) {
	b := between([4]byte{10, 1, 0, 1}, [4]byte{10, 2, 0, 1}, 5)
	d, e := made(t), made(t)
	for _, x := range []api.Item{set("public_key="+hex(2), "allowed_ip=10.9.0.0/16"), get(), out(b), in(1, 1, b), out(between([4]byte{1}, [4]byte{99}, 5)), load("[Interface]", "ListenPort = 5")} {
		kept := x
		kept.Bytes, kept.Result = slices.Clone(x.Bytes), slices.Clone(x.Result)
		l := d.Step(x)
		if !bytes.Equal(x.Bytes, kept.Bytes) || !bytes.Equal(x.Result, kept.Result) {
			t.Errorf("Step: %v is changed", x)
		}
		clear(x.Bytes)
		clear(x.Result)
		tells(t, "Step", l, e.Step(kept)...)
		for _, y := range l {
			clear(y.Bytes)
		}
		if !view.Same(d.Conf(), e.Conf()) {
			t.Errorf("Conf: %v, not %v", d.Conf(), e.Conf())
		}
	}
	d = made(t)
	c, l := d.Conf(), d.Locals()
	c.Peers[0].Allowed[0], c.Peers[1], l[0] = api.Prefix{}, api.Peer{}, 99
	if !view.Same(d.Conf(), made(t).Conf()) {
		t.Errorf("Conf: %v", d.Conf())
	}
	locals(t, d, 1, 2, 3, 4)
}

// The document's examples of the whole, 1 to 3.
func TestWholeRequests(t *testing.T) {
	d := device.New()
	tells(t, "no items", d.Run())
	zero := "private_key=" + hex(0) + "\nlisten_port=0\nfwmark=0\nerrno=0\n\n"
	if text, fail := getres.Text(d.Conf()); text != zero || fail != api.OK {
		t.Errorf("Text: %q, %v", text, fail)
	}
	steps(t, d, get(), reply(zero))
	var many []string
	for i := range 17 {
		many = append(many, "public_key="+hex(1+i))
	}
	steps(t, d, set(many...), refused(api.ErrFull))
	steps(t, d, get(), reply(zero))
	steps(t, d, set(many[:16]...), refused(api.OK))
	steps(t, d, set(many[16]), refused(api.ErrFull))
	if n := len(d.Conf().Peers); n != 16 {
		t.Errorf("Conf: %d peers", n)
	}
}

// The document's examples of the whole, 4 to 9.
func TestWholePackets(t *testing.T) {
	d := device.New()
	d.Run(set("public_key="+hex(1), "endpoint=192.0.2.1:1", "allowed_ip=10.0.0.0/8", "public_key="+hex(2), "endpoint=192.0.2.2:2", "allowed_ip=10.1.0.0/16"), install(1, 1), install(2, 2))
	l := d.Step(out(between([4]byte{10, 0, 0, 1}, [4]byte{10, 1, 2, 3}, 5)))
	if len(l) != 1 || l[0].Kind != api.EventSend || l[0].Key != key(2) || l[0].To.Port != 2 {
		t.Errorf("Step: %v", l)
	}
	l = d.Step(out(between([4]byte{10, 0, 0, 1}, [4]byte{99, 1, 2, 3}, 5)))
	if len(l) != 2 || l[0].Kind != api.EventRefuse {
		t.Fatalf("Step: %v", l)
	}
	tells(t, "nobody's", l[1:], drop(api.ErrRoute))
	if h, fail := packet.Parse(l[0].Bytes); fail != api.OK || h.Dst != addr.Four([4]byte{10, 0, 0, 1}) {
		t.Errorf("Parse: %v, %v", h, fail)
	}
	message, _ := ipfour.Put(api.Head{Proto: 1, Src: addr.Four([4]byte{10, 0, 0, 1}), Dst: addr.Four([4]byte{99})}, []byte{3, 1, 0, 0})
	steps(t, d, out(message), drop(api.ErrRoute))
	b := between([4]byte{10, 0, 0, 7}, [4]byte{1}, 5)
	steps(t, d, in(1, 4, b), api.Event{Kind: api.EventDeliver, Bytes: b, Key: key(1)})
	for _, ok := range []bool{true, false} {
		x := in(1, 4, b)
		x.Ok = ok
		steps(t, d, x, drop(api.ErrSeen))
	}
	b = between([4]byte{10, 1, 0, 7}, [4]byte{1}, 5)
	steps(t, d, in(1, 5, b), drop(api.ErrOwner))
	steps(t, d, in(1, 5, b), drop(api.ErrSeen))
	steps(t, d, set("public_key="+hex(1), "remove=true"), refused(api.OK))
	locals(t, d, 2)
}

// The document's example of the whole, 10.
func TestWholeFile(t *testing.T) {
	d := made(t)
	d.Run(set("fwmark=5", "private_key="+hex(8), "public_key="+hex(2), "preshared_key="+hex(7), "persistent_keepalive_interval=25", "allowed_ip=::/0"), in(1, 1, between([4]byte{10, 1, 0, 1}, [4]byte{1}, 5)))
	text, fail := iniwrite.Text(compile.Of(d.Conf()))
	e := device.New()
	steps(t, e, api.Item{Kind: api.ItemLoad, Bytes: []byte(text)}, refused(api.OK))
	if fail != api.OK || view.Same(e.Conf(), d.Conf()) || !view.Same(e.Conf(), view.Bare(d.Conf())) {
		t.Errorf("Conf: %v, not %v, %v", e.Conf(), d.Conf(), fail)
	}
}

// The chapter's example.
func TestExample(t *testing.T) {
	steps(t, device.New(), api.Item{Kind: 9}, drop(api.ErrKind))
}
