package census_test

import (
	"bytes"
	"maps"
	"math"
	"math/rand"
	"slices"
	"strings"
	"testing"

	"crawlway/addr"
	"crawlway/api"
	"crawlway/census"
	"crawlway/trace"
)

var one, two = api.Key{1}, api.Key{31: 2}

// some are events of all kinds, and of none.
func some() []api.Event {
	return []api.Event{
		{Kind: api.EventReply, Bytes: make([]byte, 3)},
		{Kind: api.EventSend, Bytes: make([]byte, 64), Key: one},
		{Kind: api.EventDeliver, Bytes: make([]byte, 20), Key: two},
		{Kind: api.EventRefuse, Bytes: make([]byte, 56)},
		{Kind: api.EventDrop, Why: api.ErrRoute},
		{Kind: api.EventPass, Bytes: make([]byte, 148)},
		{Kind: api.EventSend, Bytes: make([]byte, 100), Key: two},
		{Kind: api.EventDrop, Why: api.ErrArg},
		{Kind: api.EventDrop, Why: api.ErrRoute},
		{Kind: 7, Bytes: make([]byte, 5)},
	}
}

// P52.1: what is counted, place by place.
func TestOf(t *testing.T) {
	want := census.Count{
		Kinds: [7]int{1, 1, 2, 1, 1, 3, 1},
		Bytes: [7]int{5, 3, 164, 20, 56, 0, 148},
		Whys:  [21]int{1: 1, 19: 2},
	}
	if got := census.Of(some()...); got != want {
		t.Errorf("Of: %v, not %v", got, want)
	}
	if got := census.Of(); got != (census.Count{}) {
		t.Errorf("Of nothing: %v", got)
	}
}

// P52.1: of each kind its own place, of others 0; whys of drops alone.
func TestOfPlaces(t *testing.T) {
	for _, kind := range []int{0, 1, 2, 3, 4, 5, 6, 7, 8, -1, -6, 20, 256 + 5, 1<<32 + 5, math.MaxInt, math.MinInt} {
		for _, why := range []api.Errno{0, 1, 2, 7, 19, 20, 21, 22, -1, -20, 256 + 7, 1<<32 + 7, math.MaxInt, math.MinInt} {
			var want census.Count
			at := kind
			if kind < 0 || kind > 6 {
				at = 0
			}
			want.Kinds[at], want.Bytes[at] = 1, 9
			if kind == 5 {
				at := why
				if why < 0 || why > 20 {
					at = 0
				}
				want.Whys[at] = 1
			}
			if got := census.Of(api.Event{Kind: kind, Why: why, Bytes: make([]byte, 9), Key: one}); got != want {
				t.Errorf("Of kind %d, why %d: %v, not %v", kind, why, got, want)
			}
		}
	}
}

// filled is a count of whose numbers each is unlike.
func filled(step int) census.Count {
	var c census.Count
	for i := range c.Kinds {
		c.Kinds[i], c.Bytes[i] = step*(i+1), step*(i+100)
	}
	for i := range c.Whys {
		c.Whys[i] = step * (i + 1000)
	}
	return c
}

// P52.1: number by number, wrapping.
func TestAdd(t *testing.T) {
	for _, x := range [][3]int{{1, 1, 2}, {0, 1, 1}, {1, 0, 1}, {2, 3, 5}, {1, -1, 0}, {-2, -3, -5}} {
		if got := census.Add(filled(x[0]), filled(x[1])); got != filled(x[2]) {
			t.Errorf("Add of %v: %v, not %v", x, got, filled(x[2]))
		}
	}
	var most, least census.Count
	for i := range most.Kinds {
		most.Kinds[i], most.Bytes[i], least.Kinds[i], least.Bytes[i] = math.MaxInt, math.MaxInt, math.MinInt, math.MinInt
	}
	for i := range most.Whys {
		most.Whys[i], least.Whys[i] = math.MaxInt, math.MinInt
	}
	var ones census.Count
	for i := range ones.Kinds {
		ones.Kinds[i], ones.Bytes[i] = 1, 1
	}
	for i := range ones.Whys {
		ones.Whys[i] = 1
	}
	if got := census.Add(most, ones); got != least {
		t.Errorf("Add to the greatest: %v", got)
	}
	if got := census.Add(least, least); got != (census.Count{}) {
		t.Errorf("Add of the least: %v", got)
	}
	a, b := filled(1), filled(2)
	census.Add(a, b)
	if a != filled(1) || b != filled(2) {
		t.Errorf("Add: handed in: %v, %v", a, b)
	}
}

// P52.2: of each key those two kinds alone, be it the zero key.
func TestBy(t *testing.T) {
	want := map[api.Key]census.Count{
		one: {Kinds: [7]int{2: 1}, Bytes: [7]int{2: 64}},
		two: {Kinds: [7]int{2: 1, 3: 1}, Bytes: [7]int{2: 100, 3: 20}},
	}
	if got := census.By(some()); !maps.Equal(got, want) {
		t.Errorf("By: %v, not %v", got, want)
	}
	for _, l := range [][]api.Event{nil, {}} {
		if got := census.By(l); len(got) != 0 {
			t.Errorf("By of nothing: %v", got)
		}
	}
	for kind := -1; kind < 9; kind++ {
		l := []api.Event{{Kind: kind, Key: one, Why: 3, Bytes: make([]byte, 2)}, {Kind: kind, Bytes: make([]byte, 3)}, {Kind: kind, Key: one}}
		want := map[api.Key]census.Count{}
		if kind == 2 || kind == 3 {
			var c, zero census.Count
			c.Kinds[kind], c.Bytes[kind] = 2, 2
			zero.Kinds[kind], zero.Bytes[kind] = 1, 3
			want[one], want[api.Key{}] = c, zero
		}
		if got := census.By(l); !maps.Equal(got, want) {
			t.Errorf("By of kind %d: %v, not %v", kind, got, want)
		}
	}
}

// P52.3: a line of each that there is, in order.
func TestText(t *testing.T) {
	all := "reply 2 101\nsend 3 102\ndeliver 4 103\nrefuse 5 104\ndrop 6 105\npass 7 106\n"
	for what, x := range map[string]struct {
		c    census.Count
		want string
	}{
		"nothing":           {census.Count{}, ""},
		"all kinds":         {census.Count{Kinds: filled(1).Kinds, Bytes: filled(1).Bytes}, all},
		"no kind":           {census.Count{Kinds: [7]int{9}, Bytes: [7]int{9}, Whys: [21]int{9}}, ""},
		"bytes alone":       {census.Count{Bytes: filled(1).Bytes}, ""},
		"no bytes":          {census.Count{Kinds: [7]int{1: 1}}, "reply 1 0\n"},
		"the last ones":     {census.Count{Kinds: [7]int{6: 10}, Bytes: [7]int{6: 1000}, Whys: [21]int{20: 3}}, "pass 10 1000\nwhy 20 3\n"},
		"the first why":     {census.Count{Whys: [21]int{1: 1}}, "why 1 1\n"},
		"some":              {census.Of(some()...), "reply 1 3\nsend 2 164\ndeliver 1 20\nrefuse 1 56\ndrop 3 0\npass 1 148\nwhy 1 1\nwhy 19 2\n"},
		"below 0":           {census.Count{Kinds: [7]int{2: -1}, Bytes: [7]int{2: -10}, Whys: [21]int{7: -2}}, "send -1 -10\nwhy 7 -2\n"},
		"the greatest ones": {census.Count{Kinds: [7]int{3: math.MaxInt}, Bytes: [7]int{3: math.MinInt}}, "deliver 9223372036854775807 -9223372036854775808\n"},
	} {
		if got := census.Text(x.c); got != x.want {
			t.Errorf("Text, %s: %q, not %q", what, got, x.want)
		}
	}
	if got := census.Text(filled(1)); !strings.HasPrefix(got, all+"why 1 1001\nwhy 2 1002\n") || !strings.HasSuffix(got, "why 19 1019\nwhy 20 1020\n") || strings.Count(got, "\n") != 26 {
		t.Errorf("Text: %q", got)
	}
}

// P52.3: a kind's word is the first one of its line.
func TestTextWords(t *testing.T) {
	for kind := 1; kind <= 6; kind++ {
		x := api.Event{Kind: kind}
		if kind == 5 {
			x.Why = 1
		} else {
			x.To = api.Endpoint{A: addr.Four([4]byte{1}), Port: 1}
		}
		if !trace.Right(x) {
			x.To = api.Endpoint{}
		}
		line, fail := trace.Text(x)
		word, _, _ := strings.Cut(line, " ")
		if got := census.Text(census.Of(x)); fail != api.OK || !strings.HasPrefix(got, word+" 1 0\n") {
			t.Errorf("Text of kind %d: %q, not %s, %v", kind, got, word, fail)
		}
	}
}

// anyEvent is some event, right or not.
func anyEvent(source *rand.Rand) api.Event {
	return api.Event{Kind: source.Intn(9) - 1, Why: api.Errno(source.Intn(24) - 1), Key: api.Key{byte(source.Intn(3))}, Bytes: make([]byte, source.Intn(50))}
}

// P52.4: what is counted of two lists, added, is what is counted of both, also by keys.
func TestFollows(t *testing.T) {
	source := rand.New(rand.NewSource(52))
	for range 1000 {
		var l []api.Event
		for range source.Intn(40) {
			l = append(l, anyEvent(source))
		}
		at := source.Intn(len(l) + 1)
		whole := census.Of(l...)
		if got := census.Add(census.Of(l[:at]...), census.Of(l[at:]...)); got != whole {
			t.Fatalf("Add: %v, not %v", got, whole)
		}
		all := census.By(l)
		var sum census.Count
		for k, c := range all {
			own := slices.DeleteFunc(slices.Clone(l), func(x api.Event) bool { return x.Key != k || x.Kind != 2 && x.Kind != 3 })
			if got := census.Of(own...); got != c {
				t.Fatalf("By: %v, not %v", c, got)
			}
			sum = census.Add(sum, c)
		}
		if sum.Kinds != [7]int{2: whole.Kinds[2], 3: whole.Kinds[3]} || sum.Bytes != [7]int{2: whole.Bytes[2], 3: whole.Bytes[3]} || sum.Whys != [21]int{} {
			t.Fatalf("By: %v, of %v", all, whole)
		}
	}
}

// R2: what is handed in is as it was, and what is answered is new.
func TestAnew(t *testing.T) {
	l := some()
	census.Of(l...)
	all := census.By(l)
	clear(all)
	same := func(a, b api.Event) bool {
		return a.Kind == b.Kind && a.Why == b.Why && a.Key == b.Key && bytes.Equal(a.Bytes, b.Bytes)
	}
	if !slices.EqualFunc(l, some(), same) {
		t.Errorf("handed in: %v", l)
	}
	if got := census.By(l); len(got) != 2 {
		t.Errorf("By: %v", got)
	}
}

// The chapter's example.
func TestExample(t *testing.T) {
	if got := census.Text(census.Of(api.Event{Kind: api.EventDrop, Why: api.ErrFull})); got != "drop 1 0\nwhy 7 1\n" {
		t.Errorf("Text: %q", got)
	}
}
