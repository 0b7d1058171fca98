package config_test

import (
	"bytes"
	"encoding/binary"
	"math/rand"
	"reflect"
	"slices"
	"testing"

	"rota/api"
	"rota/config"
)

// written puts a configuration's bytes down as the chapter words them.
func written(c api.Config) []byte {
	b := []byte{82, 79, 84, 65}
	put := func(l ...int) {
		for _, n := range l {
			b = binary.BigEndian.AppendUint32(b, uint32(int32(n)))
		}
	}
	put(c.Nodes, c.Drift, c.Reading, c.Margin, c.Bound, c.Rejoin, c.Quota)
	put(len(c.Owners))
	put(c.Owners...)
	put(len(c.Parts))
	for _, p := range c.Parts {
		put(p.Node, p.From, p.To)
	}
	put(len(c.Windows))
	for _, l := range c.Windows {
		put(len(l))
		put(l...)
	}
	put(len(c.Ports))
	for _, p := range c.Ports {
		put(p.Part, p.Kind, p.Dir, p.Size, p.Depth, p.Fresh)
	}
	put(len(c.Links))
	for _, l := range c.Links {
		put(l.Source, l.Offset, len(l.Dests))
		put(l.Dests...)
	}
	return b
}

// samples are some that may be and some hundred that may not.
func samples() []api.Config {
	l := []api.Config{{}, plain(), full(), bare(), {Windows: [][]int{nil, {}, {5}}, Links: []api.Link{{}, {Source: 1}}}}
	r := rand.New(rand.NewSource(2))
	for range 400 {
		l = append(l, odd(r))
	}
	return l
}

// mustEncode ends the test if there are no bytes.
func mustEncode(t *testing.T, c api.Config) []byte {
	t.Helper()
	b, err := config.Encode(c)
	if err != api.OK {
		t.Fatalf("%v: %v", c, err)
	}
	return b
}

// mustNotDecode tells of anything but ErrForm with an empty configuration.
func mustNotDecode(t *testing.T, what string, b []byte) {
	t.Helper()
	if c, err := config.Decode(b); err != api.ErrForm || !reflect.DeepEqual(c, api.Config{}) {
		t.Errorf("%s: %v, %v", what, c, err)
	}
}

// P2.1: the bytes of the chapter's example.
func TestEncodeExample(t *testing.T) {
	want := []byte("ROTA" +
		"\x00\x00\x00\x04\x00\x00\x00\x0a\x00\x00\x00\x02\x00\x00\x00\x3c\x00\x00\x00\x3c\x00\x00\x00\x01\x00\x00\x00\x01" +
		"\x00\x00\x00\x04\x00\x00\x00\x02\x00\x00\x00\x00\x00\x00\x00\x01\x00\x00\x00\x03" +
		"\x00\x00\x00\x00" +
		"\x00\x00\x00\x04" +
		"\x00\x00\x00\x04\xff\xff\xff\xff\xff\xff\xff\xff\xff\xff\xff\xff\xff\xff\xff\xff" +
		"\x00\x00\x00\x04\xff\xff\xff\xff\xff\xff\xff\xff\xff\xff\xff\xff\xff\xff\xff\xff" +
		"\x00\x00\x00\x04\xff\xff\xff\xff\xff\xff\xff\xff\xff\xff\xff\xff\xff\xff\xff\xff" +
		"\x00\x00\x00\x04\xff\xff\xff\xff\xff\xff\xff\xff\xff\xff\xff\xff\xff\xff\xff\xff" +
		"\x00\x00\x00\x00\x00\x00\x00\x00")
	b := mustEncode(t, plain())
	if len(b) != 148 || !bytes.Equal(b, want) {
		t.Errorf("%d bytes: %x", len(b), b)
	}
}

// P2.1: each field has a place of its own, the highest byte first.
func TestEncodeOrder(t *testing.T) {
	c := api.Config{
		Nodes: 0x01020304, Owners: []int{-2}, Drift: 2, Reading: 3, Margin: 4, Bound: 5, Rejoin: 6, Quota: 7,
		Parts:   []api.Part{part(8, 9, 10), part(11, 12, 13)},
		Windows: [][]int{{14}, {}, {15, 16}},
		Ports:   []api.Port{port(17, 18, 19, 20, 21, 22)},
		Links:   []api.Link{link(23, 24, 25, 26), link(27, 28)},
	}
	want := []byte{'R', 'O', 'T', 'A', 1, 2, 3, 4}
	put := func(l ...byte) {
		for _, n := range l {
			want = append(want, 0, 0, 0, n)
		}
	}
	put(2, 3, 4, 5, 6, 7)
	put(1)
	want = append(want, 255, 255, 255, 254)
	put(2, 8, 9, 10, 11, 12, 13)
	put(3, 1, 14, 0, 2, 15, 16)
	put(1, 17, 18, 19, 20, 21, 22)
	put(2, 23, 24, 2, 25, 26, 27, 28, 0)
	if b := mustEncode(t, c); !bytes.Equal(b, want) {
		t.Errorf("%x, not %x", b, want)
	}
}

// P2.1: the bytes of configurations of all kinds, whether they may be or not.
func TestEncodeAll(t *testing.T) {
	for _, c := range samples() {
		if b := mustEncode(t, c); !bytes.Equal(b, written(c)) {
			t.Errorf("%v: %x", c, b)
		}
	}
}

// eachNumber tells of every number of c by a pointer.
func eachNumber(c *api.Config, at func(name string, n *int)) {
	row := func(name string, l []int) {
		for i := range l {
			at(name, &l[i])
		}
	}
	at("Nodes", &c.Nodes)
	at("Drift", &c.Drift)
	at("Reading", &c.Reading)
	at("Margin", &c.Margin)
	at("Bound", &c.Bound)
	at("Rejoin", &c.Rejoin)
	at("Quota", &c.Quota)
	row("Owners", c.Owners)
	for i := range c.Parts {
		p := &c.Parts[i]
		at("Part.Node", &p.Node)
		at("Part.From", &p.From)
		at("Part.To", &p.To)
	}
	for _, l := range c.Windows {
		row("Windows", l)
	}
	for i := range c.Ports {
		p := &c.Ports[i]
		at("Port.Part", &p.Part)
		at("Port.Kind", &p.Kind)
		at("Port.Dir", &p.Dir)
		at("Port.Size", &p.Size)
		at("Port.Depth", &p.Depth)
		at("Port.Fresh", &p.Fresh)
	}
	for i := range c.Links {
		l := &c.Links[i]
		at("Link.Source", &l.Source)
		at("Link.Offset", &l.Offset)
		row("Link.Dests", l.Dests)
	}
}

// P2.1: each number at the ends of what four bytes tell, and one beyond.
func TestEncodeNumbers(t *testing.T) {
	c := full()
	eachNumber(&c, func(name string, n *int) {
		was := *n
		for _, x := range []int{-1 << 31, 1<<31 - 1} {
			*n = x
			if b, err := config.Encode(c); err != api.OK || !bytes.Equal(b, written(c)) {
				t.Errorf("%s %d: %x, %v", name, x, b, err)
			}
			if d, err := config.Decode(written(c)); err != api.OK || !reflect.DeepEqual(d, c) {
				t.Errorf("%s %d: %v, %v", name, x, d, err)
			}
		}
		for _, x := range []int{-1<<31 - 1, 1 << 31, 1 << 32, -1 << 32, 1<<32 - 1, 1<<63 - 1, -1 << 63} {
			*n = x
			if b, err := config.Encode(c); err != api.ErrArg || len(b) != 0 {
				t.Errorf("%s %d: %x, %v", name, x, b, err)
			}
		}
		*n = was
	})
}

// withList is a configuration whose list of that name has size elements.
func withList(name string, size int) api.Config {
	var c api.Config
	switch name {
	case "Owners":
		c.Owners = make([]int, size)
	case "Parts":
		c.Parts = make([]api.Part, size)
	case "Windows":
		c.Windows = make([][]int, size)
	case "Window":
		c.Windows = [][]int{{1}, make([]int, size)}
	case "Ports":
		c.Ports = make([]api.Port, size)
	case "Links":
		c.Links = make([]api.Link, size)
	case "Dests":
		c.Links = []api.Link{{}, {Dests: make([]int, size)}}
	}
	return c
}

// P2.1: each list with as many elements as it may have, and one more, there
// and back.
func TestLongLists(t *testing.T) {
	for _, name := range []string{"Owners", "Parts", "Windows", "Window", "Ports", "Links", "Dests"} {
		c := withList(name, 65535)
		b := mustEncode(t, c)
		if !bytes.Equal(b, written(c)) {
			t.Errorf("%s: wrong bytes", name)
		}
		if d, err := config.Decode(b); err != api.OK || !reflect.DeepEqual(grown(d, false), grown(c, false)) {
			t.Errorf("%s: not the same again, %v", name, err)
		}
		c = withList(name, 65536)
		if b, err := config.Encode(c); err != api.ErrArg || len(b) != 0 {
			t.Errorf("%s: %d bytes, %v", name, len(b), err)
		}
		mustNotDecode(t, name, written(c))
	}
}

// P2.1: of a wrong number behind others, and of a list that is too long behind
// a wrong number, nothing is answered but the error.
func TestEncodeSeveralWrong(t *testing.T) {
	c := withList("Dests", 70000)
	c.Links = append(c.Links, api.Link{Dests: []int{1 << 40}})
	c.Nodes = -1 << 40
	if b, err := config.Encode(c); err != api.ErrArg || len(b) != 0 {
		t.Errorf("%d bytes, %v", len(b), err)
	}
}

// P2.1, P2.6: Decode of Encode is the configuration.
func TestDecodeOfEncode(t *testing.T) {
	for _, c := range samples() {
		d, err := config.Decode(mustEncode(t, c))
		if err != api.OK || !reflect.DeepEqual(grown(d, true), grown(c, true)) {
			t.Errorf("%v: %v, %v", c, d, err)
		}
	}
}

// P2.1, P2.6: nil and empty lists are the same.
func TestEncodeNilAndEmpty(t *testing.T) {
	for _, c := range samples() {
		a, b := mustEncode(t, grown(c, true)), mustEncode(t, grown(c, false))
		if !bytes.Equal(a, b) {
			t.Errorf("%v: %x, %x", c, a, b)
		}
	}
}

// P2.1: bytes that are cut short, and such with more behind.
func TestDecodeOtherLengths(t *testing.T) {
	for i, c := range samples() {
		b := written(c)
		if i < 50 {
			for n := range b {
				mustNotDecode(t, "cut short", b[:n])
			}
		}
		for n := 1; n <= 9; n++ {
			mustNotDecode(t, "more behind", append(bytes.Clone(b), make([]byte, n)...))
		}
		mustNotDecode(t, "one behind", append(bytes.Clone(b), 'R'))
		mustNotDecode(t, "twice", append(bytes.Clone(b), b...))
	}
	for _, b := range [][]byte{nil, {}, []byte("R"), []byte("ROT"), []byte("ROTA"), make([]byte, 148)} {
		mustNotDecode(t, "nothing", b)
	}
}

// P2.1: each of the four letters must be there.
func TestDecodeMark(t *testing.T) {
	for i := range 4 {
		for bit := range 8 {
			b := written(full())
			b[i] ^= 1 << bit
			mustNotDecode(t, "mark", b)
		}
	}
	mustNotDecode(t, "no mark", written(full())[4:])
	mustNotDecode(t, "mark and a byte", append([]byte("ROTA\x00"), written(full())[4:]...))
}

// counts are where the counts of full's lists stand in its bytes.
func counts() []int {
	c := full()
	l := []int{32}
	at := 36 + 4*len(c.Owners)
	l = append(l, at)
	at += 4 + 12*len(c.Parts)
	l = append(l, at)
	at += 4
	for _, w := range c.Windows {
		l = append(l, at)
		at += 4 + 4*len(w)
	}
	l = append(l, at)
	at += 4 + 24*len(c.Ports)
	l = append(l, at)
	at += 4
	for _, x := range c.Links {
		l = append(l, at+8)
		at += 12 + 4*len(x.Dests)
	}
	return l
}

// P2.1: a list's count that is greater than what follows, or is no count.
func TestDecodeCounts(t *testing.T) {
	if n := len(counts()); n != 12 {
		t.Fatal(n)
	}
	for _, at := range counts() {
		for _, n := range []uint32{100, 1000, 65535, 65536, 1 << 20, 1<<31 - 1, 1 << 31, 1<<32 - 1, 1<<32 - 65535} {
			b := written(full())
			binary.BigEndian.PutUint32(b[at:], n)
			mustNotDecode(t, "count", b)
			mustNotDecode(t, "count, last", b[:at+4])
		}
	}
	// The last list is told of one more than there are.
	b := written(full())
	b[len(b)-5]++
	mustNotDecode(t, "one more", b)
}

// P2.1: a negative count is none, though the bytes would do for no elements.
func TestDecodeNegativeCounts(t *testing.T) {
	for at := 32; at < 52; at += 4 {
		b := written(api.Config{})
		if len(b) != 52 {
			t.Fatal(len(b))
		}
		binary.BigEndian.PutUint32(b[at:], 1<<32-1)
		mustNotDecode(t, "a list of -1", b)
	}
	rows := written(api.Config{Windows: [][]int{{}}})
	binary.BigEndian.PutUint32(rows[44:], 1<<32-1)
	mustNotDecode(t, "a row of -1", rows)
	dests := written(api.Config{Links: []api.Link{{}}})
	binary.BigEndian.PutUint32(dests[len(dests)-4:], 1<<32-1)
	mustNotDecode(t, "Dests of -1", dests)
}

// P2.6: where bytes are some configuration's, Encode of it is these bytes; and
// where Decode has none, none of the kind is near.
func TestEncodeOfDecode(t *testing.T) {
	r := rand.New(rand.NewSource(3))
	fine := 0
	for _, c := range samples() {
		b := written(c)
		for range 50 {
			x := bytes.Clone(b)
			for range 1 + r.Intn(2) {
				x[r.Intn(len(x))] = byte(r.Intn(5))
			}
			d, err := config.Decode(x)
			if err != api.OK {
				mustNotDecode(t, "turned", x)
				continue
			}
			fine++
			if back := mustEncode(t, d); !bytes.Equal(back, x) {
				t.Errorf("%x: %x", x, back)
			}
		}
	}
	if fine < 1000 {
		t.Errorf("only %d were read", fine)
	}
}

// P2.5: what Decode and Encode are handed stays, and so does the room behind.
func TestBytesOnlyRead(t *testing.T) {
	b := append(written(full()), "behind"...)
	was := bytes.Clone(b)
	config.Decode(b[:len(b)-6])
	config.Decode(b)
	for n := range b {
		config.Decode(b[:n])
	}
	if !bytes.Equal(b, was) {
		t.Error("the bytes were turned")
	}
	for _, c := range samples() {
		c = roomy(c)
		was := copied(whole(c))
		config.Encode(c)
		if !reflect.DeepEqual(whole(c), was) {
			t.Errorf("%v: was turned", was)
		}
	}
}

// P2.5: what is answered hangs no more on what was handed in.
func TestBytesAreNew(t *testing.T) {
	b := written(full())
	c, _ := config.Decode(b)
	clear(b)
	if !reflect.DeepEqual(c, full()) {
		t.Errorf("%v", c)
	}
	x := mustEncode(t, c)
	y := mustEncode(t, c)
	clear(x[:cap(x)])
	eachNumber(&c, func(name string, n *int) { *n = 9 })
	if !bytes.Equal(y, written(full())) {
		t.Errorf("%x", y)
	}
	if b := mustEncode(t, plain()); !bytes.Equal(b, written(plain())) {
		t.Errorf("%x", b)
	}
}

// P2.5: no two lists of a configuration that was read share memory, nor do
// those of two.
func TestDecodedListsAreTheirOwn(t *testing.T) {
	c, _ := config.Decode(written(full()))
	d, _ := config.Decode(written(full()))
	lists := func(c *api.Config) []*[]int {
		l := []*[]int{&c.Owners}
		for i := range c.Windows {
			l = append(l, &c.Windows[i])
		}
		for i := range c.Links {
			l = append(l, &c.Links[i].Dests)
		}
		return l
	}
	for i, l := range lists(&c) {
		was := slices.Clone(*l)
		*l = append(*l, 1, 2, 3, 4, 5)
		for j := range *l {
			(*l)[j] = 99
		}
		*l = was
		if !reflect.DeepEqual(c, full()) || !reflect.DeepEqual(d, full()) {
			t.Fatalf("list %d is another's too", i)
		}
	}
	eachNumber(&c, func(name string, n *int) { *n = 9 })
	if !reflect.DeepEqual(d, full()) {
		t.Error("two share memory")
	}
}
