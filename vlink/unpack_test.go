package vlink_test

import "testing"

// P6.2: the chapter's examples.
func TestUnpackOfTheChapter(t *testing.T) {
	c := chapters()
	unpacks(t, c, 2, bytesAt(3, 1, 7, 8), came(0, 7, 8))
	unpacks(t, c, 2, bytesAt(3, 2, 7, 8), none(0))
	unpacks(t, c, 0, bytesAt(3, 1, 7, 8))
}

// P6.2: each link of the node is told, in order, and those of others are not.
func TestLinksAreTold(t *testing.T) {
	c := some()
	p := laidOf2()
	unpacks(t, c, 2, p, came(1, long...), came(2, 9), came(3, 7, 8))
	unpacks(t, c, 0, p, came(0, 7, 8))
	unpacks(t, c, 3, p)
	unpacks(t, c, 1, with(p, 61, 5, 6), came(4, 5, 6))
	unpacks(t, c, 2, payload{}, none(1), none(2), none(3))
	unpacks(t, c, 1, payload{}, none(4))
	p[0], p[31] = 0, 0
	unpacks(t, c, 2, p, none(1), none(2), came(3, 7, 8))
}

// P6.2: the byte 1 says that there is a message, and no other one does; what
// stands behind one that does not is told of by nobody.
func TestValidIsOne(t *testing.T) {
	c := some()
	for b := range 256 {
		want := none(4)
		if b == 1 {
			want = came(4, 1, 1)
		}
		p := full()
		p[61] = byte(b)
		unpacks(t, c, 1, p, want)
		for _, a := range mustUnpack(t, c, 1, p) {
			if !a.Valid && len(a.Data) != 0 {
				t.Errorf("%d: %v", b, a)
			}
		}
	}
}

// P6.2: a message may be any bytes, noughts too.
func TestAnyBytesAreUnpacked(t *testing.T) {
	for b := range 256 {
		unpacks(t, chapters(), 2, bytesAt(3, 1, byte(b), 0, 5), came(0, byte(b), 0))
		unpacks(t, chapters(), 2, bytesAt(2, 1, 1, 0, byte(b), 5), came(0, 0, byte(b)))
	}
}

// P6.2: many links of one node.
func TestManyLinksAreTold(t *testing.T) {
	c, all := manyLinks()
	l := mustUnpack(t, c, 3, mustPack(t, c, 3, handing(all)))
	if len(l) != 31 {
		t.Fatal(l)
	}
	for i, a := range l {
		if !sameArrival(a, came(i, byte(100+i))) {
			t.Errorf("%d: %v", i, a)
		}
	}
}
