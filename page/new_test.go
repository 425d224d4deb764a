package page_test

import (
	"strconv"
	"testing"

	"coupon/api"
	"coupon/page"
)

// P5.1: New is a page of the kind, without slots, byte by byte.
func TestNew(t *testing.T) {
	for kind := range 5 {
		p, e := page.New(kind)
		var by api.Page
		by[0], by[4] = byte(kind), 2
		if e != api.OK || p != by {
			t.Errorf("New(%d) is %v, %v", kind, e, p[:16])
		}
		want(t, "Kind", page.Kind(p), kind)
		want(t, "Next", page.Next(p), 0)
		want(t, "Slots", page.Slots(p), 0)
		want(t, "May", page.May(p), true)
	}
}

// P5.1: a kind that is not 0 to 4 is refused.
func TestNewErrors(t *testing.T) {
	for _, kind := range noKinds() {
		p, e := page.New(kind)
		wantRefused(t, "New("+strconv.Itoa(kind)+")", p, e, api.ErrArg)
	}
}

// P5.1: Kind and Next are the page's; of a page that may not be 0.
func TestKindAndNext(t *testing.T) {
	for what, x := range fit() {
		want(t, what+": Kind", page.Kind(x.page()), x.kind)
		want(t, what+": Next", page.Next(x.page()), x.next)
	}
	for what, p := range unfit() {
		want(t, what+": Kind", page.Kind(p), 0)
		want(t, what+": Next", page.Next(p), 0)
	}
	p := plainOf(3, "one").linked(0x01020304).page()
	p[1] = 1
	want(t, "Kind of a broken page", page.Kind(p), 0)
	want(t, "Next of a broken page", page.Next(p), 0)
}

// P5.1: Link gives the page that next, and leaves all else.
func TestLink(t *testing.T) {
	for what, x := range fit() {
		for _, next := range []int{0, 1, 255, 256, 0x01020304, 1 << 24, 1<<31 - 2, 1<<31 - 1} {
			p, e := page.Link(x.page(), next)
			wantPage(t, what+": Link", p, e, x.linked(next))
			want(t, what+": Next", page.Next(p), next)
		}
	}
	p, e := page.Link(plainOf(2).page(), 0x01020304)
	want(t, "Link", e, api.OK)
	want(t, "the bytes of next", [4]byte(p[8:12]), [4]byte{1, 2, 3, 4})
}

// P5.1: a next below 0, or above 2^31 - 1 is refused; ahead of that a page that may not be.
func TestLinkErrors(t *testing.T) {
	for what, x := range fit() {
		for _, next := range noNexts() {
			p, e := page.Link(x.page(), next)
			wantRefused(t, what+": Link to "+strconv.Itoa(next), p, e, api.ErrArg)
		}
	}
	for what, bad := range unfit() {
		for _, next := range append(noNexts(), 0, 1, 1<<31-1) {
			p, e := page.Link(bad, next)
			wantRefused(t, what+": Link to "+strconv.Itoa(next), p, e, api.ErrBytes)
		}
	}
}

// P5.1: May tells a page from what is none.
func TestMay(t *testing.T) {
	for what, p := range fitPages() {
		want(t, what+": as it is said", plainMay(p), true)
		want(t, what+": May", page.May(p), true)
	}
	for what, p := range unfit() {
		want(t, what+": as it is said", plainMay(p), false)
		want(t, what+": May", page.May(p), false)
	}
}

// strideAt is by how much the bytes differ that stand there in turn: by little in the head and in the first slots.
func strideAt(i int) int {
	if i < 40 {
		return 1
	}
	return 17
}

// P5.1: whichever byte of a page is another one, whatever it is then: May tells whether it is such as is said.
func TestMayOfEachByte(t *testing.T) {
	for what, p := range fitPages() {
		for i := range p {
			was := p[i]
			for b := 0; b < 256; b += strideAt(i) {
				p[i] = byte(b)
				if page.May(p) != plainMay(p) {
					t.Fatalf("%s: the byte %d is %d: May is %v", what, i, b, page.May(p))
				}
			}
			p[i] = was
		}
	}
}
