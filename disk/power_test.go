package disk_test

import (
	"math"
	"slices"
	"testing"

	"coupon/api"
	"coupon/disk"
)

// P3.2: just so many steps are done, of Write and of Flush alike.
func TestFuse(t *testing.T) {
	for steps := range 6 {
		for kinds := range 1 << (steps + 2) {
			d, p := made(t, 2), plainOf(2)
			want(t, "Fuse", d.Fuse(steps), api.OK)
			p.fuse = steps
			for n := range steps + 2 {
				want(t, "Dead ahead of the step that finds none", d.Dead(), n > steps)
				wanted := api.OK
				if n >= steps {
					wanted = api.ErrDead
				}
				if kinds>>n&1 == 0 {
					want(t, "Write", d.Write(n%2, filled(n+1)), wanted)
					p.write(n%2, filled(n+1))
				} else {
					want(t, "Flush", d.Flush(), wanted)
					p.flush()
				}
			}
			want(t, "Dead in the end", d.Dead(), true)
			wantPlain(t, "a dead disk", d, p)
		}
	}
}

// P3.2: without a fuse all steps are done; a great one burns long.
func TestNoFuse(t *testing.T) {
	for _, steps := range []int{-1, 5000, math.MaxInt32, math.MaxInt} {
		d := made(t, 1)
		if steps >= 0 {
			want(t, "Fuse", d.Fuse(steps), api.OK)
		}
		for n := range 2500 {
			if d.Write(0, filled(n%251)) != api.OK || d.Flush() != api.OK || d.Dead() {
				t.Fatalf("fuse %d: dead in turn %d", steps, n)
			}
		}
		if steps == 5000 {
			want(t, "the step behind the last one", d.Write(0, filled(1)), api.ErrDead)
		}
	}
}

// P3.2: the fuse that was given last holds; one below 0 is refused, and changes nothing.
func TestFuseAgain(t *testing.T) {
	for _, first := range []int{0, 1, 2, 7} {
		for _, then := range []int{0, 1, 2, 7} {
			d := made(t, 1)
			d.Fuse(first)
			d.Fuse(then)
			wantSteps(t, "given twice", d, then)
			if first > 0 {
				d.Fuse(first)
				d.Write(0, filled(1))
				d.Fuse(then)
				wantSteps(t, "given twice, a step between", d, then)
			}
		}
	}
	for _, wrong := range []int{-1, -2, math.MinInt32, math.MinInt} {
		d := made(t, 1)
		want(t, "Fuse below 0", d.Fuse(wrong), api.ErrArg)
		want(t, "Flush behind a fuse that is refused", d.Flush(), api.OK)
		d.Fuse(2)
		want(t, "Fuse below 0", d.Fuse(wrong), api.ErrArg)
		wantSteps(t, "behind a fuse that is refused", d, 2)
		d.Fuse(0)
		d.Flush()
		want(t, "Fuse below 0 of a dead disk", d.Fuse(wrong), api.ErrArg)
		want(t, "a dead disk: Dead", d.Dead(), true)
	}
}

// dying is a disk of two sectors that has died: 1 lasts in the first one, 2 and 3 were written over it, and 4 into the second one.
func dying(t *testing.T) *disk.Disk {
	d := made(t, 2)
	d.Write(0, filled(1))
	d.Flush()
	d.Fuse(3)
	d.Write(0, filled(2))
	d.Write(0, filled(3))
	d.Write(1, filled(4))
	want(t, "with no step left: Dead", d.Dead(), false)
	want(t, "the step that finds none", d.Flush(), api.ErrDead)
	return d
}

// P3.2: a dead disk does no step, is read still, and stays dead whatever fuse it is given.
func TestDead(t *testing.T) {
	for _, fuse := range []int{-1, 0, 1, 5, math.MaxInt} {
		d := dying(t)
		if fuse >= 0 {
			want(t, "Fuse of a dead disk", d.Fuse(fuse), api.OK)
		}
		want(t, "Dead", d.Dead(), true)
		for range 3 {
			want(t, "Write of a dead disk", d.Write(1, filled(5)), api.ErrDead)
			want(t, "Flush of a dead disk", d.Flush(), api.ErrDead)
			want(t, "Dead", d.Dead(), true)
		}
		wantRead(t, "a dead disk", d, 0, filled(3))
		wantRead(t, "a dead disk", d, 1, filled(4))
		wantLasts(t, "a dead disk", d, 0, filled(1))
		wantLasts(t, "a dead disk", d, 1, api.Sector{})
		wantOpen(t, "a dead disk", d, 0, 1)
	}
}

// P3.2: behind a loss of power a disk is not dead, and has no fuse, whatever it had.
func TestDeadCrash(t *testing.T) {
	for _, fuse := range []int{-1, 0, 1, 3} {
		for _, dead := range []bool{false, true} {
			d := made(t, 2)
			if dead {
				d = dying(t)
			}
			if fuse >= 0 {
				d.Fuse(fuse)
			}
			want(t, "Crash", d.Crash([]int{3}), api.OK)
			want(t, "Dead", d.Dead(), false)
			wantOpen(t, "behind a loss of power", d)
			if dead {
				wantRead(t, "behind a loss of power", d, 0, filled(3))
				wantRead(t, "behind a loss of power", d, 1, api.Sector{})
			}
			for n := range 9 {
				want(t, "Write", d.Write(0, filled(n)), api.OK)
				want(t, "Flush", d.Flush(), api.OK)
			}
			d.Fuse(1)
			wantSteps(t, "a new fuse", d, 1)
		}
	}
}

// P3.2: Open rises, is told in new memory, and has each sector that was written since the last flush, once, even if it was written as it was.
func TestOpen(t *testing.T) {
	d := made(t, api.MaxSectors)
	order := []int{8191, 3, 0, 100, 3, 99, 3, 4096, 0, 5, 70, 12}
	for _, i := range order {
		s, _ := d.Read(i)
		want(t, "Write as it was", d.Write(i, s), api.OK)
	}
	wanted := []int{0, 3, 5, 12, 70, 99, 100, 4096, 8191}
	wantOpen(t, "written as they were", d, wanted...)
	for i := range d.Open() {
		d.Open()[i] = -5
	}
	wantOpen(t, "the answer changed by the caller", d, wanted...)
	d.Flush()
	wantOpen(t, "flushed", d)
	for i := api.MaxSectors - 1; i >= 0; i -= 7 {
		d.Write(i, filled(1))
	}
	l := d.Open()
	want(t, "many: how many", len(l), (api.MaxSectors+6)/7)
	want(t, "many: rising", slices.IsSorted(l), true)
	d.Crash(nil)
	wantOpen(t, "behind a loss of power", d)
}

// allPicks are picks about 0, and at both ends.
func allPicks() []int {
	l := []int{math.MinInt, math.MinInt + 1, math.MinInt32, math.MaxInt32, math.MaxInt - 1, math.MaxInt}
	for pick := -40; pick <= 40; pick++ {
		l = append(l, pick)
	}
	return l
}

// P3.2: each pick of each number of versions of a sector.
func TestPicks(t *testing.T) {
	for n := range 9 {
		for _, pick := range allPicks() {
			d := made(t, 3)
			d.Write(1, filled(100))
			d.Flush()
			versions := []api.Sector{filled(100)}
			for k := range n {
				d.Write(1, filled(k+1))
				versions = append(versions, filled(k+1))
			}
			wanted := outcomes(versions)[modulo(pick, 2*n+1)]
			want(t, "Crash", d.Crash([]int{pick}), api.OK)
			wantRead(t, "behind a loss of power", d, 1, wanted)
			wantLasts(t, "behind a loss of power", d, 1, wanted)
			wantRead(t, "its neighbour", d, 0, api.Sector{})
			wantRead(t, "its neighbour", d, 2, api.Sector{})
			wantOpen(t, "behind a loss of power", d)
		}
	}
}

// P3.2: the table of the chapter's examples.
func TestExamples(t *testing.T) {
	x, y, z := filled(1), filled(2), filled(3)
	mixed := y
	copy(mixed[:64], z[:64])
	for pick, wanted := range map[int]api.Sector{1: y, 4: mixed} {
		d := made(t, 1)
		d.Write(0, x)
		d.Flush()
		d.Write(0, y)
		d.Write(0, z)
		d.Crash([]int{pick})
		wantRead(t, "the example", d, 0, wanted)
	}
}

// P3.2: the i-th open sector has the i-th pick, not the one written i-th, nor the sector i; where there is none it is 0; those beyond are let be, and none is changed.
func TestPicksInOrder(t *testing.T) {
	for _, picks := range [][]int{nil, {}, {2}, {3}, {0, 1}, {1, 2, 3}, {5, -1, 4}, {2, 2, 2, 1}, {4, 3, 0, 3, 3, 3}, {-1, -2, -3}} {
		d, p := made(t, 9), plainOf(9)
		for n, i := range []int{7, 2, 4, 2, 7, 7, 4, 2} {
			d.Write(i, filled(n+1))
			p.write(i, filled(n+1))
		}
		handed := slices.Clone(picks)
		want(t, "Crash", d.Crash(handed), api.OK)
		want(t, "picks are let be", slices.Equal(handed, picks), true)
		p.crash(picks)
		wantPlain(t, "behind a loss of power", d, p)
	}
}

// P3.2: a loss of power of a disk with no open sector leaves it as it is; so does a second one.
func TestCrashOfNone(t *testing.T) {
	for _, picks := range [][]int{nil, {1}, {2, 1, 5}} {
		d := made(t, 2)
		d.Write(1, filled(1))
		d.Flush()
		for range 3 {
			want(t, "Crash", d.Crash(picks), api.OK)
			wantRead(t, "none open", d, 0, api.Sector{})
			wantRead(t, "none open", d, 1, filled(1))
		}
		d.Write(1, filled(2))
		d.Crash([]int{2})
		left, _ := d.Read(1)
		d.Crash([]int{1})
		wantRead(t, "a second loss", d, 1, left)
	}
}

// writeBoth writes so many sectors into the first one of both disks, that are filled with the numbers from the one on.
func writeBoth(d *disk.Disk, p *plain, from, many int) {
	for n := range many {
		d.Write(0, filled(from+n))
		p.write(0, filled(from+n))
	}
}

// P3.2: what was flushed in between, or left by a loss of power, is the version 0 of what comes behind; the versions ahead of it are gone.
func TestVersionsSettled(t *testing.T) {
	for pick := range 5 {
		d, p := made(t, 1), plainOf(1)
		writeBoth(d, p, 1, 3)
		d.Flush()
		p.flush()
		for turn, what := range []string{"flushed in between", "a loss in between"} {
			writeBoth(d, p, 10*turn+10, 2)
			d.Crash([]int{pick})
			p.crash([]int{pick})
			wantPlain(t, what, d, p)
		}
	}
}
