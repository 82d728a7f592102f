package slotlist

import "testing"

// Take is done in a few steps: the nodes of the longer list, the one that takes or the one that is taken, keep their badge.
func TestTakeKeepsBadges(t *testing.T) {
	for _, c := range []struct{ to, from, kept int }{{0, 1, 0}, {1, 0, 0}, {0, 2, 0}, {2, 0, 0}, {2, 1, 1}, {1, 2, 1}} {
		l, _ := New(6, 3)
		for n := range 4 {
			l.Push(0, n)
		}
		l.Push(1, 4)
		old := l.lists[c.kept].badge
		l.Take(c.to, c.from)
		for n := range l.All(c.to) {
			if l.links[n].badge != old {
				t.Errorf("Take(%d, %d): node %d has badge %d, was %d", c.to, c.from, n, l.links[n].badge, old)
			}
		}
	}
}

// No two lists have one badge, none has badge 0, and each badge leads to its list.
func TestBadges(t *testing.T) {
	l, _ := New(8, 4)
	for i := range 64 {
		l.Move(i%4, i*5%8)
		l.Take(i*7%4, i*3%4)
		for k := range 4 {
			if b := l.lists[k].badge; b < 1 || b > 4 || l.owners[b] != k {
				t.Fatalf("%d: list %d has badge %d, whose is %d", i, k, b, l.owners[b])
			}
		}
	}
}
