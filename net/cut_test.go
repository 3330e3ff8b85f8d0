package net_test

import (
	"testing"

	"tandem/api"
	"tandem/net"
)

// P14.4, P14.1: each link is cut and mended by itself, its other direction too; cut twice it is cut, mended once or twice it is whole.
func TestCutOfEachLink(t *testing.T) {
	there, _ := pairs()
	for _, l := range there {
		n := net.New()
		for range 2 {
			for _, is := range []bool{false, true, true, false, false, true} {
				cuts(t, n, l[0], l[1], is)
				holdsCut(t, n, map[[2]int]bool{l: is})
			}
		}
	}
}

// P14.4: any links are cut at a time.
func TestCutOfManyLinks(t *testing.T) {
	there, _ := pairs()
	for from := range 1 << len(there) {
		for _, to := range []int{0, 1<<len(there) - 1, from ^ 21, from ^ 42} {
			n := net.New()
			for _, set := range []int{from, to} {
				cut := map[[2]int]bool{}
				for i, l := range there {
					cut[l] = set>>i&1 == 1
					cuts(t, n, l[0], l[1], cut[l])
				}
				holdsCut(t, n, cut)
			}
		}
	}
}

// P14.4: ErrArg, if there is no such link; nothing is cut, or mended, by that.
func TestCutOfNoLink(t *testing.T) {
	_, none := pairs()
	whole, n := net.New(), net.New()
	cut := map[[2]int]bool{{0, 1}: true, {2, 0}: true, {1, 2}: true}
	for l := range cut {
		cuts(t, n, l[0], l[1], true)
	}
	for _, l := range none {
		for _, is := range []bool{true, false} {
			for _, n := range []*net.Net{whole, n} {
				if err := n.Cut(l[0], l[1], is); err != api.ErrArg {
					t.Fatalf("Cut(%d, %d, %v) = %v, not ErrArg", l[0], l[1], is, err)
				}
			}
		}
	}
	holdsCut(t, whole, nil)
	holdsCut(t, n, cut)
	holds(t, n, 0)
}

// P14.4: what is on its way stays so when its link is cut, and when it is mended: it is looked at, doubled, dropped and delivered as ever.
func TestCutLeavesWhatIsOnItsWay(t *testing.T) {
	way := numbered(30)
	n := carrying(t, way...)
	there, _ := pairs()
	for _, is := range []bool{true, false, true} {
		for _, l := range there {
			cuts(t, n, l[0], l[1], is)
			holds(t, n, 0, way...)
		}
	}
	for i := range way {
		doubles(t, n, i)
	}
	way = append(way, way...)
	holds(t, n, 0, way...)
	for i := range 30 {
		drops(t, n, 30)
		holds(t, n, i+1, append(append([]packet{}, way[:30]...), way[31+i:]...)...)
	}
	for _, p := range way[:30] {
		delivers(t, n, 0, p)
	}
	holds(t, n, 30)
}
