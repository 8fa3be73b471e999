package lists

import "testing"

// some is lists of which one has no nodes, two have some, and two nodes are free.
func some(t *testing.T) *Lists {
	t.Helper()
	l, err := New(3, 7)
	if err != nil {
		t.Fatal(err)
	}
	for _, list := range []int{0, 0, 0, 2, 2} {
		if _, err := l.Add(list); err != nil {
			t.Fatal(err)
		}
	}
	if !l.Sound() {
		t.Fatal("not sound from the beginning")
	}
	return l
}

// 9.6: Sound tells of each neighbour and each list that is written wrongly, of nodes, of ends and of free ones. No call writes so: that is why it is done from within.
func TestSoundTellsLinks(t *testing.T) {
	for at := range some(t).links {
		for wrong := range some(t).links {
			l := some(t)
			if l.links[at].ahead != wrong {
				l.links[at].ahead = wrong
				if l.Sound() {
					t.Errorf("ahead of %d stands %d: sound", at, wrong)
				}
			}
			l = some(t)
			if l.links[at].behind != wrong {
				l.links[at].behind = wrong
				if l.Sound() {
					t.Errorf("behind %d stands %d: sound", at, wrong)
				}
			}
		}
		for wrong := -1; wrong < 5; wrong++ {
			l := some(t)
			if l.links[at].list != wrong {
				l.links[at].list = wrong
				if l.Sound() {
					t.Errorf("%d stands in %d: sound", at, wrong)
				}
			}
		}
	}
}

// 9.6: Sound tells of a list, also that of the free ones, that has not as many nodes as it tells.
func TestSoundTellsLens(t *testing.T) {
	for list := range some(t).lens {
		for wrong := -2; wrong < 12; wrong++ {
			l := some(t)
			if l.lens[list] != wrong {
				l.lens[list] = wrong
				if l.Sound() {
					t.Errorf("list %d has %d nodes: sound", list, wrong)
				}
			}
		}
	}
	for list := range some(t).lens {
		for other := range some(t).lens {
			l := some(t)
			if list != other {
				l.lens[list]++
				l.lens[other]--
				if l.Sound() {
					t.Errorf("list %d has one node more, %d one less: sound", list, other)
				}
			}
		}
	}
}

// 9.6: Sound tells of a node that stands nowhere, though all that stand somewhere stand well.
func TestSoundTellsLost(t *testing.T) {
	for node := range 7 {
		l := some(t)
		l.take(node)
		if l.Sound() {
			t.Errorf("node %d stands nowhere: sound", node)
		}
		// So, too, where its list still counts it, and all numbers together are right.
		l.lens[l.links[node].list]++
		if l.Sound() {
			t.Errorf("node %d stands nowhere, and is counted: sound", node)
		}
	}
}
