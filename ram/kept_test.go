package ram

import (
	"strconv"
	"testing"

	"buttery/api"
)

// 11.7: what is gone is not kept: no more things than had room at a time, and none that holds an entry that is gone.
func TestKept(t *testing.T) {
	r, err := New(320)
	if err != nil {
		t.Fatal(err)
	}
	for i := range 1000 {
		x := api.Entry{Key: strconv.Itoa(i), Version: 1, AsOf: 1, Ends: i%7 + 1, Value: make([]byte, i%200)}
		if _, err := r.Set(x, 0); err != nil {
			t.Fatal(err)
		}
	}
	if len(r.things) > 10 {
		t.Errorf("%d things", len(r.things))
	}
	r.Get("999", 9)
	r.Drop("998")
	r.Sweep(9)
	for node, x := range r.things {
		if x.x.Key != "" || x.x.Value != nil {
			t.Errorf("%d holds %q", node, x.x.Key)
		}
	}
	for i, node := range r.chains {
		if node != none {
			t.Errorf("chain %d: %d", i, node)
		}
	}
}
