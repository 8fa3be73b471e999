package lists_test

import (
	"math"
	"slices"
	"testing"

	"buttery/api"
	"buttery/lists"
	"buttery/trouble"
)

// The calls with the signatures that the chapter lists.
var (
	_ func(int, int) (*lists.Lists, error) = lists.New
	_ func(*lists.Lists, int) (int, error) = (*lists.Lists).Add
	_ func(*lists.Lists, int) error        = (*lists.Lists).Drop
	_ func(*lists.Lists, int) error        = (*lists.Lists).Touch
	_ func(*lists.Lists, int) int          = (*lists.Lists).Last
	_ func(*lists.Lists) int               = (*lists.Lists).Oldest
	_ func(*lists.Lists, int) int          = (*lists.Lists).List
	_ func(*lists.Lists, int) int          = (*lists.Lists).Len
	_ func(*lists.Lists, int) []int        = (*lists.Lists).Order
	_ func(*lists.Lists) bool              = (*lists.Lists).Sound
)

// The greatest numbers of lists and of nodes, by the chapter's words.
const (
	mostLists = 64
	mostNodes = 65536
)

// model is lists by the chapter's words alone: the free nodes, the nodes of each list, and all nodes that stand in lists by their last use, each with the first one ahead.
type model struct {
	nodes  int
	free   []int
	orders [][]int
	used   []int
}

func newModel(n, nodes int) *model {
	m := &model{nodes: nodes, orders: make([][]int, n)}
	for node := range nodes {
		m.free = append(m.free, node)
	}
	return m
}

// without is a list without a node, in new memory.
func without(l []int, node int) []int {
	return slices.DeleteFunc(slices.Clone(l), func(x int) bool { return x == node })
}

// ahead is a list with a node ahead, in new memory.
func ahead(node int, l []int) []int { return append([]int{node}, l...) }

func (m *model) hasList(list int) bool { return list >= 0 && list < len(m.orders) }

// list is where a node stands; -1: in none.
func (m *model) list(node int) int {
	return slices.IndexFunc(m.orders, func(l []int) bool { return slices.Contains(l, node) })
}

func (m *model) use(node, list int) {
	m.orders[list] = ahead(node, without(m.orders[list], node))
	m.used = ahead(node, without(m.used, node))
}

func (m *model) add(list int) (int, api.Code) {
	if !m.hasList(list) {
		return -1, api.ErrRange
	}
	if len(m.free) == 0 {
		return -1, api.ErrFull
	}
	node := m.free[0]
	m.free = m.free[1:]
	m.use(node, list)
	return node, api.OK
}

// refuses is what is wrong with a node that is to be dropped or touched.
func (m *model) refuses(node int) api.Code {
	if node < 0 || node >= m.nodes {
		return api.ErrRange
	}
	if m.list(node) < 0 {
		return api.ErrNone
	}
	return api.OK
}

func (m *model) drop(node int) api.Code {
	code := m.refuses(node)
	if code == api.OK {
		list := m.list(node)
		m.orders[list] = without(m.orders[list], node)
		m.used = without(m.used, node)
		m.free = ahead(node, m.free)
	}
	return code
}

func (m *model) touch(node int) api.Code {
	code := m.refuses(node)
	if code == api.OK {
		m.use(node, m.list(node))
	}
	return code
}

// end is the last of a list's nodes; -1, if it has none.
func end(l []int) int {
	if len(l) == 0 {
		return -1
	}
	return l[len(l)-1]
}

// source is numbers that look as if by chance, the same ones at each run.
func source(seed uint64) func(int) int {
	return func(n int) int {
		seed += 0x9e3779b97f4a7c15
		z := seed
		z = (z ^ z>>30) * 0xbf58476d1ce4e5b9
		z = (z ^ z>>27) * 0x94d049bb133111eb
		return int((z ^ z>>31) % uint64(n))
	}
}

// outside is numbers below 0, and past the end of so many.
func outside(n int) []int {
	return []int{-1, -2, -64, -65536, math.MinInt, math.MinInt + 1, n, n + 1, n + 2, n + 64, n + 65, n + 65536, 2 * n, 1 << 31, 1 << 32, 1<<32 + 1, math.MaxInt, math.MaxInt - 1}
}

// fresh is new lists.
func fresh(t *testing.T, n, nodes int) *lists.Lists {
	t.Helper()
	l, err := lists.New(n, nodes)
	if err != nil || l == nil {
		t.Fatalf("New(%d, %d) = %v, %v", n, nodes, l, err)
	}
	return l
}

// add adds a node that should have the number want.
func add(t *testing.T, l *lists.Lists, list, want int) {
	t.Helper()
	if got, err := l.Add(list); got != want || err != nil {
		t.Fatalf("Add(%d) = %d, %v, want %d", list, got, err, want)
	}
}

// done fails if a call that should be done was refused.
func done(t *testing.T, err error) {
	t.Helper()
	if err != nil {
		t.Fatalf("refused: %v", err)
	}
}

// wantFault holds an error against the one link that it should have.
func wantFault(t *testing.T, err error, op string, at int, code api.Code) {
	t.Helper()
	want := []api.Step{{Op: op, At: at, Code: code}}
	if got := trouble.Chain(err); !slices.Equal(got, want) {
		t.Errorf("got %v, want %v", got, want)
	}
	if trouble.Of(err) != code {
		t.Errorf("Of is %d, want %d", trouble.Of(err), code)
	}
}

// wantOrders holds the orders of all lists, and which node is the oldest, against what they should be.
func wantOrders(t *testing.T, l *lists.Lists, oldest int, orders ...[]int) {
	t.Helper()
	for list, want := range orders {
		if got := l.Order(list); !slices.Equal(got, want) {
			t.Errorf("Order(%d) is %v, want %v", list, got, want)
		}
		if got := l.Len(list); got != len(want) {
			t.Errorf("Len(%d) is %d, want %d", list, got, len(want))
		}
		if got := l.Last(list); got != end(want) {
			t.Errorf("Last(%d) is %d, want %d", list, got, end(want))
		}
		for _, node := range want {
			if got := l.List(node); got != list {
				t.Errorf("List(%d) is %d, want %d", node, got, list)
			}
		}
	}
	if got := l.Oldest(); got != oldest {
		t.Errorf("Oldest is %d, want %d", got, oldest)
	}
	if !l.Sound() {
		t.Error("not sound")
	}
}

// wantModel holds all that can be asked of lists against their model.
func wantModel(t *testing.T, l *lists.Lists, m *model) {
	t.Helper()
	wantOrders(t, l, end(m.used), m.orders...)
	for node := range m.nodes {
		if got, want := l.List(node), m.list(node); got != want {
			t.Errorf("List(%d) is %d, want %d", node, got, want)
		}
	}
	wantNothingOutside(t, l, len(m.orders), m.nodes)
}

// wantNothingOutside asks for lists and nodes that there are not.
func wantNothingOutside(t *testing.T, l *lists.Lists, n, nodes int) {
	t.Helper()
	for _, list := range outside(n) {
		if l.Last(list) != -1 || l.Len(list) != 0 || len(l.Order(list)) != 0 {
			t.Errorf("list %d: last %d, len %d, order %v", list, l.Last(list), l.Len(list), l.Order(list))
		}
	}
	for _, node := range outside(nodes) {
		if got := l.List(node); got != -1 {
			t.Errorf("List(%d) is %d", node, got)
		}
	}
}

// The chapter's example: two nodes added to a list, the first one touched: the second one is the oldest.
func TestExample(t *testing.T) {
	l := fresh(t, 1, 2)
	first, err := l.Add(0)
	done(t, err)
	second, err := l.Add(0)
	done(t, err)
	wantOrders(t, l, first, []int{second, first})
	done(t, l.Touch(first))
	wantOrders(t, l, second, []int{first, second})
}

// 9.1: so many lists, without nodes, and so many nodes, all free, at both ends of the ranges.
func TestNew(t *testing.T) {
	for _, n := range []int{1, 2, 3, 63, mostLists} {
		for _, nodes := range []int{1, 2, 3, 64, 65, 1000, mostNodes - 1, mostNodes} {
			l := fresh(t, n, nodes)
			wantOrders(t, l, -1, make([][]int, n)...)
			wantNothingOutside(t, l, n, nodes)
			for _, node := range []int{0, nodes / 2, nodes - 1} {
				if l.List(node) != -1 {
					t.Errorf("of %d: node %d stands in a list", nodes, node)
				}
				wantFault(t, l.Drop(node), "drop", node, api.ErrNone)
				wantFault(t, l.Touch(node), "touch", node, api.ErrNone)
			}
		}
	}
}

// 9.1: numbers out of range are refused, that of lists ahead of that of nodes, and there are no lists beside the error.
func TestNewRefused(t *testing.T) {
	wrongLists := []int{0, -1, -64, mostLists + 1, mostLists + 2, 128, mostNodes, 1 << 32, 1<<32 + 1, math.MaxInt, math.MinInt}
	wrongNodes := []int{0, -1, -65536, mostNodes + 1, mostNodes + 2, 2 * mostNodes, 1 << 32, 1<<32 + 1, math.MaxInt, math.MinInt}
	for _, n := range wrongLists {
		for _, nodes := range append([]int{1, 100, mostNodes}, wrongNodes...) {
			l, err := lists.New(n, nodes)
			if l != nil {
				t.Errorf("New(%d, %d) is lists", n, nodes)
			}
			wantFault(t, err, "lists", n, api.ErrRange)
		}
	}
	for _, nodes := range wrongNodes {
		for _, n := range []int{1, 2, mostLists} {
			l, err := lists.New(n, nodes)
			if l != nil {
				t.Errorf("New(%d, %d) is lists", n, nodes)
			}
			wantFault(t, err, "nodes", nodes, api.ErrRange)
		}
	}
}

// 9.1, 9.2: of free nodes the lesser ones stand ahead, and each that is added stands ahead in its list.
func TestAdd(t *testing.T) {
	l := fresh(t, 3, 5)
	add(t, l, 1, 0)
	wantOrders(t, l, 0, nil, []int{0}, nil)
	add(t, l, 1, 1)
	wantOrders(t, l, 0, nil, []int{1, 0}, nil)
	add(t, l, 2, 2)
	add(t, l, 0, 3)
	add(t, l, 1, 4)
	wantOrders(t, l, 0, []int{3}, []int{4, 1, 0}, []int{2})
}

// 9.2: with no node free nothing is added, to whichever list, and nothing changes; one that is dropped has room made again.
func TestAddFull(t *testing.T) {
	l := fresh(t, 2, 3)
	for node := range 3 {
		add(t, l, node%2, node)
	}
	for range 3 {
		for list := range 2 {
			node, err := l.Add(list)
			if node != -1 {
				t.Errorf("added %d", node)
			}
			wantFault(t, err, "add", list, api.ErrFull)
			wantOrders(t, l, 0, []int{2, 0}, []int{1})
		}
	}
	done(t, l.Drop(1))
	add(t, l, 0, 1)
	wantOrders(t, l, 0, []int{1, 2, 0}, nil)
}

// 9.2, R6: a list that there is not is refused, whether a node is free or not, and nothing changes.
func TestAddNoList(t *testing.T) {
	for _, n := range []int{1, 2, mostLists} {
		l, m := fresh(t, n, 3), newModel(n, 3)
		for range 4 {
			for _, list := range outside(n) {
				node, err := l.Add(list)
				if node != -1 {
					t.Errorf("Add(%d) is %d", list, node)
				}
				wantFault(t, err, "add", list, api.ErrRange)
			}
			wantModel(t, l, m)
			if node, code := m.add(n - 1); code == api.OK {
				add(t, l, n-1, node)
			}
		}
	}
}

// 9.3: what is dropped stands in no list, and is the first free one: what was dropped last is added first.
func TestDrop(t *testing.T) {
	l := fresh(t, 2, 6)
	for node := range 5 {
		add(t, l, 0, node)
	}
	wantOrders(t, l, 0, []int{4, 3, 2, 1, 0}, nil)
	done(t, l.Drop(2))
	wantOrders(t, l, 0, []int{4, 3, 1, 0}, nil)
	done(t, l.Drop(0))
	wantOrders(t, l, 1, []int{4, 3, 1}, nil)
	done(t, l.Drop(4))
	wantOrders(t, l, 1, []int{3, 1}, nil)
	for _, node := range []int{0, 2, 4, 5} {
		if l.List(node) != -1 {
			t.Errorf("node %d stands in a list", node)
		}
	}
	for _, node := range []int{4, 0, 2, 5} {
		add(t, l, 1, node)
	}
	wantOrders(t, l, 1, []int{3, 1}, []int{5, 2, 0, 4})
	done(t, l.Drop(1))
	done(t, l.Drop(3))
	wantOrders(t, l, 4, nil, []int{5, 2, 0, 4})
}

// 9.3: what is touched stands ahead in its own list, from wherever in it; the others stay in order.
func TestTouch(t *testing.T) {
	l := fresh(t, 2, 5)
	for node := range 4 {
		add(t, l, 1, node)
	}
	add(t, l, 0, 4)
	wantOrders(t, l, 0, []int{4}, []int{3, 2, 1, 0})
	done(t, l.Touch(3))
	wantOrders(t, l, 0, []int{4}, []int{3, 2, 1, 0})
	done(t, l.Touch(1))
	wantOrders(t, l, 0, []int{4}, []int{1, 3, 2, 0})
	done(t, l.Touch(0))
	wantOrders(t, l, 2, []int{4}, []int{0, 1, 3, 2})
	done(t, l.Touch(2))
	wantOrders(t, l, 4, []int{4}, []int{2, 0, 1, 3})
	done(t, l.Touch(4))
	wantOrders(t, l, 3, []int{4}, []int{2, 0, 1, 3})
	done(t, l.Touch(4))
	wantOrders(t, l, 3, []int{4}, []int{2, 0, 1, 3})
}

// 9.3: a node that there is not, and one that is free, are refused, and nothing changes: not even which node is added next.
func TestNoNode(t *testing.T) {
	for _, nodes := range []int{4, 64, 65, 1000} {
		l := fresh(t, 3, nodes)
		for node := range 3 {
			add(t, l, node, node)
		}
		done(t, l.Drop(1))
		for _, node := range outside(nodes) {
			wantFault(t, l.Drop(node), "drop", node, api.ErrRange)
			wantFault(t, l.Touch(node), "touch", node, api.ErrRange)
			wantOrders(t, l, 0, []int{0}, nil, []int{2})
		}
		for node := 3; node < nodes; node++ {
			wantFault(t, l.Drop(node), "drop", node, api.ErrNone)
			wantFault(t, l.Touch(node), "touch", node, api.ErrNone)
		}
		for range 2 {
			wantFault(t, l.Drop(1), "drop", 1, api.ErrNone)
			wantFault(t, l.Touch(1), "touch", 1, api.ErrNone)
		}
		wantOrders(t, l, 0, []int{0}, nil, []int{2})
		add(t, l, 1, 1)
		for node := 3; node < nodes; node++ {
			add(t, l, 1, node)
		}
		if l.Oldest() != 0 || l.Len(1) != nodes-2 || l.Last(1) != 1 || !l.Sound() {
			t.Errorf("of %d: oldest %d, %d nodes, last %d", nodes, l.Oldest(), l.Len(1), l.Last(1))
		}
	}
}

// 9.4: the oldest is that of all lists which was used least lately, in whichever list it stands, and whatever its number is.
func TestOldest(t *testing.T) {
	l := fresh(t, 4, 6)
	wantOrders(t, l, -1, nil, nil, nil, nil)
	for node, list := range []int{3, 1, 0, 1, 3} {
		add(t, l, list, node)
		wantOrders(t, l, 0)
	}
	wantOrders(t, l, 0, []int{2}, []int{3, 1}, nil, []int{4, 0})
	for _, c := range []struct{ touch, oldest int }{{0, 1}, {2, 1}, {1, 3}, {3, 4}, {4, 0}, {1, 0}, {0, 2}, {2, 3}} {
		done(t, l.Touch(c.touch))
		wantOrders(t, l, c.oldest)
	}
	wantOrders(t, l, 3, []int{2}, []int{1, 3}, nil, []int{0, 4})
	for _, c := range []struct{ drop, oldest int }{{3, 4}, {1, 4}, {4, 0}, {0, 2}, {2, -1}} {
		done(t, l.Drop(c.drop))
		wantOrders(t, l, c.oldest)
	}
	wantOrders(t, l, -1, nil, nil, nil, nil)
	// What was used once, and dropped, is used anew when it is added: how long ago it was used ahead of that counts for nothing.
	add(t, l, 2, 2)
	add(t, l, 0, 0)
	wantOrders(t, l, 2, []int{0}, nil, []int{2}, nil)
	done(t, l.Drop(2))
	add(t, l, 2, 2)
	wantOrders(t, l, 0, []int{0}, nil, []int{2}, nil)
}

// 9.4, 9.5: of a list that has no nodes, and of one that had some, there is no last one, and no order.
func TestWithoutNodes(t *testing.T) {
	l := fresh(t, 3, 4)
	wantOrders(t, l, -1, nil, nil, nil)
	for range 3 {
		add(t, l, 1, 0)
		wantOrders(t, l, 0, nil, []int{0}, nil)
		done(t, l.Drop(0))
		wantOrders(t, l, -1, nil, nil, nil)
	}
}

// 9.5, R3: an order is new memory: who writes to it, or behind it, changes nothing.
func TestOrderIsNew(t *testing.T) {
	l := fresh(t, 2, 8)
	for node := range 4 {
		add(t, l, 0, node)
	}
	a, b := l.Order(0), l.Order(0)
	for i := range a {
		a[i] = 7
	}
	_ = append(a, 7, 7, 7)
	if !slices.Equal(b, []int{3, 2, 1, 0}) {
		t.Errorf("the other order is %v", b)
	}
	wantOrders(t, l, 0, []int{3, 2, 1, 0}, nil)
	add(t, l, 0, 4)
	if !slices.Equal(b, []int{3, 2, 1, 0}) {
		t.Errorf("an order that was answered is %v now", b)
	}
}

// 9.6 (what is used is last to go): nodes that are used by turns, the oldest one dropped each time, go in the order of their last uses.
func TestLastToGo(t *testing.T) {
	next := source(3)
	l, m := fresh(t, 5, 40), newModel(5, 40)
	for range 40 {
		list := next(5)
		node, _ := m.add(list)
		add(t, l, list, node)
	}
	for range 200 {
		node := next(40)
		m.touch(node)
		done(t, l.Touch(node))
	}
	for i := 39; i >= 0; i-- {
		oldest := l.Oldest()
		if oldest != m.used[i] {
			t.Fatalf("%d goes, want %d", oldest, m.used[i])
		}
		done(t, l.Drop(oldest))
	}
	wantOrders(t, l, -1, make([][]int, 5)...)
}

// step does the same to lists and their model, and holds what is answered against each other.
func step(t *testing.T, l *lists.Lists, m *model, kind, at int) {
	t.Helper()
	switch kind {
	case 0:
		got, err := l.Add(at)
		if want, code := m.add(at); got != want || trouble.Of(err) != code {
			t.Errorf("Add(%d) is %d, %v, want %d, code %d", at, got, err, want, code)
		}
	case 1:
		if got, want := trouble.Of(l.Drop(at)), m.drop(at); got != want {
			t.Errorf("Drop(%d): code %d, want %d", at, got, want)
		}
	default:
		if got, want := trouble.Of(l.Touch(at)), m.touch(at); got != want {
			t.Errorf("Touch(%d): code %d, want %d", at, got, want)
		}
	}
}

// 9.2 to 9.6 and P9: whatever is done, lists are what the chapter's words say, and are sound.
func TestRuns(t *testing.T) {
	next := source(1)
	for _, c := range []struct{ lists, nodes int }{{1, 1}, {1, 2}, {2, 1}, {2, 2}, {1, 9}, {3, 5}, {4, 20}, {9, 32}, {mostLists, 10}, {mostLists, 70}} {
		l, m := fresh(t, c.lists, c.nodes), newModel(c.lists, c.nodes)
		for range 1200 {
			kind := next(3)
			at := next(c.nodes+2) - 1
			if kind == 0 {
				at = next(c.lists+2) - 1
			}
			step(t, l, m, kind, at)
			wantModel(t, l, m)
		}
	}
}

// 9.2 to 9.6 and P9: at the greatest numbers each node is added once, and dropped once.
func TestGreatest(t *testing.T) {
	l := fresh(t, mostLists, mostNodes)
	for node := range mostNodes {
		add(t, l, node%mostLists, node)
	}
	if _, err := l.Add(mostLists - 1); trouble.Of(err) != api.ErrFull {
		t.Errorf("none is free, but %v", err)
	}
	if !l.Sound() || l.Oldest() != 0 {
		t.Errorf("oldest %d", l.Oldest())
	}
	for list := range mostLists {
		order := l.Order(list)
		if len(order) != mostNodes/mostLists || l.Len(list) != len(order) || l.Last(list) != list {
			t.Fatalf("list %d has %d nodes, last %d", list, len(order), l.Last(list))
		}
		for i, node := range order {
			if node != mostNodes-mostLists+list-i*mostLists {
				t.Fatalf("list %d: node %d at %d", list, node, i)
			}
		}
	}
	for node := range mostNodes {
		if l.Oldest() != node {
			t.Fatalf("oldest %d, want %d", l.Oldest(), node)
		}
		done(t, l.Drop(node))
	}
	wantOrders(t, l, -1, make([][]int, mostLists)...)
	add(t, l, 0, mostNodes-1)
}

// P10: what lists answer hangs on the calls on them alone, not on those on others.
func TestApart(t *testing.T) {
	a, b := fresh(t, 2, 3), fresh(t, 2, 3)
	add(t, a, 1, 0)
	wantOrders(t, b, -1, nil, nil)
	add(t, b, 0, 0)
	add(t, b, 0, 1)
	wantOrders(t, a, 0, nil, []int{0})
	done(t, a.Drop(0))
	wantOrders(t, b, 0, []int{1, 0}, nil)
	wantOrders(t, a, -1, nil, nil)
}

// P10: asking changes nothing, and is no use.
func TestAskingChangesNothing(t *testing.T) {
	l, m := fresh(t, 3, 6), newModel(3, 6)
	for _, list := range []int{0, 2, 0, 2} {
		step(t, l, m, 0, list)
	}
	for range 3 {
		for n := -1; n < 8; n++ {
			l.Last(n)
			l.List(n)
			l.Len(n)
			l.Order(n)
		}
		l.Oldest()
		l.Sound()
		wantModel(t, l, m)
	}
	step(t, l, m, 0, 1)
	wantModel(t, l, m)
}

// P0: lists that New did not make have no lists and no nodes; no call on them panics.
func TestZero(t *testing.T) {
	var l lists.Lists
	for _, n := range outside(0) {
		node, err := l.Add(n)
		if node != -1 {
			t.Errorf("Add(%d) is %d", n, node)
		}
		wantFault(t, err, "add", n, api.ErrRange)
		wantFault(t, l.Drop(n), "drop", n, api.ErrRange)
		wantFault(t, l.Touch(n), "touch", n, api.ErrRange)
	}
	wantOrders(t, &l, -1)
	wantNothingOutside(t, &l, 0, 0)
}

// P0: no numbers whatever have a call panic, and no calls have a node stand where it should not.
func FuzzLists(f *testing.F) {
	f.Add(2, 2, []byte{0, 1, 0, 1, 2, 0, 0, 0, 1, 1, 1, 1})
	f.Add(0, 1, []byte{})
	f.Add(1, 0, []byte{})
	f.Add(64, 65536, []byte{0, 63, 0, 64, 2, 0, 1, 0})
	f.Add(math.MinInt, math.MaxInt, []byte{0})
	f.Fuzz(func(t *testing.T, n, nodes int, acts []byte) {
		l, err := lists.New(n, nodes)
		good := n >= 1 && n <= mostLists && nodes >= 1 && nodes <= mostNodes
		if (err == nil) != good || (l != nil) != good {
			t.Fatalf("New(%d, %d) = %v", n, nodes, err)
		}
		if !good {
			return
		}
		m := newModel(n, nodes)
		for ; len(acts) >= 2; acts = acts[2:] {
			step(t, l, m, int(acts[0]%3), int(int8(acts[1])))
		}
		wantOrders(t, l, end(m.used), m.orders...)
	})
}
