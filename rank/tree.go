package rank

import (
	"cmp"

	"covenant/api"
)

// tree is entries in their order: one, those ahead of it on the left and those behind it on the right. Sizes are kept, so that places are found without going over all.
type tree struct {
	entry       api.Scored
	size        int
	left, right *tree
}

// compare is the order: below 0, if a stands ahead of b.
func compare(a, b api.Scored) int {
	return cmp.Or(cmp.Compare(a.Score, b.Score), cmp.Compare(a.Name, b.Name))
}

// balanced gives a tree of entries that stand in their order.
func balanced(entries []api.Scored) *tree {
	if len(entries) == 0 {
		return nil
	}
	middle := len(entries) / 2
	return &tree{
		entry: entries[middle],
		size:  len(entries),
		left:  balanced(entries[:middle]),
		right: balanced(entries[middle+1:]),
	}
}

func (t *tree) len() int {
	if t == nil {
		return 0
	}
	return t.size
}

// with gives the tree with an entry more, which is not there yet.
func (t *tree) with(e api.Scored) *tree {
	if t == nil {
		return balanced([]api.Scored{e})
	}
	if compare(e, t.entry) < 0 {
		t.left = t.left.with(e)
	} else {
		t.right = t.right.with(e)
	}
	return t.settled()
}

// without gives the tree with an entry less.
func (t *tree) without(e api.Scored) *tree {
	if t == nil {
		return nil
	}
	if t.entry == e {
		return joined(t.left, t.right)
	}
	if compare(e, t.entry) < 0 {
		t.left = t.left.without(e)
	} else {
		t.right = t.right.without(e)
	}
	return t.settled()
}

// joined gives one tree of two, of which all of the left stand ahead of the right.
func joined(left, right *tree) *tree {
	if left == nil {
		return right
	}
	if right == nil {
		return left
	}
	first := right.first()
	t := &tree{entry: first, left: left, right: right.without(first)}
	return t.settled()
}

// first gives the first entry of a tree that is not empty.
func (t *tree) first() api.Scored {
	for t.left != nil {
		t = t.left
	}
	return t.entry
}

// settled counts a tree anew whose sides have changed, and lays it anew where one side has come to hold more than two thirds of it: so no way down is long, and many changes lie between two such layings.
func (t *tree) settled() *tree {
	left, right := t.left.len(), t.right.len()
	t.size = left + 1 + right
	if 3*max(left, right) <= 2*t.size {
		return t
	}
	return balanced(t.piece(nil, 0, t.size))
}

// piece lays the entries from place from up to, but not at, place to behind a list.
func (t *tree) piece(list []api.Scored, from, to int) []api.Scored {
	if t == nil || from >= to {
		return list
	}
	own := t.left.len()
	list = t.left.piece(list, from, min(to, own))
	if from <= own && own < to {
		list = append(list, t.entry)
	}
	return t.right.piece(list, max(from-own-1, 0), to-own-1)
}

// leading tells how many entries at the beginning are so; behind the first that is not, none may be.
func (t *tree) leading(so func(e api.Scored) bool) int {
	n := 0
	for t != nil {
		if so(t.entry) {
			n += t.left.len() + 1
			t = t.right
		} else {
			t = t.left
		}
	}
	return n
}
