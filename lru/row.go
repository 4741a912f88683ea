package lru

// entry is a key and its value, with those that stand beside it in the row.
type entry[K comparable, V any] struct {
	key          K
	value        V
	newer, older *entry[K, V]
}

// row is the order of the entries: a ring that is closed by an entry of its own, so that none has a side without a neighbour.
type row[K comparable, V any] struct{ end *entry[K, V] }

func newRow[K comparable, V any]() row[K, V] {
	end := &entry[K, V]{}
	end.newer, end.older = end, end
	return row[K, V]{end}
}

// newest is the end itself, if the row is empty; so is oldest.
func (r row[K, V]) newest() *entry[K, V] { return r.end.older }

func (r row[K, V]) oldest() *entry[K, V] { return r.end.newer }

// lay puts an entry that is in no row into this one, as the newest.
func (r row[K, V]) lay(e *entry[K, V]) {
	e.newer, e.older = r.end, r.newest()
	e.newer.older, e.older.newer = e, e
}

// lift takes an entry out.
func (r row[K, V]) lift(e *entry[K, V]) {
	e.newer.older, e.older.newer = e.older, e.newer
}

// renew makes an entry the newest.
func (r row[K, V]) renew(e *entry[K, V]) {
	r.lift(e)
	r.lay(e)
}
