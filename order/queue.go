package order

// queue is things that may come, as a heap: the least is the first.
type queue []int

func (q queue) Len() int           { return len(q) }
func (q queue) Less(i, j int) bool { return q[i] < q[j] }
func (q queue) Swap(i, j int)      { q[i], q[j] = q[j], q[i] }

// Push lays a thing in at the end, for package heap alone.
func (q *queue) Push(thing any) {
	*q = append(*q, thing.(int))
}

// Pop takes the thing at the end, for package heap alone.
func (q *queue) Pop() any {
	last := len(*q) - 1
	thing := (*q)[last]
	*q = (*q)[:last]
	return thing
}
