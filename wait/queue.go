package wait

import "container/heap"

// queue is numbers of which the least one is taken first.
type queue struct{ l []int }

// Len, Less, Swap, Push and Pop are what package heap asks for.
func (q *queue) Len() int           { return len(q.l) }
func (q *queue) Less(i, j int) bool { return q.l[i] < q.l[j] }
func (q *queue) Swap(i, j int)      { q.l[i], q.l[j] = q.l[j], q.l[i] }
func (q *queue) Push(x any)         { q.l = append(q.l, x.(int)) }

func (q *queue) Pop() any {
	last := len(q.l) - 1
	x := q.l[last]
	q.l = q.l[:last]
	return x
}

// add puts a number in.
func (q *queue) add(n int) {
	heap.Push(q, n)
}

// take takes the least number out.
func (q *queue) take() int {
	return heap.Pop(q).(int)
}
