package coord

import (
	"testing"

	"byroad/api"
	"byroad/mess"
	"byroad/tape"
)

// P29.3: behind the last try comes the first one. To get there by failing would take too long.
func TestLastTry(t *testing.T) {
	k, _ := tape.New(api.MaxDisk)
	c, e := Open(k, 8000, 3)
	if e != api.OK {
		t.Fatal("Open", e)
	}
	if _, _, e := c.Submit("sub c 2 retry put w 1\npath c"); e != api.OK {
		t.Fatal("Submit", e)
	}
	c.turns[1] = turn{try: 1<<20 - 1}
	for i, want := range []int{1<<20 - 1, 1 << 20, 1, 2} {
		l := c.Tick(int64(3 * i))
		if len(l) != 1 || l[0].Try != want || !mess.May(l[0]) {
			t.Fatal("Tick", i, l, "not of try", want)
		}
		m := mess.Answer(l[0], mess.Failed)
		m.Code = api.ErrKilled
		if l := c.Handle(m, int64(3*i)); len(l) != 0 {
			t.Fatal("it does not wait", l)
		}
	}
	if len(c.turns) != 1 {
		t.Error("turns", c.turns)
	}
}
