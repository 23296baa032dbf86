package tape_test

import (
	"fmt"
	"math/rand"
	"strings"
	"testing"

	"byroad/api"
	"byroad/tape"
)

// model is a tape as the document's words say it, one text a segment, by numbers from 0 to 5.
type model struct {
	room   int
	there  [6]bool
	bytes  [6]string
	synced [6]int
}

func (m *model) used() int { return len(strings.Join(m.bytes[:], "")) }

func (m *model) tells() string {
	s := fmt.Sprint("used ", m.used(), " free ", max(m.room-m.used(), 0), " down false")
	for i, there := range m.there {
		if there {
			s += fmt.Sprintf("; %d: %q 0 %d %d", i, m.bytes[i], len(m.bytes[i]), m.synced[i])
		}
	}
	return s
}

// step does one change of both, and tells both answers.
func (m *model) step(d *tape.Tape, r *rand.Rand) (string, api.Errno, api.Errno) {
	i, n := r.Intn(6), r.Intn(9)-1
	switch r.Intn(7) {
	case 0, 1, 2:
		a, b := strings.Repeat("a", r.Intn(4)), strings.Repeat("b", r.Intn(4))
		name, got := fmt.Sprint("Append ", i, a, b), d.Append(i, []byte(a), []byte(b))
		if len(a+b) > max(m.room-m.used(), 0) {
			return name, got, api.ErrFull
		}
		m.there[i] = true
		m.bytes[i] += a + b
		return name, got, api.OK
	case 3, 4:
		name, got := fmt.Sprint("Sync ", i), d.Sync(i)
		if !m.there[i] {
			return name, got, api.ErrNone
		}
		m.synced[i] = len(m.bytes[i])
		return name, got, api.OK
	case 5:
		name, got := fmt.Sprint("Trim ", i, n), d.Trim(i, n)
		if !m.there[i] {
			return name, got, api.ErrNone
		}
		if n < 0 || n > len(m.bytes[i]) {
			return name, got, api.ErrArg
		}
		m.bytes[i] = m.bytes[i][:n]
		m.synced[i] = min(m.synced[i], n)
		return name, got, api.OK
	}
	name, got := fmt.Sprint("Drop ", i), d.Drop(i)
	if !m.there[i] {
		return name, got, api.ErrNone
	}
	m.there[i], m.bytes[i], m.synced[i] = false, "", 0
	return name, got, api.OK
}

// crash is the model behind a loss of power, and the keeps by which it came to that.
func (m *model) crash(r *rand.Rand) (*model, []int) {
	c, keeps := &model{room: m.room}, []int{}
	for i, there := range m.there {
		if !there {
			continue
		}
		tail := len(m.bytes[i]) - m.synced[i]
		keep := r.Intn(tail + 1)
		c.bytes[i] = m.bytes[i][:m.synced[i]+keep]
		c.synced[i] = len(c.bytes[i])
		c.there[i] = c.bytes[i] != ""
		keeps = append(keeps, keep)
	}
	return c, keeps
}

// P4.2 to P4.7: whatever is done in whatever order, the tape stands as the document's words say; what is refused changes nothing; what was synced lasts, and of each segment a beginning.
func TestAsTheWordsSay(t *testing.T) {
	r := rand.New(rand.NewSource(4))
	for range 300 {
		m := &model{room: 10 + r.Intn(30)}
		d := made(t, m.room)
		for i := range 60 {
			name, got, want := m.step(d, r)
			if got != want || tells(d) != m.tells() {
				t.Fatalf("%d %s: %d, not %d\n%s\n%s", i, name, got, want, tells(d), m.tells())
			}
			if i%10 == 9 {
				var keeps []int
				m, keeps = m.crash(r)
				d = d.Crash(keeps...)
				stands(t, fmt.Sprint("crashed ", keeps), d, m.tells())
			}
		}
	}
}
