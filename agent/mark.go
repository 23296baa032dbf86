package agent

import (
	"strconv"
	"strings"

	"byroad/api"
	"byroad/mess"
	"byroad/site"
)

// The keys of the system's rows are this and a name.
const system = "~"

// Names of the system's rows, and beginnings of the names of marks.
const (
	ticket  = "t"
	lowest  = "g" // all global transactions below what it holds are over
	kept    = "k"
	dropped = "x"
	undone  = "u"
)

// KeptName is the mark's name that says that a subtransaction is committed.
func KeptName(g, node int) string {
	return markName(kept, g, node)
}

// DroppedName is the mark's name that says that a subtransaction is given up for good.
func DroppedName(g, node int) string {
	return markName(dropped, g, node)
}

// UndoneName is the mark's name that says that a subtransaction is taken back.
func UndoneName(g, node int) string {
	return markName(undone, g, node)
}

// markName is a mark's name.
func markName(what string, g, node int) string {
	return what + strconv.Itoa(g) + "." + strconv.Itoa(node)
}

// markOf is the global transaction that a name says something of; 0, if it is no mark's.
func markOf(name string) int {
	if name == "" || !strings.Contains(kept+dropped+undone, name[:1]) {
		return 0
	}
	digits, _, _ := strings.Cut(name[1:], ".")
	g, err := strconv.Atoi(digits)
	if err != nil || strconv.Itoa(g) != digits {
		return 0
	}
	return g
}

// lowOf is below which number all global transactions are over, by a site's rows.
func lowOf(s *site.Site) int {
	low := 1
	for _, r := range s.Rows() {
		if r.Key == system+lowest {
			low = int(max(r.N, 1))
		}
	}
	return low
}

// put is to let the key of a name hold a number.
func put(name string, n int64) api.Op {
	return api.Op{Kind: api.Put, Key: system + name, N: n}
}

// fact is the kind of the reply that a request has for good, by the marks that are committed; 0, if it has none.
func (a *Agent) fact(m mess.Msg) int {
	has := a.site.Has
	switch {
	case m.Kind == mess.Undo && has(UndoneName(m.G, m.Node)):
		return mess.Undone
	case m.Kind == mess.Undo:
		return 0
	case has(KeptName(m.G, m.Node)):
		return mess.Kept
	case has(DroppedName(m.G, m.Node)):
		return mess.Dropped
	}
	return 0
}

// rise lets low rise: the site has no marks of what is below it then, and no work is at anything of it.
func (a *Agent) rise(low int) {
	if low <= a.low {
		return
	}
	l := []api.Op{put(lowest, int64(low))}
	for _, name := range a.site.Names("") {
		if g := markOf(name); g > 0 && g < low {
			l = append(l, api.Op{Kind: api.Del, Key: system + name})
		}
	}
	if _, _, e := a.site.Alone(l...); e != api.OK {
		return // a later message tells it once more
	}
	a.low = low
	for _, w := range a.all() {
		if w.G < low {
			a.leave(w)
		}
	}
}
