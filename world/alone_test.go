package world_test

import (
	"fmt"
	"math/rand"
	"strings"
	"testing"

	"byroad/api"
	"byroad/book"
	"byroad/flex"
	"byroad/ops"
	"byroad/plan"
	"byroad/sound"
	"byroad/world"
)

// taking is some well-formed flexible transaction each of whose undos takes back what was done.
func (l *life) taking() plan.Plan {
	for {
		var p flex.Spec
		for i := range 2 + l.r.Intn(4) {
			s := flex.Sub{Name: fmt.Sprint("s", i), Site: l.r.Intn(api.Sites), Type: some(l.r, flex.Pivot, flex.Comp, flex.Comp, flex.Retry, flex.Both)}
			for range 1 + l.r.Intn(3) {
				s.Do = append(s.Do, op(l.opOf(s.Type)))
			}
			if s.Undoable() {
				s.Undo, _ = ops.Inverse(s.Do...)
			}
			p.Subs = append(p.Subs, s)
		}
		for range 1 + l.r.Intn(4) {
			p.Paths = append(p.Paths, l.r.Perm(len(p.Subs))[:1+l.r.Intn(len(p.Subs))])
		}
		if x, _, e := plan.Of(p); e == api.OK && sound.Takes(p) {
			return x
		}
	}
}

// opOf is some operation that a subtransaction of a type may have, if its undo is to take it back.
func (l *life) opOf(kind int) string {
	key := some(l.r, "x", "y", "z")
	free := []string{"get " + key, "back " + key + " 3", "back " + key + " -9223372036854775807"}
	fails := []string{"add " + key + " 4", "min " + key + " -2 0", "min " + key + " 1 4", "add " + key + " 9223372036854775807"}
	puts := []string{"put " + key + " 2", "del " + key}
	switch kind {
	case flex.Comp:
		return some(l.r, append(free, fails...)...)
	case flex.Both:
		return some(l.r, free...)
	case flex.Retry:
		return some(l.r, append(free, puts...)...)
	}
	return some(l.r, append(append(free, fails...), puts...)...)
}

// anybody is what the nodes hold under anybody's keys that is not 0.
func (l *life) anybody() map[string]int64 {
	all := map[string]int64{}
	for node, held := range l.rows() {
		for key, n := range held {
			if !strings.HasPrefix(key, "~") && n != 0 {
				all[fmt.Sprint(node, key)] = n
			}
		}
	}
	return all
}

// taken is what the path that was taken makes of what was held, subtransaction by subtransaction.
func (l *life) taken(p plan.Plan, x book.Txn, held map[string]int64) {
	l.t.Helper()
	if x.Outcome != book.Committed {
		return
	}
	for _, i := range p.Path(x.At) {
		s := p.Subs[i]
		for _, o := range s.Do {
			at := fmt.Sprint(s.Site+1, o.Key)
			n, _, _, e := ops.Eval(o, held[at], held[at] != 0)
			is(l.t, "an operation of the path that was taken", e, api.OK)
			if held[at] = n; n == 0 {
				delete(held, at)
			}
		}
	}
}

// P0.2: global transactions run alone, one behind the other, whatever befalls all else.
func TestAlone(t *testing.T) {
	seen := map[string]int{}
	for seed := range 60 {
		r := rand.New(rand.NewSource(int64(seed)))
		c := world.Config{Seg: 20000, Every: int64(1 + r.Intn(4)), Limit: int64(1 + r.Intn(5)), Most: 1 + r.Intn(30), Room: full}
		w, e := world.New(c)
		is(t, "New", e, api.OK)
		l := &life{rig: &rig{t, w}, r: r, seen: seen}
		for node := 1; node <= api.Sites; node++ {
			l.sets(node, some(r, "put x 4", "put y 1", "get x"), some(r, "put z 9", "put x -1", "get z"))
		}
		for g := 1; g < 8; g++ {
			want := l.anybody()
			p := l.taking()
			l.submit(flex.Print(p.Spec), g)
			l.globals = append(l.globals, &global{g: g, p: p})
			for range r.Intn(100) {
				l.alone()
			}
			l.settles()
			x, _ := l.Status(g)
			l.taken(p, x, want)
			if got := l.anybody(); fmt.Sprint(got) != fmt.Sprint(want) {
				t.Fatal(seed, flex.Print(p.Spec), x, got, "not", want)
			}
			seen[fmt.Sprint("alone ", x.Outcome)]++
		}
	}
	for _, name := range []string{"alone 1", "alone 2", "another path", "settled"} {
		if seen[name] == 0 {
			t.Error("never seen:", name, seen)
		}
	}
}

// alone does something but by a client of a site, or what submits.
func (l *life) alone() {
	switch n := l.r.Intn(20); {
	case n == 0 && l.r.Intn(3) == 0:
		l.cancels()
	case n < 4:
		l.harm()
	case n < 8:
		l.Tick(1)
	case n < 10:
		l.starts(l.r.Intn(api.Sites + 1))
	default:
		l.packet()
	}
}
