package replay_test

import (
	"slices"
	"strconv"
	"strings"
	"testing"

	"tollbar/api"
	"tollbar/replay"
	"tollbar/sample"
)

// scene is a log with one poll, whose set stands as a sign ?, and of which sets that is true.
type scene struct {
	p      api.Program
	l      string
	truths []api.Set
}

// log is that of s, with a poll of that set.
func (s scene) log(set int) []api.Entry {
	return sample.Log(strings.Replace(s.l, "?", strconv.Itoa(set), 1))
}

// place is where the poll stands.
func (s scene) place() int { return strings.Count(s.l[:strings.Index(s.l, "?")], ", ") }

// these are sets.
func these(l ...api.Set) []api.Set { return l }

// growing is a program whose task 0 has a case that is ready at once, and another one, as soon as task 1 sends.
func growing() api.Program {
	s := sample.Site(sample.Receives(0, 1, 2), sample.Sends(1, 3))
	return sample.Program([]int{1, 1}, []api.Site{s}, "spawn 1, select 4 0, select 4 0, end", "send 0 0, recv 1 2 1, recv 1 2 0, end")
}

// shrinking is one whose task 0 has two cases that are ready, of which task 1 takes one away, and brings it back.
func shrinking() api.Program {
	s := sample.Site(sample.Receives(0, 1, 2), sample.Receives(1, 1, 2))
	return sample.Program([]int{1, 1}, []api.Site{s}, "send 0 0, send 0 1, spawn 1, select 4 0, select 4 0, end", "recv 1 2 0, send 0 0, end")
}

// meeting is one whose task 0 receives by a select what task 1 sends.
func meeting() api.Program {
	s := sample.Site(sample.Receives(0, 1, 2), sample.Receives(-1, 3, 3))
	return sample.Program([]int{0}, []api.Site{s}, "spawn 1, select 4 0, select 4 0, end", "send 0 0, send 0 0, end", "end")
}

// closing is one whose task 0 selects, to receive, or to send, while task 1 closes.
func closing(c api.Case) api.Program {
	return sample.Program([]int{0}, []api.Site{sample.Site(c)}, "spawn 1, select 4 0, select 4 0, end", "close 0, close -1, end")
}

// plainly is one of each instruction that is no select, and of tasks that select as they begin.
func plainly() api.Program {
	s := sample.Or(sample.Site(sample.Receives(-1, 0, 0), sample.Sends(0, 1)))
	return sample.Program([]int{1, 1}, []api.Site{s}, "send 0 1, recv 1 2 1, spawn 1, close 1, end", "set 3 3, select 4 0, select 4 0, end")
}

// scenes are many, each for a word of what a poll must be.
func scenes() []scene {
	all, none := these(0, 1, 2, 3), these()
	full := "send 0 0 -1 0, send 0 1 -1 0, spawn 0 1 1, "
	grown, shrunk, met := growing(), shrinking(), meeting()
	out, in := closing(sample.Sends(0, 3)), closing(sample.Receives(0, 1, 2))
	return []scene{
		// between what was ready and what is ready
		{grown, "spawn 0 1 1, locked 0 0, poll 0 0 ?, send 0 1 1 0", these(2)},
		{grown, "spawn 0 1 1, locked 0 0, poll 0 0 ?", these(0, 2)},
		{grown, "spawn 0 1 1, locked 0 0, send 1 0 -1 0, poll 0 0 ?", these(0, 2)},
		{grown, "spawn 0 1 1, locked 0 0, send 1 0 -1 0, poll 0 0 ?, send 0 1 1 0", none},
		{grown, "spawn 0 1 1, locked 0 0, poll 0 0 ?, send 1 0 -1 0, recv 0 0 0 0 1", none},
		{grown, "spawn 0 1 1, send 1 0 -1 0, locked 0 0, poll 0 0 ?, recv 0 0 0 0 1", these(3)},
		{shrunk, full + "locked 0 0, poll 0 0 ?, recv 0 0 0 0 1", these(3)},
		{shrunk, full + "locked 0 0, recv 1 0 -1 0 1, poll 0 0 ?", all},
		{shrunk, full + "locked 0 0, recv 1 0 -1 0 1, poll 0 0 ?, recv 0 1 1 0 1", these(2, 3)},
		{shrunk, full + "locked 0 0, poll 0 0 ?, recv 1 0 -1 0 1, recv 0 1 1 0 1", these(2, 3)},
		{shrunk, full + "locked 0 0, recv 1 0 -1 0 1, poll 0 0 ?, send 1 0 -1 0, recv 0 1 1 0 1", these(3)},
		// the last one that has all locks
		{grown, "spawn 0 1 1, locked 0 0, send 1 0 -1 0, locked 0 0, poll 0 0 ?, recv 0 0 0 0 1", these(3)},
		{shrunk, full + "locked 0 0, recv 1 0 -1 0 1, locked 0 0, poll 0 0 ?", these(0, 2)},
		{shrunk, full + "locked 0 0, recv 1 0 -1 0 1, locked 0 0, poll 0 0 ?, send 1 0 -1 0, recv 0 0 0 0 1", none},
		{shrunk, full + "locked 0 0, recv 1 0 -1 0 1, poll 0 0 ?, locked 0 0", all},
		{shrunk, full + "locked 0 0, recv 1 0 -1 0 1, poll 0 0 ?, locked 0 0, recv 0 1 1 0 1", these(2, 3)},
		{shrunk, full + "locked 7 0, free 7, dispatch 9 0, poll 9 0 ?", all},
		{shrunk, full + "locked 0 0, locked 0 1, ready 0 0, preempt 0 0, poll 0 0 ?", all},
		// it stands behind the last commit of its task
		{shrunk, full + "poll 0 0 ?", none},
		{shrunk, full + "poll 0 0 ?, locked 0 0", none},
		{shrunk, full + "locked 0 1, poll 0 0 ?", none},
		{shrunk, full + "locked 0 1, poll 0 1 ?", these(0)},
		{shrunk, full + "locked 0 0, recv 0 0 0 0 1, poll 0 0 ?", none},
		{shrunk, full + "locked 0 0, recv 0 0 0 0 1, locked 0 0, poll 0 0 ?", these(0, 2)},
		{shrunk, full + "locked 0 0, recv 0 0 0 0 1, locked 0 0, poll 0 0 ?, recv 0 1 1 0 1", these(2)},
		{shrunk, "send 0 0 -1 0, send 0 1 -1 0, locked 0 0, spawn 0 1 1, poll 0 0 ?, recv 0 0 0 0 1", none},
		// the first commit of its task behind
		{shrunk, full + "locked 0 0, poll 0 0 ?, recv 0 0 0 0 1, recv 0 1 1 0 1", these(3)},
		{shrunk, full + "locked 0 0, recv 1 0 -1 0 1, poll 0 0 ?, recv 0 1 1 0 1, send 1 0 -1 0, recv 0 0 0 0 1", these(2, 3)},
		{shrunk, full + "locked 0 0, recv 1 0 -1 0 1, poll 0 0 ?, send 1 0 -1 0, end 1", all},
		// whoever is a commit's other one does not commit
		{met, "spawn 0 1 1, locked 0 0, poll 0 0 ?, block 0", these(0)},
		{met, "spawn 0 1 1, block 0, locked 0 0, poll 0 0 ?", these(0)},
		{met, "spawn 0 1 1, block 0, locked 0 0, meet 1 0 0 -1 0 0 1, poll 0 0 ?", these(0)},
		{met, "spawn 0 1 1, block 0, locked 0 0, meet 1 0 0 -1 0 0 1, poll 0 0 ?, block 0", these(0)},
		{met, "spawn 0 1 1, block 0, locked 0 0, poll 0 0 ?, meet 1 0 0 -1 0 0 1, block 1", these(0)},
		{met, "spawn 0 1 1, block 0, locked 0 0, poll 0 0 ?, meet 1 0 0 -1 0 0 1, block 1, meet 0 1 0 0 -1 0 0", none},
		{met, "spawn 0 1 1, block 0, meet 1 0 0 -1 0 0 1, locked 0 0, poll 0 0 ?, block 1, meet 0 1 0 0 -1 0 0", none},
		{met, "spawn 0 1 1, block 0, meet 1 0 0 -1 0 0 1, block 1, locked 0 0, poll 0 0 ?, meet 0 1 0 0 -1 0 0", these(1)},
		{met, "spawn 0 1 1, block 1, locked 0 0, poll 0 0 ?, meet 0 1 0 0 -1 0 0, block 1", these(1)},
		{met, "spawn 0 1 1, block 1, locked 0 0, meet 0 1 0 0 -1 0 0, poll 0 0 ?", none},
		// who is woken, or faults, commits
		{in, "spawn 0 1 1, block 0, close 1 0, locked 0 0, poll 0 0 ?, wake 0 1 0 0", these(0)},
		{in, "spawn 0 1 1, block 0, close 1 0, locked 0 0, poll 0 0 ?, wake 0 1 0 0, recv 0 0 0 0 0", these(0)},
		{in, "spawn 0 1 1, block 0, close 1 0, locked 0 0, wake 0 1 0 0, poll 0 0 ?", none},
		{in, "spawn 0 1 1, block 0, close 1 0, wake 0 1 0 0, locked 0 0, poll 0 0 ?, recv 0 0 0 0 0", these(1)},
		{out, "spawn 0 1 1, block 0, close 1 0, locked 0 0, poll 0 0 ?, fault 0 1 140", these(0)},
		{out, "spawn 0 1 1, block 0, locked 0 0, close 1 0, fault 0 1 140, poll 0 0 ?", none},
		{out, "spawn 0 1 1, block 0, close 1 0, fault 0 1 140, locked 0 0, poll 0 0 ?", these(0)},
		{out, "spawn 0 1 1, close 1 0, locked 0 0, poll 0 0 ?, fault 0 -1 140", these(1)},
		{out, "spawn 0 1 1, locked 0 0, poll 0 0 ?, close 1 0, fault 0 -1 140", none},
		{out, "spawn 0 1 1, close 1 0, locked 0 0, fault 0 -1 140, poll 0 0 ?", none},
		{out, "spawn 0 1 1, close 1 0, locked 0 0, fault 1 -1 142, poll 0 0 ?", these(0, 1)},
		{out, "spawn 0 1 1, close 1 0, fault 1 -1 142, locked 0 0, poll 0 0 ?, free 0", these(0, 1)},
		// its task is there
		{plainly(), "send 0 1 -1 0, locked 0 0, poll 0 1 ?", none},
		{plainly(), "locked 0 1, poll 0 1 ?", none},
		{plainly(), "locked 0 31, poll 0 31 ?", none},
		// who is no select's, or where nothing is told
		{plainly(), "locked 0 0, poll 0 0 ?, send 0 1 -1 0", these(0)},
		{plainly(), "send 0 1 -1 0, locked 0 0, poll 0 0 ?, recv 0 1 -1 0 1", these(0)},
		{plainly(), "send 0 1 -1 0, recv 0 1 -1 0 1, spawn 0 1 1, locked 0 0, poll 0 0 ?, close 0 1", these(0)},
		{plainly(), "send 0 1 -1 0, recv 0 1 -1 0 1, spawn 0 1 1, locked 3 1, poll 3 1 ?, send 1 0 1 0", these(2)},
		{met, "locked 0 0, poll 0 0 ?, spawn 0 1 1", these(0)},
		{met, "locked 0 1, poll 0 1 ?, spawn 0 1 1", none},
		{met, "locked 0 1, spawn 0 1 1, poll 0 1 ?", these(0)},
		{met, "locked 0 1, spawn 0 1 1, poll 0 1 ?, block 1", these(0)},
		{sample.Program(nil, nil, "end"), "locked 0 0, poll 0 0 ?, end 0", these(0)},
		{sample.Program(nil, nil, "end"), "end 0, locked 0 0, poll 0 0 ?", these(0)},
		{sample.Program(nil, nil, "end"), "locked 0 0, end 0, poll 0 0 ?", none},
		{sample.Program(nil, nil, "jump 0"), "locked 0 0, poll 0 0 ?", these(0)},
		{sample.Program(nil, nil, "close -1, end"), "locked 0 0, poll 0 0 ?, fault 0 -1 142", these(0)},
	}
}

// spawned are scenes of a task that selects at once, and was not there ahead.
func spawned() []scene {
	s := sample.Or(sample.Site(sample.Receives(-1, 0, 0), sample.Sends(0, 1)))
	p := sample.Program([]int{1}, []api.Site{s}, "spawn 1, spawn 1, end", "set 3 3, select 4 0, select 4 0, end")
	return []scene{
		{p, "locked 0 1, spawn 0 1 1, poll 0 1 ?", these(0)},
		{p, "locked 0 1, spawn 0 1 1, poll 0 1 ?, send 1 0 1 0", these()},
		{p, "locked 0 1, poll 0 1 ?, spawn 0 1 1", these()},
		{p, "spawn 0 1 1, locked 0 1, poll 0 1 ?, send 1 0 1 0", these(2)},
		{p, "spawn 0 1 1, locked 0 1, poll 0 1 ?, spawn 0 2 1, send 2 0 1 0", these(0, 2)},
		{p, "spawn 0 1 1, locked 0 1, poll 0 1 ?, spawn 0 2 1, send 2 0 1 0, default 1", these(0, 2)},
		{p, "spawn 0 1 1, spawn 0 2 1, send 2 0 1 0, locked 0 1, poll 0 1 ?, default 1", these(0)},
		{p, "spawn 0 1 1, send 1 0 1 0, locked 0 1, default 1, poll 0 1 ?", these()},
		{p, "spawn 0 1 1, locked 0 2, spawn 0 2 1, poll 0 2 ?, send 1 0 1 0, default 2", these(0)},
	}
}

// TestP182Scenes: of each set whether a poll of it is true; never of one that has what no site has.
func TestP182Scenes(t *testing.T) {
	for _, s := range append(scenes(), spawned()...) {
		for set := range 8 {
			l := s.log(set)
			g, _ := gone(s.p, 4, l)
			if g.wrong != api.OK {
				t.Fatalf("%s: %v at %d", s.l, g.wrong, g.right())
			}
			at, is := s.place(), slices.Contains(s.truths, api.Set(set))
			if is {
				at = len(l)
			}
			if k, got := replay.Polls(s.p, 4, l...); k != at || got != is {
				t.Errorf("Polls(%s) is %d, %v", lines(l), k, got)
			}
			polled(t, s.p, 4, g)
			if endless(g.ahead[len(l)]) {
				continue
			}
			for k := 2; k < 64; k++ {
				l[s.place()].Set = api.Set(set) | 1<<k
				if at, is := replay.Polls(s.p, 4, l...); at != s.place() || is {
					t.Errorf("Polls(%s) is %d, %v", lines(l), at, is)
				}
			}
		}
	}
}

// TestP182NotRight: no place is told of a log that is not right, wherever that is found out.
func TestP182NotRight(t *testing.T) {
	p := growing()
	for _, l := range []string{
		"block 0",
		"poll 0 0 0, block 0",
		"spawn 0 1 1, poll 0 0 7, free 255",
		"5 spawn 0 1 1, poll 0 0 7, 4 free 0",
		"spawn 0 1 1, locked 0 0, poll 0 0 2, send 0 1 1 1",
		"spawn 0 1 1, locked 0 0, poll 0 0 2, send 0 1 1 0, send 0 1 1 0",
		"poll 0 32 0",
	} {
		if at, is := replay.Polls(p, 3, sample.Log(l)...); at != 0 || is {
			t.Errorf("Polls(%s) is %d, %v", l, at, is)
		}
	}
	for _, l := range []string{"", "free 0", "spawn 0 1 1", "locked 0 0, locked 0 31"} {
		row := sample.Log(l)
		if at, is := replay.Polls(p, 3, row...); at != len(row) || !is {
			t.Errorf("Polls(%s) is %d, %v", l, at, is)
		}
	}
}

// TestP182First: the first one that is not true is told, though a later one was found out earlier.
func TestP182First(t *testing.T) {
	p := shrinking()
	full := "send 0 0 -1 0, send 0 1 -1 0, spawn 0 1 1, "
	for _, x := range []struct {
		l  string
		at int
	}{
		{full + "locked 0 0, poll 0 0 2, poll 0 1 0, recv 0 0 0 0 1", 4},
		{full + "locked 0 0, poll 0 0 2, poll 0 31 0, poll 0 0 4, recv 0 0 0 0 1", 4},
		{full + "locked 0 0, poll 0 0 3, poll 0 0 2, poll 0 0 4, recv 0 0 0 0 1", 5},
		{full + "locked 0 0, poll 0 0 3, poll 0 0 3, poll 0 0 4, recv 0 0 0 0 1", 6},
		{full + "locked 0 0, poll 0 0 2, poll 0 1 0", 5},
		{full + "locked 0 0, poll 0 0 1, poll 0 0 2, recv 0 0 0 0 1", 4},
		{full + "locked 0 0, poll 0 0 3, poll 0 0 1, recv 1 0 -1 0 1, recv 0 1 1 0 1", 5},
		{full + "locked 0 1, poll 0 1 0, locked 0 0, poll 0 0 0, poll 0 1 1, recv 1 0 -1 0 1, recv 0 1 1 0 1", 6},
		// one behind another one that has the locks: each is held against those ahead of it
		{full + "locked 0 0, poll 0 0 1, recv 1 0 -1 0 1, locked 0 0, poll 0 0 2, recv 0 1 1 0 1", 4},
		{full + "locked 0 0, poll 0 0 3, recv 1 0 -1 0 1, locked 0 0, poll 0 0 3, recv 0 1 1 0 1", 7},
		{full + "locked 0 0, poll 0 0 3, recv 1 0 -1 0 1, locked 0 0, poll 0 0 2, recv 0 1 1 0 1", 9},
		{full + "poll 0 1 0, locked 0 0, poll 0 0 0, recv 0 0 0 0 1", 3},
		{"poll 0 0 0", 0},
		{"poll 0 0 0, poll 0 0 0", 0},
		{"locked 0 0, poll 0 0 0, poll 0 0 0, poll 3 1 0", 3},
	} {
		l := sample.Log(x.l)
		if at, is := replay.Polls(p, 4, l...); at != x.at || is != (x.at == len(l)) {
			t.Errorf("Polls(%s) is %d, %v", x.l, at, is)
		}
		g, _ := gone(p, 4, l)
		held(t, p, 4, g)
	}
}

// rows tries all rows of the entries of an alphabet behind g, up to so many more.
func rows(t *testing.T, p api.Program, g *plain, alphabet []api.Entry, more int, wants map[string]int) {
	polled(t, p, 4, g)
	if g.wrong != api.OK {
		return
	}
	for at, x := range g.l {
		if x.Kind == api.MPoll {
			wants[g.wants(at)]++
		}
	}
	if more == 0 {
		return
	}
	for _, x := range alphabet {
		rows(t, p, g.with(x), alphabet, more-1, wants)
	}
}

// TestP182All: all rows of few entries, of few programs.
func TestP182All(t *testing.T) {
	marks := ", locked 0 0, locked 0 1, poll 0 0 0, poll 0 0 1, poll 0 0 2, poll 0 0 3, poll 0 1 0"
	for _, x := range []struct {
		p        api.Program
		more     int
		begins   string
		alphabet string
	}{
		{shrinking(), 4, "send 0 0 -1 0, send 0 1 -1 0, spawn 0 1 1", "recv 0 0 0 0 1, recv 0 1 1 0 1, recv 1 0 -1 0 1, send 1 0 -1 0" + marks},
		{growing(), 4, "spawn 0 1 1", "send 0 1 1 0, recv 0 0 0 0 1, send 1 0 -1 0" + marks},
		{meeting(), 5, "spawn 0 1 1", "block 0, block 1, meet 1 0 0 -1 0 0 1, meet 0 1 0 0 -1 0 0, locked 0 0, poll 0 0 0, poll 0 0 1, poll 0 0 2"},
		{closing(sample.Receives(0, 1, 2)), 5, "spawn 0 1 1", "block 0, close 1 0, wake 0 1 0 0, recv 0 0 0 0 0, fault 1 -1 142, locked 0 0, poll 0 0 0, poll 0 0 1"},
		{closing(sample.Sends(0, 3)), 5, "spawn 0 1 1", "block 0, close 1 0, fault 0 1 140, fault 0 -1 140, fault 1 -1 142, locked 0 0, poll 0 0 0, poll 0 0 1"},
		{spawned()[0].p, 4, "", "spawn 0 1 1, spawn 0 2 1, send 1 0 1 0, default 1, send 2 0 1 0, locked 0 1, poll 0 1 0, poll 0 1 2, locked 0 2, poll 0 2 2"},
	} {
		g, _ := gone(x.p, 4, sample.Log(x.begins))
		wants := map[string]int{}
		rows(t, x.p, g, sample.Log(x.alphabet), x.more, wants)
		for _, want := range []string{there, locks, before, behind, all} {
			if wants[want] == 0 && want != there {
				t.Errorf("of %s no poll wants %s", x.alphabet, want)
			}
		}
	}
}

// TestP182Logs: the polls of many logs: each alone, with the others left out, too.
func TestP182Logs(t *testing.T) {
	wants := map[string]int{}
	for _, c := range logs(t, 600, 70) {
		polled(t, c.p, c.most, c.g)
		for at, x := range c.g.l {
			if x.Kind != api.MPoll {
				continue
			}
			want := c.g.wants(at)
			wants[want]++
			others := func(y api.Entry) bool { return y.Kind == api.MPoll }
			alone := slices.DeleteFunc(slices.Clone(c.g.l[:at]), others)
			place := len(alone)
			alone = append(alone, x)
			alone = append(alone, slices.DeleteFunc(slices.Clone(c.g.l[at+1:]), others)...)
			if want == all {
				place = len(alone)
			}
			if k, is := replay.Polls(c.p, c.most, alone...); k != place || is != (want == all) {
				t.Fatalf("of %+v: Polls(%s) is %d, %v", c.p, lines(alone), k, is)
			}
		}
	}
	for _, want := range []string{there, locks, before, behind, all} {
		if wants[want] < 30 {
			t.Errorf("%d polls want %s", wants[want], want)
		}
	}
}

// TestP182TrueOnes: logs all of whose polls are true, and then one is not.
func TestP182TrueOnes(t *testing.T) {
	many := 0
	for n, c := range logs(t, 500, 70) {
		l := c.g.l
		for at := 0; at < len(l); at++ { // leaving out polls makes no other one true or untrue
			if l[at].Kind == api.MPoll && c.g.wants(at) != all {
				l[at] = api.Entry{At: l[at].At, Kind: api.MFree}
			}
		}
		if k, is := replay.Polls(c.p, c.most, l...); k != len(l) || !is {
			t.Fatalf("of %+v: Polls(%s) is %d, %v", c.p, lines(l), k, is)
		}
		var at []int
		for k, x := range l {
			if x.Kind == api.MPoll {
				at = append(at, k)
			}
		}
		if many += len(at); len(at) == 0 {
			continue
		}
		k := at[sample.Mix(n)%uint64(len(at))]
		l[k].Set |= 1 << (6 + n%58)
		if got, is := replay.Polls(c.p, c.most, l...); got != k || is {
			t.Fatalf("of %+v: Polls(%s) is %d, %v", c.p, lines(l), got, is)
		}
	}
	if many < 1000 {
		t.Error(many)
	}
}
