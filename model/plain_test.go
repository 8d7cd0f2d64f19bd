package model_test

import (
	"fmt"
	"math"
	"reflect"
	"slices"
	"testing"

	"tollbar/api"
	"tollbar/entry"
	"tollbar/model"
)

// pipe is a channel as the chapters' words tell it.
type pipe struct {
	Most       int
	Buf        []int64
	Closed     bool
	Send, Recv []api.Wait
}

// plain is a model as the chapters' words tell it, with nothing of the layers below.
type plain struct {
	p       api.Program
	most    int
	tasks   []api.Place
	pipes   []pipe
	closers map[int]int
	faulty  int
	fault   api.Errno
}

// choice is an entry that may be committed, and what it does.
type choice struct {
	x  api.Entry
	do func()
}

func begun(p api.Program, most int) *plain {
	x := &plain{p: p, most: most, tasks: []api.Place{{State: api.TkRun}}, closers: map[int]int{}, faulty: -1}
	for _, room := range p.Caps {
		x.pipes = append(x.pipes, pipe{Most: room})
	}
	return x
}

func (p *plain) copied() *plain {
	c := &plain{p: p.p, most: p.most, tasks: slices.Clone(p.tasks), closers: map[int]int{}, faulty: p.faulty, fault: p.fault}
	for _, x := range p.pipes {
		c.pipes = append(c.pipes, pipe{x.Most, slices.Clone(x.Buf), x.Closed, slices.Clone(x.Send), slices.Clone(x.Recv)})
	}
	for ch, task := range p.closers {
		c.closers[ch] = task
	}
	return c
}

// state tells all of p, as a text.
func (p *plain) state() string {
	return fmt.Sprint(p.tasks, p.pipes, p.closers, p.faulty, p.fault)
}

func (p *plain) runs(task int) bool {
	return task >= 0 && task < len(p.tasks) && p.tasks[task].State == api.TkRun
}

// stand is the frame behind the local instructions of a task that runs.
func (p *plain) stand(task int) (api.Frame, api.Errno) {
	if !p.runs(task) {
		return api.Frame{}, api.ErrNone
	}
	f := p.tasks[task].Frame
	for n := 0; ; n++ {
		x := p.p.Codes[f.Code][f.Pc]
		if x.Op > api.OpZero {
			return f, api.OK
		}
		if n == 65536 {
			return api.Frame{}, api.ErrLong
		}
		f.Pc++
		switch {
		case x.Op == api.OpSet:
			f.R[x.A] = x.K
		case x.Op == api.OpAdd:
			f.R[x.A] += f.R[x.B]
		case x.Op == api.OpJump || f.R[x.A] == 0:
			f.Pc = int(x.K)
		}
	}
}

// goes lets a task go on from f, by its case k, with what it received, and wait nowhere.
func (p *plain) goes(task int, f api.Frame, k int, val int64, ok int64) {
	x := p.p.Codes[f.Code][f.Pc]
	switch x.Op {
	case api.OpRecv:
		f.R[x.A] = val
		f.R[x.B] = ok
	case api.OpSelect:
		if l := p.p.Sites[x.K].Cases; k < len(l) && !l[k].Send {
			f.R[l[k].Val] = val
			f.R[l[k].Ok] = ok
		}
		f.R[x.B] = int64(k)
	}
	f.Pc++
	p.tasks[task] = api.Place{State: api.TkRun, Frame: f}
	of := func(w api.Wait) bool { return w.Task == task }
	for ch := range p.pipes {
		p.pipes[ch].Send = slices.DeleteFunc(p.pipes[ch].Send, of)
		p.pipes[ch].Recv = slices.DeleteFunc(p.pipes[ch].Recv, of)
	}
}

// waiting is the frame of a task that waits.
func (p *plain) waiting(task int) api.Frame { return p.tasks[task].Frame }

func (p *plain) faults(task, peer int, code api.Errno) choice {
	return choice{api.Entry{Kind: 11, Task: task, Peer: peer, Code: code}, func() { p.faulty, p.fault = task, code }}
}

// sends is what one may do that comes to send, if it need not wait.
func (p *plain) sends(task int, f api.Frame, k, ch int, val int64) []choice {
	c := &p.pipes[ch]
	switch {
	case c.Closed:
		return []choice{p.faults(task, -1, 140)}
	case len(c.Recv) > 0:
		w := c.Recv[0]
		return []choice{{api.Entry{Kind: 3, Task: task, Peer: w.Task, Ch: ch, Case: k, PeerCase: w.Case, Val: val, Ok: true}, func() {
			p.goes(w.Task, p.waiting(w.Task), w.Case, val, 1)
			p.goes(task, f, k, 0, 0)
		}}}
	case len(c.Buf) < c.Most:
		return []choice{{api.Entry{Kind: 1, Task: task, Ch: ch, Case: k, Val: val}, func() {
			c.Buf = append(c.Buf, val)
			p.goes(task, f, k, 0, 0)
		}}}
	}
	return nil
}

// receives is what one may do that comes to receive, if it need not wait.
func (p *plain) receives(task int, f api.Frame, k, ch int) []choice {
	c := &p.pipes[ch]
	switch {
	case len(c.Send) > 0 && c.Most == 0:
		w := c.Send[0]
		return []choice{{api.Entry{Kind: 3, Task: task, Peer: w.Task, Ch: ch, Case: k, PeerCase: w.Case, Val: w.Val}, func() {
			p.goes(w.Task, p.waiting(w.Task), w.Case, 0, 0)
			p.goes(task, f, k, w.Val, 1)
		}}}
	case len(c.Send) > 0:
		w, v := c.Send[0], c.Buf[0]
		return []choice{{api.Entry{Kind: 4, Task: task, Peer: w.Task, Ch: ch, Case: k, PeerCase: w.Case, Val: v, Val2: w.Val}, func() {
			c.Buf = append(slices.Clone(c.Buf[1:]), w.Val)
			p.goes(w.Task, p.waiting(w.Task), w.Case, 0, 0)
			p.goes(task, f, k, v, 1)
		}}}
	case len(c.Buf) > 0:
		v := c.Buf[0]
		return []choice{{api.Entry{Kind: 2, Task: task, Ch: ch, Case: k, Val: v, Ok: true}, func() {
			c.Buf = slices.Clone(c.Buf[1:])
			p.goes(task, f, k, v, 1)
		}}}
	case c.Closed:
		return []choice{{api.Entry{Kind: 2, Task: task, Ch: ch, Case: k}, func() { p.goes(task, f, k, 0, 0) }}}
	}
	return nil
}

// cases are those of an instruction at f: a send or a receive is one, plain.
func (p *plain) cases(f api.Frame) (first int, l []api.Case, otherwise bool) {
	x := p.p.Codes[f.Code][f.Pc]
	switch x.Op {
	case api.OpSend:
		return -1, []api.Case{{Send: true, Ch: x.Ch, Val: x.A}}, false
	case api.OpRecv:
		return -1, []api.Case{{Ch: x.Ch, Val: x.A, Ok: x.B}}, false
	}
	s := p.p.Sites[x.K]
	return 0, s.Cases, s.Default
}

// tries is what one may do by a case.
func (p *plain) tries(task int, f api.Frame, k int, c api.Case) []choice {
	switch {
	case c.Ch < 0:
		return nil
	case c.Send:
		return p.sends(task, f, k, c.Ch, f.R[c.Val])
	}
	return p.receives(task, f, k, c.Ch)
}

// waits is that a task waits by all these cases.
func (p *plain) waits(task int, f api.Frame, first int, l []api.Case) choice {
	return choice{api.Entry{Kind: 8, Task: task}, func() {
		for k, c := range l {
			switch {
			case c.Ch < 0:
			case c.Send:
				p.pipes[c.Ch].Send = append(p.pipes[c.Ch].Send, api.Wait{Task: task, Case: first + k, Val: f.R[c.Val]})
			default:
				p.pipes[c.Ch].Recv = append(p.pipes[c.Ch].Recv, api.Wait{Task: task, Case: first + k})
			}
		}
		p.tasks[task] = api.Place{State: api.TkWait, Frame: f}
	}}
}

func (p *plain) operates(task int, f api.Frame) (all []choice) {
	first, l, otherwise := p.cases(f)
	for k, c := range l {
		all = append(all, p.tries(task, f, first+k, c)...)
	}
	switch {
	case len(all) > 0:
		return all
	case otherwise:
		return []choice{{api.Entry{Kind: 7, Task: task}, func() { p.goes(task, f, len(l), 0, 0) }}}
	}
	return []choice{p.waits(task, f, first, l)}
}

func (p *plain) closes(task int, f api.Frame, ch int) choice {
	switch {
	case ch < 0:
		return p.faults(task, -1, 142)
	case p.pipes[ch].Closed:
		return p.faults(task, -1, 141)
	}
	return choice{api.Entry{Kind: 5, Task: task, Ch: ch}, func() {
		p.pipes[ch].Closed, p.closers[ch] = true, task
		p.goes(task, f, -1, 0, 0)
	}}
}

func (p *plain) spawns(task int, f api.Frame, code int) choice {
	n := len(p.tasks)
	if n >= p.most {
		return p.faults(task, -1, 143)
	}
	return choice{api.Entry{Kind: 9, Task: task, Peer: n, Case: code}, func() {
		p.tasks = append(p.tasks, api.Place{State: api.TkRun, Frame: api.Frame{Code: code, R: f.R}})
		p.goes(task, f, -1, 0, 0)
	}}
}

// befalls is what may be done to a task that waits.
func (p *plain) befalls(task int) (l []choice) {
	for ch, c := range p.pipes {
		switch {
		case !c.Closed:
		case len(c.Recv) > 0 && c.Recv[0].Task == task:
			k := c.Recv[0].Case
			l = append(l, choice{api.Entry{Kind: 6, Task: task, Peer: p.closers[ch], Ch: ch, Case: k}, func() { p.goes(task, p.waiting(task), k, 0, 0) }})
		case len(c.Recv) == 0 && len(c.Send) > 0 && c.Send[0].Task == task:
			l = append(l, p.faults(task, p.closers[ch], 140))
		}
	}
	return l
}

// choices is what a task may do, or what may be done to it.
func (p *plain) choices(task int) []choice {
	switch {
	case task < 0 || task >= len(p.tasks) || p.fault != 0:
		return nil
	case p.tasks[task].State == api.TkWait:
		return p.befalls(task)
	}
	f, e := p.stand(task)
	if e != api.OK {
		return nil
	}
	switch x := p.p.Codes[f.Code][f.Pc]; x.Op {
	case api.OpClose:
		return []choice{p.closes(task, f, x.Ch)}
	case api.OpSpawn:
		return []choice{p.spawns(task, f, int(x.K))}
	case api.OpEnd:
		return []choice{{api.Entry{Kind: 10, Task: task}, func() { p.tasks[task] = api.Place{State: api.TkOver, Frame: f} }}}
	}
	return p.operates(task, f)
}

// all is what may be done by, or to, all tasks.
func (p *plain) all() (l []api.Entry) {
	for task := range p.tasks {
		for _, c := range p.choices(task) {
			l = append(l, c.x)
		}
	}
	return l
}

// judged is what Apply must answer.
func (p *plain) judged(x api.Entry) api.Errno {
	switch {
	case p.fault != 0:
		return api.ErrHalt
	case entry.Check(x) != api.OK || x.Kind > 11:
		return api.ErrArg
	case p.choice(x) == nil:
		return api.ErrMove
	}
	return api.OK
}

// choice is what x does, if it can be now.
func (p *plain) choice(x api.Entry) func() {
	x.At = 0
	for _, c := range p.choices(x.Task) {
		if c.x == x {
			return c.do
		}
	}
	return nil
}

func (p *plain) apply(x api.Entry) { p.choice(x)() }

// ready are the cases that are ready, where a select is.
func (p *plain) ready(task int) (s api.Set, is bool) {
	f, e := p.stand(task)
	if e != api.OK || p.p.Codes[f.Code][f.Pc].Op != api.OpSelect {
		return 0, false
	}
	_, l, _ := p.cases(f)
	for k, c := range l {
		if len(p.tries(task, f, k, c)) > 0 {
			s += 1 << k
		}
	}
	return s, true
}

// count is how many tasks are so.
func (p *plain) count(state uint8) (n int) {
	for _, x := range p.tasks {
		if x.State == state {
			n++
		}
	}
	return n
}

func (p *plain) stuck() bool {
	return p.fault == 0 && p.count(api.TkRun) == 0 && p.count(api.TkWait) > 0 && len(p.all()) == 0
}

func (p *plain) over() bool { return p.fault == 0 && p.count(api.TkOver) == len(p.tasks) }

// taskSeen is what is told of one task.
type taskSeen struct {
	Place   api.Place
	Is      bool
	Stand   api.Frame
	None    api.Errno
	Ready   api.Set
	Selects bool
	Moves   []api.Entry
}

// seen is all that a model tells.
type seen struct {
	N           int
	Tasks       []taskSeen
	Pipes       []pipe
	Faulty      int
	Fault       api.Errno
	Stuck, Over bool
}

// whom are tasks to be asked for, of which that many are there; the low bits of some are one's that is.
func whom(n int) (l []int) {
	for task := range n + 2 {
		l = append(l, task)
	}
	return append(l, -1, -2, 31, 32, 33, 64, 256, 1<<32, -1<<32, math.MaxInt, math.MinInt)
}

// rowed is l, that is nil if it is empty.
func rowed[T any](l []T) []T {
	if len(l) == 0 {
		return nil
	}
	return l
}

// look is all that m tells.
func look(m *model.Model) seen {
	s := seen{N: m.Tasks(), Stuck: m.Stuck(), Over: m.Over()}
	s.Faulty, s.Fault = m.Fault()
	for _, task := range whom(s.N) {
		var x taskSeen
		x.Place, x.Is = m.Task(task)
		x.Stand, x.None = m.Stand(task)
		x.Ready, x.Selects = m.Ready(task)
		x.Moves = rowed(m.Moves(task))
		s.Tasks = append(s.Tasks, x)
	}
	for ch := 0; m.Chan(ch) != nil; ch++ {
		c := m.Chan(ch)
		s.Pipes = append(s.Pipes, pipe{c.Cap(), rowed(c.Buffer()), c.Closed(), rowed(c.Row(true)), rowed(c.Row(false))})
	}
	return s
}

// look is all that a model must tell that is as p.
func (p *plain) look() seen {
	s := seen{N: len(p.tasks), Stuck: p.stuck(), Over: p.over(), Faulty: p.faulty, Fault: p.fault}
	for _, task := range whom(s.N) {
		var x taskSeen
		if task >= 0 && task < s.N {
			x.Place, x.Is = p.tasks[task], true
		}
		x.Stand, x.None = p.stand(task)
		x.Ready, x.Selects = p.ready(task)
		for _, c := range p.choices(task) {
			x.Moves = append(x.Moves, c.x)
		}
		s.Tasks = append(s.Tasks, x)
	}
	for _, c := range p.pipes {
		s.Pipes = append(s.Pipes, pipe{c.Most, rowed(slices.Clone(c.Buf)), c.Closed, rowed(slices.Clone(c.Send)), rowed(slices.Clone(c.Recv))})
	}
	return s
}

// same fails, unless all that m tells is as p has it.
func same(t *testing.T, m *model.Model, p *plain) {
	t.Helper()
	if a, b := look(m), p.look(); !reflect.DeepEqual(a, b) {
		t.Fatalf("of %+v:\nit is  %+v\nnot    %+v", p.p, a, b)
	}
}
