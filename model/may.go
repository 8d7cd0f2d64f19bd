package model

import (
	"tollbar/api"
	"tollbar/frame"
)

// operation is one that a task may do at a channel: by which case, to send or to receive, where, with which value (0, to receive).
type operation struct {
	by   int
	send bool
	ch   int
	val  int64
}

// stand is where a task is whose next instruction others see.
type stand struct {
	m    *Model
	task int
	at   api.Frame
	does api.Ins
}

// stand answers where that task is, if it runs and comes there.
func (m *Model) stand(task int) (stand, bool) {
	f, e := m.Stand(task)
	if e != api.OK {
		return stand{}, false
	}
	x, is := frame.At(m.p, f)
	return stand{m, task, f, x}, is
}

// rule is what an instruction tries at channels, if it comes to any, and what it may do.
type rule struct {
	tries func() []operation
	may   func() []api.Entry
}

// rules answers those of all instructions that are not local, by Op.
func (s stand) rules() map[uint8]rule {
	return map[uint8]rule{
		api.OpSend:   {tries: s.toSend, may: s.waits},
		api.OpRecv:   {tries: s.toReceive, may: s.waits},
		api.OpSelect: {tries: s.cases, may: s.selects},
		api.OpClose:  {may: s.closes},
		api.OpSpawn:  {may: s.spawns},
		api.OpEnd:    {may: s.ends},
	}
}

// rule answers that of the instruction at s.
func (s stand) rule() rule { return s.rules()[s.does.Op] }

func (s stand) toSend() []operation {
	return []operation{{api.Plain, true, s.does.Ch, s.at.R[s.does.A]}}
}

func (s stand) toReceive() []operation {
	return []operation{{api.Plain, false, s.does.Ch, 0}}
}

// site answers the one that a select at s is of.
func (s stand) site() api.Site { return s.m.p.Sites[s.does.K] }

func (s stand) cases() (l []operation) {
	for k, c := range s.site().Cases {
		o := operation{k, c.Send, c.Ch, 0}
		if c.Send {
			o.val = s.at.R[c.Val]
		}
		l = append(l, o)
	}
	return l
}

// ready answers whether o could be done now.
func (m *Model) ready(o operation) bool {
	return o.ch != api.NoChan && m.chans[o.ch].What(o.send) != api.DoWait
}

// fault answers that of a task, by who closed, if another one did.
func fault(task, closer int, e api.Errno) api.Entry {
	return api.Entry{Kind: api.CFault, Task: task, Peer: closer, Code: e}
}

// move answers what o, which is ready, commits.
func (s stand) move(o operation) api.Entry {
	// A copy of the channel is served: what comes of it is then told by layer 16 alone.
	g, e := s.m.Chan(o.ch).Serve(o.send, o.val)
	if e != api.OK {
		return fault(s.task, api.NoTask, api.FaultSend)
	}
	x := api.Entry{Task: s.task, Ch: o.ch, Case: o.by, Val: g.Val}
	switch {
	case g.What == api.DoMeet:
		x.Kind, x.Peer, x.PeerCase, x.Ok = api.CMeet, g.Peer.Task, g.Peer.Case, o.send
	case g.What == api.DoRefill:
		x.Kind, x.Peer, x.PeerCase, x.Val2 = api.CRefill, g.Peer.Task, g.Peer.Case, g.Val2
	case o.send:
		x.Kind = api.CSend
	default:
		x.Kind, x.Ok = api.CRecv, g.Ok
	}
	return x
}

// moves answers what each operation at s commits that is ready; if none is, a commit of that kind alone.
func (s stand) moves(idle uint8) (l []api.Entry) {
	for _, o := range s.rule().tries() {
		if s.m.ready(o) {
			l = append(l, s.move(o))
		}
	}
	if len(l) == 0 {
		return []api.Entry{{Kind: idle, Task: s.task}}
	}
	return l
}

func (s stand) waits() []api.Entry { return s.moves(api.CBlock) }

func (s stand) selects() []api.Entry {
	if s.site().Default {
		return s.moves(api.CDone)
	}
	return s.moves(api.CBlock)
}

func (s stand) closes() []api.Entry {
	ch := s.does.Ch
	switch {
	case ch == api.NoChan:
		return []api.Entry{fault(s.task, api.NoTask, api.FaultNil)}
	case s.m.chans[ch].Closed():
		return []api.Entry{fault(s.task, api.NoTask, api.FaultClose)}
	}
	return []api.Entry{{Kind: api.CClose, Task: s.task, Ch: ch}}
}

func (s stand) spawns() []api.Entry {
	n := s.m.Tasks()
	if n >= s.m.most {
		return []api.Entry{fault(s.task, api.NoTask, api.FaultMany)}
	}
	return []api.Entry{{Kind: api.CSpawn, Task: s.task, Peer: n, Case: int(s.does.K)}}
}

func (s stand) ends() []api.Entry {
	return []api.Entry{{Kind: api.CEnd, Task: s.task}}
}
