package model

import (
	"tollbar/api"
	"tollbar/frame"
)

// deeds answers how each kind of commit is done, once it is known that it can be.
func (m *Model) deeds() map[uint8]func(x api.Entry) {
	return map[uint8]func(x api.Entry){
		api.CSend:   m.send,
		api.CRecv:   m.receive,
		api.CMeet:   m.meet,
		api.CRefill: m.refill,
		api.CClose:  m.shut,
		api.CWake:   m.wake,
		api.CDone:   m.pass,
		api.CBlock:  m.block,
		api.CSpawn:  m.spawn,
		api.CEnd:    m.end,
		api.CFault:  m.halt,
	}
}

// where answers the frame at which a task is served: of one that waits it is its stand already.
func (m *Model) where(task int) api.Frame {
	if f, e := m.Stand(task); e == api.OK {
		return f
	}
	return m.tasks[task].Frame
}

// goOn lets a task go on that was served by the case k, with what it received.
func (m *Model) goOn(task, k int, val int64, ok bool) {
	// Done refuses none of what Moves told: the task stands at that instruction, and k is one of its cases.
	f, _ := frame.Done(m.p, m.where(task), k, val, ok)
	m.tasks[task] = api.Place{State: api.TkRun, Frame: f}
	for _, c := range m.chans {
		c.Drop(task)
	}
}

// sent lets a task go on that received nothing.
func (m *Model) sent(task, k int) { m.goOn(task, k, 0, false) }

func (m *Model) send(x api.Entry) {
	m.chans[x.Ch].Serve(true, x.Val)
	m.sent(x.Task, x.Case)
}

func (m *Model) receive(x api.Entry) {
	m.chans[x.Ch].Serve(false, 0)
	m.goOn(x.Task, x.Case, x.Val, x.Ok)
}

func (m *Model) meet(x api.Entry) {
	m.chans[x.Ch].Serve(x.Ok, x.Val)
	if x.Ok {
		m.sent(x.Task, x.Case)
		m.goOn(x.Peer, x.PeerCase, x.Val, true)
	} else {
		m.goOn(x.Task, x.Case, x.Val, true)
		m.sent(x.Peer, x.PeerCase)
	}
}

func (m *Model) refill(x api.Entry) {
	m.chans[x.Ch].Serve(false, 0)
	m.goOn(x.Task, x.Case, x.Val, true)
	m.sent(x.Peer, x.PeerCase)
}

func (m *Model) shut(x api.Entry) {
	m.chans[x.Ch].Close()
	m.closers[x.Ch] = x.Task
	m.sent(x.Task, api.Plain)
}

func (m *Model) wake(x api.Entry) { m.goOn(x.Task, x.Case, 0, false) }

// pass takes the default, whose number is behind those of the cases.
func (m *Model) pass(x api.Entry) {
	s, _ := m.stand(x.Task)
	m.sent(x.Task, len(s.site().Cases))
}

func (m *Model) block(x api.Entry) {
	s, _ := m.stand(x.Task)
	for _, o := range s.rule().tries() {
		if o.ch != api.NoChan {
			m.chans[o.ch].Wait(o.send, api.Wait{Task: x.Task, Case: o.by, Val: o.val})
		}
	}
	m.tasks[x.Task] = api.Place{State: api.TkWait, Frame: s.at}
}

func (m *Model) spawn(x api.Entry) {
	f := frame.Spawn(m.where(x.Task), x.Case)
	m.tasks = append(m.tasks, api.Place{State: api.TkRun, Frame: f})
	m.sent(x.Task, api.Plain)
}

func (m *Model) end(x api.Entry) {
	m.tasks[x.Task] = api.Place{State: api.TkOver, Frame: m.where(x.Task)}
}

func (m *Model) halt(x api.Entry) { m.faulty, m.fault = x.Task, x.Code }
