// Package sample has programs for the tests of all packages, always the same ones.
package sample

import (
	"math"
	"slices"

	"tollbar/api"
)

// Mix makes of n a number that tells nothing of n.
func Mix(n int) uint64 {
	x := uint64(n+1) * 0x9e3779b97f4a7c15
	x = (x ^ x>>29) * 0xbf58476d1ce4e5b9
	return x ^ x>>32
}

// Plain answers a program of 3 channels, 2 sites and 4 codes, no two of a length, with each kind of instruction.
func Plain() api.Program {
	return api.Program{
		Caps: []int{0, 8, 3},
		Sites: []api.Site{
			{Cases: []api.Case{{Send: true, Ch: 2, Val: 7}, {Ch: 0, Val: 6, Ok: 5}, {Ch: api.NoChan, Val: 1}}, Default: true},
			{Cases: []api.Case{{Ch: 2, Val: 0, Ok: 7}}},
		},
		Codes: [][]api.Ins{
			{{Op: api.OpSpawn, K: 3}, {Op: api.OpSelect, B: 4, K: 1}, {Op: api.OpZero, A: 1, K: 4}, {Op: api.OpSpawn, K: 1}, {Op: api.OpEnd}},
			{{Op: api.OpRecv, A: 1, B: 2, Ch: 2}, {Op: api.OpSend, A: 3, Ch: api.NoChan}, {Op: api.OpClose, Ch: 1}, {Op: api.OpJump, K: 2}},
			{{Op: api.OpSet, A: 7, K: -5000}, {Op: api.OpAdd, A: 1, B: 2}, {Op: api.OpEnd}},
			{{Op: api.OpJump, K: 0}, {Op: api.OpEnd}},
		},
	}
}

// Full answers a program at each limit.
func Full() (p api.Program) {
	p.Caps = slices.Repeat([]int{api.MaxCap}, api.MaxChans)
	for range api.MaxSites {
		cases := slices.Repeat([]api.Case{{Ch: api.MaxChans - 1, Val: api.Regs - 1, Ok: api.Regs - 1}}, api.MaxCases)
		p.Sites = append(p.Sites, api.Site{Cases: cases, Default: true})
	}
	for range api.MaxCodes {
		code := []api.Ins{
			{Op: api.OpSelect, B: api.Regs - 1, K: api.MaxSites - 1},
			{Op: api.OpSpawn, K: api.MaxCodes - 1},
			{Op: api.OpZero, A: api.Regs - 1, K: api.MaxIns - 1},
			{Op: api.OpSet, A: api.Regs - 1, K: math.MinInt64},
		}
		recv := api.Ins{Op: api.OpRecv, A: api.Regs - 1, B: api.Regs - 1, Ch: api.MaxChans - 1}
		code = append(code, slices.Repeat([]api.Ins{recv}, api.MaxIns-1-len(code))...)
		p.Codes = append(p.Codes, append(code, api.Ins{Op: api.OpJump, K: api.MaxIns - 1}))
	}
	return p
}

// maker makes a program of numbers that the first one alone tells.
type maker struct {
	from, step int
	p          api.Program
}

// below answers the next number, from 0 on, below n.
func (m *maker) below(n int) int {
	m.step++
	return int(Mix(m.from+m.step) % uint64(n))
}

// channel answers one of the program's, or NoChan.
func (m *maker) channel() int { return m.below(len(m.p.Caps)+1) - 1 }

func (m *maker) site() {
	x := api.Site{Default: m.below(2) == 0}
	for range 1 + m.below(api.MaxCases) {
		c := api.Case{Send: m.below(2) == 0, Ch: m.channel(), Val: m.below(api.Regs)}
		if !c.Send {
			c.Ok = m.below(api.Regs)
		}
		x.Cases = append(x.Cases, c)
	}
	m.p.Sites = append(m.p.Sites, x)
}

// wide answers a number of any size, and of either sign.
func (m *maker) wide() int64 { return int64(Mix(m.from-m.below(1<<20))) >> m.below(64) }

// instruction answers one of that Op, of a code of that length, of a program of so many codes.
func (m *maker) instruction(op uint8, codes, length int) api.Ins {
	x := api.Ins{Op: op}
	switch op {
	case api.OpSet:
		x.A, x.K = m.below(api.Regs), m.wide()
	case api.OpAdd:
		x.A, x.B = m.below(api.Regs), m.below(api.Regs)
	case api.OpJump:
		x.K = int64(m.below(length))
	case api.OpZero:
		x.A, x.K = m.below(api.Regs), int64(m.below(length))
	case api.OpSend:
		x.A, x.Ch = m.below(api.Regs), m.channel()
	case api.OpRecv:
		x.A, x.B, x.Ch = m.below(api.Regs), m.below(api.Regs), m.channel()
	case api.OpClose:
		x.Ch = m.channel()
	case api.OpSelect:
		x.B, x.K = m.below(api.Regs), int64(m.below(len(m.p.Sites)))
	case api.OpSpawn:
		x.K = int64(m.below(codes))
	}
	return x
}

func (m *maker) code(codes int) {
	length := 1 + m.below(6)*(1+m.below(7))
	var c []api.Ins
	for range length - 1 {
		op := uint8(1 + m.below(api.Ops))
		if op == api.OpSelect && len(m.p.Sites) == 0 {
			op = api.OpRecv
		}
		c = append(c, m.instruction(op, codes, length))
	}
	last := m.instruction([]uint8{api.OpEnd, api.OpJump}[m.below(2)], codes, length)
	m.p.Codes = append(m.p.Codes, append(c, last))
}

// Made answers a program that may be, and that n alone tells: small ones and greater ones, of all kinds.
func Made(n int) api.Program {
	m := maker{from: int(Mix(n) >> 8)}
	for range m.below(api.MaxChans + 1) {
		m.p.Caps = append(m.p.Caps, m.below(api.MaxCap+1))
	}
	for range m.below(4) * (1 + m.below(4)) {
		m.site()
	}
	codes := 1 + m.below(api.MaxCodes)
	for range codes {
		m.code(codes)
	}
	return m.p
}
