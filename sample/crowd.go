package sample

import "tollbar/api"

// near answers one of the program's channels, seldom NoChan.
func (m *maker) near() int {
	if m.below(12) == 0 {
		return api.NoChan
	}
	return m.below(len(m.p.Caps))
}

func (m *maker) crowdedSite() {
	s := api.Site{Default: m.below(5) == 0}
	for range 1 + m.below(4) {
		either := []api.Case{Sends(m.near(), m.below(8)), Receives(m.near(), m.below(8), m.below(8))}
		s.Cases = append(s.Cases, either[m.below(2)])
	}
	m.p.Sites = append(m.p.Sites, s)
}

// meeting answers an instruction by which tasks meet, mostly.
func (m *maker) meeting() api.Ins {
	switch m.below(16) {
	case 0:
		return api.Ins{Op: api.OpClose, Ch: m.near()}
	case 1:
		return api.Ins{Op: api.OpSpawn, K: int64(m.below(4))}
	case 2:
		return api.Ins{Op: api.OpSet, A: m.below(8), K: int64(m.below(100))}
	case 3:
		return api.Ins{Op: api.OpAdd, A: m.below(8), B: m.below(8)}
	case 4, 5, 6, 7:
		return api.Ins{Op: api.OpSend, A: m.below(8), Ch: m.near()}
	case 8, 9, 10, 11:
		return api.Ins{Op: api.OpRecv, A: m.below(8), B: m.below(8), Ch: m.near()}
	}
	return api.Ins{Op: api.OpSelect, B: m.below(8), K: int64(m.below(3))}
}

// crowdedCode makes the code k; the first one spawns.
func (m *maker) crowdedCode(k int) {
	var c []api.Ins
	for range 3 * (1 - min(k, 1)) {
		c = append(c, api.Ins{Op: api.OpSpawn, K: int64(1 + m.below(3))})
	}
	for r := range 2 {
		c = append(c, api.Ins{Op: api.OpSet, A: r + m.below(7), K: int64(10*k + r)})
	}
	for range 1 + m.below(6) {
		c = append(c, m.meeting())
	}
	last := []api.Ins{{Op: api.OpEnd}, {Op: api.OpJump, K: int64(len(c) / 2)}}[m.below(2)]
	m.p.Codes = append(m.p.Codes, append(c, last))
}

// Crowd answers a program of few channels at which many of its tasks meet, that may be, and that n alone tells.
func Crowd(n int) api.Program {
	m := maker{from: n << 12}
	for range 1 + m.below(3) {
		m.p.Caps = append(m.p.Caps, m.below(2)*(1+m.below(3)*m.below(2)))
	}
	for range 3 {
		m.crowdedSite()
	}
	for k := range 4 {
		m.crowdedCode(k)
	}
	return m.p
}
