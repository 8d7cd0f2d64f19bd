package sample

import (
	"slices"
	"strings"

	"tollbar/api"
	"tollbar/ins"
)

// Code answers the instructions whose lines, parted by commas, these are. For a line that is none stands one that may not be.
func Code(lines string) (l []api.Ins) {
	for line := range strings.SplitSeq(lines, ", ") {
		x, _ := ins.Read(line)
		l = append(l, x)
	}
	return l
}

// Program answers one of these capacities and sites, and of a code for each row of lines.
func Program(caps []int, sites []api.Site, codes ...string) api.Program {
	p := api.Program{Caps: caps, Sites: sites}
	for _, lines := range codes {
		p.Codes = append(p.Codes, Code(lines))
	}
	return p
}

// Site answers one of these cases, without a default.
func Site(l ...api.Case) api.Site { return api.Site{Cases: l} }

// Or answers s with a default.
func Or(s api.Site) api.Site { return api.Site{Cases: s.Cases, Default: true} }

// Sends answers a case that sends the register val.
func Sends(ch, val int) api.Case { return api.Case{Send: true, Ch: ch, Val: val} }

// Receives answers a case that receives the register val, and in the register ok whether it was sent.
func Receives(ch, val, ok int) api.Case { return api.Case{Ch: ch, Val: val, Ok: ok} }

// Broken answers programs that may not be.
func Broken() []api.Program {
	end := "end"
	return []api.Program{
		{},
		{Caps: []int{0}},
		Program([]int{9}, nil, end),
		Program([]int{-1}, nil, end),
		Program(slices.Repeat([]int{0}, 7), nil, end),
		Program(nil, []api.Site{{}}, end),
		Program(nil, []api.Site{{Default: true}}, end),
		Program(nil, []api.Site{Site(Receives(0, 0, 0))}, end),
		Program([]int{1}, []api.Site{Site(Receives(-2, 0, 0))}, end),
		Program([]int{1}, []api.Site{Site(Receives(0, 8, 0))}, end),
		Program([]int{1}, []api.Site{Site(api.Case{Send: true, Ok: 1})}, end),
		Program(nil, slices.Repeat([]api.Site{Site(Receives(-1, 0, 0))}, 13), end),
		{Codes: [][]api.Ins{{}}},
		{Codes: [][]api.Ins{Code(end), nil}},
		{Codes: [][]api.Ins{{{Op: 11}}}},
		{Codes: slices.Repeat([][]api.Ins{Code(end)}, 9)},
		Program(nil, nil, "send 0 0, end"),
		Program([]int{1}, nil, "recv 8 0 0, end"),
		Program(nil, nil, "close -2, end"),
		Program(nil, nil, "select 0 0, end"),
		Program(nil, nil, "spawn 1, end"),
		Program(nil, nil, "jump 1"),
		Program(nil, nil, "set 0 0"),
		Program(nil, nil, end, "send 0 -1"),
	}
}
