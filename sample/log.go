package sample

import (
	"math"
	"strconv"
	"strings"

	"tollbar/api"
	"tollbar/entry"
)

// named answers what the entries of a kind name, in the order of their lines, a letter each: w, t, p, c, b, q, v, x, o, e and s for Worker, Task, Peer, Ch, Case, PeerCase, Val, Val2, Ok, Code and Set.
func named(kind uint8) string {
	switch kind {
	case api.CSend:
		return "tcbv"
	case api.CRecv:
		return "tcbvo"
	case api.CMeet:
		return "tpcbqvo"
	case api.CRefill:
		return "tpcbqvx"
	case api.CClose:
		return "tc"
	case api.CWake:
		return "tpcb"
	case api.CDone, api.CBlock, api.CEnd:
		return "t"
	case api.CSpawn:
		return "tpb"
	case api.CFault:
		return "tpe"
	case api.MDispatch, api.MReady, api.MPreempt, api.MLocked:
		return "wt"
	case api.MPoll:
		return "wts"
	case api.MFree:
		return "w"
	}
	return ""
}

// put lets x name by v what that letter stands for.
func put(x *api.Entry, letter rune, v int64) {
	switch letter {
	case 'w':
		x.Worker = int(v)
	case 't':
		x.Task = int(v)
	case 'p':
		x.Peer = int(v)
	case 'c':
		x.Ch = int(v)
	case 'b':
		x.Case = int(v)
	case 'q':
		x.PeerCase = int(v)
	case 'v':
		x.Val = v
	case 'x':
		x.Val2 = v
	case 'o':
		x.Ok = v != 0
	case 'e':
		x.Code = api.Errno(v)
	case 's':
		x.Set = api.Set(v)
	}
}

// kindOf answers the kind of that word; 0, if there is none.
func kindOf(word string) uint8 {
	for kind := range uint8(math.MaxUint8) {
		if w := entry.Word(kind); w != "" && w == word {
			return kind
		}
	}
	return 0
}

// Entry answers the one of that line, of which its At may be left out: then it is at. One that may not be can have a line here; for a line that is none stands an entry without a kind.
func Entry(at int64, line string) api.Entry {
	words := strings.Fields(line)
	if len(words) > 0 {
		if n, e := strconv.ParseInt(words[0], 10, 64); e == nil {
			at, words = n, words[1:]
		}
	}
	if len(words) == 0 {
		return api.Entry{}
	}
	x := api.Entry{At: at, Kind: kindOf(words[0])}
	letters := named(x.Kind)
	if len(letters) != len(words)-1 {
		return api.Entry{}
	}
	for k, letter := range letters {
		v, e := strconv.ParseInt(words[k+1], 10, 64)
		if e != nil {
			return api.Entry{}
		}
		put(&x, letter, v)
	}
	return x
}

// Log answers the entries whose lines, parted by commas, these are. Where a line has no At, it is that of the one ahead; 0 of the first one.
func Log(lines string) (l []api.Entry) {
	at := int64(0)
	for line := range strings.SplitSeq(lines, ", ") {
		if line == "" {
			continue
		}
		x := Entry(at, line)
		l, at = append(l, x), x.At
	}
	return l
}
