package sample

import "tollbar/api"

// moved answers x with d added to one number of it, for each of these, or its Ok turned.
func moved(x api.Entry, d int) (l []api.Entry) {
	for _, change := range []func(y *api.Entry){
		func(y *api.Entry) { y.At += int64(d) },
		func(y *api.Entry) { y.Worker += d },
		func(y *api.Entry) { y.Task += d },
		func(y *api.Entry) { y.Peer += d },
		func(y *api.Entry) { y.Ch += d },
		func(y *api.Entry) { y.Case += d },
		func(y *api.Entry) { y.PeerCase += d },
		func(y *api.Entry) { y.Val += int64(d) },
		func(y *api.Entry) { y.Val2 += int64(d) },
		func(y *api.Entry) { y.Ok = !y.Ok },
		func(y *api.Entry) { y.Code += api.Errno(d) },
		func(y *api.Entry) { y.Set += api.Set(d) },
	} {
		y := x
		change(&y)
		l = append(l, y)
	}
	return l
}

// Aside answers entries that differ from x in one field, or in those that may tell of none; a few of them are x.
func Aside(x api.Entry) (l []api.Entry) {
	for kind := range 32 {
		y := x
		y.Kind = uint8(kind)
		l = append(l, y)
	}
	for _, d := range []int{1, -1, 2, 6, 31, -32, 256, 1 << 32, -1 << 32} {
		l = append(l, moved(x, d)...)
	}
	for _, v := range []int{0, api.NoTask, 7} {
		y := x
		y.Peer, y.Case, y.PeerCase = v, v, v
		l = append(l, y)
	}
	return l
}
