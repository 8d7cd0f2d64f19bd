package bound

import "tollbar/api"

// workers tells whether there may be p workers.
func workers(p int) bool { return within(1, api.MaxWorkers)(p) }

// without answers how many picks one behind the other are at most without one of p workers.
func without(picks string, p int) (most int) {
	last := make(map[int]int, p) // how many picks there are up to each worker's last one: 0 of who was not yet
	for i := range len(picks) {
		worker := int(picks[i]) % p
		most = max(most, i-last[worker])
		last[worker] = i + 1
	}
	for worker := range p {
		most = max(most, len(picks)-last[worker])
	}
	return most
}

// Window answers the least w from p on for which picks are w-fair of p workers.
func Window(picks string, p int) int {
	if !workers(p) {
		return 0
	}
	// This holds too where a worker has no pick at all: then all picks are without it, and those are too few to be unfair of one more.
	return max(p, without(picks, p)+1)
}

// Fair tells whether picks are w-fair of p workers.
func Fair(picks string, p, w int) bool {
	return workers(p) && w >= Window(picks, p)
}

// Round answers n picks, of p workers in turn.
func Round(p, n int) string {
	const most = 1_000_000
	if !workers(p) || !within(0, most)(n) {
		return ""
	}
	picks := make([]byte, n)
	for i := range picks {
		picks[i] = byte(i % p)
	}
	return string(picks)
}
