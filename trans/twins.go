package trans

// maxLead is by how many letters one of two runs is ahead at most if no loop puts it further ahead: without loops they go through each pair of states once.
const maxLead = maxWritten * (maxStates*maxStates - 1)

// lead is by how many letters the first of two runs is ahead.
func (d delay) lead() int {
	return len(d.left) - len(d.right)
}

// place is where two runs are, and the lead.
type place struct {
	at   pair
	lead int
}

// hasTwins reports whether a functional machine has twins. From a risky pair of states, two runs come to a loop on which they write. If that keeps their delay, both write equally much there, and the same letters for ever when they go round and round: so a risky pair has one delay at most for each lead. A loop that does not keep the delay leads to a second one for the same lead, or further and further ahead.
func (m Machine) hasTwins() bool {
	m = m.trimmed()
	risky := m.risky()
	way := []runs{{at: pair{m.Start, m.Start}}}
	delays := map[place]delay{{at: way[0].at}: {}}
	has := true
search:
	for i := 0; i < len(way); i++ {
		for e, f := range steps(m, m, way[i].at) {
			next := way[i].after(e, f)
			if !risky[next.at] {
				continue
			}
			lead := next.delay.lead()
			known, found := delays[place{next.at, lead}]
			if max(lead, -lead) > maxLead || found && known != next.delay {
				has = false
				break search
			}
			if !found {
				delays[place{next.at, lead}] = next.delay
				way = append(way, next)
			}
		}
	}
	return has
}

// risky is the set of pairs of states from which two runs of one word can come to a loop on which at least one of them writes.
func (m Machine) risky() map[pair]bool {
	size := len(m.Ends)
	var pairs []pair
	for left := range size {
		for right := range size {
			pairs = append(pairs, pair{left, right})
		}
	}
	number := func(e, f Edge) int { return e.To*size + f.To }
	reach := reached(len(pairs), func(yield func(int, int) bool) {
		for i, at := range pairs {
			for e, f := range steps(m, m, at) {
				if !yield(i, number(e, f)) {
					return
				}
			}
		}
	})
	out := map[pair]bool{}
	for i, at := range pairs {
		for e, f := range steps(m, m, at) {
			if e.Output+f.Output == "" || !reach[number(e, f)][i] {
				continue
			}
			for j, before := range pairs {
				out[before] = out[before] || reach[j][i]
			}
		}
	}
	return out
}
