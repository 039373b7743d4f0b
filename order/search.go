package order

// search finds groups on one walk over all things. It keeps its path in a list, so that a chain of all things is not as deep in calls.
type search struct {
	needs [][]int
	// Of each thing how many of its needs the walk has gone along.
	gone []int
	// Of each thing as which it was met, from 1 on; 0, if not yet.
	met []int
	// Of each thing as which the first was met of the open ones that it leads to, as far as is known.
	first []int
	// Of each thing the least of its group; -1, while the group is not whole.
	least []int
	// From where the walk began to where it is.
	path []int
	// What was met and whose group is not whole, in the order in which it was met.
	open []int
	// How many were met.
	count int
}

// leastOnes are, of each thing, the least thing of its group; of one that is in no group with others it is the thing itself.
func leastOnes(needs [][]int) []int {
	n := len(needs)
	s := &search{needs: needs, gone: make([]int, n), met: make([]int, n), first: make([]int, n), least: make([]int, n)}
	for thing := range n {
		s.least[thing] = -1
	}
	for thing := range n {
		if s.met[thing] == 0 {
			s.walk(thing)
		}
	}
	return s.least
}

// walk goes from a thing along what it needs, till all that it leads to is in a group.
func (s *search) walk(from int) {
	s.meet(from)
along:
	for len(s.path) > 0 {
		thing := s.path[len(s.path)-1]
		for s.gone[thing] < len(s.needs[thing]) {
			next := s.needs[thing][s.gone[thing]]
			s.gone[thing]++
			if s.met[next] == 0 {
				s.meet(next)
				continue along
			}
			if s.least[next] < 0 {
				s.first[thing] = min(s.first[thing], s.met[next])
			}
		}
		s.leave(thing)
	}
}

// meet sets the walk's next step to a thing that it has not met.
func (s *search) meet(thing int) {
	s.count++
	s.met[thing], s.first[thing] = s.count, s.count
	s.path = append(s.path, thing)
	s.open = append(s.open, thing)
}

// leave goes a step back from a thing all of whose needs were gone along. One that leads to none that was met ahead of it was the first of its group.
func (s *search) leave(thing int) {
	s.path = s.path[:len(s.path)-1]
	if s.first[thing] == s.met[thing] {
		s.gather(thing)
	}
	if len(s.path) > 0 {
		before := s.path[len(s.path)-1]
		s.first[before] = min(s.first[before], s.first[thing])
	}
}

// gather makes a group of the open things from the first of it on.
func (s *search) gather(first int) {
	from := len(s.open) - 1
	least := s.open[from]
	for s.open[from] != first {
		from--
		least = min(least, s.open[from])
	}
	for _, thing := range s.open[from:] {
		s.least[thing] = least
	}
	s.open = s.open[:from]
}
