package interp

import (
	"gantry/api"
	"gantry/trees"
	"gantry/validate"
)

// Machine is a run, by a table that was taken, that gets its tokens one by one.
type Machine struct {
	run run
}

// Start answers a machine to which no token has come.
func Start(v *validate.Valid) (*Machine, api.Errno) {
	if !v.Made() {
		return nil, api.ErrMade
	}
	return &Machine{run: runOf(v.Grammar(), v.Table())}, api.OK
}

// Push answers whether the token that comes is shifted; if not, the run is over.
func (m *Machine) Push(t api.Token) (bool, api.Errno) {
	if !m.isMade() {
		return false, api.ErrMade
	}
	if m.run.isOver() {
		return false, api.ErrStep
	}
	m.run.comeToken(t)
	m.run.settle()
	return !m.run.isOver(), api.OK
}

// End answers what the tokens that came have come to; from then on the run is over.
func (m *Machine) End() (api.Result, api.Errno) {
	if !m.isMade() {
		return api.Result{}, api.ErrMade
	}
	if !m.run.isOver() {
		m.run.comeEnd()
		m.run.settle()
	}
	result, e := m.run.result()
	result.Tree, _ = trees.At(result.Tree, 0) // the machine, and others at its place, keep theirs
	return result, e
}

// Stack answers the states from the bottom up.
func (m *Machine) Stack() []int {
	if !m.isMade() {
		return nil
	}
	states := make([]int, m.run.top.height+1)
	for at := m.run.top; at != nil; at = at.below {
		states[at.height] = at.state
	}
	return states
}

// Next answers the lookaheads under which the run would get one further.
func (m *Machine) Next() []int {
	if !m.isMade() || m.run.isOver() {
		return nil
	}
	var looks []int
	for look := range m.run.end() + 1 {
		probe := m.run
		probe.come(look, api.Token{Kind: look})
		probe.settle()
		if probe.stand == waits || probe.stand == accepted {
			looks = append(looks, look)
		}
	}
	return looks
}

// Copy answers another machine at the same place.
func (m *Machine) Copy() *Machine {
	if !m.isMade() {
		return nil
	}
	return &Machine{run: m.run}
}

func (m *Machine) isMade() bool { return m != nil && m.run.top != nil }
