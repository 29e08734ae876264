package vm

import "staithe/api"

// kind is what an instruction needs at one place of the stack.
type kind int

const (
	either kind = iota
	number
	text
)

func (k kind) fits(v api.Value) bool {
	return k == either || (k == text) == v.Text
}

// operands are what was taken off the stack, the lowest first; no instruction
// needs more than three.
type operands [3]api.Value

// take takes off the stack what is needed, the top one last. How many there
// are is asked ahead of what they are, since Under is told ahead of Type.
func (m *machine) take(needs ...kind) (operands, int) {
	var v operands
	low := len(m.stack) - len(needs)
	if low < 0 {
		return operands{}, api.Under
	}
	for i, need := range needs {
		v[i] = m.stack[low+i]
		if !need.fits(v[i]) {
			return operands{}, api.Type
		}
	}
	m.stack = m.stack[:low]
	return v, api.Fine
}

// push lays all of vs on the stack, the last one on top. All are asked for
// their size ahead of the room, since Big is told ahead of Under.
func (m *machine) push(vs ...api.Value) int {
	for _, v := range vs {
		if v.Text && len(v.Bytes) > api.MaxBytes {
			return api.Big
		}
	}
	if len(m.stack)+len(vs) > api.MaxStack {
		return api.Under
	}
	m.stack = append(m.stack, vs...)
	return api.Fine
}

// turn pushes what f makes of what is needed.
func (m *machine) turn(f func(v operands) api.Value, needs ...kind) int {
	v, why := m.take(needs...)
	if why != api.Fine {
		return why
	}
	return m.push(f(v))
}
