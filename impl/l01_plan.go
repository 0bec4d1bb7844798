package impl

type Plan struct {
	Size  int64
	Tasks int64
}

func PlanOk(p Plan) bool { return p.right() }

func SlotsOf(p Plan) int64 { return p.whereRight(p.slots) }

func BitsOf(p Plan) int64 { return p.whereRight(p.bits) }

func MostOf(p Plan) int64 { return p.whereRight(p.most) }

func (p Plan) right() bool {
	switch p.Size {
	case 1, 2, 4, 8:
		return 1 <= p.Tasks && p.Tasks <= p.Size
	}
	return false
}

// whereRight is asked ahead of every count, so that none is made of a Size
// that would wrap around.
func (p Plan) whereRight(count func() int64) int64 {
	if !p.right() {
		return -1
	}
	return count()
}

func (p Plan) slots() int64 { return 2 * p.Size }

func (p Plan) bits() int64 {
	n := int64(0)
	for slots := p.slots(); slots > 1; slots /= 2 {
		n++
	}
	return n
}

func (p Plan) most() int64 { return 3*p.Size - 1 }
