package stock

import (
	"slices"

	"lading/api"
)

// Lines does a move for each line, one behind the other, or none of them.
// The move may be anyone's: it is given cells of its own, and what it answers is copied, so that it can neither change l nor what is answered. One that panics is as good as none.
func Lines(l []api.Cell, lines []api.Line, move func([]api.Cell, int, int, int64) ([]api.Cell, api.Errno)) (cells []api.Cell, why api.Errno) {
	if move == nil {
		return nil, api.ErrNil
	}
	defer func() {
		if recover() != nil {
			cells, why = nil, api.ErrNil
		}
	}()
	left := slices.Clone(l)
	for _, x := range lines {
		if left, why = move(left, x.Item, x.Ware, x.Qty); why != api.OK {
			return nil, why
		}
	}
	return slices.Clone(left), api.OK
}
