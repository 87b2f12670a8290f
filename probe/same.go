package probe

import (
	"slices"

	"troupe/api"
)

// SameImage tells whether two images are the same.
func SameImage(x, y api.Image) bool {
	return x.Mem == y.Mem && slices.Equal(x.Table, y.Table) && slices.Equal(x.Globals, y.Globals)
}

// SameOut tells whether two runs ended the same way.
func SameOut(x, y api.Out) bool {
	return x.End == y.End && slices.Equal(x.Vals, y.Vals) && x.Trap == y.Trap && x.Host == y.Host && x.Left == y.Left
}

// SameAsk tells whether the same was asked.
func SameAsk(x, y api.Ask) bool {
	return x.Host == y.Host && slices.Equal(x.Vals, y.Vals)
}

// SameState tells whether the same is under way.
func SameState(x, y api.State) bool {
	return x.Host == y.Host && slices.EqualFunc(x.Calls, y.Calls, sameCall)
}

func sameCall(x, y api.Call) bool {
	return x.Func == y.Func && x.At == y.At && slices.Equal(x.Locals, y.Locals) && slices.Equal(x.Stack, y.Stack)
}
