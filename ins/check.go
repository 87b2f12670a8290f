package ins

import (
	"math"

	"troupe/api"
)

// Check answers what is wrong with an instruction.
func Check(x api.Ins) api.Errno {
	b := besideOf(x.Op)
	if b == unknown {
		return api.ErrUnsup
	}
	if len(x.To) > api.MaxTo {
		return api.ErrLarge
	}
	if !fits(b, x) {
		return api.ErrArg
	}
	return api.OK
}

// fits tells whether A, B and To are as b asks.
func fits(b beside, x api.Ins) bool {
	if b != ways && len(x.To) > 0 {
		return false
	}
	if b != place && x.B != 0 {
		return false
	}
	switch b {
	case kindOfBlock:
		return isKindOfBlock(x.A)
	case const32:
		return math.MinInt32 <= x.A && x.A <= math.MaxInt32
	case const64:
		return true
	case number, ways, typeAndZero, place:
		// B and To are 0 and empty where they are not named: then they pass.
		return isNumber(x.A) && isNumber(x.B) && areNumbers(x.To)
	}
	return x.A == 0
}

func isKindOfBlock(a int64) bool {
	return a == int64(api.NoKind) || a == int64(api.I32) || a == int64(api.I64)
}

func isNumber(a int64) bool {
	return 0 <= a && a <= math.MaxUint32
}

func areNumbers(to []int64) bool {
	for _, a := range to {
		if !isNumber(a) {
			return false
		}
	}
	return true
}
