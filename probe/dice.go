package probe

import (
	"math"
	"strings"

	"troupe/api"
)

// Dice answers numbers that are always the same ones, one behind the other.
type Dice uint64

// Below answers a number from 0 on that is below n.
func (d *Dice) Below(n int) int {
	x := uint64(*d)
	x ^= x << 13
	x ^= x >> 7
	x ^= x << 17
	*d = Dice(x)
	return int((x >> 20) % uint64(n))
}

// Pick answers one of these.
func Pick[T any](d *Dice, from ...T) T {
	return from[d.Below(len(from))]
}

// Edges answers numbers at the edges of I32 and I64, and of what instructions count with them.
func Edges() []int64 {
	return []int64{math.MinInt64, math.MinInt64 + 1, math.MinInt32 - 1, math.MinInt32, math.MinInt32 + 1, -256, -255, -32, -2, -1, 0, 1, 2, 5, 31, 32, 33,
		63, 64, 127, 128, 255, 256, 32767, 32768, math.MaxInt32, math.MaxInt32 + 1, math.MaxUint32, math.MaxUint32 + 1, math.MaxInt64 - 1, math.MaxInt64}
}

// Longs answers so many numbers, small ones and such at edges.
func (d *Dice) Longs(count int) []int64 {
	var all []int64
	for range count {
		n := int64(d.Below(12)) - 2
		if d.Below(3) == 0 {
			n = Pick(d, Edges()...)
		}
		all = append(all, n)
	}
	return all
}

// Later answers an image that an instance of a module like Stage may have after a while.
func (d *Dice) Later(m api.Module) api.Image {
	x := First(m)
	if d.Below(2) == 0 {
		return x
	}
	x.Mem += strings.Repeat("\x81", api.Page*d.Below(m.Most-m.Pages+1))
	x.Table[d.Below(len(x.Table))] = d.Below(9) - 1
	x.Globals[0], x.Globals[1] = int64(int32(d.Longs(1)[0])), d.Longs(1)[0]
	return x
}
