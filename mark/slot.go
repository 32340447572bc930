package mark

import (
	"strings"

	"escrow/api"
	"escrow/crc"
	"escrow/cursor"
)

const (
	fileSize = 2 * api.Sector
	// headSize is the bytes of a slot's number and sum: what stands behind them doesn't count.
	headSize = 12
)

// slot: what one of a file's two sectors says; nothing, if it isn't whole.
type slot struct {
	value int64
	whole bool
}

// slots: both of a file's.
type slots [2]slot

// slotsOf: those of a file with these bytes.
func slotsOf(text string) slots {
	return slots{slotOf(text[:api.Sector]), slotOf(text[api.Sector:])}
}

// next: the number of the slot that may be written over. The other one is whole and has the greatest value, if any is whole.
func (s slots) next() int {
	if s[1].whole && (!s[0].whole || s[0].value < s[1].value) {
		return 0
	}
	return 1
}

// other: of the numbers of the two slots.
func other(k int) int { return 1 - k }

// slotOf: the slot that stands in a sector.
func slotOf(sector string) slot {
	v := cursor.Open(sector).I64()
	if !isNumber(v) || !strings.HasPrefix(sector, bytesOf(v)[:headSize]) {
		return slot{}
	}
	return slot{value: v, whole: true}
}

// bytesOf: the slot of a number, as it is written.
func bytesOf(v int64) string {
	w := cursor.New()
	w.I64(v)
	number, _ := w.Out()
	w.U32(crc.Sum(number))
	w.Raw(strings.Repeat("\x00", api.Sector-headSize))
	text, _ := w.Out()
	return text
}

// isNumber: is it one that a mark may have?
func isNumber(v int64) bool { return v >= unraised && v <= api.MaxIndex }
