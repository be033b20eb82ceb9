package strength

import (
	"slices"

	"wallgauge/api"
)

// CheckTable returns the error of a table.
func CheckTable(t Table) api.Errno {
	if !t.isWhole() {
		return api.ErrSize
	}
	if !areSizes(t.Depths) || !areSizes(t.Lengths) {
		return api.ErrArg
	}
	if !rises(t.Depths) || !rises(t.Lengths) {
		return api.ErrOrder
	}
	for i, row := range t.Pressures {
		for j, pressure := range row {
			switch {
			case !isWithin(pressure, 0, maxPressure):
				return api.ErrArg
			case j > 0 && pressure > row[j-1] || i > 0 && pressure > t.Pressures[i-1][j]:
				return api.ErrOrder
			}
		}
	}
	return api.OK
}

// isWhole tells whether a table has the size that it may have, and a pressure for each depth and length.
func (t Table) isWhole() bool {
	if !isWithin(len(t.Depths), 1, api.MaxTable) || !isWithin(len(t.Lengths), 1, api.MaxTable) || len(t.Pressures) != len(t.Depths) {
		return false
	}
	return !slices.ContainsFunc(t.Pressures, func(row []int) bool { return len(row) != len(t.Lengths) })
}

// areSizes tells whether all numbers may be depths or lengths of cracks.
func areSizes(l []int) bool {
	return !slices.ContainsFunc(l, func(x int) bool { return !isWithin(x, 0, maxLong) })
}

// rises tells whether each number is above the one ahead.
func rises(l []int) bool {
	for i := 1; i < len(l); i++ {
		if l[i] <= l[i-1] {
			return false
		}
	}
	return true
}

// Crack returns the range of the pressures at which a crack fails.
func Crack(t Table, depth, length api.Range) (api.Range, api.Errno) {
	if e := CheckTable(t); e != api.OK {
		return api.Range{}, e
	}
	if !areSizes([]int{depth.Lo, depth.Hi, length.Lo, length.Hi}) {
		return api.Range{}, api.ErrArg
	}
	if depth.Lo > depth.Hi || length.Lo > length.Hi {
		return api.Range{}, api.ErrOrder
	}
	lo := t.at(below(t.Depths, depth.Hi), below(t.Lengths, length.Hi), 0)
	// The last size that is not above x is the one ahead of the first one that is not below x + 1.
	hi := t.at(below(t.Depths, depth.Lo+1)-1, below(t.Lengths, length.Lo+1)-1, maxPressure)
	return api.Range{Lo: lo, Hi: hi}, api.OK
}

// below returns how many of rising numbers are below x: it is the index of the first one that is not.
func below(l []int, x int) int {
	n, _ := slices.BinarySearch(l, x)
	return n
}

// at returns the pressure in a row and a column, or another number if the table has not both.
func (t Table) at(row, column, otherwise int) int {
	if !isIndex(row, len(t.Depths)) || !isIndex(column, len(t.Lengths)) {
		return otherwise
	}
	return t.Pressures[row][column]
}
