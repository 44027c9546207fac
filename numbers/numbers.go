// Package numbers sorts the numbers under which a map has something, so that no order of a map is ever seen.
package numbers

import (
	"maps"
	"slices"
)

// Of returns the numbers of a map in ascending order.
func Of[V any](m map[int]V) []int { return slices.Sorted(maps.Keys(m)) }
