package tests

import (
	"slices"
	"testing"

	"loop.example/g00653/impl"
)

const guardByte = 0xA5
const guardNumber = -0x5A5A5A5A
const guardSize = 4

// guarded is a list inside a greater one, so that a write beside it (into its spare room, too) is seen.
type guarded[E comparable] struct {
	whole  []E
	before []E
	list   []E
}

func guardWith[E comparable](list []E, edge E) guarded[E] {
	edges := slices.Repeat([]E{edge}, guardSize)
	whole := slices.Concat(edges, list, edges)
	return guarded[E]{whole, slices.Clone(whole), whole[guardSize : guardSize+len(list)]}
}

func guard(list []byte) guarded[byte] {
	return guardWith(list, guardByte)
}

func guardNumbers(list []int64) guarded[int64] {
	return guardWith(list, guardNumber)
}

func guardSymbols(list []impl.Symbol) guarded[impl.Symbol] {
	return guardWith(list, impl.Symbol{Name: "GUARD", Arity: guardNumber})
}

func (g guarded[E]) mustBeUnchanged(t *testing.T, who string) {
	t.Helper()
	if !slices.Equal(g.whole, g.before) {
		t.Errorf("%s changed its argument", who)
	}
}

// overwrite turns every byte of an answer, the spare room behind its end too.
func overwrite(answer []byte) {
	answer = answer[:cap(answer)]
	for i := range answer {
		answer[i] ^= 0xFF
	}
}

func overwriteNumbers(answer []int64) {
	answer = answer[:cap(answer)]
	for i := range answer {
		answer[i] = ^answer[i]
	}
}

func overwriteSymbols(answer []impl.Symbol) {
	answer = answer[:cap(answer)]
	for i := range answer {
		answer[i] = impl.Symbol{Name: "OVER", Arity: guardNumber}
	}
}

// numbered makes a list of that length whose bytes go through all values.
func numbered(length int) []byte {
	list := make([]byte, length)
	for i := range list {
		list[i] = byte(i*7 + i/256)
	}
	return list
}

// listsOver makes all lists of that length over these values.
func listsOver[E any](values []E, length int) [][]E {
	lists := [][]E{{}}
	for range length {
		longer := [][]E{}
		for _, list := range lists {
			for _, value := range values {
				longer = append(longer, append(slices.Clone(list), value))
			}
		}
		lists = longer
	}
	return lists
}
