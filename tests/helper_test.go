package tests

import (
	"bytes"
	"testing"
)

const guardByte = 0xA5

// guarded is a list of bytes inside a greater one, so that a write beside it (into its spare room, too) is seen.
type guarded struct {
	whole  []byte
	before []byte
	list   []byte
}

func guard(list []byte) guarded {
	edge := bytes.Repeat([]byte{guardByte}, 4)
	whole := bytes.Join([][]byte{edge, list, edge}, nil)
	return guarded{whole, bytes.Clone(whole), whole[4 : 4+len(list)]}
}

func (g guarded) mustBeUnchanged(t *testing.T, who string) {
	t.Helper()
	if !bytes.Equal(g.whole, g.before) {
		t.Errorf("%s changed its argument", who)
	}
}

// overwrite turns every byte of an answer, the spare room behind its end too.
func overwrite(answer []byte) {
	answer = answer[:cap(answer)]
	for i := range answer {
		answer[i] ^= 0xFF
	}
}

// numbered makes a list of that length whose bytes go through all values.
func numbered(length int) []byte {
	list := make([]byte, length)
	for i := range list {
		list[i] = byte(i*7 + i/256)
	}
	return list
}
