package impl

import (
	"bytes"
	"strconv"
)

const OK = 0
const ErrForm = 1
const ErrMany = 2
const ErrRange = 3
const ErrNone = 4
const ErrText = 5
const ErrTaken = 6
const ErrFull = 7
const ErrState = 8
const ErrFuel = 9
const ErrOrder = 10
const ErrSum = 11
const MaxBytes = 2000
const MaxNumber = 999999

const sumStart = 29
const sumFactor = 227

// A prime above every byte and above sumFactor: so a turned byte is never lost on the way to the sum.
const sumPrime = 65521

const pairSize = 2
const maxPair = 65535

type IntResult struct {
	Code  int64
	Value int64
}
type IntsResult struct {
	Code int64
	List []int64
}
type BytesResult struct {
	Code  int64
	Bytes []byte
}
type TextResult struct {
	Code int64
	Text string
}

func truthOf(so bool) IntResult {
	if so {
		return IntResult{Value: 1}
	}
	return IntResult{}
}

func SumOf(data []byte) IntResult {
	if len(data) > MaxBytes {
		return IntResult{Code: ErrMany}
	}
	sum := uint32(sumStart)
	for _, b := range data {
		sum = (sumFactor*sum + uint32(b) + 1) % sumPrime
	}
	return IntResult{Value: int64(sum)}
}

func PairOf(n int64) BytesResult {
	if n < 0 || n > maxPair {
		return BytesResult{Code: ErrRange}
	}
	pair := [pairSize]byte{byte(n >> 8), byte(n)}
	return BytesResult{Bytes: bytes.Clone(pair[:])}
}

func PairAt(data []byte, at int64) IntResult {
	if len(data) > MaxBytes {
		return IntResult{Code: ErrMany}
	}
	// The length is made less instead of the place greater: at+pairSize could overflow.
	if at < 0 || at > int64(len(data))-pairSize {
		return IntResult{Code: ErrRange}
	}
	pair := [pairSize]byte(data[at : at+pairSize])
	return IntResult{Value: int64(pair[0])<<8 | int64(pair[1])}
}

func CompareBytes(a []byte, b []byte) IntResult {
	if len(a) > MaxBytes || len(b) > MaxBytes {
		return IntResult{Code: ErrMany}
	}
	return IntResult{Value: int64(bytes.Compare(a, b))}
}

func Begins(data []byte, head []byte) bool {
	return bytes.HasPrefix(data, head)
}

func NumberText(n int64) TextResult {
	if n < 0 || n > MaxNumber {
		return TextResult{Code: ErrRange}
	}
	return TextResult{Text: strconv.FormatInt(n, 10)}
}

func NumberOf(text string) IntResult {
	n, err := strconv.ParseInt(text, 10, 64)
	// ParseInt also takes signs and zeros ahead; only the text that NumberText gives is a number's text.
	if err != nil || NumberText(n) != (TextResult{Text: text}) {
		return IntResult{Code: ErrText}
	}
	return IntResult{Value: n}
}
