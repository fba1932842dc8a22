package tests

import (
	"bytes"
	"fmt"
	"math"
	"math/big"
	"reflect"
	"regexp"
	"strings"
	"testing"

	"loop.example/g00653/impl"
)

// Numbers at and around every bound of the chapter, and those that overflow when they are worked with carelessly.
var edgeNumbers = []int64{
	math.MinInt64, math.MinInt64 + 1, math.MinInt32, -65536, -2, -1,
	0, 1, 2, 9, 10, 99, 100, 255, 256, 257, 1997, 1998, 1999, 2000, 2001,
	65534, 65535, 65536, 65537, 99999, 100000, 999998, 999999, 1000000,
	math.MaxInt32, math.MaxUint32, math.MaxInt64 - 1, math.MaxInt64,
}

var edgeTexts = []string{
	"", "0", "00", "07", "000000", "0000000", "1", "9", "10", "100", "65536", "999999", "0999999",
	"1000000", "9999999", "9223372036854775807", "9223372036854775808", "18446744073709551616",
	"18446744073709551617", strings.Repeat("9", 5000), strings.Repeat("0", 5000) + "1",
	"+", "-", "+0", "-0", "+7", "-7", "--7", " 7", "7 ", "1 2", " ", "7\n", "7\x00", "\x00",
	"a", "7a", "a7", "1a2", "0x7", "0b1", "1e3", "1_000", "1.0", "1,0", "\xff", "7\xff", "٣", "７", "½",
	"/", ":", "1/", "1:",
}

func edgeLists() [][]byte {
	return [][]byte{
		nil, {}, {0}, {1}, {127}, {128}, {255}, {0, 0}, {0, 1}, {1, 0}, {1, 2}, {1, 255}, {255, 0}, {255, 255},
		{0, 0, 0}, {1, 2, 3}, {1, 2, 4}, {9, 1, 2}, numbered(256), numbered(impl.MaxBytes - 1),
		make([]byte, impl.MaxBytes), bytes.Repeat([]byte{255}, impl.MaxBytes), numbered(impl.MaxBytes),
		make([]byte, impl.MaxBytes+1), numbered(impl.MaxBytes + 1), numbered(70000),
	}
}

func mustBe(t *testing.T, who string, got, want any) {
	t.Helper()
	if !reflect.DeepEqual(got, want) {
		t.Errorf("%s: got %+v, want %+v", who, got, want)
	}
}

func TestCodesAndBoundsAreThoseOfTheDocument(t *testing.T) {
	codes := []int64{
		impl.OK, impl.ErrForm, impl.ErrMany, impl.ErrRange, impl.ErrNone, impl.ErrText,
		impl.ErrTaken, impl.ErrFull, impl.ErrState, impl.ErrFuel, impl.ErrOrder, impl.ErrSum,
	}
	for i, code := range codes {
		mustBe(t, "code", code, int64(i))
	}
	mustBe(t, "MaxBytes", impl.MaxBytes, 2000)
	mustBe(t, "MaxNumber", impl.MaxNumber, 999999)
}

func TestSumOfKnownValues(t *testing.T) {
	for _, c := range []struct {
		data []byte
		sum  int64
	}{
		{nil, 29}, {[]byte{}, 29}, {[]byte{0}, 6584}, {[]byte{5}, 6589}, {[]byte{255}, 6839}, {[]byte{0, 0}, 53107},
	} {
		mustBe(t, fmt.Sprint("SumOf ", c.data), impl.SumOf(c.data), impl.IntResult{Value: c.sum})
	}
	mustBe(t, "SumOf one byte too many", impl.SumOf(make([]byte, impl.MaxBytes+1)), impl.IntResult{Code: impl.ErrMany})
}

// plainSum works the sum out in one piece, without leaving anything out on the way.
func plainSum(data []byte) int64 {
	sum := big.NewInt(29)
	for _, b := range data {
		sum.Mul(sum, big.NewInt(227))
		sum.Add(sum, big.NewInt(int64(b)+1))
	}
	return sum.Mod(sum, big.NewInt(65521)).Int64()
}

func TestSumOfIsThePlainSum(t *testing.T) {
	for _, data := range edgeLists() {
		want := impl.IntResult{Value: plainSum(data)}
		if len(data) > impl.MaxBytes {
			want = impl.IntResult{Code: impl.ErrMany}
		}
		mustBe(t, fmt.Sprintf("SumOf %d bytes", len(data)), impl.SumOf(data), want)
	}
}

func placesToTurn(length int) []int {
	if length <= 8 {
		places := []int{}
		for i := range length {
			places = append(places, i)
		}
		return places
	}
	return []int{0, 1, length / 2, length - 2, length - 1}
}

func TestP2TurnedByteTurnsTheSum(t *testing.T) {
	for _, data := range edgeLists() {
		if len(data) > impl.MaxBytes {
			continue
		}
		was := impl.SumOf(data)
		for _, place := range placesToTurn(len(data)) {
			for turn := 1; turn < 256; turn++ {
				turned := bytes.Clone(data)
				turned[place] ^= byte(turn)
				is := impl.SumOf(turned)
				if is.Code != impl.OK || is.Value == was.Value {
					t.Fatalf("%d bytes, place %d turned by %d: sum %+v, was %+v", len(data), place, turn, is, was)
				}
			}
		}
	}
}

func TestP2PairsAreReadBack(t *testing.T) {
	for n := int64(0); n <= 65535; n++ {
		pair := impl.PairOf(n)
		mustBe(t, fmt.Sprint("PairOf ", n), pair, impl.BytesResult{Bytes: []byte{byte(n / 256), byte(n % 256)}})
		mustBe(t, fmt.Sprint("PairAt of PairOf ", n), impl.PairAt(pair.Bytes, 0), impl.IntResult{Value: n})
		if t.Failed() {
			return
		}
	}
}

func TestPairOfBounds(t *testing.T) {
	mustBe(t, "PairOf 0", impl.PairOf(0), impl.BytesResult{Bytes: []byte{0, 0}})
	mustBe(t, "PairOf 65535", impl.PairOf(65535), impl.BytesResult{Bytes: []byte{255, 255}})
	for _, n := range edgeNumbers {
		if n < 0 || n > 65535 {
			mustBe(t, fmt.Sprint("PairOf ", n), impl.PairOf(n), impl.BytesResult{Code: impl.ErrRange})
		}
	}
}

func wantPairAt(data []byte, at int64) impl.IntResult {
	if len(data) > impl.MaxBytes {
		return impl.IntResult{Code: impl.ErrMany}
	}
	for i := range data {
		if int64(i) == at && i+1 < len(data) {
			return impl.IntResult{Value: int64(data[i])*256 + int64(data[i+1])}
		}
	}
	return impl.IntResult{Code: impl.ErrRange}
}

func TestPairAtEveryPlace(t *testing.T) {
	for _, data := range edgeLists() {
		places := append([]int64{int64(len(data)) - 3, int64(len(data)) - 2, int64(len(data)) - 1, int64(len(data))}, edgeNumbers...)
		for _, at := range places {
			mustBe(t, fmt.Sprintf("PairAt %d bytes, place %d", len(data), at), impl.PairAt(data, at), wantPairAt(data, at))
		}
	}
}

func TestPairAtNamesManyAheadOfRange(t *testing.T) {
	long := make([]byte, impl.MaxBytes+1)
	for _, at := range []int64{-1, 0, impl.MaxBytes, math.MaxInt64} {
		mustBe(t, fmt.Sprint("PairAt too many bytes, place ", at), impl.PairAt(long, at), impl.IntResult{Code: impl.ErrMany})
	}
}

func TestPairAtIsNotLedBehindTheEndBySpareRoom(t *testing.T) {
	spare := []byte{1, 2, 3, 4}[:2]
	mustBe(t, "PairAt 0", impl.PairAt(spare, 0), impl.IntResult{Value: 258})
	mustBe(t, "PairAt 1", impl.PairAt(spare, 1), impl.IntResult{Code: impl.ErrRange})
	mustBe(t, "PairAt 2", impl.PairAt(spare, 2), impl.IntResult{Code: impl.ErrRange})
}

// plainOrder goes byte by byte, as the document tells the order.
func plainOrder(a []byte, b []byte) int64 {
	for i := 0; i < len(a) && i < len(b); i++ {
		if a[i] < b[i] {
			return -1
		}
		if a[i] > b[i] {
			return 1
		}
	}
	if len(a) < len(b) {
		return -1
	}
	if len(a) > len(b) {
		return 1
	}
	return 0
}

func listsToOrder() [][]byte {
	lists := edgeLists()
	last := numbered(impl.MaxBytes)
	last[impl.MaxBytes-1]++
	return append(lists, last, numbered(impl.MaxBytes), []byte{128, 1}, []byte{127, 255}, []byte{2}, []byte{1, 9})
}

func TestCompareBytesIsTheOrderOfBytes(t *testing.T) {
	for _, a := range listsToOrder() {
		for _, b := range listsToOrder() {
			want := impl.IntResult{Value: plainOrder(a, b)}
			if len(a) > impl.MaxBytes || len(b) > impl.MaxBytes {
				want = impl.IntResult{Code: impl.ErrMany}
			}
			mustBe(t, fmt.Sprintf("CompareBytes %d and %d bytes", len(a), len(b)), impl.CompareBytes(a, b), want)
		}
	}
}

func TestP2AheadOfAheadIsAhead(t *testing.T) {
	lists := listsToOrder()
	for _, a := range lists {
		for _, b := range lists {
			for _, c := range lists {
				if impl.CompareBytes(a, b).Value == -1 && impl.CompareBytes(b, c).Value == -1 && impl.CompareBytes(a, c).Value != -1 {
					t.Fatalf("lists of %d, %d, %d bytes: the first is ahead of the second, this of the third, but not the first of the third", len(a), len(b), len(c))
				}
			}
		}
	}
}

func TestBegins(t *testing.T) {
	for _, data := range listsToOrder() {
		for _, head := range listsToOrder() {
			want := len(data) >= len(head)
			for i := 0; want && i < len(head); i++ {
				want = data[i] == head[i]
			}
			mustBe(t, fmt.Sprintf("Begins %d and %d bytes", len(data), len(head)), impl.Begins(data, head), want)
		}
	}
}

func TestP2EveryNumberIsReadBack(t *testing.T) {
	for n := int64(0); n <= impl.MaxNumber; n++ {
		text := impl.NumberText(n)
		if text.Code != impl.OK || text.Text != fmt.Sprint(n) {
			t.Fatalf("NumberText %d: %+v", n, text)
		}
		if back := impl.NumberOf(text.Text); back != (impl.IntResult{Value: n}) {
			t.Fatalf("NumberOf %q: %+v", text.Text, back)
		}
	}
}

func TestNumberTextBounds(t *testing.T) {
	mustBe(t, "NumberText 0", impl.NumberText(0), impl.TextResult{Text: "0"})
	mustBe(t, "NumberText MaxNumber", impl.NumberText(impl.MaxNumber), impl.TextResult{Text: "999999"})
	for _, n := range edgeNumbers {
		if n < 0 || n > 999999 {
			mustBe(t, fmt.Sprint("NumberText ", n), impl.NumberText(n), impl.TextResult{Code: impl.ErrRange})
		}
	}
}

var numberForm = regexp.MustCompile(`\A(0|[1-9][0-9]{0,5})\z`)

func checkOneText(t *testing.T, text string) {
	t.Helper()
	got := impl.NumberOf(text)
	if !numberForm.MatchString(text) {
		mustBe(t, fmt.Sprintf("NumberOf %.30q", text), got, impl.IntResult{Code: impl.ErrText})
		return
	}
	mustBe(t, fmt.Sprintf("code of NumberOf %q", text), got.Code, int64(impl.OK))
	mustBe(t, fmt.Sprintf("NumberText of NumberOf %q", text), impl.NumberText(got.Value), impl.TextResult{Text: text})
}

func TestP2ANumberHasOneTextAlone(t *testing.T) {
	for _, text := range edgeTexts {
		checkOneText(t, text)
	}
	letters := "0189+- _a.x"
	texts := []string{""}
	for range 4 {
		longer := []string{}
		for _, text := range texts {
			for _, letter := range letters {
				longer = append(longer, text+string(letter))
			}
		}
		for _, text := range longer {
			checkOneText(t, text)
		}
		texts = longer
	}
}

// allAnswers calls every function of the chapter with whatever of the arguments it takes.
func allAnswers(a []byte, b []byte, n int64, text string) []any {
	return []any{
		impl.SumOf(a), impl.PairOf(n), impl.PairAt(a, n), impl.CompareBytes(a, b),
		impl.Begins(a, b), impl.NumberText(n), impl.NumberOf(text),
	}
}

func TestP1AnswersHangOnTheArgumentsAlone(t *testing.T) {
	for i, a := range edgeLists() {
		for j, b := range edgeLists() {
			n := edgeNumbers[(i+7*j)%len(edgeNumbers)]
			text := edgeTexts[(j+11*i)%len(edgeTexts)]
			first := allAnswers(a, b, n, text)
			allAnswers(b, a, int64(i+j), "123")
			mustBe(t, "the same call again", allAnswers(a, b, n, text), first)
			mustBe(t, "the same call with other memory", allAnswers(guard(a).list, guard(b).list, n, strings.Clone(text)), first)
		}
	}
}

func TestP1EveryNumberAndTextIsAnswered(t *testing.T) {
	for _, n := range edgeNumbers {
		for _, text := range edgeTexts {
			first := allAnswers([]byte{1, 2, 3}, []byte{1, 2}, n, text)
			mustBe(t, "the same call again", allAnswers([]byte{1, 2, 3}, []byte{1, 2}, n, text), first)
		}
	}
}

func TestP1NilAndEmptyAreTheSame(t *testing.T) {
	none := []byte{}
	for _, n := range edgeNumbers {
		mustBe(t, "empty lists", allAnswers(none, none, n, ""), allAnswers(nil, nil, n, ""))
	}
	for _, list := range edgeLists() {
		mustBe(t, "an empty first list", allAnswers(none, list, 0, ""), allAnswers(nil, list, 0, ""))
		mustBe(t, "an empty second list", allAnswers(list, none, 0, ""), allAnswers(list, nil, 0, ""))
	}
}

func TestP1ArgumentsAreNotChanged(t *testing.T) {
	for _, a := range edgeLists() {
		for _, b := range edgeLists() {
			first, second := guard(a), guard(b)
			impl.SumOf(first.list)
			first.mustBeUnchanged(t, "SumOf")
			for _, at := range edgeNumbers {
				impl.PairAt(first.list, at)
			}
			first.mustBeUnchanged(t, "PairAt")
			impl.CompareBytes(first.list, second.list)
			first.mustBeUnchanged(t, "CompareBytes")
			second.mustBeUnchanged(t, "CompareBytes")
			impl.Begins(first.list, second.list)
			first.mustBeUnchanged(t, "Begins")
			second.mustBeUnchanged(t, "Begins")
		}
	}
}

func TestP1AnswersAreNewMemory(t *testing.T) {
	for _, n := range []int64{0, 1, 258, 65534, 65535} {
		want := []byte{byte(n / 256), byte(n % 256)}
		kept := impl.PairOf(n)
		spoilt := impl.PairOf(n)
		overwrite(spoilt.Bytes)
		mustBe(t, fmt.Sprintf("PairOf %d beside one that was overwritten", n), kept.Bytes, want)
		mustBe(t, fmt.Sprintf("PairOf %d behind one that was overwritten", n), impl.PairOf(n).Bytes, want)
		impl.PairOf(65535 - n)
		mustBe(t, fmt.Sprintf("PairOf %d when another one was asked for", n), kept.Bytes, want)
	}
}

func TestP1NothingIsKeptOfAnArgument(t *testing.T) {
	a, b := []byte{1, 2, 3}, []byte{1, 2, 4}
	allAnswers(a, b, 1, "7")
	overwrite(a)
	overwrite(b)
	mustBe(t, "SumOf", impl.SumOf(a), impl.IntResult{Value: plainSum([]byte{254, 253, 252})})
	mustBe(t, "PairAt", impl.PairAt(a, 1), impl.IntResult{Value: 253*256 + 252})
	mustBe(t, "CompareBytes", impl.CompareBytes(a, b), impl.IntResult{Value: 1})
	mustBe(t, "Begins", impl.Begins(a, []byte{254, 253}), true)
}
