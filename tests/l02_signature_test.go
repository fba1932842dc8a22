package tests

import (
	"bytes"
	"fmt"
	"math"
	"regexp"
	"slices"
	"strings"
	"testing"

	"loop.example/g00653/impl"
)

func signature(symbols ...impl.Symbol) impl.Signature {
	return impl.Signature{Symbols: symbols}
}

// exampleSignature has the symbols that the document's examples speak of.
func exampleSignature() impl.Signature {
	return signature(impl.Symbol{Name: "e"}, impl.Symbol{Name: "i", Arity: 1}, impl.Symbol{Name: "m", Arity: 2}, impl.Symbol{Name: "a"})
}

// constants makes so many symbols without arguments: a, b, c ..
func constants(count int) impl.Signature {
	s := impl.Signature{}
	for i := range count {
		s.Symbols = append(s.Symbols, impl.Symbol{Name: string(rune('a' + i))})
	}
	return s
}

var goodNames = []string{"a", "z", "m", "ab", "zz", "abc", "zzz", "aaa", "mod"}

var badNames = []string{
	"", "abcd", "aaaaaa", "A", "Z", "aB", "Abc", "abC", "1", "a1", "1a", "ab1", " ", " a", "a ", "a b", "a_b", "-",
	"`", "{", "a{", "`a", "@", "[", "\x00", "a\x00", "\n", "a\n", "\x7f", "\xff", "a\xff", "\xe1", "\xc3\xa9", "aé", "ä", "ａ", "(", ",",
	strings.Repeat("a", 255), strings.Repeat("a", 256), strings.Repeat("a", 257), strings.Repeat("a", 259), strings.Repeat("a", 70000),
}

var goodArities = []int64{0, 1, 2}

var badArities = []int64{
	-1, -2, 3, 4, 255, 256, 257, 258, -254, -255, -256, 1 << 32, 1<<32 + 1, math.MinInt64, math.MinInt32, math.MaxInt64,
}

// Numbers at and around the first and the last symbol's.
var edgeSymbols = []int64{
	math.MinInt64, math.MinInt32, -256, -7, -6, -2, -1, 0, 1, 2, 3, 4, 5, 6, 7, 255, 256, 257, 1 << 32, 1<<32 + 1, math.MaxInt64 - 1, math.MaxInt64,
}

// mixedSymbols are good ones and ones with a fault, so that lists of them have all faults in all orders.
var mixedSymbols = []impl.Symbol{
	{Name: "a"}, {Name: "b"}, {Name: "a", Arity: 1}, {Name: "b", Arity: 2}, {Name: "abc", Arity: 2}, {Name: "ab"},
	{Name: ""}, {Name: "abcd"}, {Name: "A", Arity: 1}, {Name: "a", Arity: 3}, {Name: "b", Arity: -1}, {Name: "a1", Arity: 3},
}

func goodSignatures() []impl.Signature {
	list := []impl.Signature{
		exampleSignature(), constants(1), constants(2), constants(impl.MaxSymbols - 1), constants(impl.MaxSymbols),
		signature(impl.Symbol{Name: "zzz", Arity: 2}, impl.Symbol{Name: "zz", Arity: 1}, impl.Symbol{Name: "z"}),
		signature(impl.Symbol{Name: "z"}, impl.Symbol{Name: "zz"}, impl.Symbol{Name: "zzz"}),
		signature(impl.Symbol{Name: "aaa", Arity: 2}, impl.Symbol{Name: "aab", Arity: 2}, impl.Symbol{Name: "aba", Arity: 1},
			impl.Symbol{Name: "baa", Arity: 1}, impl.Symbol{Name: "bbb", Arity: 2}, impl.Symbol{Name: "bba"}),
	}
	for _, name := range goodNames {
		list = append(list, signature(impl.Symbol{Name: name}))
		for _, arity := range goodArities {
			list = append(list, signature(impl.Symbol{Name: name, Arity: arity}, impl.Symbol{Name: "q"}))
		}
	}
	return list
}

// allSignatures are good ones and ones with every fault.
func allSignatures() []impl.Signature {
	list := append(goodSignatures(), impl.Signature{}, signature(), constants(impl.MaxSymbols+1), constants(26))
	for length := range 3 {
		for _, symbols := range listsOver(mixedSymbols, length+1) {
			list = append(list, signature(symbols...))
		}
	}
	for _, name := range badNames {
		list = append(list, signature(impl.Symbol{Name: name}), signature(impl.Symbol{Name: "a"}, impl.Symbol{Name: name, Arity: 1}))
	}
	for _, arity := range badArities {
		list = append(list, signature(impl.Symbol{Name: "a", Arity: arity}), signature(impl.Symbol{Name: "a"}, impl.Symbol{Name: "b", Arity: arity}))
	}
	return list
}

// fewSignatures are some of all of them, where each is called with many other arguments.
func fewSignatures() []impl.Signature {
	return []impl.Signature{
		{}, signature(), constants(1), constants(2), constants(3), exampleSignature(), constants(impl.MaxSymbols), constants(impl.MaxSymbols + 1),
		signature(impl.Symbol{Name: "a"}, impl.Symbol{Name: "a"}), signature(impl.Symbol{Name: "a", Arity: 1}),
		signature(impl.Symbol{Name: "a"}, impl.Symbol{Name: "A"}), signature(impl.Symbol{Name: "a", Arity: 3}),
	}
}

var nameForm = regexp.MustCompile(`\A[a-z]{1,3}\z`)

// wantSignatureFault is told as the document tells it, one code behind the other.
func wantSignatureFault(s impl.Signature) int64 {
	if len(s.Symbols) < 1 || len(s.Symbols) > 6 {
		return impl.ErrMany
	}
	for _, symbol := range s.Symbols {
		switch {
		case !nameForm.MatchString(symbol.Name):
			return impl.ErrText
		case symbol.Arity != 0 && symbol.Arity != 1 && symbol.Arity != 2:
			return impl.ErrRange
		}
	}
	for i, symbol := range s.Symbols {
		for _, other := range s.Symbols[:i] {
			if symbol.Name == other.Name {
				return impl.ErrTaken
			}
		}
	}
	for _, symbol := range s.Symbols {
		if symbol.Arity == 0 {
			return impl.OK
		}
	}
	return impl.ErrNone
}

func TestBoundsOfSignaturesAreThoseOfTheDocument(t *testing.T) {
	mustBe(t, "MaxSymbols", impl.MaxSymbols, 6)
	mustBe(t, "MaxArity", impl.MaxArity, 2)
}

func TestSignatureFaultKnownValues(t *testing.T) {
	for _, c := range []struct {
		what string
		s    impl.Signature
		code int64
	}{
		{"no symbol", signature(), impl.ErrMany},
		{"one symbol", constants(1), impl.OK},
		{"MaxSymbols", constants(6), impl.OK},
		{"one more", constants(7), impl.ErrMany},
		{"the examples' symbols", exampleSignature(), impl.OK},
		{"two with one name", signature(impl.Symbol{Name: "a"}, impl.Symbol{Name: "a"}), impl.ErrTaken},
		{"two with one name, other arities", signature(impl.Symbol{Name: "a"}, impl.Symbol{Name: "b"}, impl.Symbol{Name: "a", Arity: 2}), impl.ErrTaken},
		{"the first and the last of six with one name", signature(append(constants(5).Symbols, impl.Symbol{Name: "a", Arity: 1})...), impl.ErrTaken},
		{"none with the arity 0", signature(impl.Symbol{Name: "a", Arity: 1}, impl.Symbol{Name: "b", Arity: 2}), impl.ErrNone},
		{"the arity 0 at the end", signature(impl.Symbol{Name: "a", Arity: 1}, impl.Symbol{Name: "b", Arity: 2}, impl.Symbol{Name: "c"}), impl.OK},
		{"one name that begins another one", signature(impl.Symbol{Name: "a"}, impl.Symbol{Name: "aa"}, impl.Symbol{Name: "aaa"}), impl.OK},
	} {
		mustBe(t, "SignatureFault of "+c.what, impl.SignatureFault(c.s), c.code)
	}
}

func TestSignatureFaultAsksNamesAndArities(t *testing.T) {
	for _, name := range goodNames {
		mustBe(t, fmt.Sprintf("the name %q", name), impl.SignatureFault(signature(impl.Symbol{Name: name})), int64(impl.OK))
	}
	for _, name := range badNames {
		mustBe(t, fmt.Sprintf("the name %.20q", name), impl.SignatureFault(signature(impl.Symbol{Name: name})), int64(impl.ErrText))
		last := append(constants(5).Symbols, impl.Symbol{Name: name})
		mustBe(t, fmt.Sprintf("the last name %.20q", name), impl.SignatureFault(signature(last...)), int64(impl.ErrText))
	}
	for letter := range 256 {
		want := int64(impl.OK)
		if letter < 'a' || letter > 'z' {
			want = impl.ErrText
		}
		for _, name := range []string{string([]byte{byte(letter)}), string([]byte{byte(letter), 'a', 'a'}), string([]byte{'a', byte(letter), 'a'}), string([]byte{'a', 'a', byte(letter)})} {
			mustBe(t, fmt.Sprintf("the name %q", name), impl.SignatureFault(signature(impl.Symbol{Name: name})), want)
		}
	}
	for _, arity := range goodArities {
		mustBe(t, fmt.Sprint("the arity ", arity), impl.SignatureFault(signature(impl.Symbol{Name: "a"}, impl.Symbol{Name: "b", Arity: arity})), int64(impl.OK))
	}
	for _, arity := range badArities {
		mustBe(t, fmt.Sprint("the arity ", arity), impl.SignatureFault(signature(impl.Symbol{Name: "a"}, impl.Symbol{Name: "b", Arity: arity})), int64(impl.ErrRange))
	}
}

func TestSignatureFaultAsksCodesInTheirOrder(t *testing.T) {
	badName, badArity := impl.Symbol{Name: "A"}, impl.Symbol{Name: "a", Arity: 3}
	both := impl.Symbol{Name: "A", Arity: 3}
	one, two := impl.Symbol{Name: "a", Arity: 1}, impl.Symbol{Name: "b", Arity: 2}
	for _, c := range []struct {
		what string
		s    impl.Signature
		code int64
	}{
		{"too many, and all else", signature(both, both, badName, badArity, both, both, both), impl.ErrMany},
		{"a symbol with both faults", signature(both), impl.ErrText},
		{"an arity ahead of a name", signature(badArity, badName), impl.ErrRange},
		{"a name ahead of an arity", signature(badName, badArity), impl.ErrText},
		{"a name behind two with one name", signature(one, one, badName), impl.ErrText},
		{"an arity behind two with one name", signature(one, one, impl.Symbol{Name: "b", Arity: -1}), impl.ErrRange},
		{"two with one name, none with the arity 0", signature(one, two, one), impl.ErrTaken},
		{"a name, and none with the arity 0", signature(one, impl.Symbol{Name: "", Arity: 2}), impl.ErrText},
		{"an arity, and none with the arity 0", signature(one, impl.Symbol{Name: "b", Arity: 3}), impl.ErrRange},
	} {
		mustBe(t, "SignatureFault of "+c.what, impl.SignatureFault(c.s), c.code)
	}
}

func TestSignatureFaultOfAllSignatures(t *testing.T) {
	for _, s := range allSignatures() {
		mustBe(t, fmt.Sprintf("SignatureFault of %.60v", s), impl.SignatureFault(s), wantSignatureFault(s))
	}
}

func wantSymbolOf(s impl.Signature, name string) impl.IntResult {
	if code := wantSignatureFault(s); code != impl.OK {
		return impl.IntResult{Code: code}
	}
	for number, symbol := range s.Symbols {
		if symbol.Name == name {
			return impl.IntResult{Value: int64(number)}
		}
	}
	return impl.IntResult{Code: impl.ErrNone}
}

func TestP3EachSymbolIsFoundByItsName(t *testing.T) {
	for _, s := range goodSignatures() {
		for number, symbol := range s.Symbols {
			found := impl.SymbolOf(s, symbol.Name)
			mustBe(t, fmt.Sprintf("SymbolOf %q in %v", symbol.Name, s), found, impl.IntResult{Value: int64(number)})
			mustBe(t, fmt.Sprintf("ArityOf %q in %v", symbol.Name, s), impl.ArityOf(s, found.Value), impl.IntResult{Value: symbol.Arity})
		}
	}
}

func TestSymbolOfWhateverName(t *testing.T) {
	for _, s := range append(goodSignatures(), fewSignatures()...) {
		for _, name := range slices.Concat(goodNames, badNames, []string{"b", "c", "f", "g", "q", "aa", "bb"}) {
			mustBe(t, fmt.Sprintf("SymbolOf %.20q in %v", name, s), impl.SymbolOf(s, name), wantSymbolOf(s, name))
		}
	}
	for _, s := range allSignatures() {
		mustBe(t, fmt.Sprintf("SymbolOf a in %.60v", s), impl.SymbolOf(s, "a"), wantSymbolOf(s, "a"))
	}
}

func wantArityOf(s impl.Signature, symbol int64) impl.IntResult {
	if code := wantSignatureFault(s); code != impl.OK {
		return impl.IntResult{Code: code}
	}
	for number := range s.Symbols {
		if int64(number) == symbol {
			return impl.IntResult{Value: s.Symbols[number].Arity}
		}
	}
	return impl.IntResult{Code: impl.ErrRange}
}

func TestArityOfWhateverNumber(t *testing.T) {
	s := exampleSignature()
	mustBe(t, "the last symbol's arity", impl.ArityOf(s, 3), impl.IntResult{})
	mustBe(t, "the arity of one more", impl.ArityOf(s, 4), impl.IntResult{Code: impl.ErrRange})
	mustBe(t, "the arity of one below", impl.ArityOf(s, -1), impl.IntResult{Code: impl.ErrRange})
	for _, s := range allSignatures() {
		for _, symbol := range edgeSymbols {
			mustBe(t, fmt.Sprintf("ArityOf %d in %.60v", symbol, s), impl.ArityOf(s, symbol), wantArityOf(s, symbol))
		}
	}
}

func TestSameSignatures(t *testing.T) {
	ab := signature(impl.Symbol{Name: "a"}, impl.Symbol{Name: "b"})
	ba := signature(impl.Symbol{Name: "b"}, impl.Symbol{Name: "a"})
	mustBe(t, "the same symbols", impl.SameSignatures(ab, signature(ab.Symbols...)), true)
	mustBe(t, "another order", impl.SameSignatures(ab, ba), false)
	mustBe(t, "one more behind", impl.SameSignatures(constants(2), constants(3)), false)
	mustBe(t, "one less", impl.SameSignatures(constants(3), constants(2)), false)
	mustBe(t, "one against none", impl.SameSignatures(constants(1), impl.Signature{}), false)
	mustBe(t, "nil and empty", impl.SameSignatures(impl.Signature{}, signature([]impl.Symbol{}...)), true)
	mustBe(t, "another arity", impl.SameSignatures(constants(2), signature(impl.Symbol{Name: "a"}, impl.Symbol{Name: "b", Arity: 1})), false)
	list := []impl.Signature{{}, constants(7), constants(26)}
	for length := range 2 {
		for _, symbols := range listsOver(mixedSymbols, length+1) {
			list = append(list, signature(symbols...))
		}
	}
	for i, a := range list {
		for j, b := range list {
			other := impl.Signature{Symbols: slices.Clone(b.Symbols)}
			mustBe(t, fmt.Sprintf("SameSignatures %v and %v", a, b), impl.SameSignatures(a, other), i == j)
		}
	}
}

func wantPacked(s impl.Signature) impl.BytesResult {
	if code := wantSignatureFault(s); code != impl.OK {
		return impl.BytesResult{Code: code}
	}
	text := string(rune(len(s.Symbols)))
	for _, symbol := range s.Symbols {
		text += string(rune(len(symbol.Name))) + symbol.Name + string(rune(symbol.Arity))
	}
	return impl.BytesResult{Bytes: []byte(text)}
}

func TestPackSignature(t *testing.T) {
	mustBe(t, "PackSignature of the examples' symbols", impl.PackSignature(exampleSignature()).Bytes,
		[]byte{4, 1, 'e', 0, 1, 'i', 1, 1, 'm', 2, 1, 'a', 0})
	mustBe(t, "PackSignature of longer names", impl.PackSignature(signature(impl.Symbol{Name: "abc", Arity: 2}, impl.Symbol{Name: "de"})).Bytes,
		[]byte{2, 3, 'a', 'b', 'c', 2, 2, 'd', 'e', 0})
	for _, s := range allSignatures() {
		mustBe(t, fmt.Sprintf("PackSignature of %.60v", s), impl.PackSignature(s), wantPacked(s))
	}
}

func TestP3ASignatureIsReadBackFromItsBytes(t *testing.T) {
	for _, s := range goodSignatures() {
		back := impl.ReadSignature(impl.PackSignature(s).Bytes)
		mustBe(t, fmt.Sprintf("%v read back", s), back, impl.SignatureResult{Signature: s})
		mustBe(t, fmt.Sprintf("SameSignatures of %v and what was read", s), impl.SameSignatures(s, back.Signature), true)
	}
}

var packedForm = regexp.MustCompile(`\A[\x01-\x06](?:(?:\x01[a-z]|\x02[a-z]{2}|\x03[a-z]{3})[\x00-\x02])*\z`)
var packedSymbol = regexp.MustCompile(`[\x01-\x03]([a-z]+)([\x00-\x02])`)

// wantRead reads by forms what the program reads byte by byte.
func wantRead(data []byte) impl.SignatureResult {
	none := impl.SignatureResult{Code: impl.ErrText}
	if !packedForm.Match(data) {
		return none
	}
	s := impl.Signature{}
	for _, found := range packedSymbol.FindAllSubmatch(data[1:], -1) {
		s.Symbols = append(s.Symbols, impl.Symbol{Name: string(found[1]), Arity: int64(found[2][0])})
	}
	if len(s.Symbols) != int(data[0]) || wantSignatureFault(s) != impl.OK {
		return none
	}
	return impl.SignatureResult{Signature: s}
}

func checkRead(t *testing.T, data []byte) {
	t.Helper()
	got := impl.ReadSignature(data)
	mustBe(t, fmt.Sprintf("ReadSignature of %.60v", data), got, wantRead(data))
	if got.Code == impl.OK {
		mustBe(t, fmt.Sprintf("PackSignature of what was read of %v", data), impl.PackSignature(got.Signature).Bytes, data)
	}
}

func TestReadSignatureOfBytesThatTellNone(t *testing.T) {
	for _, c := range []struct {
		what string
		data []byte
	}{
		{"nothing", nil},
		{"no symbol", []byte{0}},
		{"no symbol, and something behind", []byte{0, 0}},
		{"a count alone", []byte{1}},
		{"a symbol without its letters", []byte{1, 1}},
		{"a symbol without its arity", []byte{1, 1, 'a'}},
		{"a byte behind the end", []byte{1, 1, 'a', 0, 0}},
		{"a symbol behind the end", []byte{1, 1, 'a', 0, 1, 'b', 0}},
		{"one symbol less than are told", []byte{2, 1, 'a', 0}},
		{"a name without letters", []byte{1, 0, 0}},
		{"a name with four letters", []byte{1, 4, 'a', 'b', 'c', 'd', 0}},
		{"a name with another byte", []byte{1, 1, 'A', 0}},
		{"an arity that is too great", []byte{2, 1, 'a', 0, 1, 'b', 3}},
		{"two with one name", []byte{2, 1, 'a', 0, 1, 'a', 0}},
		{"none with the arity 0", []byte{1, 1, 'a', 1}},
		{"seven symbols", []byte{7, 1, 'a', 0, 1, 'b', 0, 1, 'c', 0, 1, 'd', 0, 1, 'e', 0, 1, 'f', 0, 1, 'g', 0}},
	} {
		mustBe(t, "ReadSignature of "+c.what, impl.ReadSignature(c.data), impl.SignatureResult{Code: impl.ErrText})
	}
}

func TestReadSignatureOfCutAndLengthenedBytes(t *testing.T) {
	for _, s := range goodSignatures() {
		packed := wantPacked(s).Bytes
		for end := range packed {
			mustBe(t, fmt.Sprintf("ReadSignature of %v, cut at %d", packed, end), impl.ReadSignature(packed[:end]), impl.SignatureResult{Code: impl.ErrText})
		}
		for more := range 256 {
			longer := append(slices.Clone(packed), byte(more))
			mustBe(t, fmt.Sprintf("ReadSignature of %v", longer), impl.ReadSignature(longer), impl.SignatureResult{Code: impl.ErrText})
		}
	}
}

func TestReadSignatureOfTurnedBytes(t *testing.T) {
	for _, s := range goodSignatures() {
		packed := wantPacked(s).Bytes
		for place := range packed {
			for value := range 256 {
				turned := slices.Clone(packed)
				turned[place] = byte(value)
				checkRead(t, turned)
			}
		}
	}
}

func TestReadSignatureOfWhateverBytes(t *testing.T) {
	for _, data := range edgeLists() {
		checkRead(t, data)
	}
	for _, first := range []byte{0, 1, 2, 6, 7, 255} {
		for _, count := range []int{1, 2, 3, 6, 7, 255, 70000} {
			checkRead(t, append([]byte{first}, bytes.Repeat([]byte{1, 'a', 0}, count)...))
			checkRead(t, append([]byte{first}, bytes.Repeat([]byte{first}, count)...))
		}
	}
	for length := range 7 {
		for _, data := range listsOver([]byte{0, 1, 2, 'a', 'b'}, length) {
			checkRead(t, data)
		}
	}
}

func TestReadSignatureIsNotLedBehindTheEndBySpareRoom(t *testing.T) {
	whole := wantPacked(exampleSignature()).Bytes
	for end := range whole {
		mustBe(t, fmt.Sprint("bytes that end at ", end), impl.ReadSignature(whole[:end]), impl.SignatureResult{Code: impl.ErrText})
	}
}

// wantOrderFault tells a precedence by what sorting makes of it.
func wantOrderFault(s impl.Signature, order []int64) int64 {
	if code := wantSignatureFault(s); code != impl.OK {
		return code
	}
	if len(order) != len(s.Symbols) {
		return impl.ErrMany
	}
	sorted := slices.Sorted(slices.Values(order))
	if sorted[0] < 0 || sorted[len(sorted)-1] > int64(len(s.Symbols)-1) {
		return impl.ErrRange
	}
	if len(slices.Compact(sorted)) < len(order) {
		return impl.ErrTaken
	}
	return impl.OK
}

func wantRankOf(s impl.Signature, order []int64, symbol int64) impl.IntResult {
	if code := wantOrderFault(s, order); code != impl.OK {
		return impl.IntResult{Code: code}
	}
	for rank, number := range order {
		if number == symbol {
			return impl.IntResult{Value: int64(rank)}
		}
	}
	return impl.IntResult{Code: impl.ErrRange}
}

func wantRaised(s impl.Signature, order []int64, symbol int64) impl.IntsResult {
	rank := wantRankOf(s, order, symbol)
	if rank.Code != impl.OK {
		return impl.IntsResult{Code: rank.Code}
	}
	if order[len(order)-1] == symbol {
		return impl.IntsResult{Code: impl.ErrNone}
	}
	list := append(slices.Clone(order[:rank.Value]), order[rank.Value+1], symbol)
	return impl.IntsResult{List: append(list, order[rank.Value+2:]...)}
}

func checkOrder(t *testing.T, s impl.Signature, order []int64) {
	t.Helper()
	mustBe(t, fmt.Sprintf("OrderFault of %v in %.60v", order, s), impl.OrderFault(s, order), wantOrderFault(s, order))
	for _, symbol := range edgeSymbols {
		mustBe(t, fmt.Sprintf("RankOf %d by %v in %.60v", symbol, order, s), impl.RankOf(s, order, symbol), wantRankOf(s, order, symbol))
		mustBe(t, fmt.Sprintf("RaiseSymbol %d by %v in %.60v", symbol, order, s), impl.RaiseSymbol(s, order, symbol), wantRaised(s, order, symbol))
	}
}

func TestOrderFaultKnownValues(t *testing.T) {
	s := exampleSignature()
	for _, c := range []struct {
		what  string
		s     impl.Signature
		order []int64
		code  int64
	}{
		{"rising numbers", s, []int64{0, 1, 2, 3}, impl.OK},
		{"falling numbers", s, []int64{3, 2, 1, 0}, impl.OK},
		{"none", s, nil, impl.ErrMany},
		{"one that is empty", s, []int64{}, impl.ErrMany},
		{"one that is too short", s, []int64{0, 1, 2}, impl.ErrMany},
		{"one that is too long", s, []int64{0, 1, 2, 3, 3}, impl.ErrMany},
		{"one that names a number twice, and lacks one", s, []int64{0, 1, 1, 3}, impl.ErrTaken},
		{"one that names the first at the last place, too", s, []int64{0, 1, 2, 0}, impl.ErrTaken},
		{"one that names one more than the last symbol", s, []int64{0, 1, 2, 4}, impl.ErrRange},
		{"one that names one below 0", s, []int64{-1, 0, 1, 2}, impl.ErrRange},
		{"one that is too short, with a wrong number", s, []int64{9, 9}, impl.ErrMany},
		{"one with a number twice ahead of a wrong number", s, []int64{0, 0, 1, 4}, impl.ErrRange},
		{"one with a wrong number twice", s, []int64{0, 4, 4, 1}, impl.ErrRange},
		{"one of no signature", impl.Signature{}, nil, impl.ErrMany},
		{"one that is wrong, of a signature with a fault", signature(impl.Symbol{Name: "a"}, impl.Symbol{Name: "a"}), []int64{0}, impl.ErrTaken},
		{"one of a signature without the arity 0", signature(impl.Symbol{Name: "a", Arity: 1}), []int64{0}, impl.ErrNone},
	} {
		mustBe(t, "OrderFault of "+c.what, impl.OrderFault(c.s, c.order), c.code)
	}
}

func TestRaiseSymbolKnownValues(t *testing.T) {
	s, order := exampleSignature(), []int64{2, 0, 3, 1}
	mustBe(t, "the lowest", impl.RaiseSymbol(s, order, 2), impl.IntsResult{List: []int64{0, 2, 3, 1}})
	mustBe(t, "the second", impl.RaiseSymbol(s, order, 0), impl.IntsResult{List: []int64{2, 3, 0, 1}})
	mustBe(t, "the last but one", impl.RaiseSymbol(s, order, 3), impl.IntsResult{List: []int64{2, 0, 1, 3}})
	mustBe(t, "the one at the last place", impl.RaiseSymbol(s, order, 1), impl.IntsResult{Code: impl.ErrNone})
	mustBe(t, "no symbol's number", impl.RaiseSymbol(s, order, 4), impl.IntsResult{Code: impl.ErrRange})
	mustBe(t, "one below 0", impl.RaiseSymbol(s, order, -1), impl.IntsResult{Code: impl.ErrRange})
	mustBe(t, "the only one", impl.RaiseSymbol(constants(1), []int64{0}, 0), impl.IntsResult{Code: impl.ErrNone})
	mustBe(t, "no symbol's number by a wrong precedence", impl.RaiseSymbol(s, []int64{0, 1, 2, 2}, 9), impl.IntsResult{Code: impl.ErrTaken})
}

func TestOrdersOfSmallSignatures(t *testing.T) {
	three := signature(impl.Symbol{Name: "a"}, impl.Symbol{Name: "b", Arity: 1}, impl.Symbol{Name: "c", Arity: 2})
	for length := range 5 {
		for _, order := range listsOver([]int64{-1, 0, 1, 2, 3}, length) {
			checkOrder(t, three, order)
		}
	}
	for length := range 3 {
		for _, order := range listsOver(edgeSymbols, length) {
			checkOrder(t, constants(2), order)
			checkOrder(t, constants(1), order)
		}
	}
}

func TestOrdersOfWhateverSignatures(t *testing.T) {
	long := make([]int64, 70000)
	for _, s := range allSignatures() {
		count := int64(len(s.Symbols))
		rising := []int64{}
		for number := range count {
			rising = append(rising, number)
		}
		for _, order := range [][]int64{nil, rising, append(slices.Clone(rising), count), {0}, {1, 0}, {0, 1, 1}, {0, 1, 3}, {0, 0, 9}} {
			mustBe(t, fmt.Sprintf("OrderFault of %v in %.60v", order, s), impl.OrderFault(s, order), wantOrderFault(s, order))
			mustBe(t, fmt.Sprintf("RankOf 0 by %v in %.60v", order, s), impl.RankOf(s, order, 0), wantRankOf(s, order, 0))
			mustBe(t, fmt.Sprintf("RaiseSymbol 0 by %v in %.60v", order, s), impl.RaiseSymbol(s, order, 0), wantRaised(s, order, 0))
		}
	}
	for _, s := range fewSignatures() {
		mustBe(t, "OrderFault of a very long list", impl.OrderFault(s, long), wantOrderFault(s, long))
	}
}

// permutations makes all precedences of so many symbols.
func permutations(count int) [][]int64 {
	lists := [][]int64{{}}
	for number := range count {
		longer := [][]int64{}
		for _, list := range lists {
			for place := range number + 1 {
				longer = append(longer, slices.Insert(slices.Clone(list), place, int64(number)))
			}
		}
		lists = longer
	}
	return lists
}

func ranksOf(t *testing.T, s impl.Signature, order []int64) []int64 {
	t.Helper()
	ranks := []int64{}
	for number := range s.Symbols {
		rank := impl.RankOf(s, order, int64(number))
		mustBe(t, fmt.Sprintf("code of RankOf %d by %v", number, order), rank.Code, int64(impl.OK))
		ranks = append(ranks, rank.Value)
	}
	return ranks
}

func TestP3ARaisedSymbolChangesItsRankWithOneOther(t *testing.T) {
	for count := 1; count <= impl.MaxSymbols; count++ {
		s := constants(count)
		for _, order := range permutations(count) {
			ranks := ranksOf(t, s, order)
			for number := range count {
				raised := impl.RaiseSymbol(s, order, int64(number))
				if ranks[number] == int64(count-1) {
					mustBe(t, fmt.Sprintf("RaiseSymbol %d by %v", number, order), raised, impl.IntsResult{Code: impl.ErrNone})
					continue
				}
				other := order[ranks[number]+1]
				want := slices.Clone(ranks)
				want[number], want[other] = ranks[other], ranks[number]
				mustBe(t, fmt.Sprintf("OrderFault of %v with %d raised", order, number), impl.OrderFault(s, raised.List), int64(impl.OK))
				mustBe(t, fmt.Sprintf("ranks by %v with %d raised", order, number), ranksOf(t, s, raised.List), want)
			}
		}
	}
}

func TestP3RaisedAndTheOtherRaisedLeavesAllAsItWas(t *testing.T) {
	s := constants(4)
	for _, order := range permutations(4) {
		for place := range 3 {
			raised := impl.RaiseSymbol(s, order, order[place])
			mustBe(t, fmt.Sprintf("%v with %d and then the other one raised", order, order[place]),
				impl.RaiseSymbol(s, raised.List, order[place+1]), impl.IntsResult{List: order})
		}
	}
}

// signatureAnswers calls every function of the chapter with whatever of the arguments it takes.
func signatureAnswers(s impl.Signature, other impl.Signature, data []byte, order []int64, symbol int64, name string) []any {
	return []any{
		impl.SignatureFault(s), impl.SymbolOf(s, name), impl.ArityOf(s, symbol), impl.SameSignatures(s, other),
		impl.PackSignature(s), impl.ReadSignature(data), impl.OrderFault(s, order),
		impl.RankOf(s, order, symbol), impl.RaiseSymbol(s, order, symbol),
	}
}

var someOrders = [][]int64{
	nil, {}, {0}, {1}, {0, 1}, {1, 0}, {0, 0}, {0, 1, 2}, {2, 1, 0}, {0, 1, 2, 3}, {3, 1, 2, 0}, {0, 1, 2, 2}, {0, 1, 2, 4},
	{0, 1, 2, 3, 4, 5}, {5, 3, 4, 1, 2, 0}, {0, 1, 2, 3, 4, 5, 6},
}

func someData() [][]byte {
	return [][]byte{
		nil, {}, {0}, {1}, {1, 1, 'a', 0}, {1, 1, 'a', 1}, {1, 1, 'a'}, {1, 1, 'a', 0, 0},
		wantPacked(exampleSignature()).Bytes, wantPacked(constants(6)).Bytes, numbered(impl.MaxBytes + 1),
	}
}

func TestP1SignatureAnswersHangOnTheArgumentsAlone(t *testing.T) {
	names, data := slices.Concat(goodNames, badNames), someData()
	for i, s := range fewSignatures() {
		for j, order := range someOrders {
			other := fewSignatures()[(i+j)%len(fewSignatures())]
			symbol, name, bits := edgeSymbols[(i+5*j)%len(edgeSymbols)], names[(j+7*i)%len(names)], data[(i+3*j)%len(data)]
			first := signatureAnswers(s, other, bits, order, symbol, name)
			signatureAnswers(other, s, []byte{1, 1, 'b', 0}, []int64{0}, 0, "b")
			mustBe(t, "the same call again", signatureAnswers(s, other, bits, order, symbol, name), first)
			again := signatureAnswers(signature(guardSymbols(s.Symbols).list...), signature(guardSymbols(other.Symbols).list...),
				guard(bits).list, guardNumbers(order).list, symbol, strings.Clone(name))
			mustBe(t, "the same call with other memory", again, first)
		}
	}
}

func TestP1NilAndEmptySignaturesAreTheSame(t *testing.T) {
	none := signature([]impl.Symbol{}...)
	for _, symbol := range edgeSymbols {
		mustBe(t, "empty lists", signatureAnswers(none, none, []byte{}, []int64{}, symbol, ""), signatureAnswers(impl.Signature{}, impl.Signature{}, nil, nil, symbol, ""))
	}
	for _, s := range fewSignatures() {
		mustBe(t, "an empty precedence", signatureAnswers(s, none, []byte{}, []int64{}, 0, "a"), signatureAnswers(s, impl.Signature{}, nil, nil, 0, "a"))
	}
}

func TestP1SignatureArgumentsAreNotChanged(t *testing.T) {
	for _, s := range fewSignatures() {
		for _, order := range someOrders {
			for _, data := range someData() {
				first, second := guardSymbols(s.Symbols), guardSymbols(s.Symbols)
				numbers, bits := guardNumbers(order), guard(data)
				for _, symbol := range []int64{-1, 0, 1, 3, 5, 6} {
					signatureAnswers(signature(first.list...), signature(second.list...), bits.list, numbers.list, symbol, "a")
				}
				first.mustBeUnchanged(t, "a function of signatures")
				second.mustBeUnchanged(t, "SameSignatures")
				numbers.mustBeUnchanged(t, "a function of precedences")
				bits.mustBeUnchanged(t, "ReadSignature")
			}
		}
	}
}

func TestP1PackedSignaturesAreNewMemory(t *testing.T) {
	for _, s := range goodSignatures() {
		want := wantPacked(s)
		kept, spoilt := impl.PackSignature(s), impl.PackSignature(s)
		overwrite(spoilt.Bytes)
		mustBe(t, "PackSignature beside one that was overwritten", kept, want)
		mustBe(t, "PackSignature behind one that was overwritten", impl.PackSignature(s), want)
		impl.PackSignature(exampleSignature())
		mustBe(t, "PackSignature when another one was asked for", kept, want)
	}
}

func TestP1ReadSignaturesAreNewMemory(t *testing.T) {
	for _, s := range goodSignatures() {
		want := impl.SignatureResult{Signature: s}
		data := guard(wantPacked(s).Bytes)
		kept, spoilt := impl.ReadSignature(data.list), impl.ReadSignature(data.list)
		overwriteSymbols(spoilt.Signature.Symbols)
		mustBe(t, "ReadSignature beside one that was overwritten", kept, want)
		mustBe(t, "ReadSignature behind one that was overwritten", impl.ReadSignature(data.list), want)
		data.mustBeUnchanged(t, "who overwrote the answer of ReadSignature")
		overwrite(data.list)
		mustBe(t, "ReadSignature of bytes that were overwritten", kept, want)
	}
}

func TestP1RaisedPrecedencesAreNewMemory(t *testing.T) {
	s := constants(impl.MaxSymbols)
	for _, order := range permutations(impl.MaxSymbols) {
		given := guardNumbers(order)
		for _, symbol := range order[:impl.MaxSymbols-1] {
			want := wantRaised(s, order, symbol)
			kept, spoilt := impl.RaiseSymbol(s, given.list, symbol), impl.RaiseSymbol(s, given.list, symbol)
			overwriteNumbers(spoilt.List)
			mustBe(t, "RaiseSymbol beside one that was overwritten", kept, want)
			given.mustBeUnchanged(t, "who overwrote the answer of RaiseSymbol")
			mustBe(t, "RaiseSymbol behind one that was overwritten", impl.RaiseSymbol(s, given.list, symbol), want)
		}
	}
}

func TestP1NothingIsKeptOfASignature(t *testing.T) {
	s, order := exampleSignature(), []int64{0, 1, 2, 3}
	raised := impl.RaiseSymbol(s, order, 0)
	signatureAnswers(s, s, []byte{1, 1, 'a', 0}, order, 1, "i")
	s.Symbols[1] = impl.Symbol{Name: "j", Arity: 2}
	order[0], order[3] = 3, 0
	mustBe(t, "SymbolOf a name that is gone", impl.SymbolOf(s, "i"), impl.IntResult{Code: impl.ErrNone})
	mustBe(t, "SymbolOf the new name", impl.SymbolOf(s, "j"), impl.IntResult{Value: 1})
	mustBe(t, "ArityOf the new symbol", impl.ArityOf(s, 1), impl.IntResult{Value: 2})
	mustBe(t, "RankOf by the new precedence", impl.RankOf(s, order, 0), impl.IntResult{Value: 3})
	mustBe(t, "RaiseSymbol by the old precedence", raised, impl.IntsResult{List: []int64{1, 0, 2, 3}})
}
