package tests

import (
	"bytes"
	"fmt"
	"math"
	"slices"
	"strings"
	"testing"

	"loop.example/g00653/impl"
)

// The bytes of the variables 0 to 11.
const variableBytes = " !\"#$%&'()*+"

func nodeByte(node int64) byte {
	if isKnownVariable(node) {
		return variableBytes[-1-node]
	}
	return []byte{1, 2, 3, 4, 5, 6}[node]
}

func nodeBytes(nodes []int64) []byte {
	data := []byte{}
	for _, node := range nodes {
		data = append(data, nodeByte(node))
	}
	return data
}

func wantPackTerm(s impl.Signature, term []int64) impl.BytesResult {
	if code := wantTermFault(s, term); code != impl.OK {
		return impl.BytesResult{Code: code}
	}
	return impl.BytesResult{Bytes: nodeBytes(term)}
}

// byteNodes seeks each byte among those of all nodes, and tells false where one is not among them.
func byteNodes(s impl.Signature, data []byte) ([]int64, bool) {
	count := len(s.Symbols)
	known := "\x01\x02\x03\x04\x05\x06"[:count] + variableBytes
	nodes := make([]int64, 0, len(data))
	for _, b := range data {
		place := strings.IndexByte(known, b)
		if place < 0 {
			return nil, false
		}
		node := int64(place)
		if place >= count {
			node = int64(count - place - 1)
		}
		nodes = append(nodes, node)
	}
	return nodes, true
}

func wantUnpackTerm(s impl.Signature, data []byte) impl.TermResult {
	if code := wantSignatureFault(s); code != impl.OK {
		return impl.TermResult{Code: code}
	}
	nodes, known := byteNodes(s, data)
	if !known || wantTermFault(s, nodes) != impl.OK {
		return impl.TermResult{Code: impl.ErrText}
	}
	return impl.TermResult{Term: nodes}
}

func wantKeyOf(s impl.Signature, normal []int64, term []int64) impl.BytesResult {
	for _, side := range [][]int64{normal, term} {
		if code := wantTermFault(s, side); code != impl.OK {
			return impl.BytesResult{Code: code}
		}
	}
	switch {
	case slices.Min(normal) < 0 || slices.Min(term) < 0:
		return impl.BytesResult{Code: impl.ErrForm}
	case max(len(normal), len(term)) > 8:
		return impl.BytesResult{Code: impl.ErrMany}
	}
	return impl.BytesResult{Bytes: append(nodeBytes(normal), nodeBytes(term)...)}
}

// wantCutKey tries all places at which a key could be cut.
func wantCutKey(s impl.Signature, key []byte) impl.KeyResult {
	if code := wantSignatureFault(s); code != impl.OK {
		return impl.KeyResult{Code: code}
	}
	for cut := range min(len(key), 16) {
		normal, term := wantUnpackTerm(s, key[:cut]), wantUnpackTerm(s, key[cut:])
		if normal.Code == impl.OK && term.Code == impl.OK && wantKeyOf(s, normal.Term, term.Term).Code == impl.OK {
			return impl.KeyResult{Normal: normal.Term, Term: term.Term}
		}
	}
	return impl.KeyResult{Code: impl.ErrText}
}

func wantEquationsFault(s impl.Signature, list []impl.Equation) int64 {
	if code := wantSignatureFault(s); code != impl.OK {
		return code
	}
	if len(list) > 12 {
		return impl.ErrMany
	}
	for _, e := range list {
		if code := wantEquationFault(s, e); code != impl.OK {
			return code
		}
	}
	return impl.OK
}

func wantPackEquations(s impl.Signature, list []impl.Equation) impl.BytesResult {
	if code := wantEquationsFault(s, list); code != impl.OK {
		return impl.BytesResult{Code: code}
	}
	packed := []byte{byte(len(list))}
	for _, e := range list {
		packed = append(packed, nodeBytes(e.Left)...)
		packed = append(packed, nodeBytes(e.Right)...)
	}
	return impl.BytesResult{Bytes: packed}
}

// wantUnpackEquations grows trees out of all bytes behind the first one, and counts them.
func wantUnpackEquations(s impl.Signature, data []byte) impl.EquationsResult {
	if code := wantSignatureFault(s); code != impl.OK {
		return impl.EquationsResult{Code: code}
	}
	none := impl.EquationsResult{Code: impl.ErrText}
	if len(data) == 0 {
		return none
	}
	rest, known := byteNodes(s, data[1:])
	sides := [][]int64{}
	for known && len(rest) > 0 && len(sides) < 30 {
		_, behind, whole := growTree(s, rest)
		if !whole {
			return none
		}
		sides, rest = append(sides, rest[:len(rest)-len(behind)]), behind
	}
	if !known || len(sides) != 2*int(data[0]) {
		return none
	}
	list := []impl.Equation{}
	for pair := range slices.Chunk(sides, 2) {
		list = append(list, equation(pair[0], pair[1]))
	}
	if wantEquationsFault(s, list) != impl.OK {
		return none
	}
	return impl.EquationsResult{List: list}
}

// mustBeEquations takes an empty list and nil as the same value, as the document does.
func mustBeEquations(t *testing.T, who string, got, want impl.EquationsResult) {
	t.Helper()
	if len(got.List) == 0 && len(want.List) == 0 {
		got.List, want.List = nil, nil
	}
	mustBe(t, who, got, want)
}

// briefBytes tells bytes by their first ones alone.
func briefBytes(data []byte) string {
	if len(data) > 60 {
		return fmt.Sprint(data[:60], " and so on, ", len(data), " bytes")
	}
	return fmt.Sprint(data)
}

// checkBytes asks all three readers of one list of bytes, and the way back of what they read.
func checkBytes(t *testing.T, s impl.Signature, data []byte) {
	t.Helper()
	who := fmt.Sprintf("of %s in %.60v", briefBytes(data), s)
	term, key, list := impl.UnpackTerm(s, data), impl.CutKey(s, data), impl.UnpackEquations(s, data)
	mustBe(t, "UnpackTerm "+who, term, wantUnpackTerm(s, data))
	mustBe(t, "CutKey "+who, key, wantCutKey(s, data))
	mustBeEquations(t, "UnpackEquations "+who, list, wantUnpackEquations(s, data))
	if term.Code == impl.OK {
		mustBe(t, "PackTerm of the term "+who, impl.PackTerm(s, term.Term).Bytes, data)
	}
	if key.Code == impl.OK {
		mustBe(t, "KeyOf the two terms "+who, impl.KeyOf(s, key.Normal, key.Term).Bytes, data)
	}
	if list.Code == impl.OK {
		mustBe(t, "PackEquations of the list "+who, impl.PackEquations(s, list.List).Bytes, data)
	}
}

func checkPair(t *testing.T, s impl.Signature, normal []int64, term []int64) {
	t.Helper()
	who := fmt.Sprintf("KeyOf %s and %s in %.60v", brief(normal), brief(term), s)
	mustBe(t, who, impl.KeyOf(s, normal, term), wantKeyOf(s, normal, term))
}

func checkEquations(t *testing.T, s impl.Signature, list []impl.Equation) {
	t.Helper()
	who := fmt.Sprintf("of %d equations, %.60v, in %.60v", len(list), list, s)
	mustBe(t, "EquationsFault "+who, impl.EquationsFault(s, list), wantEquationsFault(s, list))
	mustBe(t, "PackEquations "+who, impl.PackEquations(s, list), wantPackEquations(s, list))
}

// groundTerms are all terms without variables of at most so many nodes over the example's symbols.
func groundTerms(size int) [][]int64 {
	return ruleTerms(size)
}

// variedEquations makes a list of that length, of short and long sides with some variables.
func variedEquations(length int) []impl.Equation {
	some := []impl.Equation{
		equation([]int64{2, 0, -1}, []int64{-1}), equation([]int64{1, 1, -6}, []int64{-6}), equation([]int64{0}, []int64{3}),
		equation(chain(24), fullComb()), equation([]int64{-1}, []int64{-2}), equation(leftComb(11), chain(24)), equation([]int64{2, -2, -1}, []int64{2, -1, -2}),
	}
	list := make([]impl.Equation, length)
	for i := range list {
		list[i] = some[i%len(some)]
	}
	return list
}

func TestBoundsOfPacksAreThoseOfTheDocument(t *testing.T) {
	mustBe(t, "MaxEquations", impl.MaxEquations, 12)
	mustBe(t, "MaxKeyNodes", impl.MaxKeyNodes, 8)
}

func TestPackTermKnownValues(t *testing.T) {
	s := exampleSignature()
	for _, c := range []struct {
		what string
		term []int64
		data []byte
	}{
		{"m(i(A),a)", []int64{2, 1, -1, 3}, []byte{3, 2, 32, 4}},
		{"the first variable", []int64{-1}, []byte{32}},
		{"the second variable", []int64{-2}, []byte{33}},
		{"the last variable", []int64{-12}, []byte{43}},
		{"the first symbol", []int64{0}, []byte{1}},
		{"the last symbol", []int64{3}, []byte{4}},
		{"i(e)", []int64{1, 0}, []byte{2, 1}},
		{"m(L,A)", []int64{2, -12, -1}, []byte{3, 43, 32}},
		{"MaxNodes in a chain", chain(24), append(bytes.Repeat([]byte{2}, 23), 4)},
		{"MaxNodes with a variable", fullComb(), slices.Concat([]byte{2}, bytes.Repeat([]byte{3}, 11), []byte{32}, bytes.Repeat([]byte{4}, 11))},
	} {
		mustBe(t, "PackTerm of "+c.what, impl.PackTerm(s, c.term), impl.BytesResult{Bytes: c.data})
		mustBe(t, "UnpackTerm of "+c.what, impl.UnpackTerm(s, c.data), impl.TermResult{Term: c.term})
	}
	mustBe(t, "the last one of MaxSymbols symbols", impl.PackTerm(constants(6), []int64{5}), impl.BytesResult{Bytes: []byte{6}})
	mustBe(t, "the byte of it", impl.UnpackTerm(constants(6), []byte{6}), impl.TermResult{Term: []int64{5}})
	mustBe(t, "the last variable beside one symbol", impl.UnpackTerm(constants(1), []byte{43}), impl.TermResult{Term: []int64{-12}})
}

func TestPackTermTellsTheTermsFault(t *testing.T) {
	for _, s := range fewSignatures() {
		for _, term := range slices.Concat(someTerms(), longLists()) {
			mustBe(t, fmt.Sprintf("PackTerm of %s in %.60v", brief(term), s), impl.PackTerm(s, term), wantPackTerm(s, term))
		}
		for _, node := range edgeNodes {
			mustBe(t, fmt.Sprintf("PackTerm of %d in %.60v", node, s), impl.PackTerm(s, []int64{node}), wantPackTerm(s, []int64{node}))
		}
	}
	for _, s := range allSignatures() {
		mustBe(t, fmt.Sprintf("PackTerm in %.60v", s), impl.PackTerm(s, []int64{0}), wantPackTerm(s, []int64{0}))
	}
	s := exampleSignature()
	mustBe(t, "no node", impl.PackTerm(s, nil), impl.BytesResult{Code: impl.ErrMany})
	mustBe(t, "one node too many", impl.PackTerm(s, chain(25)), impl.BytesResult{Code: impl.ErrMany})
	mustBe(t, "one more than the last variable", impl.PackTerm(s, []int64{-13}), impl.BytesResult{Code: impl.ErrRange})
	mustBe(t, "one more than the last symbol", impl.PackTerm(s, []int64{4}), impl.BytesResult{Code: impl.ErrRange})
	mustBe(t, "a node whose byte would wrap round", impl.PackTerm(s, []int64{256}), impl.BytesResult{Code: impl.ErrRange})
	mustBe(t, "an argument that is not there", impl.PackTerm(s, []int64{2, 0}), impl.BytesResult{Code: impl.ErrForm})
	mustBe(t, "a signature's fault first", impl.PackTerm(constants(7), []int64{math.MinInt64}), impl.BytesResult{Code: impl.ErrMany})
}

func TestUnpackTermOfBytesThatNoTermHas(t *testing.T) {
	s := exampleSignature()
	for _, c := range []struct {
		what string
		data []byte
	}{
		{"none at all", nil},
		{"an empty list", []byte{}},
		{"a byte 0 alone", []byte{0}},
		{"a byte 0 as the argument", []byte{2, 0}},
		{"a byte 0 as the first argument", []byte{3, 0, 1}},
		{"a byte 0 as the last argument", []byte{3, 1, 0}},
		{"a byte 0 ahead", []byte{0, 1}},
		{"a byte 0 behind", []byte{1, 0}},
		{"a byte behind the last symbol", []byte{5}},
		{"a byte behind the last symbol as the argument", []byte{2, 5}},
		{"a byte ahead of the first variable", []byte{31}},
		{"a byte ahead of the first variable as the argument", []byte{3, 31, 1}},
		{"a byte behind the last variable", []byte{44}},
		{"a byte behind the last variable as the argument", []byte{3, 1, 44}},
		{"the last byte", []byte{255}},
		{"a symbol without its argument", []byte{2}},
		{"a symbol without its last argument", []byte{3, 1}},
		{"bytes that end inside of an argument", []byte{3, 1, 2}},
		{"two constants", []byte{4, 4}},
		{"two variables", []byte{32, 32}},
		{"a term and one more byte", []byte{3, 1, 4, 32}},
		{"one node too many", append(bytes.Repeat([]byte{2}, 24), 4)},
		{"MaxNodes, all awaiting", bytes.Repeat([]byte{2}, 24)},
		{"MaxNodes and one more byte", append(nodeBytes(chain(24)), 4)},
		{"a name's letter", []byte("a")},
		{"a text", []byte("m(e,A)")},
	} {
		mustBe(t, "UnpackTerm of "+c.what, impl.UnpackTerm(s, c.data), impl.TermResult{Code: impl.ErrText})
		checkBytes(t, s, c.data)
	}
}

func TestEveryByteInEverySignature(t *testing.T) {
	for _, s := range slices.Concat(goodSignatures(), fewSignatures()) {
		for b := range 256 {
			for _, data := range [][]byte{{byte(b)}, {2, byte(b)}, {3, byte(b), 1}, {3, 1, byte(b)}, {byte(b), 1}, {1, byte(b)}, {1, byte(b), 1}, {1, 1, byte(b)}} {
				checkBytes(t, s, data)
			}
		}
	}
}

func TestAllShortBytes(t *testing.T) {
	for length := range 7 {
		for _, data := range listsOver([]byte{0, 1, 2, 3, 4, 32}, length) {
			checkBytes(t, exampleSignature(), data)
		}
	}
	for length := range 5 {
		for _, data := range listsOver([]byte{0, 1, 2, 3, 31, 37, 38, 43, 44, 255}, length) {
			checkBytes(t, exampleSignature(), data)
		}
	}
}

// turnedBytes makes of bytes all that come of them by one byte that goes, comes in or becomes another one, and all their ends and beginnings.
func turnedBytes(data []byte) [][]byte {
	list := [][]byte{}
	for place := range len(data) + 1 {
		for _, b := range []byte{0, 1, 2, 3, 4, 5, 12, 13, 31, 32, 37, 38, 43, 44, 255} {
			list = append(list, slices.Concat(data[:place], []byte{b}, data[place:]))
			if place < len(data) {
				list = append(list, slices.Concat(data[:place], []byte{b}, data[place+1:]))
			}
		}
		if place < len(data) {
			list = append(list, slices.Concat(data[:place], data[place+1:]), data[:place], data[place:])
		}
	}
	return list
}

func TestBytesThatAreTurnedInOneByte(t *testing.T) {
	s := exampleSignature()
	whole := [][]byte{
		{32}, {1}, {3, 2, 32, 4}, nodeBytes(chain(23)), nodeBytes(chain(24)), nodeBytes(leftComb(11)), nodeBytes(fullComb()),
		{4, 3, 1, 4}, append(nodeBytes(chain(8)), nodeBytes(chain(8))...), append(nodeBytes(chain(7)), nodeBytes(chain(8))...),
		{0}, {1, 3, 1, 32, 32}, wantPackEquations(s, variedEquations(2)).Bytes, wantPackEquations(s, variedEquations(4)).Bytes, wantPackEquations(s, variedEquations(12)).Bytes,
	}
	for _, data := range whole {
		checkBytes(t, s, data)
		for _, turned := range turnedBytes(data) {
			checkBytes(t, s, turned)
		}
	}
}

func TestVeryLongBytesAreAnswered(t *testing.T) {
	s := exampleSignature()
	for b := range 256 {
		for _, length := range []int{23, 24, 25, 48, 49, 577, 578, 3000} {
			checkBytes(t, s, bytes.Repeat([]byte{byte(b)}, length))
		}
	}
	for _, b := range []byte{0, 1, 2, 3, 4, 32, 44, 255} {
		long := bytes.Repeat([]byte{b}, 70000)
		checkBytes(t, s, long)
		checkBytes(t, s, append([]byte{1}, long...))
		checkBytes(t, s, append(long, 1))
	}
	for _, data := range edgeLists() {
		checkBytes(t, s, data)
	}
}

func TestReadersOfBytesTellTheSignaturesFaultFirst(t *testing.T) {
	for _, s := range allSignatures() {
		for _, data := range [][]byte{nil, {0}, {1}, {1, 1}, {1, 1, 1}, {2, 1}, {32}, {32, 32}, {255}, numbered(3000)} {
			checkBytes(t, s, data)
		}
	}
	taken := signature(impl.Symbol{Name: "a"}, impl.Symbol{Name: "a"})
	for _, data := range [][]byte{nil, {0}, {1}, {1, 1}, {1, 1, 1}, {44}} {
		mustBe(t, "UnpackTerm", impl.UnpackTerm(taken, data), impl.TermResult{Code: impl.ErrTaken})
		mustBe(t, "CutKey", impl.CutKey(taken, data), impl.KeyResult{Code: impl.ErrTaken})
		mustBe(t, "UnpackEquations", impl.UnpackEquations(taken, data), impl.EquationsResult{Code: impl.ErrTaken})
	}
	unended := signature(impl.Symbol{Name: "i", Arity: 1})
	mustBe(t, "a variable where there is no constant", impl.UnpackTerm(unended, []byte{32}), impl.TermResult{Code: impl.ErrNone})
	mustBe(t, "no equation where there is no constant", impl.UnpackEquations(unended, []byte{0}), impl.EquationsResult{Code: impl.ErrNone})
}

func TestKeyOfKnownValues(t *testing.T) {
	s := exampleSignature()
	eight := []byte{2, 2, 2, 2, 2, 2, 2, 4}
	for _, c := range []struct {
		what   string
		normal []int64
		term   []int64
		key    []byte
	}{
		{"a of m(e,a)", []int64{3}, []int64{2, 0, 3}, []byte{4, 3, 1, 4}},
		{"e of e", []int64{0}, []int64{0}, []byte{1, 1}},
		{"the other way round", []int64{2, 0, 3}, []int64{3}, []byte{3, 1, 4, 4}},
		{"MaxKeyNodes on the left", chain(8), []int64{3}, append(slices.Clone(eight), 4)},
		{"MaxKeyNodes on the right", []int64{3}, chain(8), append([]byte{4}, eight...)},
		{"MaxKeyNodes on either side", chain(8), chain(8), slices.Concat(eight, eight)},
		{"MaxKeyNodes and many arguments", []int64{2, 2, 0, 3, 2, 0, 1, 3}, []int64{1, 2, 2, 2, 3, 3, 3, 3}, []byte{3, 3, 1, 4, 3, 1, 2, 4, 2, 3, 3, 3, 4, 4, 4, 4}},
	} {
		mustBe(t, "KeyOf "+c.what, impl.KeyOf(s, c.normal, c.term), impl.BytesResult{Bytes: c.key})
		mustBe(t, "CutKey of "+c.what, impl.CutKey(s, c.key), impl.KeyResult{Normal: c.normal, Term: c.term})
	}
}

func TestKeyOfAsksCodesInTheirOrder(t *testing.T) {
	s := exampleSignature()
	taken := signature(impl.Symbol{Name: "a"}, impl.Symbol{Name: "a"})
	for _, c := range []struct {
		what   string
		s      impl.Signature
		normal []int64
		term   []int64
		code   int64
	}{
		{"a signature's fault and all else", taken, nil, []int64{9}, impl.ErrTaken},
		{"no normal form", s, nil, []int64{0}, impl.ErrMany},
		{"no term", s, []int64{0}, nil, impl.ErrMany},
		{"no normal form, a wrong node in the term", s, nil, []int64{4}, impl.ErrMany},
		{"a wrong node in the normal form, no term", s, []int64{4}, nil, impl.ErrRange},
		{"half a normal form, a wrong node in the term", s, []int64{2, 0}, []int64{4}, impl.ErrForm},
		{"a wrong node in the normal form, half a term", s, []int64{-13}, []int64{2, 0}, impl.ErrRange},
		{"a variable as normal form, a wrong node in the term", s, []int64{-1}, []int64{4}, impl.ErrRange},
		{"a variable as normal form, no term", s, []int64{-1}, nil, impl.ErrMany},
		{"one node too many for a key, a wrong node in the term", s, chain(9), []int64{4}, impl.ErrRange},
		{"one node too many for a key, half a term", s, chain(9), []int64{2}, impl.ErrForm},
		{"a variable as normal form", s, []int64{-1}, []int64{0}, impl.ErrForm},
		{"the last variable as term", s, []int64{0}, []int64{-12}, impl.ErrForm},
		{"a variable inside of the normal form", s, []int64{2, 0, -7}, []int64{0}, impl.ErrForm},
		{"a variable inside of the term", s, []int64{0}, []int64{1, 1, -1}, impl.ErrForm},
		{"variables in both", s, []int64{-1}, []int64{-1}, impl.ErrForm},
		{"one node too many for a key on the left, a variable on the right", s, chain(9), []int64{-1}, impl.ErrForm},
		{"a variable on the left, one node too many for a key on the right", s, []int64{-1}, chain(9), impl.ErrForm},
		{"a variable and too many nodes on the left", s, rightComb(4), []int64{0}, impl.ErrForm},
		{"one node too many for a key on the left", s, chain(9), []int64{0}, impl.ErrMany},
		{"one node too many for a key on the right", s, []int64{0}, chain(9), impl.ErrMany},
		{"one node too many for a key beside MaxKeyNodes", s, chain(8), chain(9), impl.ErrMany},
		{"one node too many for a key on both sides", s, chain(9), chain(9), impl.ErrMany},
		{"MaxNodes on the left", s, chain(24), []int64{0}, impl.ErrMany},
		{"one node too many for a term on the left, half a term", s, chain(25), []int64{2}, impl.ErrMany},
		{"half a normal form, one node too many for a term", s, []int64{2}, chain(25), impl.ErrForm},
	} {
		mustBe(t, "KeyOf: "+c.what, impl.KeyOf(c.s, c.normal, c.term), impl.BytesResult{Code: c.code})
		checkPair(t, c.s, c.normal, c.term)
	}
}

func TestKeysOfWhateverLists(t *testing.T) {
	for _, s := range fewSignatures() {
		for _, normal := range someTerms() {
			for _, term := range someTerms() {
				checkPair(t, s, normal, term)
			}
		}
	}
	for _, s := range allSignatures() {
		checkPair(t, s, []int64{0}, []int64{0})
	}
	for _, normal := range longLists() {
		for _, term := range longLists() {
			checkPair(t, exampleSignature(), normal, term)
		}
	}
	for _, node := range edgeNodes {
		for _, other := range edgeNodes {
			checkPair(t, exampleSignature(), []int64{node}, []int64{1, other})
		}
	}
	for length := 1; length <= 25; length++ {
		for other := 1; other <= 25; other++ {
			checkPair(t, exampleSignature(), chain(length), chain(other))
			checkBytes(t, exampleSignature(), append(nodeBytes(chain(length)), nodeBytes(chain(other))...))
		}
	}
}

func TestCutKeyOfBytesThatNoKeyHas(t *testing.T) {
	s := exampleSignature()
	one, two := nodeBytes(chain(8)), nodeBytes(chain(9))
	for _, c := range []struct {
		what string
		key  []byte
	}{
		{"none at all", nil},
		{"an empty list", []byte{}},
		{"one constant alone", []byte{4}},
		{"one term alone", []byte{3, 1, 4}},
		{"MaxKeyNodes in one term alone", one},
		{"three constants", []byte{4, 4, 4}},
		{"three terms", []byte{4, 3, 1, 4, 2, 1}},
		{"a second term that ends too early", []byte{4, 3, 1}},
		{"a second term that is only begun", []byte{4, 2}},
		{"a first term that ends too early", []byte{3, 1}},
		{"a variable as normal form", []byte{32, 4}},
		{"a variable as term", []byte{4, 32}},
		{"a variable inside of the normal form", []byte{2, 43, 4}},
		{"a variable inside of the term", []byte{4, 3, 1, 32}},
		{"variables on both sides", []byte{32, 32}},
		{"a byte 0 as normal form", []byte{0, 4}},
		{"a byte 0 as term", []byte{4, 0}},
		{"a byte 0 between", []byte{4, 0, 4}},
		{"a byte 0 behind", []byte{4, 4, 0}},
		{"a byte behind the last symbol", []byte{4, 5}},
		{"a byte behind the last variable", []byte{44, 4}},
		{"one node too many on the left", append(slices.Clone(two), 4)},
		{"one node too many on the right", append([]byte{4}, two...)},
		{"one node too many beside MaxKeyNodes", slices.Concat(one, two)},
		{"MaxKeyNodes beside one node too many", slices.Concat(two, one)},
		{"MaxKeyNodes on either side, and a byte behind", slices.Concat(one, one, []byte{4})},
		{"MaxKeyNodes on either side, cut", slices.Concat(one, one)[:15]},
		{"MaxNodes on either side", slices.Concat(nodeBytes(chain(24)), nodeBytes(chain(24)))},
	} {
		mustBe(t, "CutKey of "+c.what, impl.CutKey(s, c.key), impl.KeyResult{Code: impl.ErrText})
		checkBytes(t, s, c.key)
	}
}

func TestEquationsFaultAsksCodesInTheirOrder(t *testing.T) {
	s := exampleSignature()
	taken := signature(impl.Symbol{Name: "a"}, impl.Symbol{Name: "a"})
	good, none, half, wrong, beyond := equation([]int64{2, 0, -1}, []int64{-1}), impl.Equation{}, equation([]int64{2, 0}, []int64{0}), equation([]int64{0}, []int64{4}), equation([]int64{-7}, []int64{0})
	for _, c := range []struct {
		what string
		s    impl.Signature
		list []impl.Equation
		code int64
	}{
		{"nil", s, nil, impl.OK},
		{"no equation", s, []impl.Equation{}, impl.OK},
		{"one", s, []impl.Equation{good}, impl.OK},
		{"two alike", s, []impl.Equation{good, good}, impl.OK},
		{"MaxEquations", s, variedEquations(12), impl.OK},
		{"one more", s, variedEquations(13), impl.ErrMany},
		{"one more, all with no sides", s, make([]impl.Equation, 13), impl.ErrMany},
		{"one more, the first one with a fault", s, append([]impl.Equation{half}, variedEquations(12)...), impl.ErrMany},
		{"very many", s, make([]impl.Equation, 70000), impl.ErrMany},
		{"one without sides", s, []impl.Equation{none}, impl.ErrMany},
		{"half a side", s, []impl.Equation{half}, impl.ErrForm},
		{"variable MaxRuleVars", s, []impl.Equation{beyond}, impl.ErrRange},
		{"the first fault is that of the first equation with one", s, []impl.Equation{good, half, wrong}, impl.ErrForm},
		{"the other way round", s, []impl.Equation{good, wrong, half}, impl.ErrRange},
		{"variable MaxRuleVars ahead of no sides", s, []impl.Equation{beyond, none}, impl.ErrRange},
		{"no sides ahead of variable MaxRuleVars", s, []impl.Equation{none, beyond}, impl.ErrMany},
		{"the last one of MaxEquations", s, append(variedEquations(11), half), impl.ErrForm},
		{"a signature's fault and no equation", taken, nil, impl.ErrTaken},
		{"a signature's fault and too many", taken, make([]impl.Equation, 13), impl.ErrTaken},
		{"a signature without a constant and no equation", signature(impl.Symbol{Name: "i", Arity: 1}), nil, impl.ErrNone},
		{"no signature, no equation", impl.Signature{}, nil, impl.ErrMany},
	} {
		mustBe(t, "EquationsFault of "+c.what, impl.EquationsFault(c.s, c.list), c.code)
		if c.code != impl.OK {
			mustBe(t, "PackEquations of "+c.what, impl.PackEquations(c.s, c.list), impl.BytesResult{Code: c.code})
		}
		checkEquations(t, c.s, c.list)
	}
}

func TestPackEquationsKnownValues(t *testing.T) {
	s := exampleSignature()
	for _, c := range []struct {
		what string
		list []impl.Equation
		data []byte
	}{
		{"nil", nil, []byte{0}},
		{"no equation", []impl.Equation{}, []byte{0}},
		{"m(e,A)=A", []impl.Equation{equation([]int64{2, 0, -1}, []int64{-1})}, []byte{1, 3, 1, 32, 32}},
		{"A=F", []impl.Equation{equation([]int64{-1}, []int64{-6})}, []byte{1, 32, 37}},
		{"e=a and i(i(A))=A", []impl.Equation{equation([]int64{0}, []int64{3}), equation([]int64{1, 1, -1}, []int64{-1})}, []byte{2, 1, 4, 2, 2, 32, 32}},
		{"two alike", []impl.Equation{equation([]int64{0}, []int64{0}), equation([]int64{0}, []int64{0})}, []byte{2, 1, 1, 1, 1}},
		{"MaxEquations", slices.Repeat([]impl.Equation{equation([]int64{3}, []int64{0})}, 12), append([]byte{12}, bytes.Repeat([]byte{4, 1}, 12)...)},
		{"all that there can be", slices.Repeat([]impl.Equation{equation(chain(24), chain(24))}, 12), append([]byte{12}, bytes.Repeat(nodeBytes(chain(24)), 24)...)},
	} {
		mustBe(t, "PackEquations of "+c.what, impl.PackEquations(s, c.list), impl.BytesResult{Bytes: c.data})
		mustBeEquations(t, "UnpackEquations of "+c.what, impl.UnpackEquations(s, c.data), impl.EquationsResult{List: c.list})
		checkEquations(t, s, c.list)
	}
}

func TestEquationsOfWhateverListsArePacked(t *testing.T) {
	for _, s := range fewSignatures() {
		for _, left := range someTerms() {
			for _, right := range someTerms() {
				checkEquations(t, s, []impl.Equation{equation(left, right)})
				checkEquations(t, s, []impl.Equation{equation([]int64{0}, []int64{-6}), equation(left, right)})
			}
		}
	}
	for length := range 30 {
		for _, s := range fewSignatures() {
			checkEquations(t, s, variedEquations(length))
			checkEquations(t, s, make([]impl.Equation, length))
		}
	}
	for _, s := range allSignatures() {
		checkEquations(t, s, nil)
		checkEquations(t, s, []impl.Equation{equation([]int64{0}, []int64{-1})})
		checkEquations(t, s, make([]impl.Equation, 13))
	}
}

func TestUnpackEquationsOfBytesThatNoListHas(t *testing.T) {
	s := exampleSignature()
	for _, c := range []struct {
		what string
		data []byte
	}{
		{"none at all", nil},
		{"an empty list", []byte{}},
		{"a count alone", []byte{1}},
		{"a byte behind no equation", []byte{0, 0}},
		{"an equation behind no equation", []byte{0, 1, 1}},
		{"one side alone", []byte{1, 3, 1, 32}},
		{"a side that ends too early", []byte{1, 3, 1, 32, 2}},
		{"one equation more than there are", []byte{2, 3, 1, 32, 32}},
		{"one equation and a half", []byte{2, 1, 1, 1}},
		{"one equation fewer than there are", []byte{1, 1, 1, 1, 1}},
		{"a byte behind the last one", []byte{1, 3, 1, 32, 32, 32}},
		{"a byte 0 behind the last one", []byte{1, 3, 1, 32, 32, 0}},
		{"a byte 0 as a side", []byte{1, 0, 1}},
		{"a byte 0 as the other side", []byte{1, 1, 0}},
		{"a byte behind the last symbol", []byte{1, 5, 1}},
		{"variable MaxRuleVars on the left", []byte{1, 38, 1}},
		{"variable MaxRuleVars on the right", []byte{1, 1, 2, 38}},
		{"the last variable", []byte{1, 43, 1}},
		{"a byte behind the last variable", []byte{1, 44, 1}},
		{"one equation more than MaxEquations", append([]byte{13}, bytes.Repeat([]byte{1, 1}, 13)...)},
		{"as many as the last byte tells", append([]byte{255}, bytes.Repeat([]byte{1, 1}, 255)...)},
		{"a count that wraps round", append([]byte{0}, bytes.Repeat([]byte{1, 1}, 256)...)},
		{"MaxEquations told, one more there", append([]byte{12}, bytes.Repeat([]byte{1, 1}, 13)...)},
		{"one more told, MaxEquations there", append([]byte{13}, bytes.Repeat([]byte{1, 1}, 12)...)},
		{"one node too many", slices.Concat([]byte{1}, nodeBytes(chain(25)), []byte{1})},
		{"one node too many on the right", slices.Concat([]byte{1, 1}, nodeBytes(chain(25)))},
	} {
		mustBe(t, "UnpackEquations of "+c.what, impl.UnpackEquations(s, c.data), impl.EquationsResult{Code: impl.ErrText})
		checkBytes(t, s, c.data)
	}
}

func TestUnpackEquationsOfEveryCount(t *testing.T) {
	s := exampleSignature()
	for there := range 16 {
		list := variedEquations(there)
		rest := []byte{}
		for _, e := range list {
			rest = slices.Concat(rest, nodeBytes(e.Left), nodeBytes(e.Right))
		}
		for told := range 256 {
			want := impl.EquationsResult{Code: impl.ErrText}
			if told == there && told <= 12 {
				want = impl.EquationsResult{List: list}
			}
			mustBeEquations(t, fmt.Sprintf("%d told, %d there", told, there), impl.UnpackEquations(s, append([]byte{byte(told)}, rest...)), want)
		}
	}
}

func TestReadersAreNotLedBehindTheEndBySpareRoom(t *testing.T) {
	s := exampleSignature()
	for _, whole := range [][]byte{nodeBytes(chain(24)), {3, 2, 32, 4}} {
		for end := range whole {
			mustBe(t, fmt.Sprint("a term that ends at ", end), impl.UnpackTerm(s, whole[:end]), impl.TermResult{Code: impl.ErrText})
		}
	}
	for _, whole := range [][]byte{{4, 3, 1, 4}, slices.Concat(nodeBytes(chain(8)), nodeBytes(chain(8)))} {
		for end := range whole {
			mustBe(t, fmt.Sprint("a key that ends at ", end), impl.CutKey(s, whole[:end]), impl.KeyResult{Code: impl.ErrText})
		}
	}
	for _, whole := range [][]byte{{1, 3, 1, 32, 32}, wantPackEquations(s, variedEquations(12)).Bytes} {
		for end := range whole {
			mustBe(t, fmt.Sprint("equations that end at ", end), impl.UnpackEquations(s, whole[:end]), impl.EquationsResult{Code: impl.ErrText})
		}
	}
}

// packedTerms are terms of all kinds over the example's symbols: all small ones, all variables and those at the limit of nodes.
func packedTerms() [][]int64 {
	terms := slices.Concat(smallTerms(5), [][]int64{chain(22), chain(23), chain(24), leftComb(10), leftComb(11), rightComb(11), fullComb(), append([]int64{1}, rightComb(11)...)})
	for variable := int64(-11); variable < -1; variable++ {
		terms = append(terms, []int64{variable}, []int64{1, variable}, varied(variable, -13-variable))
	}
	return append(terms, varied(-12, -11, -10, -9, -8, -7, -6, -5, -4, -3, -2, -1))
}

func TestP6TermsAreReadBackFromTheirBytes(t *testing.T) {
	for _, term := range packedTerms() {
		packed := impl.PackTerm(exampleSignature(), term)
		mustBe(t, fmt.Sprint("PackTerm of ", term), packed, wantPackTerm(exampleSignature(), term))
		mustBe(t, fmt.Sprint("UnpackTerm of the bytes of ", term), impl.UnpackTerm(exampleSignature(), packed.Bytes), impl.TermResult{Term: term})
	}
	for _, s := range goodSignatures() {
		for size := 1; size <= 3; size++ {
			for _, term := range termsOver(s, []int64{-1, -12}, size) {
				packed := impl.PackTerm(s, term)
				mustBe(t, fmt.Sprintf("the code of PackTerm of %v in %v", term, s), packed.Code, int64(impl.OK))
				mustBe(t, fmt.Sprintf("UnpackTerm of the bytes of %v in %v", term, s), impl.UnpackTerm(s, packed.Bytes), impl.TermResult{Term: term})
			}
		}
	}
}

func TestP6NoTermsBytesBeginWithThoseOfAnother(t *testing.T) {
	s := exampleSignature()
	terms := slices.Concat(smallTerms(4), [][]int64{chain(23), chain(24), leftComb(11), rightComb(11), fullComb()})
	for i, term := range terms {
		data := impl.PackTerm(s, term).Bytes
		for j, other := range terms {
			mustBe(t, fmt.Sprintf("the bytes of %v begin with those of %v", term, other), impl.Begins(data, impl.PackTerm(s, other).Bytes), i == j)
		}
	}
	// In the order of bytes whatever begins with a list stands right behind it: so neighbours are enough for many terms.
	packed := [][]byte{}
	for _, term := range packedTerms() {
		packed = append(packed, impl.PackTerm(s, term).Bytes)
	}
	slices.SortFunc(packed, bytes.Compare)
	for i := range len(packed) - 1 {
		mustBe(t, fmt.Sprintf("%v begins with %v", packed[i+1], packed[i]), impl.Begins(packed[i+1], packed[i]), false)
	}
}

func TestP6WhateverIsReadHasThoseBytes(t *testing.T) {
	s := exampleSignature()
	counts := [3]int{}
	for length := range 8 {
		for _, data := range listsOver([]byte{0, 1, 2, 3, 4, 32}, length) {
			if term := impl.UnpackTerm(s, data); term.Code == impl.OK {
				counts[0]++
				mustBe(t, "PackTerm of what was read", impl.PackTerm(s, term.Term).Bytes, data)
			}
			if key := impl.CutKey(s, data); key.Code == impl.OK {
				counts[1]++
				mustBe(t, "KeyOf what was read", impl.KeyOf(s, key.Normal, key.Term).Bytes, data)
			}
			if list := impl.UnpackEquations(s, data); list.Code == impl.OK {
				counts[2]++
				mustBe(t, "PackEquations of what was read", impl.PackEquations(s, list.List).Bytes, data)
			}
		}
	}
	if slices.Contains(counts[:], 0) {
		t.Errorf("of one kind nothing was read: %v", counts)
	}
}

func TestP6KeysAreReadBackFromTheirBytes(t *testing.T) {
	s := exampleSignature()
	terms := slices.Concat(groundTerms(5), [][]int64{chain(6), chain(7), chain(8), {2, 2, 0, 3, 2, 0, 1, 3}, {1, 2, 2, 2, 3, 3, 3, 3}})
	for _, normal := range terms {
		for _, term := range terms {
			key := impl.KeyOf(s, normal, term)
			mustBe(t, fmt.Sprint("KeyOf ", normal, term), key, wantKeyOf(s, normal, term))
			mustBe(t, fmt.Sprint("CutKey of the key of ", normal, term), impl.CutKey(s, key.Bytes), impl.KeyResult{Normal: normal, Term: term})
		}
	}
	for _, s := range goodSignatures() {
		terms := slices.Concat(termsOver(s, nil, 1), termsOver(s, nil, 2), termsOver(s, nil, 3))
		terms = terms[:min(len(terms), 20)]
		for _, normal := range terms {
			for _, term := range terms {
				mustBe(t, fmt.Sprintf("CutKey of the key of %v and %v in %v", normal, term, s), impl.CutKey(s, impl.KeyOf(s, normal, term).Bytes), impl.KeyResult{Normal: normal, Term: term})
			}
		}
	}
}

func isAhead(a []byte, b []byte) bool {
	return impl.CompareBytes(a, b).Value < 0
}

func TestP6WhatStandsBetweenTwoKeysOfOneClassIsOfThatClass(t *testing.T) {
	s := exampleSignature()
	terms := slices.Concat(groundTerms(5), [][]int64{chain(8), {2, 2, 0, 3, 2, 0, 1, 3}, {1, 2, 2, 2, 3, 3, 3, 3}})
	keys := [][]byte{}
	for _, normal := range terms {
		for _, term := range terms {
			keys = append(keys, impl.KeyOf(s, normal, term).Bytes)
		}
	}
	slices.SortFunc(keys, func(a, b []byte) int { return int(impl.CompareBytes(a, b).Value) })
	ended, last := map[string]int{}, ""
	for _, key := range keys {
		class := fmt.Sprint(impl.CutKey(s, key).Normal)
		if class != last {
			ended[class]++
		}
		last = class
	}
	mustBe(t, "the count of classes", len(ended), len(terms))
	for class, times := range ended {
		mustBe(t, "how often the class of "+class+" begins", times, 1)
	}
}

func TestP6WhateverBytesStandBetweenTwoKeysOfOneClass(t *testing.T) {
	s := exampleSignature()
	terms := groundTerms(2)
	others := [][]byte{}
	for length := range 6 {
		others = append(others, listsOver([]byte{0, 1, 2, 3, 4, 5, 255}, length)...)
	}
	for _, normal := range terms {
		class := impl.PackTerm(s, normal).Bytes
		first, last := impl.KeyOf(s, normal, []int64{0}).Bytes, impl.KeyOf(s, normal, []int64{3}).Bytes
		for _, between := range others {
			if !isAhead(first, between) || !isAhead(between, last) {
				continue
			}
			if !impl.Begins(between, class) {
				t.Errorf("%v stands between two keys of the class of %v", between, normal)
			}
			if key := impl.CutKey(s, between); key.Code == impl.OK {
				mustBe(t, fmt.Sprintf("the class of %v", between), key.Normal, normal)
			}
		}
	}
}

func TestP6EquationsAreReadBackFromTheirBytes(t *testing.T) {
	s := exampleSignature()
	terms := slices.Concat(ruleTerms(3, -1, -6), [][]int64{chain(24), fullComb(), varied(-1, -2, -3, -4, -5, -6)})
	lists := [][]impl.Equation{nil, {}}
	for i, left := range terms {
		for j, right := range terms {
			e, other := equation(left, right), equation(terms[(i+7*j)%len(terms)], left)
			lists = append(lists, []impl.Equation{e}, []impl.Equation{e, other}, []impl.Equation{other, e, e})
		}
	}
	for length := range 13 {
		lists = append(lists, variedEquations(length))
	}
	listOf := map[string][]impl.Equation{}
	for _, list := range lists {
		packed := impl.PackEquations(s, list)
		mustBe(t, fmt.Sprint("PackEquations of ", list), packed, wantPackEquations(s, list))
		mustBeEquations(t, fmt.Sprint("UnpackEquations of the bytes of ", list), impl.UnpackEquations(s, packed.Bytes), impl.EquationsResult{List: list})
		if other, known := listOf[string(packed.Bytes)]; known && !impl.SameEquations(other, list) {
			t.Errorf("%v and %v have the bytes %v", other, list, packed.Bytes)
		}
		listOf[string(packed.Bytes)] = list
	}
}

// packAnswers calls every function of the chapter with whatever of the arguments it takes.
func packAnswers(s impl.Signature, normal []int64, term []int64, data []byte, list []impl.Equation) []any {
	return []any{
		impl.PackTerm(s, normal), impl.UnpackTerm(s, data), impl.KeyOf(s, normal, term), impl.CutKey(s, data),
		impl.EquationsFault(s, list), impl.PackEquations(s, list), impl.UnpackEquations(s, data),
	}
}

func someBytes() [][]byte {
	return [][]byte{
		nil, {}, {0}, {1}, {4}, {32}, {43}, {44}, {1, 1}, {2, 1}, {3, 2, 32, 4}, {4, 3, 1, 4}, {1, 3, 1, 32, 32}, {1, 1, 1}, {2, 1, 1}, {1, 38, 1}, {1, 1, 0},
		nodeBytes(chain(24)), nodeBytes(chain(25)), slices.Concat(nodeBytes(chain(8)), nodeBytes(chain(8))), wantPackEquations(exampleSignature(), variedEquations(12)).Bytes, numbered(3000),
	}
}

func TestP1PackAnswersHangOnTheArgumentsAlone(t *testing.T) {
	someLists := [][]impl.Equation{nil, {}, variedEquations(1), variedEquations(12), variedEquations(13), {{}}, {equation([]int64{0}, []int64{-7})}}
	for i, s := range fewSignatures() {
		for j, normal := range someTerms() {
			for k, term := range someTerms() {
				data, list := someBytes()[(i+3*j+5*k)%len(someBytes())], someLists[(i+j+k)%len(someLists)]
				first := packAnswers(s, normal, term, data, list)
				packAnswers(exampleSignature(), []int64{2, 0, 3}, []int64{1, 3}, []byte{1, 3, 1, 32, 32}, variedEquations(3))
				packAnswers(constants(3), []int64{2}, []int64{0}, []byte{1, 2}, nil)
				mustBe(t, "the same call again", packAnswers(s, normal, term, data, list), first)
				again := packAnswers(signature(guardSymbols(s.Symbols).list...), guardNumbers(normal).list, guardNumbers(term).list, guard(data).list, slices.Clone(list))
				mustBe(t, "the same call with other memory", again, first)
			}
		}
	}
}

func TestP1NilAndEmptyBytesAreTheSame(t *testing.T) {
	none := []int64{}
	for _, s := range fewSignatures() {
		mustBe(t, "empty lists", packAnswers(s, none, none, []byte{}, []impl.Equation{}), packAnswers(s, nil, nil, nil, nil))
		for _, term := range someTerms() {
			mustBe(t, "an empty normal form", packAnswers(s, none, term, nil, []impl.Equation{equation(none, term)}), packAnswers(s, nil, term, nil, []impl.Equation{equation(nil, term)}))
			mustBe(t, "an empty term", packAnswers(s, term, none, nil, []impl.Equation{equation(term, none)}), packAnswers(s, term, nil, nil, []impl.Equation{equation(term, nil)}))
		}
	}
	mustBe(t, "an empty signature", packAnswers(signature([]impl.Symbol{}...), []int64{0}, []int64{0}, []byte{1}, nil), packAnswers(impl.Signature{}, []int64{0}, []int64{0}, []byte{1}, nil))
}

func TestP1PackArgumentsAreNotChanged(t *testing.T) {
	for _, s := range fewSignatures() {
		for j, normal := range someTerms() {
			for k, term := range someTerms() {
				data := someBytes()[(j+5*k)%len(someBytes())]
				symbols, first, second, bits := guardSymbols(s.Symbols), guardNumbers(normal), guardNumbers(term), guard(data)
				spare := equation([]int64{3}, []int64{0})
				list := []impl.Equation{equation(first.list, second.list), equation(second.list, first.list), spare}
				packAnswers(signature(symbols.list...), first.list, second.list, bits.list, list[:2])
				symbols.mustBeUnchanged(t, "a function of bytes")
				first.mustBeUnchanged(t, "a function of keys")
				second.mustBeUnchanged(t, "a function of keys")
				bits.mustBeUnchanged(t, "a reader of bytes")
				mustBe(t, "a list of equations that was packed", list, []impl.Equation{equation(first.list, second.list), equation(second.list, first.list), spare})
			}
		}
	}
}

// checkNewBytes overwrites one answer, and then the arguments, and holds another answer of the same call against what was asked for.
func checkNewBytes(t *testing.T, who string, want []byte, ask func() []byte, arguments ...guarded[int64]) {
	t.Helper()
	kept, spoilt := ask(), ask()
	overwrite(spoilt)
	mustBe(t, who+" beside one that was overwritten", kept, want)
	mustBe(t, who+" behind one that was overwritten", ask(), want)
	for _, argument := range arguments {
		argument.mustBeUnchanged(t, "who overwrote the answer of "+who)
		overwriteNumbers(argument.whole)
	}
	mustBe(t, who+" of arguments that were overwritten", kept, want)
}

func TestP1PackedBytesAreNewMemory(t *testing.T) {
	s := exampleSignature()
	for _, term := range slices.Concat(smallTerms(4), [][]int64{chain(24), leftComb(11)}) {
		given := guardNumbers(term)
		checkNewBytes(t, "PackTerm", nodeBytes(term), func() []byte { return impl.PackTerm(s, given.list).Bytes }, given)
	}
	for _, normal := range append(groundTerms(3), chain(8)) {
		for _, term := range append(groundTerms(3), chain(8)) {
			first, second := guardNumbers(normal), guardNumbers(term)
			checkNewBytes(t, "KeyOf", wantKeyOf(s, normal, term).Bytes, func() []byte { return impl.KeyOf(s, first.list, second.list).Bytes }, first, second)
			left, right := guardNumbers(normal), guardNumbers(term)
			list := []impl.Equation{equation(left.list, right.list), equation(right.list, left.list)}
			want := wantPackEquations(s, []impl.Equation{equation(normal, term), equation(term, normal)}).Bytes
			checkNewBytes(t, "PackEquations", want, func() []byte { return impl.PackEquations(s, list).Bytes }, left, right)
		}
	}
	checkNewBytes(t, "PackEquations of none", []byte{0}, func() []byte { return impl.PackEquations(s, nil).Bytes })
	one := guardNumbers([]int64{1, 3})
	checkNewBytes(t, "KeyOf one list twice", []byte{2, 4, 2, 4}, func() []byte { return impl.KeyOf(s, one.list, one.list).Bytes }, one)
}

func TestP1UnpackedTermsAndKeysAreNewMemory(t *testing.T) {
	s := exampleSignature()
	for _, term := range slices.Concat(smallTerms(4), [][]int64{chain(24), leftComb(11)}) {
		data := guard(nodeBytes(term))
		checkNewNumbers(t, "UnpackTerm", term, func() []int64 { return impl.UnpackTerm(s, data.list).Term })
		kept := impl.UnpackTerm(s, data.list)
		data.mustBeUnchanged(t, "who overwrote the answer of UnpackTerm")
		overwrite(data.whole)
		mustBe(t, "UnpackTerm of bytes that were overwritten", kept.Term, term)
	}
	for _, normal := range append(groundTerms(3), chain(8)) {
		for _, term := range append(groundTerms(3), chain(8)) {
			data := guard(wantKeyOf(s, normal, term).Bytes)
			ask := func() impl.Equation {
				key := impl.CutKey(s, data.list)
				return equation(key.Normal, key.Term)
			}
			checkNewSides(t, "CutKey", equation(normal, term), ask)
			kept := ask()
			data.mustBeUnchanged(t, "who overwrote the answer of CutKey")
			overwrite(data.whole)
			mustBe(t, "CutKey of bytes that were overwritten", kept, equation(normal, term))
		}
	}
}

func TestP1UnpackedEquationsAreNewMemory(t *testing.T) {
	s := exampleSignature()
	for length := 1; length <= 12; length++ {
		want := impl.EquationsResult{List: variedEquations(length)}
		data := guard(wantPackEquations(s, want.List).Bytes)
		kept := impl.UnpackEquations(s, data.list)
		for place := range length {
			checkNewSides(t, "UnpackEquations", want.List[place], func() impl.Equation { return impl.UnpackEquations(s, data.list).List[place] })
			for _, side := range []func(e impl.Equation) []int64{func(e impl.Equation) []int64 { return e.Left }, func(e impl.Equation) []int64 { return e.Right }} {
				spoilt := impl.UnpackEquations(s, data.list)
				overwriteNumbers(side(spoilt.List[place]))
				copy(side(spoilt.List[place]), side(want.List[place]))
				mustBe(t, fmt.Sprint("the others beside a side that was overwritten at ", place), spoilt, want)
			}
		}
		spoilt := impl.UnpackEquations(s, data.list)
		clear(spoilt.List[:cap(spoilt.List)])
		mustBe(t, "UnpackEquations beside a list that was cleared", kept, want)
		mustBe(t, "UnpackEquations behind a list that was cleared", impl.UnpackEquations(s, data.list), want)
		data.mustBeUnchanged(t, "who overwrote the answer of UnpackEquations")
		overwrite(data.whole)
		mustBe(t, "UnpackEquations of bytes that were overwritten", kept, want)
	}
}

func TestP1NothingIsKeptOfBytesOrKeys(t *testing.T) {
	s, term, data, list := exampleSignature(), []int64{2, 0, 3}, []byte{1, 3, 1, 4, 4}, []impl.Equation{equation([]int64{2, 0, -1}, []int64{-1})}
	packAnswers(s, term, term, data, list)
	copy(term, []int64{1, 1, 0})
	copy(data, []byte{1, 2, 4, 2, 1})
	list[0] = equation([]int64{1, -2}, []int64{-2})
	mustBe(t, "PackTerm of the new term", impl.PackTerm(s, term), impl.BytesResult{Bytes: []byte{2, 2, 1}})
	mustBe(t, "KeyOf the new term", impl.KeyOf(s, term, []int64{3}), impl.BytesResult{Bytes: []byte{2, 2, 1, 4}})
	mustBe(t, "CutKey of the new bytes", impl.CutKey(s, data[1:]), impl.KeyResult{Normal: []int64{1, 3}, Term: []int64{1, 0}})
	mustBe(t, "UnpackEquations of the new bytes", impl.UnpackEquations(s, data), impl.EquationsResult{List: []impl.Equation{equation([]int64{1, 3}, []int64{1, 0})}})
	mustBe(t, "PackEquations of the new list", impl.PackEquations(s, list), impl.BytesResult{Bytes: []byte{1, 2, 33, 33}})
	s.Symbols[1] = impl.Symbol{Name: "i", Arity: 2}
	mustBe(t, "UnpackTerm by the new arity", impl.UnpackTerm(s, []byte{2, 1, 4}), impl.TermResult{Term: []int64{1, 0, 3}})
	mustBe(t, "PackTerm by the new arity", impl.PackTerm(s, term), impl.BytesResult{Code: impl.ErrForm})
}
