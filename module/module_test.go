package module_test

import (
	"encoding/binary"
	"hash/adler32"
	"slices"
	"strings"
	"testing"
	"unsafe"

	"curfew/api"
	"curfew/code"
	"curfew/module"
	"curfew/safe"
)

const (
	farDown = -1 << 63
	farUp   = 1<<63 - 1
)

func lines(t testing.TB, s string) []api.Instr {
	t.Helper()
	l, line, e := code.Read(s)
	if e != api.OK {
		t.Fatalf("Read(%q): line %d: %v", s, line, e)
	}
	return l
}

func halt() []api.Instr {
	return []api.Instr{{Op: api.Halt}}
}

func same(a, b api.Module) bool {
	return a.Name == b.Name && slices.Equal(a.Code, b.Code) && slices.Equal(a.Data, b.Data)
}

// empty: the module that comes with an error.
func empty(m api.Module) bool {
	return same(m, api.Module{})
}

// sealed puts the checksum of P4.3 before any bytes; the library's sum of that kind is the second opinion.
func sealed(body string) string {
	return string(binary.BigEndian.AppendUint32(nil, adler32.Checksum([]byte(body)))) + body
}

// bodyOf writes what follows the checksum, a second time, of a module that need not be valid, with its fields cut to their bytes.
func bodyOf(m api.Module) string {
	b := append([]byte{byte(len(m.Name))}, m.Name...)
	b = append(b, byte(len(m.Code)))
	for _, in := range m.Code {
		b = binary.BigEndian.AppendUint32(b, uint32(in.Op)<<24|uint32(in.A)<<20|uint32(in.B)<<16|uint32(in.C))
	}
	b = append(b, byte(len(m.Data)))
	for _, v := range m.Data {
		b = binary.BigEndian.AppendUint16(b, uint16(v))
	}
	return string(b)
}

func checkIs(t *testing.T, m api.Module, want api.Errno) {
	t.Helper()
	if got := module.Check(m); got != want {
		t.Errorf("Check(%v) = %v, want %v", m, got, want)
	}
	if s, e := module.Encode(m); e != want || want != api.OK && s != "" {
		t.Errorf("Encode(%v) = %q, %v, want the error %v", m, s, e, want)
	}
}

func decodeFails(t *testing.T, s string, want api.Errno) {
	t.Helper()
	if m, e := module.Decode(s); !empty(m) || e != want {
		t.Errorf("Decode(%d bytes %.60q) = %v, %v, want %v", len(s), s, m, e, want)
	}
}

// roundTrip: a valid module is encoded as bodyOf says, and decoded to itself.
func roundTrip(t *testing.T, m api.Module) {
	t.Helper()
	s, e := module.Encode(m)
	if want := sealed(bodyOf(m)); s != want || e != api.OK {
		t.Fatalf("Encode(%v) = %q, %v, want %q", m, s, e, want)
	}
	if got, e := module.Decode(s); !same(got, m) || e != api.OK {
		t.Fatalf("Decode(%q) = %v, %v, want %v", s, got, e, m)
	}
}

// P4.1: every byte as the only letter, and as one of several.
func TestNameLetters(t *testing.T) {
	for b := range 256 {
		letter := string([]byte{byte(b)})
		want := strings.Contains("abcdefghijklmnopqrstuvwxyz", letter)
		for _, s := range []string{letter, letter + "az", "a" + letter + "z", "azaza" + letter} {
			if module.Name(s) != want {
				t.Errorf("Name(%q) = %v", s, !want)
			}
		}
	}
}

// P4.1: lengths, which are counted in bytes, and texts that are no letters from a to z.
func TestNameLength(t *testing.T) {
	for _, s := range []string{"a", "zz", "abc", "abcde", "abcdef", "zzzzzz"} {
		if !module.Name(s) {
			t.Errorf("Name(%q) = false", s)
		}
	}
	for _, s := range []string{
		"", "abcdefg", "aaaaaaaa", strings.Repeat("a", 262), strings.Repeat("a", 1<<20),
		" a", "a ", "a\n", "a\x00", "A", "aB", "a1", "a_b", "a-b", "a`", "a{", "é", "aé", "ａ", "\xff", "a\xe9", "\xe1\x61", "\u0161",
	} {
		if module.Name(s) {
			t.Errorf("Name(%.20q) = true", s)
		}
	}
}

// P4.2: modules that are valid, some by a hair.
func TestCheckAccepts(t *testing.T) {
	full := make([]int, api.Region)
	full[0], full[63] = api.MaxWord, api.MaxWord
	long := slices.Repeat(halt(), api.MaxCode)
	trusted := lines(t, "and r4 r1 r6\nor r4 r4 r5\nld r0 r4\nadd r0 r0 r2\nret\n")
	for _, m := range []api.Module{
		{Name: "a", Code: halt()},
		{Name: "a", Code: halt(), Data: []int{}},
		{Name: "abcdef", Code: trusted, Data: []int{0, 1, 65535}},
		{Name: "z", Code: halt(), Data: full},
		{Name: "z", Code: long, Data: full},
	} {
		checkIs(t, m, api.OK)
	}
}

// P4.2: each condition alone.
func TestCheckRefuses(t *testing.T) {
	for _, name := range []string{"", "abcdefg", "A", "a1", "é"} {
		checkIs(t, api.Module{Name: name, Code: halt()}, api.ErrForm)
	}
	for _, size := range []int{api.Region + 1, api.Region + 2, 256, 320, 1024} {
		checkIs(t, api.Module{Name: "a", Code: halt(), Data: make([]int, size)}, api.ErrSize)
	}
	for i := range api.Region {
		for _, v := range []int{-1, api.MaxWord + 1, farDown, farUp, 1 << 32} {
			data := make([]int, api.Region)
			data[i] = v
			checkIs(t, api.Module{Name: "a", Code: halt(), Data: data}, api.ErrRange)
			checkIs(t, api.Module{Name: "a", Code: halt(), Data: data[:i+1]}, api.ErrRange)
		}
	}
}

// brokenCodes: code with each error of safe.Verify.
func brokenCodes(t *testing.T) []struct {
	l    []api.Instr
	want api.Errno
} {
	return []struct {
		l    []api.Instr
		want api.Errno
	}{
		{nil, api.ErrSafe},
		{[]api.Instr{}, api.ErrSafe},
		{lines(t, "ld r0 r1\nret\n"), api.ErrSafe},
		{lines(t, "li r5 0\nret\n"), api.ErrSafe},
		{lines(t, "and r4 r1 r6\nret\n"), api.ErrSafe},
		{lines(t, "jmp 1\n"), api.ErrSafe},
		{lines(t, "tell r0\n"), api.ErrSafe},
		{[]api.Instr{{}, {Op: api.Halt}}, api.ErrKind},
		{[]api.Instr{{Op: 16}, {Op: api.Halt}}, api.ErrKind},
		{[]api.Instr{{Op: 255}, {Op: api.Halt}}, api.ErrKind},
		{[]api.Instr{{Op: api.Add, A: 8}, {Op: api.Halt}}, api.ErrRange},
		{[]api.Instr{{Op: api.Add, B: 8}, {Op: api.Halt}}, api.ErrRange},
		{[]api.Instr{{Op: api.Add, A: 15, B: 15}, {Op: api.Halt}}, api.ErrRange},
		{[]api.Instr{{Op: api.Add, C: 8}, {Op: api.Halt}}, api.ErrRange},
		{[]api.Instr{{Op: api.Jmp, C: api.MaxCode}}, api.ErrRange},
		{[]api.Instr{{Op: api.Halt, C: 1}}, api.ErrRange},
		{[]api.Instr{{Op: api.Halt, B: 1}}, api.ErrRange},
		{[]api.Instr{{Op: api.Halt, A: 1}}, api.ErrRange},
		{slices.Repeat(halt(), api.MaxCode+1), api.ErrSize},
		{slices.Repeat(halt(), 255), api.ErrSize},
		{make([]api.Instr, api.MaxCode+1), api.ErrSize},
	}
}

// P4.2, P4.4: the errors of safe.Verify, from Check, Encode and Decode.
func TestErrorsOfVerify(t *testing.T) {
	for _, c := range brokenCodes(t) {
		m := api.Module{Name: "a", Code: c.l, Data: []int{1, 2}}
		if got := safe.Verify(c.l); got != c.want {
			t.Fatalf("Verify(%v) = %v, want %v", c.l, got, c.want)
		}
		checkIs(t, m, c.want)
		decodeFails(t, sealed(bodyOf(m)), c.want)
	}
	// These have no bytes of their own, so that only Check and Encode can meet them.
	checkIs(t, api.Module{Name: "a", Code: slices.Repeat(halt(), 257)}, api.ErrSize)
	checkIs(t, api.Module{Name: "a", Code: []api.Instr{{Op: 256 + api.Halt}}}, api.ErrKind)
	checkIs(t, api.Module{Name: "a", Code: []api.Instr{{Op: farDown}}}, api.ErrKind)
	checkIs(t, api.Module{Name: "a", Code: []api.Instr{{Op: api.Li, C: 65536}, {Op: api.Halt}}}, api.ErrRange)
	checkIs(t, api.Module{Name: "a", Code: []api.Instr{{Op: api.Li, A: -1, B: 16}, {Op: api.Halt}}}, api.ErrRange)
}

// P4.2: of several errors, the first in the list counts.
func TestCheckOrder(t *testing.T) {
	long := make([]int, api.Region+1)
	long[0] = -1
	for _, c := range brokenCodes(t) {
		checkIs(t, api.Module{Name: "", Code: c.l, Data: long}, api.ErrForm)
		checkIs(t, api.Module{Name: "a", Code: c.l, Data: long}, api.ErrSize)
		checkIs(t, api.Module{Name: "a", Code: c.l, Data: long[:1]}, api.ErrRange)
	}
	checkIs(t, api.Module{Name: "A", Code: halt(), Data: []int{-1}}, api.ErrForm)
	checkIs(t, api.Module{}, api.ErrForm)
}

// P4.2: Copy keeps everything, also of modules that are not valid.
func TestCopy(t *testing.T) {
	for _, m := range []api.Module{
		{},
		{Name: "a", Code: halt(), Data: []int{1, 2, 3}},
		{Name: "NOT ONE", Code: []api.Instr{{Op: -1, A: 99, B: farUp, C: farDown}}, Data: []int{-1, farUp}},
		{Code: slices.Repeat(halt(), 300), Data: make([]int, 300)},
	} {
		if got := module.Copy(m); !same(got, m) {
			t.Errorf("Copy(%v) = %v", m, got)
		}
	}
}

// withRoom: a module whose lists have unused capacity that is not zero.
func withRoom(t *testing.T) (api.Module, []api.Instr, []int) {
	allCode := lines(t, "li r1 9\nadd r2 r1 r1\nret\ntell r7\nhalt\n")
	allData := []int{5, 6, 7, 8, 9}
	return api.Module{Name: "room", Code: allCode[:3], Data: allData[:2]}, allCode, allData
}

// General rules: arguments, with the unused capacity behind them, stay as they are; results are new memory.
func TestMemory(t *testing.T) {
	m, allCode, allData := withRoom(t)
	codeBefore, dataBefore := slices.Clone(allCode), slices.Clone(allData)
	s, _ := module.Encode(m)
	for range 2 {
		module.Check(m)
		if got, e := module.Encode(m); got != s || e != api.OK {
			t.Errorf("Encode = %q, %v, and before %q", got, e, s)
		}
		decoded, _ := module.Decode(s)
		for _, got := range []api.Module{module.Copy(m), decoded, module.Copy(api.Module{Code: allCode[1:1], Data: allData[1:1]})} {
			clear(got.Code[:cap(got.Code)])
			clear(got.Data[:cap(got.Data)])
		}
		if got, e := module.Decode(s); !same(got, m) || e != api.OK {
			t.Errorf("Decode = %v, %v, want %v", got, e, m)
		}
	}
	if !slices.Equal(allCode, codeBefore) || !slices.Equal(allData, dataBefore) {
		t.Errorf("arguments became %v, %v", allCode, allData)
	}
	got := module.Copy(m)
	clear(allCode)
	clear(allData)
	if !slices.Equal(got.Code, codeBefore[:3]) || !slices.Equal(got.Data, dataBefore[:2]) {
		t.Errorf("the copy became %v with the module", got)
	}
}

// General rules: names are new memory too.
func TestMemoryOfNames(t *testing.T) {
	name := strings.Clone("abcdef")
	if got := module.Copy(api.Module{Name: name}).Name; unsafe.StringData(got) == unsafe.StringData(name) {
		t.Error("a copy shares its name")
	}
	s := sealed(bodyOf(api.Module{Name: name, Code: halt()}))
	got, _ := module.Decode(s)
	if got.Name != name || unsafe.StringData(got.Name) == unsafe.StringData(s[5:]) {
		t.Errorf("the name %q is part of the argument", got.Name)
	}
}

// P4.3: encodings, byte by byte.
func TestEncodeBytes(t *testing.T) {
	for _, c := range []struct {
		m    api.Module
		want string
	}{
		{api.Module{Name: "a", Code: halt()}, "\x03\x08\x00s\x01a\x01\x0f\x00\x00\x00\x00"},
		{api.Module{Name: "one", Code: lines(t, "and r4 r1 r6\nor r4 r4 r5\nld r0 r4\nret\n"), Data: []int{1, 258, 65535}},
			"\x31\xcf\x04\x01" + "\x03one" + "\x04" + "\x04\x41\x00\x06" + "\x05\x44\x00\x05" + "\x08\x04\x00\x00" + "\x0d\x00\x00\x00" + "\x03" + "\x00\x01\x01\x02\xff\xff"},
		{api.Module{Name: "zzzzzz", Code: lines(t, "li r7 65534\njz r2 1\nst r7 r4\ncall 4\njmp 0\n")},
			"\x81\x25\x06\x19" + "\x06zzzzzz" + "\x05" + "\x01\x70\xff\xfe" + "\x0b\x20\x00\x01" + "\x09\x74\x00\x00" + "\x0c\x00\x00\x04" + "\x0a\x00\x00\x00" + "\x00"},
	} {
		if s, e := module.Encode(c.m); s != c.want || e != api.OK {
			t.Errorf("Encode(%v) = %q, %v, want %q", c.m, s, e, c.want)
		}
		if m, e := module.Decode(c.want); !same(m, c.m) || e != api.OK {
			t.Errorf("Decode(%q) = %v, %v, want %v", c.want, m, e, c.m)
		}
	}
}

// validInstrs: every valid instruction whose words and code indices are in a few places, if it may stand in trusted code.
func validInstrs() []api.Instr {
	var l []api.Instr
	for op := api.Li; op <= api.Halt; op++ {
		for v := range 64 {
			for _, c := range []int{0, 1, 2, 3, 4, 5, 6, 7, 127, 128, 199, 255, 256, 511, 32768, 65535} {
				in := api.Instr{Op: op, A: v / 8, B: v % 8, C: c}
				if safe.Verify(append([]api.Instr{in}, slices.Repeat(halt(), 199)...)) == api.OK {
					l = append(l, in)
				}
			}
		}
	}
	return l
}

// P4.3, P4.4: there and back, with every instruction.
func TestRoundTripInstructions(t *testing.T) {
	all := validInstrs()
	if len(all) < 2000 {
		t.Fatalf("only %d instructions", len(all))
	}
	for part := range slices.Chunk(all, 100) {
		roundTrip(t, api.Module{Name: "all", Code: append(slices.Clone(part), slices.Repeat(halt(), api.MaxCode-len(part))...)})
	}
}

// P4.3, P4.4: there and back, with all lengths, and with every word.
func TestRoundTripLengths(t *testing.T) {
	for size := 1; size <= api.MaxName; size++ {
		roundTrip(t, api.Module{Name: "qwerty"[:size], Code: halt()})
	}
	for size := 1; size <= api.MaxCode; size++ {
		roundTrip(t, api.Module{Name: "a", Code: slices.Repeat(halt(), size)})
	}
	for size := 0; size <= api.Region; size++ {
		roundTrip(t, api.Module{Name: "a", Code: halt(), Data: slices.Repeat([]int{65535}, size)})
	}
	for first := 0; first <= api.MaxWord; first += api.Region {
		data := make([]int, api.Region)
		for i := range data {
			data[i] = first + i
		}
		roundTrip(t, api.Module{Name: "words", Code: halt(), Data: data})
	}
}

// largeCode: trusted code, of so many instructions, whose encoding has large bytes.
func largeCode(t *testing.T, size int) []api.Instr {
	return append(slices.Repeat(lines(t, "li r7 65535\n"), size-1), halt()...)
}

// numbersOf the checksum of an encoding, as P4.3 names them.
func numbersOf(s string) (first, second int) {
	return int(s[2])<<8 + int(s[3]), int(s[0])<<8 + int(s[1])
}

// P4.3: both numbers of the checksum run over its modulus, more than once, in large modules.
func TestChecksumModulus(t *testing.T) {
	for size := 1; size <= api.MaxCode; size++ {
		roundTrip(t, api.Module{Name: "large", Code: largeCode(t, size), Data: slices.Repeat([]int{65535}, api.Region)})
	}
}

// edgeModules calls try with modules whose checksums have first numbers around the modulus, and all second numbers: a byte is added to the second number once for each byte from it on, which are 256 for the first byte that changes here, and 1 for the other.
func edgeModules(t *testing.T, try func(m api.Module)) {
	m := api.Module{Name: "edge", Code: largeCode(t, 104), Data: []int{65535, 200, 0}}
	for less := range 256 {
		for more := range 256 {
			m.Code[41].C = 65535 - less
			m.Data[2] = more
			try(m)
		}
	}
}

// P4.3: the modulus is met just as it is.
func TestChecksumEdge(t *testing.T) {
	var firsts, seconds [1 << 16]bool
	edgeModules(t, func(m api.Module) {
		roundTrip(t, m)
		first, second := numbersOf(sealed(bodyOf(m)))
		firsts[first], seconds[second] = true, true
	})
	for _, v := range []int{65519, 65520, 0, 1} {
		if !firsts[v] || !seconds[v] {
			t.Errorf("no checksum with the number %d was tried, as both numbers", v)
		}
	}
}

// P4.4: a text is too long, or shorter than a checksum, whatever is in it.
func TestDecodeSize(t *testing.T) {
	for _, size := range []int{api.MaxText + 1, api.MaxText + 2, 1 << 16, 1 << 20} {
		decodeFails(t, strings.Repeat("x", size), api.ErrSize)
		decodeFails(t, sealed(strings.Repeat("\x00", size-4)), api.ErrSize)
	}
	decodeFails(t, strings.Repeat("x", api.MaxText), api.ErrSum)
	decodeFails(t, sealed(strings.Repeat("\x00", api.MaxText-4)), api.ErrForm)
	decodeFails(t, sealed(strings.Repeat("\xff", api.MaxText-4)), api.ErrForm)
	for _, s := range []string{"", "\x00", "\x00\x00", "\x00\x00\x00", "abc"} {
		decodeFails(t, s, api.ErrShort)
	}
	decodeFails(t, "\x00\x00\x00\x00", api.ErrSum)
	decodeFails(t, "\x00\x00\x00\x01", api.ErrShort)
}

func someModule(t *testing.T) api.Module {
	return api.Module{Name: "some", Code: lines(t, "and r4 r1 r6\nor r4 r4 r5\nst r0 r4\njmp 0\n"), Data: []int{7, 65535, 256}}
}

// P4.4: every change of one byte is found by the checksum, also in the checksum itself.
func TestDecodeSum(t *testing.T) {
	s := sealed(bodyOf(someModule(t)))
	for i := range len(s) {
		for change := 1; change < 256; change++ {
			b := []byte(s)
			b[i] ^= byte(change)
			decodeFails(t, string(b), api.ErrSum)
		}
	}
	for i := 4; i < len(s); i++ {
		decodeFails(t, s[:i], api.ErrSum)
	}
	decodeFails(t, s+"\x01", api.ErrSum)
	decodeFails(t, s[2:4]+s[:2]+s[4:], api.ErrSum)
}

// P4.4: a number of the checksum that is not below the modulus is another one, although it is the same modulo it.
func TestDecodeSumNotReduced(t *testing.T) {
	const modulus = 65521
	var tried [2]int
	edgeModules(t, func(m api.Module) {
		s := sealed(bodyOf(m))
		first, second := numbersOf(s)
		if first+modulus <= 65535 {
			tried[0]++
			decodeFails(t, s[:2]+string(binary.BigEndian.AppendUint16(nil, uint16(first+modulus)))+s[4:], api.ErrSum)
		}
		if second+modulus <= 65535 {
			tried[1]++
			decodeFails(t, string(binary.BigEndian.AppendUint16(nil, uint16(second+modulus)))+s[2:], api.ErrSum)
		}
	})
	if tried[0] == 0 || tried[1] == 0 {
		t.Errorf("too few modules with small numbers: %v", tried)
	}
}

// P4.4: with the right checksum, a text that ends too early, at each byte, or too late.
func TestDecodeEnd(t *testing.T) {
	body := bodyOf(someModule(t))
	for i := range len(body) {
		decodeFails(t, sealed(body[:i]), api.ErrShort)
	}
	for _, more := range []string{"\x00", "\x01", "a", "\x00\x00", strings.Repeat("\xff", 100), body} {
		decodeFails(t, sealed(body+more), api.ErrForm)
	}
}

// P4.4: ends that are too early or too late come before the errors of the module.
func TestDecodeEndBeforeCheck(t *testing.T) {
	for _, m := range []api.Module{
		{},
		{Name: "A", Data: []int{1}},
		{Name: strings.Repeat("a", 255), Code: halt()},
		{Name: "a", Code: halt(), Data: make([]int, 255)},
		{Name: "a", Code: make([]api.Instr, 255)},
		{Name: "a", Code: []api.Instr{{Op: 99, A: 15, B: 15, C: 65535}}},
	} {
		body := bodyOf(m)
		for i := range len(body) {
			decodeFails(t, sealed(body[:i]), api.ErrShort)
		}
		decodeFails(t, sealed(body+"\x00"), api.ErrForm)
	}
}

// P4.4: the errors of Check, in its order; those of safe.Verify are tried above.
func TestDecodeCheck(t *testing.T) {
	for _, c := range []struct {
		m    api.Module
		want api.Errno
	}{
		{api.Module{}, api.ErrForm},
		{api.Module{Name: "", Code: halt()}, api.ErrForm},
		{api.Module{Name: "A", Code: halt()}, api.ErrForm},
		{api.Module{Name: "abcdefg", Code: halt(), Data: make([]int, 65)}, api.ErrForm},
		{api.Module{Name: strings.Repeat("a", 255), Code: halt()}, api.ErrForm},
		{api.Module{Name: "a", Code: halt(), Data: make([]int, 65)}, api.ErrSize},
		{api.Module{Name: "a", Code: []api.Instr{{Op: 99}}, Data: make([]int, 255)}, api.ErrSize},
		{api.Module{Name: "a", Code: []api.Instr{{Op: 99, B: 9}}, Data: make([]int, 64)}, api.ErrKind},
		{api.Module{Name: "a", Data: make([]int, 64)}, api.ErrSafe},
	} {
		decodeFails(t, sealed(bodyOf(c.m)), c.want)
	}
}

// P4.4: of all bytes for A and B, those that are no registers are refused.
func TestDecodeRegisters(t *testing.T) {
	for pair := range 256 {
		m := api.Module{Name: "a", Code: []api.Instr{{Op: api.Lt, A: pair / 16, B: pair % 16, C: 7}, {Op: api.Ret}}}
		switch a, b := pair/16, pair%16; {
		case a > 7 || b > 7:
			decodeFails(t, sealed(bodyOf(m)), api.ErrRange)
		case a >= api.At && a <= api.Left:
			decodeFails(t, sealed(bodyOf(m)), api.ErrSafe)
		default:
			roundTrip(t, m)
		}
	}
}

// onlyInverse: whatever Decode takes is what Encode writes; whatever it refuses comes without a module.
func onlyInverse(t *testing.T, s string) bool {
	t.Helper()
	m, e := module.Decode(s)
	if e != api.OK {
		if !empty(m) {
			t.Fatalf("Decode(%q) = %v, %v", s, m, e)
		}
		return false
	}
	if again, e := module.Encode(m); again != s || e != api.OK {
		t.Fatalf("Decode(%q) = %v, but its encoding is %q, %v", s, m, again, e)
	}
	return true
}

// P4.4: Decode is the inverse of Encode, whichever byte of an encoding is another one.
func TestDecodeOnlyInverse(t *testing.T) {
	body := bodyOf(someModule(t))
	taken := 0
	for i := range len(body) {
		for v := range 256 {
			b := []byte(body)
			b[i] = byte(v)
			if onlyInverse(t, sealed(string(b))) {
				taken++
			}
		}
	}
	if taken < 1000 {
		t.Errorf("only %d texts were taken: too few to tell", taken)
	}
}

// FuzzDecode: the same of any bytes, as they are, and with their checksum before them.
func FuzzDecode(f *testing.F) {
	f.Add("\x03\x08\x00s\x01a\x01\x0f\x00\x00\x00\x00")
	f.Add(bodyOf(api.Module{Name: "abc", Code: lines(f, "li r1 9\nst r1 r4\nret\n"), Data: []int{1, 65535}}))
	f.Fuzz(func(t *testing.T, s string) {
		onlyInverse(t, s)
		onlyInverse(t, sealed(s))
	})
}
