package code_test

import (
	"slices"
	"strconv"
	"strings"
	"testing"

	"curfew/api"
	"curfew/code"
)

// What a field contains, as P1.1 says: the largest value, and how it is written.
type field struct {
	most   int
	prefix string
	shown  bool
}

var (
	none = field{}
	reg  = field{most: 7, prefix: "r", shown: true}
	word = field{most: 65535, shown: true}
	spot = field{most: 199, shown: true}
)

// P1.1 and the names of P1.3, written out a second time, independently of the program's tables.
var shapes = []struct {
	op     int
	name   string
	fields [3]field
}{
	{1, "li", [3]field{reg, none, word}},
	{2, "add", [3]field{reg, reg, reg}},
	{3, "sub", [3]field{reg, reg, reg}},
	{4, "and", [3]field{reg, reg, reg}},
	{5, "or", [3]field{reg, reg, reg}},
	{6, "xor", [3]field{reg, reg, reg}},
	{7, "lt", [3]field{reg, reg, reg}},
	{8, "ld", [3]field{reg, reg, none}},
	{9, "st", [3]field{reg, reg, none}},
	{10, "jmp", [3]field{none, none, spot}},
	{11, "jz", [3]field{reg, none, spot}},
	{12, "call", [3]field{none, none, spot}},
	{13, "ret", [3]field{none, none, none}},
	{14, "tell", [3]field{reg, none, none}},
	{15, "halt", [3]field{none, none, none}},
}

const (
	farDown = -1 << 63
	farUp   = 1<<63 - 1
)

func instr(op int, v [3]int) api.Instr {
	return api.Instr{Op: op, A: v[0], B: v[1], C: v[2]}
}

func halts(n int) []api.Instr {
	return slices.Repeat([]api.Instr{{Op: api.Halt}}, n)
}

func checkIs(t *testing.T, l []api.Instr, want api.Errno) {
	t.Helper()
	if got := code.Check(l); got != want {
		t.Errorf("Check(%v) = %v, want %v", l, got, want)
	}
}

func showIs(t *testing.T, l []api.Instr, want string, wantErr api.Errno) {
	t.Helper()
	if got, e := code.Show(l); got != want || e != wantErr {
		t.Errorf("Show(%v) = %q, %v, want %q, %v", l, got, e, want, wantErr)
	}
}

func readIs(t *testing.T, s string, want []api.Instr, line int, wantErr api.Errno) {
	t.Helper()
	got, n, e := code.Read(s)
	if !slices.Equal(got, want) || n != line || e != wantErr {
		t.Errorf("Read(%q) = %v, %d, %v, want %v, %d, %v", s, got, n, e, want, line, wantErr)
	}
}

// P1.1: the bounds of each field of each kind, the other fields being as they should.
func TestFieldBounds(t *testing.T) {
	for _, sh := range shapes {
		for i, f := range sh.fields {
			for _, v := range []int{farDown, -1, 0, 1, 7, 8, 199, 200, 255, 65535, 65536, farUp} {
				var values [3]int
				values[i] = v
				want := api.ErrRange
				if v >= 0 && v <= f.most {
					want = api.OK
				}
				checkIs(t, []api.Instr{instr(sh.op, values)}, want)
			}
		}
	}
}

// P1.1: all fields at their largest values at once.
func TestLargestFields(t *testing.T) {
	for _, sh := range shapes {
		var values [3]int
		for i, f := range sh.fields {
			values[i] = f.most
		}
		checkIs(t, []api.Instr{instr(sh.op, values)}, api.OK)
	}
}

// P1.2: unknown kinds, also with fields that are wrong for any kind.
func TestCheckKind(t *testing.T) {
	for _, op := range []int{farDown, -1, 0, 16, 17, 257, farUp} {
		checkIs(t, []api.Instr{{Op: op}}, api.ErrKind)
		checkIs(t, []api.Instr{{Op: op, A: -1, B: -1, C: -1}}, api.ErrKind)
	}
}

// P1.2: the number of instructions comes first, whatever they are.
func TestCheckSize(t *testing.T) {
	checkIs(t, nil, api.OK)
	checkIs(t, []api.Instr{}, api.OK)
	checkIs(t, halts(api.MaxCode), api.OK)
	checkIs(t, halts(api.MaxCode+1), api.ErrSize)
	checkIs(t, make([]api.Instr, api.MaxCode), api.ErrKind)
	checkIs(t, make([]api.Instr, api.MaxCode+1), api.ErrSize)
}

// P1.2: the first wrong instruction decides, and every one is looked at.
func TestCheckOrder(t *testing.T) {
	unknown, outside := api.Instr{Op: 16}, api.Instr{Op: api.Tell, A: 8}
	checkIs(t, []api.Instr{unknown, outside}, api.ErrKind)
	checkIs(t, []api.Instr{outside, unknown}, api.ErrRange)
	checkIs(t, append(halts(api.MaxCode-1), unknown), api.ErrKind)
	checkIs(t, append(halts(api.MaxCode-1), outside), api.ErrRange)
}

// P1.2: a code index need not be one of this code.
func TestCheckJumpBeyondCode(t *testing.T) {
	checkIs(t, []api.Instr{{Op: api.Jmp, C: 199}, {Op: api.Jz, C: 2}, {Op: api.Call, C: 150}}, api.OK)
}

// P1.3 and P1.4: each kind with small, different and largest values, in both directions.
func TestShowAndReadEachKind(t *testing.T) {
	for _, sh := range shapes {
		for _, v := range [][3]int{{0, 0, 0}, {1, 2, 3}, {7, 7, 7}, {3, 5, 10}, {6, 0, 100}, {7, 7, 65535}} {
			line := sh.name
			for i, f := range sh.fields {
				v[i] = min(v[i], f.most)
				if f.shown {
					line += " " + f.prefix + strconv.Itoa(v[i])
				}
			}
			l := []api.Instr{instr(sh.op, v)}
			showIs(t, l, line+"\n", api.OK)
			readIs(t, line+"\n", l, 0, api.OK)
		}
	}
}

// P1.3: several lines, and none.
func TestShowLines(t *testing.T) {
	showIs(t, nil, "", api.OK)
	showIs(t, []api.Instr{}, "", api.OK)
	showIs(t, []api.Instr{{Op: api.Ld, A: 1, B: 2}}, "ld r1 r2\n", api.OK)
	showIs(t, []api.Instr{{Op: api.Li, A: 1, C: 9}, {Op: api.Jz, A: 1, C: 0}, {Op: api.Ret}}, "li r1 9\njz r1 0\nret\n", api.OK)
	showIs(t, halts(api.MaxCode), strings.Repeat("halt\n", api.MaxCode), api.OK)
}

// P1.3: the errors of Check, with an empty text.
func TestShowErrors(t *testing.T) {
	showIs(t, halts(api.MaxCode+1), "", api.ErrSize)
	showIs(t, []api.Instr{{Op: api.Halt}, {}}, "", api.ErrKind)
	showIs(t, []api.Instr{{Op: api.Halt}, {Op: -1}}, "", api.ErrKind)
	showIs(t, []api.Instr{{Op: api.Halt}, {Op: 16}}, "", api.ErrKind)
	showIs(t, []api.Instr{{Op: api.Halt}, {Op: api.Ret, C: 1}}, "", api.ErrRange)
	showIs(t, []api.Instr{{Op: api.Li, C: -1}}, "", api.ErrRange)
}

// P1.4: several lines, and none.
func TestReadLines(t *testing.T) {
	readIs(t, "", nil, 0, api.OK)
	readIs(t, "ld r1 r2\n", []api.Instr{{Op: api.Ld, A: 1, B: 2}}, 0, api.OK)
	readIs(t, "li r1 9\njz r1 0\nret\n", []api.Instr{{Op: api.Li, A: 1, C: 9}, {Op: api.Jz, A: 1, C: 0}, {Op: api.Ret}}, 0, api.OK)
}

// P1.4: the longest code is read back as it was.
func TestReadIsInverseOfShow(t *testing.T) {
	var l []api.Instr
	for i := range api.MaxCode {
		sh := shapes[i%len(shapes)]
		var v [3]int
		for j, f := range sh.fields {
			v[j] = (i*331 + j*7) % (f.most + 1)
		}
		l = append(l, instr(sh.op, v))
	}
	s, e := code.Show(l)
	if e != api.OK {
		t.Fatalf("Show: %v", e)
	}
	readIs(t, s, l, 0, api.OK)
}

// P1.4: lines that Show never writes.
func TestReadForm(t *testing.T) {
	for _, line := range []string{
		"", " ", "\r", "\x00", "x", "r1", "1", "nop", "HALT", "Halt", "halts", "hal",
		"halt ", " halt", "halt\r", "halt\t", "halt 0", "halt r0", "ret 0", "halt;", "halt ret",
		"li", "li ", "li r1", "li r1 ", "li 1 1", "li r1 r1", "li r1  1", "li  r1 1", "li r1 1 ", "li r1 1 1", "li r1 1 r1",
		"li r1\t1", "li\tr1 1", "li r1,1", "li 1 r1", "li r 1", "li rr1 1", "li R1 1", "li r8 1", "li r10 1", "li r-1 1", "li r+1 1", "li r01 1",
		"li r1 -1", "li r1 +1", "li r1 -0", "li r1 01", "li r1 00", "li r1 1_0", "li r1 0x1", "li r1 1.0", "li r1 1e1", "li r1 a", "li r1 \xd9\xa1",
		"li r1 65536", "li r1 99999", "li r1 18446744073709551616", "li r1 18446744073709551617", "li r1 " + strings.Repeat("9", 3000),
		"add r1 r2", "add r1 r2 3", "add r1 r2 r3 r4", "add r1 r2 r8", "add r8 r2 r3", "add r1 r8 r3",
		"ld r1", "ld r1 2", "ld r1 r2 r3", "ld r1 r2 0", "st r1 8", "st r8 r1",
		"jmp", "jmp r1", "jmp 200", "jmp -1", "jmp 0 1", "jmp r0 1", "jmp 007",
		"jz 1", "jz r1", "jz r1 200", "jz r1 r2", "jz r1 r0 1",
		"call", "call 200", "call r1", "tell", "tell 1", "tell r8", "tell r1 0",
	} {
		readIs(t, line+"\n", nil, 1, api.ErrForm)
		readIs(t, "ret\nhalt\n"+line+"\nhalt\n", nil, 3, api.ErrForm)
	}
}

// P1.4: a line without its line feed, whatever the line is, but after the errors of lines before it.
func TestReadShort(t *testing.T) {
	readIs(t, "halt", nil, 1, api.ErrShort)
	readIs(t, "hal", nil, 1, api.ErrShort)
	readIs(t, " ", nil, 1, api.ErrShort)
	readIs(t, "halt\rret", nil, 1, api.ErrShort)
	readIs(t, "halt\nret\nli r1 1", nil, 3, api.ErrShort)
	readIs(t, "halt\nhal\nret", nil, 2, api.ErrForm)
	readIs(t, strings.Repeat("ret\n", api.MaxCode)+"ret", nil, api.MaxCode+1, api.ErrShort)
}

// P1.4: too many instructions, and how that stands to the other errors.
func TestReadTooManyInstructions(t *testing.T) {
	full := strings.Repeat("ret\n", api.MaxCode)
	if l, line, e := code.Read(full); len(l) != api.MaxCode || line != 0 || e != api.OK {
		t.Errorf("Read of MaxCode lines = %d instructions, %d, %v", len(l), line, e)
	}
	readIs(t, full+"ret\n", nil, api.MaxCode+1, api.ErrSize)
	readIs(t, full+"what\n", nil, api.MaxCode+1, api.ErrSize)
	readIs(t, full+"\n", nil, api.MaxCode+1, api.ErrSize)
	readIs(t, full+"ret\nret", nil, api.MaxCode+1, api.ErrSize)
	readIs(t, strings.Repeat("ret\n", api.MaxCode-1)+"what\nret\n", nil, api.MaxCode, api.ErrForm)
}

// P1.4: the length of the text comes first, with the line number 0.
func TestReadTextSize(t *testing.T) {
	readIs(t, strings.Repeat("\n", api.MaxText), nil, 1, api.ErrForm)
	readIs(t, strings.Repeat("\n", api.MaxText+1), nil, 0, api.ErrSize)
	readIs(t, strings.Repeat("x", api.MaxText), nil, 1, api.ErrShort)
	readIs(t, strings.Repeat("x", api.MaxText+1), nil, 0, api.ErrSize)
	readIs(t, strings.Repeat("halt\n", api.MaxText/5), nil, api.MaxCode+1, api.ErrSize)
	readIs(t, strings.Repeat("halt\n", api.MaxText/5+1), nil, 0, api.ErrSize)
	// The length is counted in bytes: 2001 letters of two bytes each.
	readIs(t, strings.Repeat("\u00e9", api.MaxText/2+1), nil, 0, api.ErrSize)
}

// General rules: arguments, with the unused capacity behind them, stay as they are.
func TestArgumentsStay(t *testing.T) {
	whole := []api.Instr{{Op: api.Li, A: 1, C: 9}, {Op: api.Halt}, {Op: 77, A: 7}}
	before := slices.Clone(whole)
	code.Check(whole[:2])
	code.Show(whole[:2])
	code.Check(whole)
	code.Show(whole)
	if !slices.Equal(whole, before) {
		t.Errorf("argument became %v", whole)
	}
}

// General rules: results are new memory, and the same for the same arguments.
func TestResultsAreNew(t *testing.T) {
	const text = "li r1 9\nhalt\nret\n"
	first, _, _ := code.Read(text)
	clear(first[:cap(first)])
	readIs(t, text, []api.Instr{{Op: api.Li, A: 1, C: 9}, {Op: api.Halt}, {Op: api.Ret}}, 0, api.OK)
}

// FuzzRead: what Read takes, Show writes back to the letter.
func FuzzRead(f *testing.F) {
	for _, s := range []string{"", "halt\n", "li r1 9\nhalt\n", "ld r1 r2\njz r3 7\n", "li r01 1\n", "halt"} {
		f.Add(s)
	}
	f.Fuzz(func(t *testing.T, s string) {
		l, line, e := code.Read(s)
		if e != api.OK {
			if len(l) != 0 || line < 0 || line == 0 && e != api.ErrSize {
				t.Errorf("Read(%q) = %v, %d, %v", s, l, line, e)
			}
			return
		}
		if line != 0 {
			t.Errorf("Read(%q): line %d without an error", s, line)
		}
		showIs(t, l, s, api.OK)
	})
}
