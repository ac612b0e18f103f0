package safe_test

import (
	"slices"
	"strings"
	"testing"

	"curfew/api"
	"curfew/code"
	"curfew/cpu"
	"curfew/safe"
)

const (
	farDown = -1 << 63
	farUp   = 1<<63 - 1
)

type regs = [api.Regs]int

func lines(t *testing.T, s string) []api.Instr {
	t.Helper()
	l, line, e := code.Read(s)
	if e != api.OK {
		t.Fatalf("Read(%q): line %d: %v", s, line, e)
	}
	return l
}

func show(l []api.Instr) string {
	s, _ := code.Show(l)
	return s
}

func verifyIs(t *testing.T, l []api.Instr, want api.Errno) {
	t.Helper()
	if got := safe.Verify(l); got != want {
		t.Errorf("Verify(%v %q) = %v, want %v", l, show(l), got, want)
	}
}

func makeIs(t *testing.T, l, want []api.Instr, wantErr api.Errno) {
	t.Helper()
	if got, e := safe.Make(l); !slices.Equal(got, want) || e != wantErr {
		t.Errorf("Make(%v %q) = %q, %v, want %q, %v", l, show(l), show(got), e, show(want), wantErr)
	}
}

func repeat(n int, in api.Instr) []api.Instr {
	return slices.Repeat([]api.Instr{in}, n)
}

// allInstrs: the valid instructions whose registers are any and whose words and code indices are below 8.
func allInstrs() []api.Instr {
	var l []api.Instr
	for op := api.Li; op <= api.Halt; op++ {
		for v := range 8 * 8 * 8 {
			in := api.Instr{Op: op, A: v / 64, B: v / 8 % 8, C: v % 8}
			if code.Check([]api.Instr{in}) == api.OK {
				l = append(l, in)
			}
		}
	}
	return l
}

// P3.1: code that can be trusted, all of it within the rules by a hair.
func TestVerifyTrusts(t *testing.T) {
	for _, s := range []string{
		"ret\n", "halt\n", "jmp 0\n",
		"and r4 r1 r6\nor r4 r4 r5\nld r0 r4\nadd r0 r0 r2\nret\n",
		"ld r0 r4\nst r0 r4\nret\n",
		"or r4 r4 r5\nor r4 r4 r5\nret\n",
		"and r4 r4 r6\nor r4 r4 r5\nand r4 r5 r6\nor r4 r4 r5\nand r4 r6 r6\nor r4 r4 r5\nret\n",
		"jmp 2\nand r4 r1 r6\nor r4 r4 r5\nst r4 r4\nret\n",
		"jz r4 1\njz r5 0\njz r6 0\ntell r4\ntell r5\ntell r6\nst r5 r4\nst r6 r4\nst r4 r4\nret\n",
		"add r0 r4 r5\nsub r1 r6 r4\nor r2 r4 r5\nand r3 r4 r6\nlt r7 r5 r6\nret\n",
		"li r0 65535\nli r1 4\nli r2 5\nli r3 6\nret\n",
		"ret\nret\njz r0 3\nhalt\n", "call 1\nret\n", "jmp 1\njmp 0\n",
	} {
		verifyIs(t, lines(t, s), api.OK)
	}
}

// P3.1: code that breaks one of the rules only.
func TestVerifyRefuses(t *testing.T) {
	for _, s := range []string{
		"",
		"ld r1 r2\nret\n", "st r1 r2\nret\n", "ld r1 r5\nret\n", "st r1 r6\nret\n", "st r4 r0\nret\n",
		"ld r4 r4\nret\n", "ld r5 r4\nret\n", "ld r6 r4\nret\n",
		"and r4 r1 r6\nret\n", "and r4 r1 r6\nhalt\nor r4 r4 r5\nret\n",
		"and r4 r1 r6\nand r4 r1 r6\nor r4 r4 r5\nret\n", "and r4 r1 r6\nld r0 r4\nor r4 r4 r5\nret\n",
		"or r4 r4 r5\nand r4 r1 r6\nret\n", "and r4 r1 r6\njmp 2\nor r4 r4 r5\nret\n",
		"and r4 r6 r1\nor r4 r4 r5\nret\n", "and r4 r1 r5\nor r4 r4 r5\nret\n", "and r4 r1 r6\nor r4 r5 r4\nret\n",
		"and r4 r1 r6\nor r4 r1 r5\nret\n", "and r4 r1 r6\nor r0 r4 r5\nret\n", "and r4 r1 r6\nadd r4 r4 r5\nret\n",
		"or r4 r5 r4\nret\n", "or r4 r1 r5\nret\n", "or r4 r4 r6\nret\n", "or r4 r5 r5\nret\n", "xor r4 r4 r5\nret\n",
		"li r4 0\nor r4 r4 r5\nret\n", "li r5 0\nret\n", "li r6 63\nret\n",
		"and r5 r5 r6\nor r4 r4 r5\nret\n", "and r6 r6 r6\nor r4 r4 r5\nret\n", "or r5 r5 r5\nret\n", "or r6 r6 r6\nret\n", "and r5 r1 r6\nor r5 r5 r5\nret\n",
	} {
		verifyIs(t, lines(t, s), api.ErrSafe)
	}
}

// trustedLines: what P3.1 says of one instruction and its next one, written a second time, by their lines and not by their fields.
func trustedLines(first, next string) bool {
	part := strings.Fields(first)
	name, a := part[0], ""
	if len(part) > 1 {
		a = part[1]
	}
	switch {
	case name == "ld" && part[2] != "r4", name == "st" && part[2] != "r4":
		return false
	case strings.Contains(" li add sub and or xor lt ld ", " "+name+" ") && (a == "r5" || a == "r6"):
		return false
	case strings.Contains(" li add sub and or xor lt ld ", " "+name+" ") && a == "r4":
		return first == "or r4 r4 r5\n" || name == "and" && part[3] == "r6" && next == "or r4 r4 r5\n"
	}
	return true
}

// P3.1: every instruction, before a few next ones, in code that is otherwise trusted.
func TestVerifyEachInstruction(t *testing.T) {
	tail := repeat(8, api.Instr{Op: api.Ret})
	for _, next := range lines(t, "or r4 r4 r5\nor r4 r5 r4\nor r0 r4 r5\nand r0 r4 r5\ntell r4\nret\n") {
		for _, in := range allInstrs() {
			want := api.ErrSafe
			if trustedLines(show([]api.Instr{in}), show([]api.Instr{next})) && trustedLines(show([]api.Instr{next}), "ret\n") {
				want = api.OK
			}
			verifyIs(t, append([]api.Instr{in, next}, tail...), want)
		}
	}
}

// P3.1: the last instruction, of each kind.
func TestVerifyLast(t *testing.T) {
	for op := api.Li; op <= api.Halt; op++ {
		in := api.Instr{Op: op}
		if op == api.Ld || op == api.St {
			in.B = api.At
		}
		want := api.ErrSafe
		if op == api.Jmp || op == api.Ret || op == api.Halt {
			want = api.OK
		}
		verifyIs(t, []api.Instr{in}, want)
		verifyIs(t, []api.Instr{{Op: api.Ret}, in}, want)
		verifyIs(t, []api.Instr{in, {Op: api.Ret}}, api.OK)
	}
	verifyIs(t, lines(t, "ret\nor r4 r4 r5\n"), api.ErrSafe)
	verifyIs(t, lines(t, "ret\nand r4 r4 r6\n"), api.ErrSafe)
}

// P3.1, P3.2: code indices within the code, at its end, and beyond it.
func TestJumpBounds(t *testing.T) {
	for _, op := range []int{api.Jmp, api.Jz, api.Call} {
		for size := 2; size <= api.MaxCode; size++ {
			for _, c := range []int{0, size - 1, size, size + 1, api.MaxCode - 1} {
				l := repeat(size, api.Instr{Op: api.Ret})
				l[size-2] = api.Instr{Op: op, C: min(c, api.MaxCode-1)}
				if l[size-2].C < size {
					verifyIs(t, l, api.OK)
					makeIs(t, l, l, api.OK)
				} else {
					verifyIs(t, l, api.ErrSafe)
					makeIs(t, l, nil, api.ErrSafe)
				}
			}
		}
	}
	verifyIs(t, lines(t, "jmp 1\n"), api.ErrSafe)
	makeIs(t, lines(t, "jmp 1\n"), nil, api.ErrSafe)
	verifyIs(t, lines(t, "li r1 2\nret\n"), api.OK)
}

// P3.1: every instruction counts, wherever it is, in code as long as may be.
func TestVerifyEachPlace(t *testing.T) {
	for _, bad := range lines(t, "ld r0 r1\nli r5 0\nand r4 r0 r6\nli r4 0\n") {
		for i := range api.MaxCode {
			l := repeat(api.MaxCode, api.Instr{Op: api.Ret})
			verifyIs(t, l, api.OK)
			l[i] = bad
			verifyIs(t, l, api.ErrSafe)
		}
	}
}

// P3.1, P3.2: the errors of code.Check come first, whatever else is wrong.
func TestErrorsOfCode(t *testing.T) {
	untrusted := []api.Instr{{Op: api.Ld, A: 5, B: 6}, {Op: api.Jmp, C: 199}}
	for _, c := range []struct {
		l    []api.Instr
		want api.Errno
	}{
		{repeat(api.MaxCode+1, api.Instr{Op: api.Ret}), api.ErrSize},
		{make([]api.Instr, api.MaxCode+1), api.ErrSize},
		{append(slices.Clone(untrusted), api.Instr{}), api.ErrKind},
		{append(slices.Clone(untrusted), api.Instr{Op: 16}), api.ErrKind},
		{append(slices.Clone(untrusted), api.Instr{Op: -1, A: -1}), api.ErrKind},
		{append(slices.Clone(untrusted), api.Instr{Op: api.Ret, C: 1}), api.ErrRange},
		{append(slices.Clone(untrusted), api.Instr{Op: api.Jmp, C: 200}), api.ErrRange},
		{append(slices.Clone(untrusted), api.Instr{Op: api.Jmp, C: -1}), api.ErrRange},
		{append(slices.Clone(untrusted), api.Instr{Op: api.And, A: 4, B: 8, C: 6}), api.ErrRange},
		{append(slices.Clone(untrusted), api.Instr{Op: api.Li, A: farDown, C: farUp}), api.ErrRange},
		{[]api.Instr{{Op: api.Ret, A: 4}, {Op: 16}}, api.ErrRange},
		{[]api.Instr{{Op: farUp}, {Op: api.Ret, A: 4}}, api.ErrKind},
		{untrusted, api.ErrSafe},
		{nil, api.ErrSafe},
		{[]api.Instr{}, api.ErrSafe},
	} {
		verifyIs(t, c.l, c.want)
		makeIs(t, c.l, nil, c.want)
	}
}

// P3.2: each Ld and St becomes three, all else stays.
func TestMakeAccesses(t *testing.T) {
	for _, c := range []struct{ from, to string }{
		{"ret\n", "ret\n"},
		{"ld r0 r1\nret\n", "and r4 r1 r6\nor r4 r4 r5\nld r0 r4\nret\n"},
		{"ld r0 r1\nadd r0 r0 r2\nret\n", "and r4 r1 r6\nor r4 r4 r5\nld r0 r4\nadd r0 r0 r2\nret\n"},
		{"st r7 r3\nhalt\n", "and r4 r3 r6\nor r4 r4 r5\nst r7 r4\nhalt\n"},
		{"ld r2 r2\nst r2 r2\nhalt\n", "and r4 r2 r6\nor r4 r4 r5\nld r2 r4\nand r4 r2 r6\nor r4 r4 r5\nst r2 r4\nhalt\n"},
		{"li r1 9\nadd r1 r2 r3\nsub r7 r0 r1\nand r1 r1 r1\nor r2 r2 r2\nxor r3 r3 r3\nlt r0 r1 r2\ntell r7\nhalt\n",
			"li r1 9\nadd r1 r2 r3\nsub r7 r0 r1\nand r1 r1 r1\nor r2 r2 r2\nxor r3 r3 r3\nlt r0 r1 r2\ntell r7\nhalt\n"},
	} {
		makeIs(t, lines(t, c.from), lines(t, c.to), api.OK)
	}
}

// P3.2: code indices lead to the same instructions, and to the first one of three.
func TestMakeJumps(t *testing.T) {
	for _, c := range []struct{ from, to string }{
		{"jz r0 2\nst r1 r2\njmp 0\n", "jz r0 4\nand r4 r2 r6\nor r4 r4 r5\nst r1 r4\njmp 0\n"},
		{"jmp 1\nst r1 r2\njmp 1\n", "jmp 1\nand r4 r2 r6\nor r4 r4 r5\nst r1 r4\njmp 1\n"},
		{"ld r0 r1\ncall 3\njmp 0\nld r2 r3\ncall 4\njz r7 3\nret\n",
			"and r4 r1 r6\nor r4 r4 r5\nld r0 r4\ncall 5\njmp 0\nand r4 r3 r6\nor r4 r4 r5\nld r2 r4\ncall 8\njz r7 5\nret\n"},
		{"ld r0 r1\nli r0 1\njmp 2\n", "and r4 r1 r6\nor r4 r4 r5\nld r0 r4\nli r0 1\njmp 4\n"},
	} {
		makeIs(t, lines(t, c.from), lines(t, c.to), api.OK)
	}
}

// P3.2: a word of Li is no code index, and neither it nor a code index is a register.
func TestMakeNumbersThatAreNoRegisters(t *testing.T) {
	for _, s := range []string{
		"li r0 4\nli r1 5\nli r2 6\nli r3 65535\nret\n",
		"jmp 4\njmp 5\njmp 6\ncall 4\ncall 5\ncall 6\njz r0 4\njz r1 5\njz r2 6\nret\n",
	} {
		makeIs(t, lines(t, s), lines(t, s), api.OK)
	}
	makeIs(t, lines(t, "ld r0 r0\nli r1 1\nret\n"), lines(t, "and r4 r0 r6\nor r4 r4 r5\nld r0 r4\nli r1 1\nret\n"), api.OK)
}

// P3.2: every instruction with every register; the lines tell which numbers are registers.
func TestMakePlain(t *testing.T) {
	tail := repeat(8, api.Instr{Op: api.Ret})
	for _, in := range allInstrs() {
		l := append([]api.Instr{in}, tail...)
		line := show(l[:1])
		if strings.Contains(line, "r4") || strings.Contains(line, "r5") || strings.Contains(line, "r6") {
			makeIs(t, l, nil, api.ErrSafe)
			makeIs(t, append(repeat(api.MaxCode-9, api.Instr{Op: api.Ret}), l...), nil, api.ErrSafe)
			continue
		}
		got, e := safe.Make(l)
		if e != api.OK || safe.Verify(got) != api.OK {
			t.Errorf("Make(%q) = %q, %v", line, show(got), e)
		}
	}
}

// P3.2: code that is trusted but not plain, and code whose last instruction may not be last.
func TestMakeRefuses(t *testing.T) {
	for op := api.Li; op <= api.Halt; op++ {
		if op != api.Jmp && op != api.Ret && op != api.Halt {
			makeIs(t, []api.Instr{{Op: op}}, nil, api.ErrSafe)
			makeIs(t, []api.Instr{{Op: api.Ret}, {Op: op}}, nil, api.ErrSafe)
		}
	}
	makeIs(t, lines(t, "and r4 r1 r6\nor r4 r4 r5\nld r0 r4\nret\n"), nil, api.ErrSafe)
	makeIs(t, lines(t, "or r4 r4 r5\nret\n"), nil, api.ErrSafe)
	makeIs(t, lines(t, "ld r0 r4\nret\n"), nil, api.ErrSafe)
	makeIs(t, lines(t, "tell r5\nret\n"), nil, api.ErrSafe)
}

// P3.2: results as long as may be, and one longer.
func TestMakeSize(t *testing.T) {
	load, ret := api.Instr{Op: api.Ld, A: 1, B: 2}, api.Instr{Op: api.Ret}
	for _, c := range []struct{ loads, rets int }{{66, 1}, {66, 2}, {66, 3}, {67, 1}, {0, 200}, {1, 197}, {1, 198}, {1, 199}, {199, 1}} {
		l := append(repeat(c.loads, load), repeat(c.rets, ret)...)
		if 3*c.loads+c.rets > api.MaxCode {
			makeIs(t, l, nil, api.ErrSize)
			continue
		}
		want := append(slices.Repeat(lines(t, "and r4 r2 r6\nor r4 r4 r5\nld r1 r4\n"), c.loads), repeat(c.rets, ret)...)
		makeIs(t, l, want, api.OK)
	}
}

// P3.2: code that is not plain is refused as such, even if the result would be too long too.
func TestMakeSafeBeforeSize(t *testing.T) {
	long := append(repeat(100, api.Instr{Op: api.St, A: 1, B: 2}), api.Instr{Op: api.Ret})
	makeIs(t, long, nil, api.ErrSize)
	for _, bad := range lines(t, "tell r4\nld r0 r5\nst r6 r0\njmp 101\ncall 199\n") {
		l := slices.Clone(long)
		l[50] = bad
		makeIs(t, l, nil, api.ErrSafe)
	}
	makeIs(t, long[:100], nil, api.ErrSafe)
	long[100] = api.Instr{Op: 16}
	makeIs(t, long, nil, api.ErrKind)
}

// P3.3: the registers of each region.
func TestEnter(t *testing.T) {
	for region := range api.Regions {
		for _, word := range []int{0, 1, 63, 256, 65535} {
			want := regs{word, 0, 0, 0, region * 64, region * 64, 63, 0}
			if got, e := safe.Enter(region, word); got != want || e != api.OK {
				t.Errorf("Enter(%d, %d) = %v, %v, want %v", region, word, got, e, want)
			}
		}
	}
}

// P3.3: a region or a word outside its bounds, or both.
func TestEnterRange(t *testing.T) {
	for _, c := range [][2]int{
		{-1, 0}, {16, 0}, {17, 5}, {farDown, 0}, {farUp, 0},
		{0, -1}, {0, 65536}, {15, 65536}, {15, farDown}, {15, farUp},
		{-1, -1}, {16, 65536}, {1 << 58, 7}, {1 << 32, 0},
	} {
		if got, e := safe.Enter(c[0], c[1]); got != (regs{}) || e != api.ErrRange {
			t.Errorf("Enter(%d, %d) = %v, %v", c[0], c[1], got, e)
		}
	}
}

// General rules: arguments, with the unused capacity behind them, stay as they are; results are new memory.
func TestMemory(t *testing.T) {
	whole := lines(t, "ld r0 r1\njmp 2\nret\ntell r7\nhalt\n")
	before := slices.Clone(whole)
	want := lines(t, "and r4 r1 r6\nor r4 r4 r5\nld r0 r4\njmp 4\nret\n")
	for range 2 {
		safe.Verify(whole[:3])
		got, e := safe.Make(whole[:3])
		if !slices.Equal(got, want) || e != api.OK {
			t.Errorf("Make = %v, %v", got, e)
		}
		clear(got[:cap(got)])
		got, _ = safe.Make(whole[2:3])
		clear(got[:cap(got)])
	}
	if !slices.Equal(whole, before) {
		t.Errorf("argument became %v", whole)
	}
}

// staysInside runs trusted code in a region, twice, with memories that differ in all words outside of the region: it must not change those words, and nothing may depend on them.
func staysInside(t *testing.T, l []api.Instr, region, word int) {
	t.Helper()
	r, e := safe.Enter(region, word)
	if e != api.OK {
		t.Fatalf("Enter(%d, %d): %v", region, word, e)
	}
	first, last := region*api.Region, (region+1)*api.Region
	var outcomes [2]api.Outcome
	for i := range outcomes {
		mem := make([]int, api.Memory)
		for j := range mem {
			mem[j] = 1000 + j
			if j < first || j >= last {
				mem[j] += 30000 * i
			}
		}
		o, e := cpu.Run(l, r, mem, 500)
		if e != api.OK || o.End == api.Fault || !slices.Equal(o.Mem[:first], mem[:first]) || !slices.Equal(o.Mem[last:], mem[last:]) {
			t.Fatalf("in region %d, %q: %v, end %d, or it changes words outside", region, show(l), e, o.End)
		}
		o.Mem = o.Mem[first:last]
		outcomes[i] = o
	}
	a, b := outcomes[0], outcomes[1]
	if a.End != b.End || a.Regs != b.Regs || !slices.Equal(a.Told, b.Told) || !slices.Equal(a.Mem, b.Mem) {
		t.Fatalf("in region %d, %q depends on words outside", region, show(l))
	}
}

// numbers returns a function that draws numbers below n, the same ones in each run of the tests.
func numbers(seed uint64) func(n int) int {
	return func(n int) int {
		seed = seed*6364136223846793005 + 1442695040888963407
		return int((seed >> 33) % uint64(n))
	}
}

func someBytes(draw func(n int) int, size int) []byte {
	b := make([]byte, size)
	for i := range b {
		b[i] = byte(draw(256))
	}
	return b
}

// tricky makes an instruction of each byte, one that can be trusted or one that nearly can.
func tricky(b []byte, size int) []api.Instr {
	var l []api.Instr
	for i, v := range b {
		at, n := int(v)/16%8, int(v)/16
		l = append(l, []api.Instr{
			{Op: api.And, A: api.At, B: at, C: api.Left}, {Op: api.Or, A: api.At, B: api.At, C: api.Base},
			{Op: api.Ld, A: at, B: api.At}, {Op: api.St, A: at, B: api.At},
			{Op: api.Jmp, C: n % size}, {Op: api.Jz, A: at, C: (n + i) % size}, {Op: api.Call, C: n % size}, {Op: api.Ret},
			{Op: api.Li, A: at, C: 257 * int(v)}, {Op: api.Add, A: at, B: 1, C: 2}, {Op: api.Sub, A: 3, B: at, C: 0}, {Op: api.Tell, A: at},
			{Op: api.Or, A: api.At, B: at, C: api.Base}, {Op: api.And, A: api.At, B: api.Left, C: at},
			{Op: api.Ld, A: 0, B: at}, {Op: api.Or, A: at, B: 0, C: 3},
		}[v%16])
	}
	return l
}

// The chapter's purpose: trusted code that is entered as P3.3 says accesses only its own region.
func TestTrustedCodeStaysInside(t *testing.T) {
	draw := numbers(3)
	trusted := 0
	for range 60000 {
		size := 1 + draw(9)
		l := tricky(someBytes(draw, size), size)
		if safe.Verify(l) == api.OK {
			trusted++
			staysInside(t, l, draw(api.Regions), draw(api.MaxWord+1))
		}
	}
	if trusted < 1000 {
		t.Errorf("only %d codes were trusted: too few to tell", trusted)
	}
}

// FuzzVerify: whatever Verify trusts stays in its region.
func FuzzVerify(f *testing.F) {
	f.Add([]byte{0x10, 0x01, 0x02, 0x07}, 3, 70)
	f.Add([]byte{0x14, 0x30, 0x01, 0x23, 0x05, 0x07}, 15, 65535)
	f.Fuzz(func(t *testing.T, b []byte, region, word int) {
		b = b[:min(len(b), api.MaxCode)]
		l := tricky(b, max(1, len(b)))
		if safe.Verify(l) == api.OK {
			staysInside(t, l, region&15, word&65535)
		}
	})
}

// plainOf makes plain code of any bytes: registers 0 to 3, and an end.
func plainOf(b []byte) []api.Instr {
	b = b[:min(len(b), 60)]
	size := len(b) + 1
	var l []api.Instr
	for i, v := range b {
		x, y := int(v)/16%4, int(v)/64
		l = append(l, []api.Instr{
			{Op: api.Ld, A: x, B: y}, {Op: api.St, A: x, B: y}, {Op: api.Ld, A: y, B: x}, {Op: api.St, A: y, B: x},
			{Op: api.Li, A: x, C: i}, {Op: api.Li, A: 7, C: 13 * y}, {Op: api.Jz, A: x, C: (7*i + y) % size}, {Op: api.Call, C: (3*i + x) % size},
			{Op: api.Add, A: x, B: y, C: x}, {Op: api.Sub, A: x, B: y, C: 7}, {Op: api.And, A: x, B: x, C: 7}, {Op: api.Xor, A: x, B: y, C: 0},
			{Op: api.Lt, A: x, B: y, C: 7}, {Op: api.Tell, A: x}, {Op: api.Jmp, C: (i + 1 + x) % size}, {Op: api.Ret},
		}[v%16])
	}
	return append(l, api.Instr{Op: api.Halt})
}

// sameWork: made code does in its region what the plain code does in a memory that is as large as a region.
func sameWork(t *testing.T, l []api.Instr, region, word int) bool {
	t.Helper()
	made, e := safe.Make(l)
	if e == api.ErrSize {
		return false
	}
	if e != api.OK || safe.Verify(made) != api.OK {
		t.Fatalf("Make(%q) = %q, %v", show(l), show(made), e)
	}
	staysInside(t, made, region, word)
	small, _ := cpu.Run(l, regs{word}, make([]int, api.Region), 3000)
	if small.End == api.Spent || small.End == api.Fault {
		return false
	}
	r, _ := safe.Enter(region, word)
	large, _ := cpu.Run(made, r, make([]int, api.Memory), 9000)
	for _, v := range []int{api.At, api.Base, api.Left} {
		large.Regs[v] = 0
	}
	inside := large.Mem[region*api.Region : (region+1)*api.Region]
	if small.End != large.End || small.Regs != large.Regs || !slices.Equal(small.Told, large.Told) || !slices.Equal(small.Mem, inside) {
		t.Fatalf("%q: %v, made code %q in region %d: %v", show(l), small, show(made), region, large)
	}
	return true
}

// P3.2: made code is trusted, stays in its region, and does there what the plain code does.
func TestMadeCodeDoesTheSame(t *testing.T) {
	draw := numbers(4)
	compared := 0
	for range 5000 {
		b := someBytes(draw, draw(30))
		if sameWork(t, plainOf(b), draw(api.Regions), draw(api.Region)) {
			compared++
		}
	}
	if compared < 1000 {
		t.Errorf("only %d codes were compared: too few to tell", compared)
	}
}

// FuzzMake: the same of any bytes.
func FuzzMake(f *testing.F) {
	f.Add([]byte{0x41, 0x10, 0x0d, 0x0f}, 2, 5)
	f.Add([]byte{0x94, 0x06, 0x57, 0x1e, 0x42}, 15, 60)
	f.Fuzz(func(t *testing.T, b []byte, region, word int) {
		sameWork(t, plainOf(b), region&15, word&65535)
	})
}
