package cpu_test

import (
	"slices"
	"testing"

	"curfew/api"
	"curfew/code"
	"curfew/cpu"
)

const (
	farDown = -1 << 63
	farUp   = 1<<63 - 1
)

type regs = [api.Regs]int

func lines(t *testing.T, s string) []api.Instr {
	t.Helper()
	l, line, e := code.Read(s)
	if e != api.OK {
		t.Fatalf("Read(%q): line %d: %v", s, line, e)
	}
	return l
}

func same(a, b api.Outcome) bool {
	return a.End == b.End && a.Regs == b.Regs && slices.Equal(a.Told, b.Told) && slices.Equal(a.Mem, b.Mem)
}

func runIs(t *testing.T, l []api.Instr, r regs, mem []int, fuel int, want api.Outcome) {
	t.Helper()
	if got, e := cpu.Run(l, r, mem, fuel); !same(got, want) || e != api.OK {
		t.Errorf("Run(%v, %v, %v, %d) = %v, %v, want %v", l, r, mem, fuel, got, e, want)
	}
}

func refuses(t *testing.T, l []api.Instr, r regs, mem []int, fuel int, want api.Errno) {
	t.Helper()
	if got, e := cpu.Run(l, r, mem, fuel); !same(got, api.Outcome{}) || e != want {
		t.Errorf("Run(%v, %v, %v, %d) = %v, %v, want %v", l, r, mem, fuel, got, e, want)
	}
}

// P2.1: an outcome has the end, the registers, the memory and the words that were output.
func TestOutcome(t *testing.T) {
	l := lines(t, "li r1 9\nhalt\n")
	runIs(t, l, regs{}, nil, 9, api.Outcome{End: api.Done, Regs: regs{0, 9}})
	l = lines(t, "st r0 r1\nld r2 r1\ntell r2\ntell r1\nret\nli r7 7\n")
	runIs(t, l, regs{5, 1, 2, 3, 4, 5, 6, 65535}, []int{7, 8, 65535}, 100, api.Outcome{
		End: api.Done, Regs: regs{5, 1, 5, 3, 4, 5, 6, 65535}, Told: []int{5, 1}, Mem: []int{7, 5, 65535}})
}

// P2.1: the errors of code.Check.
func TestErrorsOfCode(t *testing.T) {
	halts := slices.Repeat([]api.Instr{{Op: api.Halt}}, api.MaxCode+1)
	refuses(t, halts, regs{}, nil, 9, api.ErrSize)
	runIs(t, halts[:api.MaxCode], regs{}, nil, 9, api.Outcome{End: api.Done})
	refuses(t, []api.Instr{{Op: api.Halt}, {}}, regs{}, nil, 9, api.ErrKind)
	refuses(t, []api.Instr{{Op: api.Halt}, {Op: 16}}, regs{}, nil, 9, api.ErrKind)
	refuses(t, []api.Instr{{Op: api.Halt}, {Op: -1}}, regs{}, nil, 9, api.ErrKind)
	refuses(t, []api.Instr{{Op: api.Halt}, {Op: api.Tell, A: 8}}, regs{}, nil, 9, api.ErrRange)
	refuses(t, []api.Instr{{Op: api.Li, C: 65536}}, regs{}, nil, 0, api.ErrRange)
	refuses(t, []api.Instr{{Op: api.Jmp, C: -1}}, regs{}, nil, 9, api.ErrRange)
}

// P2.1: how much memory there may be.
func TestMemorySize(t *testing.T) {
	l := lines(t, "halt\n")
	runIs(t, l, regs{}, make([]int, api.Memory), 9, api.Outcome{End: api.Done, Mem: make([]int, api.Memory)})
	refuses(t, l, regs{}, make([]int, api.Memory+1), 9, api.ErrSize)
	refuses(t, nil, regs{}, make([]int, 2*api.Memory), 0, api.ErrSize)
}

// P2.1: the bounds of fuel.
func TestFuelBounds(t *testing.T) {
	for _, fuel := range []int{farDown, -1, api.MaxFuel + 1, farUp} {
		refuses(t, lines(t, "halt\n"), regs{}, nil, fuel, api.ErrRange)
		refuses(t, nil, regs{}, nil, fuel, api.ErrRange)
	}
	runIs(t, lines(t, "halt\n"), regs{}, nil, api.MaxFuel, api.Outcome{End: api.Done})
	runIs(t, lines(t, "halt\n"), regs{}, nil, 0, api.Outcome{End: api.Spent})
}

// P2.1: each register and each word of the memory is a word, used or not.
func TestWordBounds(t *testing.T) {
	l := lines(t, "halt\n")
	for i := range api.Regs {
		for _, v := range []int{farDown, -1, 65536, farUp} {
			var r regs
			r[i] = v
			refuses(t, l, r, nil, 9, api.ErrRange)
			mem := make([]int, api.Regs)
			mem[i] = v
			refuses(t, l, regs{}, mem, 9, api.ErrRange)
		}
		var r regs
		r[i] = 65535
		runIs(t, l, r, r[:], 9, api.Outcome{End: api.Done, Regs: r, Mem: r[:]})
	}
}

// P2.1: the last word of the largest memory is looked at.
func TestLastWordBounds(t *testing.T) {
	mem := make([]int, api.Memory)
	mem[api.Memory-1] = 65536
	refuses(t, nil, regs{}, mem, 0, api.ErrRange)
}

// P2.1: errors of the code come first, then that of the memory's size.
func TestErrorOrder(t *testing.T) {
	long := slices.Repeat([]int{-1}, api.Memory+1)
	refuses(t, []api.Instr{{Op: 16}}, regs{-1}, long, -1, api.ErrKind)
	refuses(t, []api.Instr{{Op: api.Ret, A: 1}}, regs{}, long, 9, api.ErrRange)
	refuses(t, make([]api.Instr, api.MaxCode+1), regs{-1}, []int{-1}, -1, api.ErrSize)
	refuses(t, nil, regs{}, long, 9, api.ErrSize)
	refuses(t, nil, regs{-1}, long, 9, api.ErrSize)
	refuses(t, nil, regs{}, long, -1, api.ErrSize)
	refuses(t, nil, regs{-1}, long[:api.Memory], -1, api.ErrRange)
}

// P2.2: each step consumes one unit, and nothing happens without one, neither an end of another kind.
func TestSpent(t *testing.T) {
	l := lines(t, "li r1 3\ntell r1\nst r1 r0\nhalt\n")
	mem := []int{0}
	for fuel, want := range []api.Outcome{
		{End: api.Spent, Mem: []int{0}},
		{End: api.Spent, Mem: []int{0}, Regs: regs{0, 3}},
		{End: api.Spent, Mem: []int{0}, Regs: regs{0, 3}, Told: []int{3}},
		{End: api.Spent, Mem: []int{3}, Regs: regs{0, 3}, Told: []int{3}},
		{End: api.Done, Mem: []int{3}, Regs: regs{0, 3}, Told: []int{3}},
		{End: api.Done, Mem: []int{3}, Regs: regs{0, 3}, Told: []int{3}},
	} {
		runIs(t, l, regs{}, mem, fuel, want)
	}
}

// P2.2: fuel is looked at before the index and before the instruction.
func TestSpentComesFirst(t *testing.T) {
	for _, c := range []struct {
		text string
		end  int
	}{
		{"", api.Fault}, {"halt\n", api.Done}, {"ret\n", api.Done}, {"ld r0 r1\n", api.Fault}, {"st r0 r1\n", api.Fault},
	} {
		runIs(t, lines(t, c.text), regs{}, nil, 0, api.Outcome{End: api.Spent})
		runIs(t, lines(t, c.text), regs{}, nil, 1, api.Outcome{End: c.end})
	}
	runIs(t, lines(t, "li r0 0\n"), regs{}, nil, 1, api.Outcome{End: api.Spent})
	runIs(t, lines(t, "li r0 0\n"), regs{}, nil, 2, api.Outcome{End: api.Fault})
	runIs(t, lines(t, "jmp 9\n"), regs{}, nil, 1, api.Outcome{End: api.Spent})
	runIs(t, lines(t, "call 0\n"), regs{}, nil, api.MaxDeep, api.Outcome{End: api.Spent})
	runIs(t, lines(t, "call 0\n"), regs{}, nil, api.MaxDeep+1, api.Outcome{End: api.Deep})
}

// P2.2: a loop without an end uses all fuel there is.
func TestSpentInLoop(t *testing.T) {
	l := lines(t, "add r1 r1 r2\njmp 0\n")
	runIs(t, l, regs{2: 1}, nil, api.MaxFuel, api.Outcome{End: api.Spent, Regs: regs{1: api.MaxFuel / 2, 2: 1}})
	runIs(t, l, regs{2: 1}, nil, 7, api.Outcome{End: api.Spent, Regs: regs{1: 4, 2: 1}})
}

// P2.2: an index after the end of the code, however it came to be.
func TestFaultOfIndex(t *testing.T) {
	for _, text := range []string{"", "li r0 0\n", "jmp 1\n", "jmp 2\n", "jmp 199\n", "jz r0 1\n", "jz r0 199\n", "call 1\n", "call 199\n", "call 2\nret\n", "jmp 2\nret\ncall 1\n"} {
		runIs(t, lines(t, text), regs{}, nil, 99, api.Outcome{End: api.Fault})
	}
	full := slices.Repeat([]api.Instr{{Op: api.Li}}, api.MaxCode)
	runIs(t, full, regs{}, nil, api.MaxFuel, api.Outcome{End: api.Fault})
	full[api.MaxCode-1] = api.Instr{Op: api.Halt}
	runIs(t, full, regs{}, nil, api.MaxFuel, api.Outcome{End: api.Done})
}

// P2.2: words before and after the end of the memory; what a failing access would change stays.
func TestFaultOfAddress(t *testing.T) {
	load, store := lines(t, "ld r0 r1\nhalt\n"), lines(t, "st r0 r1\nhalt\n")
	for _, size := range []int{0, 1, 3, api.Memory} {
		mem := make([]int, size)
		for _, at := range []int{size, size + 1, 1024, 65535} {
			runIs(t, load, regs{6, at}, mem, 9, api.Outcome{End: api.Fault, Regs: regs{6, at}, Mem: mem})
			runIs(t, store, regs{6, at}, mem, 9, api.Outcome{End: api.Fault, Regs: regs{6, at}, Mem: mem})
		}
		if size == 0 {
			continue
		}
		last := size - 1
		written := slices.Clone(mem)
		written[last] = 6
		runIs(t, load, regs{6, last}, written, 9, api.Outcome{End: api.Done, Regs: regs{6, last}, Mem: written})
		runIs(t, load, regs{8, last}, written, 9, api.Outcome{End: api.Done, Regs: regs{6, last}, Mem: written})
		runIs(t, store, regs{6, last}, mem, 9, api.Outcome{End: api.Done, Regs: regs{6, last}, Mem: written})
	}
}

// P2.2: what happened before an execution ended by a fault stays.
func TestFaultKeepsEffects(t *testing.T) {
	l := lines(t, "st r1 r0\ntell r1\nld r2 r1\nhalt\n")
	runIs(t, l, regs{1: 9}, []int{1, 2}, 9, api.Outcome{End: api.Fault, Regs: regs{1: 9}, Told: []int{9}, Mem: []int{9, 2}})
}

// A chain of so many calls, each of which calls the next one, and the last of which halts.
func chain(calls int) []api.Instr {
	var l []api.Instr
	for i := range calls {
		l = append(l, api.Instr{Op: api.Call, C: i + 1})
	}
	return append(l, api.Instr{Op: api.Halt})
}

// P2.2: as many calls as may be, and one more.
func TestDeep(t *testing.T) {
	runIs(t, chain(api.MaxDeep-1), regs{}, nil, 99, api.Outcome{End: api.Done})
	runIs(t, chain(api.MaxDeep), regs{}, nil, 99, api.Outcome{End: api.Done})
	runIs(t, chain(api.MaxDeep+1), regs{}, nil, 99, api.Outcome{End: api.Deep})
	l := lines(t, "add r1 r1 r2\ntell r1\ncall 0\n")
	var told []int
	for i := range api.MaxDeep + 1 {
		told = append(told, i+1)
	}
	runIs(t, l, regs{2: 1}, nil, 999, api.Outcome{End: api.Deep, Regs: regs{1: api.MaxDeep + 1, 2: 1}, Told: told})
}

// P2.2: calls that have returned do not count.
func TestDeepCountsOpenCalls(t *testing.T) {
	l := lines(t, "call 4\nsub r1 r1 r2\njz r1 5\njmp 0\nret\nhalt\n")
	runIs(t, l, regs{1: 50, 2: 1}, nil, 999, api.Outcome{End: api.Done, Regs: regs{2: 1}})
	// 15 calls that stay open, then two in a row beside each other, then one within another.
	l = chain(api.MaxDeep - 1)[:api.MaxDeep-1]
	l = append(l, lines(t, "call 18\ncall 18\ncall 19\nret\ncall 18\n")...)
	runIs(t, l, regs{}, nil, 99, api.Outcome{End: api.Deep})
	l[17] = api.Instr{Op: api.Halt}
	runIs(t, l, regs{}, nil, 99, api.Outcome{End: api.Done})
}

// P2.2: Halt at any depth, Ret only if nothing is left to return from.
func TestDone(t *testing.T) {
	runIs(t, lines(t, "halt\nli r1 1\n"), regs{}, nil, 9, api.Outcome{End: api.Done})
	runIs(t, lines(t, "ret\nli r1 1\n"), regs{}, nil, 9, api.Outcome{End: api.Done})
	runIs(t, lines(t, "call 2\nli r1 1\nhalt\n"), regs{}, nil, 9, api.Outcome{End: api.Done})
	runIs(t, lines(t, "call 3\nli r1 1\nret\nret\n"), regs{}, nil, 9, api.Outcome{End: api.Done, Regs: regs{1: 1}})
	// Both calls go to the Ret that ends the run at last.
	runIs(t, lines(t, "call 3\ncall 3\nadd r1 r1 r2\nret\n"), regs{2: 1}, nil, 9, api.Outcome{End: api.Done, Regs: regs{1: 1, 2: 1}})
}

// P2.2: as many words as may be, and one more.
func TestLong(t *testing.T) {
	tells := slices.Repeat([]api.Instr{{Op: api.Tell, A: 3}}, api.MaxTold+1)
	told := slices.Repeat([]int{8}, api.MaxTold)
	r := regs{3: 8}
	runIs(t, tells, r, nil, 999, api.Outcome{End: api.Long, Regs: r, Told: told})
	runIs(t, tells, r, nil, api.MaxTold, api.Outcome{End: api.Spent, Regs: r, Told: told})
	tells[api.MaxTold] = api.Instr{Op: api.Halt}
	runIs(t, tells, r, nil, 999, api.Outcome{End: api.Done, Regs: r, Told: told})
	var counted []int
	for i := range api.MaxTold {
		counted = append(counted, i)
	}
	runIs(t, lines(t, "tell r1\nadd r1 r1 r2\njmp 0\n"), regs{2: 1}, nil, 999, api.Outcome{
		End: api.Long, Regs: regs{1: api.MaxTold, 2: 1}, Told: counted})
}

// P2.3: what each computation makes of two words.
func TestComputations(t *testing.T) {
	for _, c := range []struct{ op, b, c, want int }{
		{api.Add, 2, 3, 5}, {api.Add, 65535, 0, 65535}, {api.Add, 65535, 1, 0}, {api.Add, 65535, 65535, 65534}, {api.Add, 32768, 32768, 0}, {api.Add, 32767, 1, 32768},
		{api.Sub, 5, 3, 2}, {api.Sub, 3, 5, 65534}, {api.Sub, 0, 1, 65535}, {api.Sub, 0, 65535, 1}, {api.Sub, 65535, 65535, 0}, {api.Sub, 65535, 0, 65535}, {api.Sub, 32767, 32768, 65535},
		{api.And, 12, 10, 8}, {api.And, 65535, 43690, 43690}, {api.And, 21845, 43690, 0},
		{api.Or, 12, 10, 14}, {api.Or, 21845, 43690, 65535}, {api.Or, 0, 0, 0},
		{api.Xor, 12, 10, 6}, {api.Xor, 65535, 43690, 21845}, {api.Xor, 9, 9, 0},
		{api.Lt, 2, 3, 1}, {api.Lt, 3, 2, 0}, {api.Lt, 3, 3, 0}, {api.Lt, 0, 65535, 1}, {api.Lt, 65535, 0, 0}, {api.Lt, 32767, 32768, 1}, {api.Lt, 32768, 32767, 0},
	} {
		l := []api.Instr{{Op: c.op, A: 7, B: 3, C: 5}, {Op: api.Halt}}
		r := regs{3: c.b, 5: c.c, 7: 77}
		want := r
		want[7] = c.want
		runIs(t, l, r, nil, 9, api.Outcome{End: api.Done, Regs: want})
	}
}

// P2.3: a register that is both read and written is read first.
func TestRegisterInTwoPlaces(t *testing.T) {
	for _, c := range []struct {
		text string
		want int
	}{
		{"add r1 r1 r2\n", 16}, {"add r2 r1 r2\n", 16}, {"add r1 r1 r1\n", 20}, {"sub r1 r1 r2\n", 4}, {"sub r2 r1 r2\n", 4}, {"sub r1 r1 r1\n", 0},
		{"and r1 r1 r2\n", 2}, {"or r2 r1 r2\n", 14}, {"xor r2 r2 r1\n", 12}, {"lt r1 r2 r1\n", 1}, {"lt r2 r1 r2\n", 0}, {"ld r2 r2\n", 106},
	} {
		l := lines(t, c.text)
		r := regs{1: 10, 2: 6}
		mem := []int{0, 1, 2, 3, 4, 5, 106}
		want := r
		want[l[0].A] = c.want
		runIs(t, append(l, api.Instr{Op: api.Halt}), r, mem, 9, api.Outcome{End: api.Done, Regs: want, Mem: mem})
	}
	runIs(t, lines(t, "st r2 r2\nhalt\n"), regs{2: 1}, []int{8, 9}, 9, api.Outcome{End: api.Done, Regs: regs{2: 1}, Mem: []int{8, 1}})
}

// P2.3: Li takes any word, into any register.
func TestLi(t *testing.T) {
	for a := range api.Regs {
		for _, v := range []int{0, 1, 8, 200, 65535} {
			var want regs
			want[a] = v
			l := []api.Instr{{Op: api.Li, A: a, C: v}, {Op: api.Halt}}
			runIs(t, l, regs{}, nil, 9, api.Outcome{End: api.Done, Regs: want})
		}
	}
}

// P2.3: Ld and St take the address of B, and move between A and the memory.
func TestLoadAndStore(t *testing.T) {
	mem := []int{10, 11, 12, 13}
	runIs(t, lines(t, "ld r1 r2\nhalt\n"), regs{0, 1, 3}, mem, 9, api.Outcome{End: api.Done, Regs: regs{0, 13, 3}, Mem: mem})
	runIs(t, lines(t, "st r1 r2\nhalt\n"), regs{0, 1, 3}, mem, 9, api.Outcome{End: api.Done, Regs: regs{0, 1, 3}, Mem: []int{10, 11, 12, 1}})
	runIs(t, lines(t, "ld r7 r0\nst r7 r1\nhalt\n"), regs{2, 0}, mem, 9, api.Outcome{End: api.Done, Regs: regs{2, 0, 7: 12}, Mem: []int{12, 11, 12, 13}})
}

// P2.3: Jmp always, Jz only on 0; backwards, forwards and onto itself.
func TestJumps(t *testing.T) {
	runIs(t, lines(t, "jmp 2\nli r1 1\nli r2 2\nhalt\n"), regs{}, nil, 9, api.Outcome{End: api.Done, Regs: regs{2: 2}})
	l := lines(t, "jz r3 2\nli r1 1\nli r2 2\nhalt\n")
	runIs(t, l, regs{}, nil, 9, api.Outcome{End: api.Done, Regs: regs{2: 2}})
	for _, v := range []int{1, 32768, 65535} {
		runIs(t, l, regs{3: v}, nil, 9, api.Outcome{End: api.Done, Regs: regs{1: 1, 2: 2, 3: v}})
	}
	runIs(t, lines(t, "jmp 0\n"), regs{}, nil, 5, api.Outcome{End: api.Spent})
	runIs(t, lines(t, "li r1 3\ntell r1\nli r2 1\nsub r1 r1 r2\njz r1 6\njmp 1\nhalt\n"), regs{}, nil, 99, api.Outcome{
		End: api.Done, Regs: regs{2: 1}, Told: []int{3, 2, 1}})
}

// P2.3: a Ret goes on after the Call that it belongs to, the last one first.
func TestCallsAndReturns(t *testing.T) {
	l := lines(t, "tell r0\ncall 5\ntell r1\ncall 8\nhalt\ntell r2\ncall 8\ntell r3\ntell r4\nret\n")
	runIs(t, l, regs{0, 1, 2, 3, 4}, nil, 99, api.Outcome{
		End: api.Done, Regs: regs{0, 1, 2, 3, 4}, Told: []int{0, 2, 4, 3, 4, 1, 4}})
}

// General rules: arguments, with the unused capacity behind them, stay as they are.
func TestArgumentsStay(t *testing.T) {
	l := lines(t, "st r1 r0\ntell r1\ncall 3\nhalt\nret\n")
	mem := []int{1, 2, 3}
	r := regs{1: 9}
	keptCode, keptMem := slices.Clone(l), slices.Clone(mem)
	cpu.Run(l[:4], r, mem[:2], 99)
	cpu.Run(l, r, mem, 99)
	if !slices.Equal(l, keptCode) || !slices.Equal(mem, keptMem) || r != (regs{1: 9}) {
		t.Errorf("arguments became %v, %v, %v", l, mem, r)
	}
}

// General rules: the memory of an outcome is new, even if nothing was stored, and so are the words that were output.
func TestResultsAreNew(t *testing.T) {
	l := lines(t, "tell r1\nhalt\n")
	mem := []int{1, 2, 3}
	want := api.Outcome{End: api.Done, Regs: regs{1: 9}, Told: []int{9}, Mem: []int{1, 2}}
	for range 2 {
		got, e := cpu.Run(l, regs{1: 9}, mem[:2], 99)
		if !same(got, want) || e != api.OK {
			t.Errorf("Run = %v, %v, want %v", got, e, want)
		}
		clear(got.Mem[:cap(got.Mem)])
		if !slices.Equal(got.Told, want.Told) {
			t.Errorf("words that were output share memory with the result's memory")
		}
		clear(got.Told[:cap(got.Told)])
	}
	if !slices.Equal(mem, []int{1, 2, 3}) {
		t.Errorf("memory became %v", mem)
	}
}

// decode makes valid code of any bytes, four for an instruction.
func decode(b []byte) []api.Instr {
	var l []api.Instr
	for ; len(b) >= 4 && len(l) < api.MaxCode; b = b[4:] {
		in := api.Instr{Op: 1 + int(b[0])%15, A: int(b[1]) % 8, B: int(b[2]) % 8, C: int(b[3]) % 8}
		switch in.Op {
		case api.Li:
			in.B, in.C = 0, int(b[2])<<8|int(b[3])
		case api.Ld, api.St:
			in.C = 0
		case api.Jz:
			in.B, in.C = 0, int(b[3])%api.MaxCode
		case api.Jmp, api.Call:
			in.A, in.B, in.C = 0, 0, int(b[3])%api.MaxCode
		case api.Tell:
			in.B, in.C = 0, 0
		case api.Ret, api.Halt:
			in.A, in.B, in.C = 0, 0, 0
		}
		l = append(l, in)
	}
	return l
}

func words(l []int) bool {
	return !slices.ContainsFunc(l, func(v int) bool { return v < 0 || v > 65535 })
}

// FuzzRun: any code ends in one of the ways, all that it leaves are words, and less fuel only cuts the run short.
func FuzzRun(f *testing.F) {
	f.Add([]byte{0, 1, 0, 9, 14, 0, 0, 0}, 5)
	f.Add([]byte{1, 1, 1, 2, 13, 1, 0, 0, 9, 0, 0, 0}, 900)
	f.Add([]byte{11, 0, 0, 0}, 100)
	f.Fuzz(func(t *testing.T, b []byte, fuel int) {
		l := decode(b)
		fuel = max(0, min(fuel, api.MaxFuel))
		r, mem := regs{1, 2, 3, 65535, 4, 5, 6, 7}, make([]int, 8)
		got, e := cpu.Run(l, r, mem, fuel)
		if e != api.OK || got.End < api.Done || got.End > api.Long {
			t.Fatalf("Run(%v) = %v, %v", l, got, e)
		}
		if len(got.Mem) != len(mem) || len(got.Told) > api.MaxTold || !words(got.Regs[:]) || !words(got.Mem) || !words(got.Told) {
			t.Errorf("Run(%v) leaves %v", l, got)
		}
		less, e := cpu.Run(l, r, mem, fuel/2)
		if e != api.OK || !same(less, got) && (less.End != api.Spent || len(less.Told) > len(got.Told) || !slices.Equal(less.Told, got.Told[:len(less.Told)])) {
			t.Errorf("Run(%v) with half the fuel = %v, %v, with all of it %v", l, less, e, got)
		}
	})
}
