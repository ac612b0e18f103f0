package kern_test

import (
	"slices"
	"strings"
	"testing"

	"curfew/api"
	"curfew/kern"
	"curfew/module"
)

func runIs(t *testing.T, acts []api.Act, want ...api.Answer) api.Kernel {
	t.Helper()
	got, k, e := kern.Run(acts)
	if !slices.Equal(got, want) || e != api.OK {
		t.Errorf("Run = %+v, %v, want %+v", got, e, want)
	}
	return k
}

// P5.9: answers one by one, with errors of Do as their Code, after which the kernel goes on as it was.
func TestRun(t *testing.T) {
	k := runIs(t, []api.Act{
		create("f"), {Kind: 99}, open(0, "f"), {}, write(0, 0, "hi"), create("f"), open(0, "f"), {Kind: -1, P: 7}, read(0, 1, 9), read(0, 1, 9),
	},
		api.Answer{}, api.Answer{Code: api.ErrKind}, api.Answer{}, api.Answer{Code: api.ErrKind}, api.Answer{N: 2}, api.Answer{Code: api.ErrTwice},
		api.Answer{N: 1}, api.Answer{Code: api.ErrKind}, api.Answer{N: 2, Data: "hi"}, api.Answer{Code: api.ErrEnd})
	want := kern.New()
	want.Nodes[0] = api.Node{Name: "f", Kind: api.Plain, Data: "hi"}
	want.Procs[0].Ends[0] = api.End{Kind: api.OfFile, At: 2}
	want.Procs[0].Ends[1] = api.End{Kind: api.OfFile, At: 2}
	if !same(k, want) {
		t.Errorf("the kernel is not as it should be:%s", differences(k, want))
	}
}

// The example of the chapter, and the one of the whole system.
func TestExamples(t *testing.T) {
	runIs(t, []api.Act{pipe(0), write(0, 1, "hi"), read(0, 0, 9)}, api.Answer{}, api.Answer{N: 2}, api.Answer{N: 2, Data: "hi"})
	one := api.Module{Name: "one", Code: made(t, "ld r0 r1\nadd r0 r0 r2\nret\n"), Data: []int{'1'}}
	runIs(t, []api.Act{install(t, one), attach("one", 0), open(0, "one"), read(0, 0, 9)},
		api.Answer{}, api.Answer{}, api.Answer{}, api.Answer{N: 1, Data: "1"})
}

// P5.9: without acts, the kernel is a new one, each time.
func TestRunNothing(t *testing.T) {
	for _, acts := range [][]api.Act{nil, {}, {{}}} {
		got, k, e := kern.Run(acts)
		if len(got) != len(acts) || !same(k, kern.New()) || e != api.OK {
			t.Errorf("Run(%v) = %v, %v", acts, got, e)
		}
		spoil(k)
	}
}

// P5.9: the number of acts.
func TestRunSize(t *testing.T) {
	for _, size := range []int{199, 200} {
		got, k, e := kern.Run(slices.Repeat([]api.Act{fork(0)}, size))
		if len(got) != size || got[2] != (api.Answer{N: 3}) || got[size-1] != (api.Answer{Code: api.ErrFull}) || !k.Procs[3].Live || e != api.OK {
			t.Errorf("Run of %d acts = %v, %v", size, got, e)
		}
	}
	for _, size := range []int{201, 202, 5000} {
		for _, a := range []api.Act{fork(0), {Kind: 99}} {
			got, k, e := kern.Run(slices.Repeat([]api.Act{a}, size))
			if len(got) != 0 || !none(k) || e != api.ErrSize {
				t.Errorf("Run of %d acts = %v, %v", size, got, e)
			}
		}
	}
}

// General rules: no list of a result shares memory with another one or with an argument.
func TestDoMemory(t *testing.T) {
	acts := []api.Act{
		install(t, halting("more", 1, 2)), create("more"), attach("more", 0), unlink("full"), unlink("none"), open(0, "full"), shut(3, 0), read(0, 4, 9),
		read(0, 2, 9), read(3, 5, 9), write(0, 4, "abcdef"), write(0, 3, "abcdef"), write(3, 5, "abcdef"), write(0, 5, "abcdef"), pipe(2), fork(0), exit(0), exit(3), {Kind: api.Open, P: 9},
	}
	for _, a := range acts {
		given := twin(rich())
		first, firstAnswer, _ := kern.Do(given, a)
		want := twin(first)
		second, secondAnswer, _ := kern.Do(given, a)
		if !same(second, want) || firstAnswer != secondAnswer {
			t.Errorf("Do(%+v) has two results", a)
		}
		spoil(first)
		if !same(second, want) || !same(whole(given), whole(twin(rich()))) {
			t.Errorf("Do(%+v): a result shares memory with another one or with the argument", a)
		}
		spoil(given)
		if !same(second, want) {
			t.Errorf("Do(%+v) retains its argument", a)
		}
		apart(t, second)
	}
}

// apart: no two lists of a kernel share memory, so that each one, when it is overwritten, leaves all others as they are.
func apart(t *testing.T, k api.Kernel) {
	t.Helper()
	want := twin(k)
	for i := range k.Procs {
		fill(k.Procs[i].Ends, api.End{Kind: 90 + i})
	}
	for i := range k.Modules {
		fill(k.Modules[i].Data, 90+i)
		fill(k.Modules[i].Code, api.Instr{Op: 90 + i})
	}
	for i, p := range k.Procs {
		if slices.ContainsFunc(p.Ends, func(e api.End) bool { return e.Kind != 90+i }) {
			t.Errorf("process %d shares its descriptors", i)
		}
	}
	for i, m := range k.Modules {
		if slices.ContainsFunc(m.Data, func(v int) bool { return v != 90+i }) || slices.ContainsFunc(m.Code, func(in api.Instr) bool { return in.Op != 90+i }) {
			t.Errorf("module %d shares its code or data", i)
		}
	}
	if !slices.Equal(k.Mem, want.Mem) {
		t.Error("the memory shares words with a module")
	}
}

// General rules: bytes and names of acts and kernels are not kept, and those of an answer are its own.
func TestDoStrings(t *testing.T) {
	k := rich()
	for _, a := range []api.Act{
		create("more"), attach("more", 0), write(0, 4, "abcdef"), write(3, 4, "abcdef"), write(0, 5, "abcdef"),
		read(0, 4, 9), read(0, 2, 9), read(0, 2, 20), read(3, 2, 100), read(3, 1, 3), install(t, halting("more")),
	} {
		a.Name, a.Data = strings.Clone(a.Name), strings.Clone(a.Data)
		next, answer, e := kern.Do(k, a)
		if e != api.OK {
			t.Fatalf("Do(%+v): %v", a, e)
		}
		arguments := append(stringsOf(k), a.Name, a.Data)
		if shared(stringsOf(next), arguments) || shared([]string{answer.Data}, append(stringsOf(next), arguments...)) {
			t.Errorf("Do(%+v) shares strings", a)
		}
	}
	// What is written to an empty pipe or file, or replaces a file as a whole, comes from the act alone.
	data := strings.Repeat("0123456789", 10)
	k.Pipes[0], k.Pipes[2], k.Nodes[2].Data, k.Procs[0].Ends[0].At, k.Procs[0].Ends[4].At = "", "", "", 0, 0
	for n, data := range map[int]string{3: data[:7], 0: data[:9], 4: data} {
		next, answer, e := kern.Do(k, write(0, n, data))
		if shared(stringsOf(next), []string{data}) || answer.N != len(data) || e != api.OK {
			t.Errorf("descriptor %d: %+v, %v, or the kernel shares strings with the act", n, answer, e)
		}
	}
}

// numbers returns a function that draws numbers below n, the same ones in each run of the tests.
func numbers(seed uint64) func(n int) int {
	return func(n int) int {
		seed = seed*6364136223846793005 + 1442695040888963407
		return int((seed >> 33) % uint64(n))
	}
}

// trusted draws code that can be trusted but has no other sense.
func trusted(draw func(n int) int) []api.Instr {
	size := 2 + draw(20)
	var l []api.Instr
	free := []int{0, 1, 2, 3, 7}
	for len(l) < size-1 {
		x, y, z := free[draw(5)], draw(8), draw(8)
		switch draw(10) {
		case 0, 1:
			l = append(l, api.Instr{Op: api.And, A: api.At, B: y, C: api.Left}, api.Instr{Op: api.Or, A: api.At, B: api.At, C: api.Base}, api.Instr{Op: api.St, A: z, B: api.At})
		case 2:
			l = append(l, api.Instr{Op: api.St, A: y, B: api.At})
		case 3:
			l = append(l, api.Instr{Op: api.Ld, A: x, B: api.At})
		case 4:
			l = append(l, api.Instr{Op: api.Li, A: x, C: draw(65536)})
		case 5:
			l = append(l, api.Instr{Op: api.Jz, A: y, C: draw(size)})
		case 6:
			l = append(l, api.Instr{Op: []int{api.Jmp, api.Call}[draw(2)], C: draw(size)})
		case 7:
			l = append(l, api.Instr{Op: api.Tell, A: y})
		default:
			l = append(l, api.Instr{Op: api.Add + draw(6), A: x, B: y, C: z})
		}
	}
	return append(l, api.Instr{Op: []int{api.Ret, api.Halt, api.Jmp}[draw(3)]})
}

// The chapter's purpose: whatever modules do, nothing but the words of the module's region changes.
func TestModulesAreIsolated(t *testing.T) {
	draw := numbers(5)
	asked, changedWords := 0, 0
	for range 400 {
		w := &world{t: t, k: rich()}
		unit := draw(3)
		l := trusted(draw)
		if module.Check(api.Module{Name: "m", Code: l}) != api.OK {
			t.Fatalf("not trusted: %v", l)
		}
		w.k.Modules[unit].Code = l
		w.k.Nodes[1].Unit = unit
		for range 5 {
			before := w.k
			a := read(3, 5, 1)
			if draw(2) == 0 {
				a = write(3, 5, string([]byte{byte(draw(256)), byte(draw(256))}))
			}
			if w.do(a).Code == api.OK {
				asked++
			}
			now := w.k.Mem[64*unit : 64*unit+64]
			if !slices.Equal(now, before.Mem[64*unit:64*unit+64]) {
				changedWords++
			}
			w.is(before, func(k *api.Kernel) { copy(k.Mem[64*unit:], now) })
		}
	}
	if asked < 300 || changedWords < 100 {
		t.Errorf("%d acts without an error, %d with other words: too few to tell", asked, changedWords)
	}
}

// someAct draws an act, most often one that can be done.
func someAct(draw func(n int) int, modules []string) api.Act {
	names := []string{"a", "b", "c", "d", "e", "f", "g", "h", "i", "", "A"}
	a := api.Act{Kind: 1 + draw(11), P: draw(4), N: draw(6), M: 1 + draw(30), Name: names[draw(len(names))]}
	if draw(3) == 0 {
		a.P = 0
	}
	switch draw(20) {
	case 0:
		a.P = draw(7) - 1
	case 1:
		a.N = draw(9) - 1
	case 2:
		a.M = draw(200) - 50
	case 3:
		a.Kind = draw(14) - 1
	}
	// Acts that end much are drawn less often, so that much is there.
	if (a.Kind == api.Exit || a.Kind == api.Unlink || a.Kind == api.Close) && draw(3) > 0 {
		a.Kind = api.Read + draw(2)
	}
	a.Data = strings.Repeat("0123456789x", 10)[:draw(111)]
	if a.Kind == api.Install {
		a.Data, a.N = modules[draw(len(modules))], 0
	}
	return a
}

// P5.3: whatever the acts are, the kernel stays valid, arguments stay as they are, and errors change nothing; Run does the same as Do again and again.
func TestManyActs(t *testing.T) {
	draw := numbers(6)
	modules := []string{"", "no module"}
	for i := range 10 {
		modules = append(modules, encoded(t, api.Module{Name: string(rune('a' + i)), Code: trusted(draw), Data: []int{i, 7}}))
	}
	codes := map[api.Errno]int{}
	kinds := map[int]int{}
	for range 60 {
		w := newWorld(t)
		var acts []api.Act
		var answers []api.Answer
		for range 200 {
			a := someAct(draw, modules)
			acts = append(acts, a)
			if a.Kind < api.Install || a.Kind > api.Exit {
				answers = append(answers, api.Answer{Code: api.ErrKind})
				continue
			}
			answer := w.do(a)
			answers = append(answers, answer)
			codes[answer.Code]++
			if answer.Code == api.OK {
				kinds[a.Kind]++
			}
		}
		if k := runIs(t, acts, answers...); !same(k, w.k) {
			t.Fatalf("Run of %+v differs from Do:%s", acts, differences(k, w.k))
		}
	}
	for kind := api.Install; kind <= api.Exit; kind++ {
		if kinds[kind] < 5 {
			t.Errorf("acts of the kind %d without an error: %d, too few to tell", kind, kinds[kind])
		}
	}
	for _, code := range []api.Errno{api.ErrShort, api.ErrTwice, api.ErrForm, api.ErrNone, api.ErrFull, api.ErrKind, api.ErrRange, api.ErrEnd, api.ErrWait, api.ErrFault} {
		if codes[code] < 5 {
			t.Errorf("acts with %v: %d, too few to tell", code, codes[code])
		}
	}
}

// FuzzDo: the same of acts that any bytes describe.
func FuzzDo(f *testing.F) {
	f.Add([]byte("\x02\x00\x00\x01\x05\x00\x00\x01\x08\x00\x00\x01"), "a", "some data")
	f.Add([]byte("\x09\x00\x00\x00\x0a\x00\x00\x00\x08\x01\x01\x00\x07\x00\x00\x02"), "", "bytes")
	f.Fuzz(func(t *testing.T, b []byte, name, data string) {
		w := &world{t: t, k: rich()}
		for ; len(b) >= 4; b = b[4:] {
			kind := 1 + int(b[0])%11
			w.do(api.Act{Kind: kind, P: int(int8(b[1])), N: int(int8(b[2])), M: int(b[3]), Name: name, Data: data})
		}
	})
}
