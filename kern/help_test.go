package kern_test

import (
	"encoding/binary"
	"fmt"
	"hash/adler32"
	"slices"
	"strings"
	"testing"

	"curfew/api"
	"curfew/code"
	"curfew/kern"
	"curfew/module"
	"curfew/safe"
)

const (
	farDown = -1 << 63
	farUp   = 1<<63 - 1
)

func lines(t testing.TB, s string) []api.Instr {
	t.Helper()
	l, line, e := code.Read(s)
	if e != api.OK {
		t.Fatalf("Read(%q): line %d: %v", s, line, e)
	}
	return l
}

// made is trusted code that does what the plain code s does.
func made(t testing.TB, s string) []api.Instr {
	t.Helper()
	l, e := safe.Make(lines(t, s))
	if e != api.OK {
		t.Fatalf("Make(%q): %v", s, e)
	}
	return l
}

func encoded(t testing.TB, m api.Module) string {
	t.Helper()
	s, e := module.Encode(m)
	if e != api.OK {
		t.Fatalf("Encode(%v): %v", m, e)
	}
	return s
}

// halting is the smallest module of this name.
func halting(name string, data ...int) api.Module {
	return api.Module{Name: name, Code: []api.Instr{{Op: api.Halt}}, Data: data}
}

func sameModule(a, b api.Module) bool {
	return a.Name == b.Name && slices.Equal(a.Code, b.Code) && slices.Equal(a.Data, b.Data)
}

func sameProc(a, b api.Proc) bool {
	return a.Live == b.Live && slices.Equal(a.Ends, b.Ends)
}

func same(a, b api.Kernel) bool {
	return slices.EqualFunc(a.Modules, b.Modules, sameModule) &&
		slices.Equal(a.Mem, b.Mem) &&
		slices.Equal(a.Nodes, b.Nodes) &&
		slices.Equal(a.Pipes, b.Pipes) &&
		slices.EqualFunc(a.Procs, b.Procs, sameProc)
}

// differences of two kernels, for a reader.
func differences(got, want api.Kernel) string {
	var b strings.Builder
	for i := range min(len(got.Mem), len(want.Mem)) {
		if got.Mem[i] != want.Mem[i] {
			fmt.Fprintf(&b, " word %d is %d, want %d;", i, got.Mem[i], want.Mem[i])
		}
	}
	got.Mem, want.Mem = nil, nil
	fmt.Fprintf(&b, " %+v, want %+v", got, want)
	return b.String()
}

// none: the kernel that comes with an error.
func none(k api.Kernel) bool {
	return same(k, api.Kernel{})
}

// roomy is a copy of l with unused capacity behind it, filled with more.
func roomy[T any](l []T, more T) []T {
	return append(slices.Clone(l), more, more)[:len(l)]
}

// twin is a deep copy that does not rely on the program, all lists with unused capacity.
func twin(k api.Kernel) api.Kernel {
	k.Modules = roomy(k.Modules, halting("spare"))
	for i, m := range k.Modules {
		k.Modules[i].Code = roomy(m.Code, api.Instr{Op: api.Ret})
		k.Modules[i].Data = roomy(m.Data, 5)
	}
	k.Mem = roomy(k.Mem, 5)
	k.Nodes = roomy(k.Nodes, api.Node{Name: "spare"})
	k.Pipes = roomy(k.Pipes, "spare")
	k.Procs = roomy(k.Procs, api.Proc{Live: true})
	for i, p := range k.Procs {
		k.Procs[i].Ends = roomy(p.Ends, api.End{Kind: api.Writer})
	}
	return k
}

// whole shows what is in the unused capacity too.
func whole(k api.Kernel) api.Kernel {
	k.Modules = slices.Clone(k.Modules[:cap(k.Modules)])
	for i, m := range k.Modules {
		k.Modules[i].Code, k.Modules[i].Data = m.Code[:cap(m.Code)], m.Data[:cap(m.Data)]
	}
	k.Mem, k.Nodes, k.Pipes = k.Mem[:cap(k.Mem)], k.Nodes[:cap(k.Nodes)], k.Pipes[:cap(k.Pipes)]
	k.Procs = slices.Clone(k.Procs[:cap(k.Procs)])
	for i, p := range k.Procs {
		k.Procs[i].Ends = p.Ends[:cap(p.Ends)]
	}
	return k
}

// spoil overwrites all memory of the lists of a kernel.
func spoil(k api.Kernel) {
	for _, m := range k.Modules[:cap(k.Modules)] {
		fill(m.Code, api.Instr{Op: 99})
		fill(m.Data, -9)
	}
	for _, p := range k.Procs[:cap(k.Procs)] {
		fill(p.Ends, api.End{Kind: 99})
	}
	fill(k.Modules, api.Module{Name: "spoilt"})
	fill(k.Mem, -9)
	fill(k.Nodes, api.Node{Kind: 99})
	fill(k.Pipes, "spoilt")
	fill(k.Procs, api.Proc{})
}

func fill[T any](l []T, v T) {
	l = l[:cap(l)]
	for i := range l {
		l[i] = v
	}
}

// Acts, written short.

func install(t testing.TB, m api.Module) api.Act {
	t.Helper()
	return api.Act{Kind: api.Install, Data: encoded(t, m)}
}

func create(name string) api.Act { return api.Act{Kind: api.Create, Name: name} }

func attach(name string, unit int) api.Act { return api.Act{Kind: api.Attach, Name: name, N: unit} }

func unlink(name string) api.Act { return api.Act{Kind: api.Unlink, Name: name} }

func open(p int, name string) api.Act { return api.Act{Kind: api.Open, P: p, Name: name} }

func shut(p, n int) api.Act { return api.Act{Kind: api.Close, P: p, N: n} }

func read(p, n, m int) api.Act { return api.Act{Kind: api.Read, P: p, N: n, M: m} }

func write(p, n int, data string) api.Act { return api.Act{Kind: api.Write, P: p, N: n, Data: data} }

func pipe(p int) api.Act { return api.Act{Kind: api.Pipe, P: p} }

func fork(p int) api.Act { return api.Act{Kind: api.Fork, P: p} }

func exit(p int) api.Act { return api.Act{Kind: api.Exit, P: p} }

// world is a kernel in which acts are tried, one by one.
type world struct {
	t testing.TB
	k api.Kernel
}

func newWorld(t testing.TB, acts ...api.Act) *world {
	t.Helper()
	w := &world{t: t, k: kern.New()}
	for _, a := range acts {
		w.done(a)
	}
	return w
}

// do an act, for which the rules that hold for every act are checked: the argument stays as it is, the result is a valid kernel, and with an error as Code nothing is changed.
func (w *world) do(a api.Act) api.Answer {
	w.t.Helper()
	given := twin(w.k)
	next, answer, e := kern.Do(given, a)
	if e != api.OK {
		w.t.Fatalf("Do(%+v): error %v", a, e)
	}
	if !same(whole(given), whole(twin(w.k))) {
		w.t.Fatalf("Do(%+v) modifies its argument", a)
	}
	if e := kern.Check(next); e != api.OK {
		w.t.Fatalf("Do(%+v): the kernel is not valid: %v:%s", a, e, differences(next, w.k))
	}
	if answer.Code != api.OK && (answer != api.Answer{Code: answer.Code} || !same(next, w.k)) {
		w.t.Fatalf("Do(%+v) = %+v, with more than the error, or a change", a, answer)
	}
	w.k = next
	return answer
}

// gives: the act is answered in just this way.
func (w *world) gives(a api.Act, want api.Answer) {
	w.t.Helper()
	if got := w.do(a); got != want {
		w.t.Errorf("Do(%+v) = %+v, want %+v", a, got, want)
	}
}

// done: the act is without an error.
func (w *world) done(a api.Act) {
	w.t.Helper()
	if got := w.do(a); got.Code != api.OK {
		w.t.Fatalf("Do(%+v) = %+v", a, got)
	}
}

// numbered: the answer has this number and nothing else.
func (w *world) numbered(a api.Act, n int) {
	w.t.Helper()
	w.gives(a, api.Answer{N: n})
}

// reads: the answer has these bytes.
func (w *world) reads(a api.Act, data string) {
	w.t.Helper()
	w.gives(a, api.Answer{N: len(data), Data: data})
}

func (w *world) fails(a api.Act, want api.Errno) {
	w.t.Helper()
	w.gives(a, api.Answer{Code: want})
}

// is: after the changes to what the kernel was, it is just what it is now.
func (w *world) is(before api.Kernel, changes func(k *api.Kernel)) {
	w.t.Helper()
	want := twin(before)
	changes(&want)
	if !same(w.k, want) {
		w.t.Errorf("the kernel is not as it should be:%s", differences(w.k, want))
	}
}

// sealed puts the checksum of P4.3 before any bytes.
func sealed(body string) string {
	return string(binary.BigEndian.AppendUint32(nil, adler32.Checksum([]byte(body)))) + body
}
