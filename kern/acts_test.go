package kern_test

import (
	"slices"
	"strings"
	"testing"

	"curfew/api"
	"curfew/kern"
)

// P5.3: unknown kinds, with fields that are as they should or not.
func TestDoUnknownKinds(t *testing.T) {
	for _, kind := range []int{0, -1, 12, 13, 256, farDown, farUp} {
		for _, a := range []api.Act{{Kind: kind}, {Kind: kind, P: -1, N: 99, M: -5, Name: "?", Data: "?"}} {
			k, answer, e := kern.Do(rich(), a)
			if e != api.ErrKind || !none(k) || answer != (api.Answer{}) {
				t.Errorf("Do(%+v) = %+v, %v", a, answer, e)
			}
		}
	}
}

// P5.3: known kinds with fields that are all wrong: the error is in the answer, and the kernel comes back as it was.
func TestDoWrongFields(t *testing.T) {
	wants := map[int]api.Errno{
		api.Install: api.ErrShort, api.Create: api.ErrForm, api.Attach: api.ErrForm, api.Unlink: api.ErrNone,
		api.Open: api.ErrNone, api.Close: api.ErrNone, api.Read: api.ErrNone, api.Write: api.ErrNone,
		api.Pipe: api.ErrNone, api.Fork: api.ErrNone, api.Exit: api.ErrNone,
	}
	for kind := api.Install; kind <= api.Exit; kind++ {
		for _, far := range []int{-1, 4, 6, 8, 1000, farDown, farUp} {
			w := &world{t: t, k: rich()}
			w.fails(api.Act{Kind: kind, P: far, N: far, M: far, Name: "?", Data: "?"}, wants[kind])
		}
	}
}

// P5.4: a module is appended, and its region is its data and zeros; no other word is changed.
func TestInstall(t *testing.T) {
	full := make([]int, 64)
	for i := range full {
		full[i] = 65535 - i
	}
	w := newWorld(t)
	for i := range w.k.Mem {
		w.k.Mem[i] = 7
	}
	for i, data := range [][]int{{1, 2, 3}, nil, full, {65535}, {0, 0, 9}, full[:63], {5}, full} {
		before := w.k
		m := halting(string(rune('a'+i)), data...)
		m.Code = slices.Repeat(m.Code, i+1)
		w.numbered(install(t, m), i)
		w.is(before, func(k *api.Kernel) {
			k.Modules = append(k.Modules, m)
			for j := range 64 {
				k.Mem[64*i+j] = 0
				if j < len(data) {
					k.Mem[64*i+j] = data[j]
				}
			}
		})
	}
	w.fails(install(t, halting("more")), api.ErrFull)
	w.fails(install(t, halting("h")), api.ErrTwice)
}

// P5.4: the errors of module.Decode come first, also where the name is there already or no room is left.
func TestInstallErrors(t *testing.T) {
	w := newWorld(t, install(t, halting("a")))
	bad := func() {
		t.Helper()
		s := encoded(t, halting("a", 1))
		w.fails(api.Act{Kind: api.Install, Data: strings.Repeat("x", 4001)}, api.ErrSize)
		w.fails(api.Act{Kind: api.Install}, api.ErrShort)
		w.fails(api.Act{Kind: api.Install, Data: s[:3]}, api.ErrShort)
		w.fails(api.Act{Kind: api.Install, Data: s + "x"}, api.ErrSum)
		w.fails(api.Act{Kind: api.Install, Data: "\x00\x00\x00\x01"}, api.ErrShort)
		w.fails(api.Act{Kind: api.Install, Data: "\x00\x03\x00\x01\x00\x00\x00"}, api.ErrForm)
		w.fails(install(t, halting("a", 1)), api.ErrTwice)
	}
	bad()
	for _, name := range []string{"b", "c", "d", "e", "f", "g", "h"} {
		w.done(install(t, halting(name)))
	}
	bad()
	w.fails(install(t, halting("i")), api.ErrFull)
}

// P5.4: code that is not trusted is not installed.
func TestInstallUntrusted(t *testing.T) {
	// The encoding of the module a with the code `st r0 r1`, `ret`, and its checksum.
	body := "\x01a\x02\x09\x01\x00\x00\x0d\x00\x00\x00\x00"
	w := newWorld(t)
	w.fails(api.Act{Kind: api.Install, Data: sealed(body)}, api.ErrSafe)
	w.numbered(api.Act{Kind: api.Install, Data: sealed(strings.Replace(body, "\x09\x01", "\x09\x04", 1))}, 0)
}

// P5.4: names of modules and of files are apart; other fields of the act do not matter.
func TestInstallBesideFiles(t *testing.T) {
	w := newWorld(t, create("one"), create("two"))
	a := install(t, halting("one"))
	a.P, a.N, a.M, a.Name = -1, -1, -1, "one"
	w.numbered(a, 0)
	w.numbered(create("a"), 2)
	w.numbered(install(t, halting("a")), 1)
}

// P5.4: files and devices in the first empty slots.
func TestCreateAndAttach(t *testing.T) {
	w := newWorld(t, install(t, halting("m")), install(t, halting("n")))
	before := w.k
	a := create("a")
	a.P, a.N, a.M, a.Data = 9, 1, 7, "ignored"
	w.numbered(a, 0)
	w.numbered(attach("abcdef", 1), 1)
	w.numbered(attach("b", 0), 2)
	w.numbered(create("m"), 3)
	w.is(before, func(k *api.Kernel) {
		k.Nodes[0] = api.Node{Name: "a", Kind: api.Plain}
		k.Nodes[1] = api.Node{Name: "abcdef", Kind: api.Device, Unit: 1}
		k.Nodes[2] = api.Node{Name: "b", Kind: api.Device}
		k.Nodes[3] = api.Node{Name: "m", Kind: api.Plain}
	})
	w.done(unlink("abcdef"))
	w.done(unlink("a"))
	w.numbered(create("x"), 0)
	w.numbered(attach("y", 0), 1)
	w.numbered(create("z"), 4)
}

// P5.4: the errors of Create and Attach, in their order.
func TestCreateErrors(t *testing.T) {
	w := newWorld(t, install(t, halting("m")), create("f"), attach("d", 0))
	bad := func() {
		t.Helper()
		for _, name := range []string{"", "F", "abcdefg", "a b", "a\n", "é", "f1", " f", strings.Repeat("a", 100000)} {
			w.fails(create(name), api.ErrForm)
			w.fails(attach(name, 0), api.ErrForm)
			w.fails(attach(name, 1), api.ErrForm)
		}
		for _, name := range []string{"f", "d"} {
			w.fails(create(name), api.ErrTwice)
			w.fails(attach(name, 0), api.ErrTwice)
			w.fails(attach(name, 1), api.ErrTwice)
		}
		for _, unit := range []int{-1, 1, 8, farDown, farUp} {
			w.fails(attach("new", unit), api.ErrNone)
		}
	}
	bad()
	for i, name := range []string{"a", "b", "c", "e", "g", "h"} {
		w.numbered(create(name), i+2)
	}
	bad()
	w.fails(create("new"), api.ErrFull)
	w.fails(attach("new", 0), api.ErrFull)
}

// P5.4: a file that is not open is gone with its name; others are not touched.
func TestUnlink(t *testing.T) {
	w := newWorld(t, install(t, halting("m")), create("a"), create("b"), attach("c", 0), open(0, "a"), write(0, 0, "text"), shut(0, 0))
	before := w.k
	a := unlink("a")
	a.P, a.N = -1, -1
	w.numbered(a, 0)
	w.is(before, func(k *api.Kernel) { k.Nodes[0] = api.Node{} })
	w.numbered(unlink("c"), 0)
	w.is(before, func(k *api.Kernel) { k.Nodes[0], k.Nodes[2] = api.Node{}, api.Node{} })
	w.fails(unlink("a"), api.ErrNone)
	w.fails(unlink("m"), api.ErrNone)
	for _, name := range []string{"", "B", "bb", "toolong", "b "} {
		w.fails(unlink(name), api.ErrNone)
	}
}

// P5.4 and P5.5: a file that is open stays, without a name, until its last descriptor is gone.
func TestUnlinkOpen(t *testing.T) {
	w := newWorld(t, create("a"), open(0, "a"), write(0, 0, "text"), fork(0), open(1, "a"))
	before := w.k
	w.numbered(unlink("a"), 0)
	w.is(before, func(k *api.Kernel) { k.Nodes[0].Name = "" })
	w.fails(unlink("a"), api.ErrNone)
	w.fails(unlink(""), api.ErrNone)
	w.fails(open(0, "a"), api.ErrNone)
	w.fails(open(0, ""), api.ErrForm)
	w.numbered(create("a"), 1)
	w.done(shut(0, 0))
	w.reads(read(1, 1, 9), "text")
	w.done(shut(1, 1))
	w.numbered(create("b"), 2)
	w.done(write(1, 0, "!"))
	before = w.k
	w.done(shut(1, 0))
	w.is(before, func(k *api.Kernel) { k.Nodes[0], k.Procs[1].Ends[0] = api.Node{}, api.End{} })
	w.numbered(create("c"), 0)
}

// P5.4: a device without a name that is open.
func TestUnlinkOpenDevice(t *testing.T) {
	w := newWorld(t, install(t, halting("m")), install(t, halting("n")), attach("d", 1), open(0, "d"), unlink("d"))
	if w.k.Nodes[0] != (api.Node{Kind: api.Device, Unit: 1}) {
		t.Errorf("the device is %+v", w.k.Nodes[0])
	}
	w.reads(read(0, 0, 1), "\x00")
	w.done(exit(0))
	if w.k.Nodes[0] != (api.Node{}) {
		t.Errorf("the device is %+v", w.k.Nodes[0])
	}
}

// P5.5: acts of processes that do not exist or are not live, even where other errors apply.
func TestNoSuchProcess(t *testing.T) {
	w := newWorld(t, create("f"), open(0, "f"), fork(0), fork(0), exit(1))
	for _, p := range []int{1, 3, 4, 5, -1, farDown, farUp} {
		for _, a := range []api.Act{
			open(p, "f"), open(p, "?"), open(p, "none"), shut(p, 0), shut(p, -1), read(p, 0, 1), read(p, 0, 0), read(p, 1, 1),
			write(p, 0, "x"), write(p, 0, ""), pipe(p), fork(p), exit(p),
		} {
			w.fails(a, api.ErrNone)
		}
	}
	w.done(exit(0))
	w.numbered(fork(2), 0)
	for _, p := range []int{0, 2} {
		w.done(exit(p))
		w.fails(exit(p), api.ErrNone)
	}
	for p := range 4 {
		w.fails(fork(p), api.ErrNone)
	}
}

// P5.5: the first Free descriptor, of this process, at the start of the file.
func TestOpen(t *testing.T) {
	w := newWorld(t, create("a"), create("b"), fork(0), open(0, "a"), write(0, 0, "text"))
	before := w.k
	a := open(0, "b")
	a.N, a.M, a.Data = 5, 7, "ignored"
	w.numbered(a, 1)
	w.numbered(open(0, "a"), 2)
	w.numbered(open(1, "b"), 0)
	w.is(before, func(k *api.Kernel) {
		k.Procs[0].Ends[1] = api.End{Kind: api.OfFile, Node: 1}
		k.Procs[0].Ends[2] = api.End{Kind: api.OfFile, Node: 0}
		k.Procs[1].Ends[0] = api.End{Kind: api.OfFile, Node: 1}
	})
	w.done(shut(0, 1))
	w.numbered(pipe(0), 1)
	w.done(shut(0, 0))
	w.numbered(open(0, "b"), 0)
	w.numbered(open(0, "b"), 4)
	w.numbered(open(0, "b"), 5)
}

// P5.5: the errors of Open, in their order.
func TestOpenErrors(t *testing.T) {
	w := newWorld(t, install(t, halting("m")), create("f"), create("g"))
	bad := func() {
		t.Helper()
		for _, name := range []string{"", "F", "abcdefg", "f ", "1"} {
			w.fails(open(0, name), api.ErrForm)
		}
		for _, name := range []string{"m", "ff", "none"} {
			w.fails(open(0, name), api.ErrNone)
		}
	}
	bad()
	for i := range 6 {
		w.numbered(open(0, "f"), i)
	}
	bad()
	w.fails(open(0, "f"), api.ErrFull)
	w.fails(open(0, "g"), api.ErrFull)
}

// P5.5 and P5.7: the descriptor that is closed becomes Free, and only this one.
func TestClose(t *testing.T) {
	w := newWorld(t, create("f"), open(0, "f"), open(0, "f"), write(0, 1, "abc"), fork(0))
	before := w.k
	w.numbered(shut(0, 1), 0)
	w.is(before, func(k *api.Kernel) { k.Procs[0].Ends[1] = api.End{} })
	for _, n := range []int{1, 2, 5, 6, 7, -1, farDown, farUp} {
		w.fails(shut(0, n), api.ErrNone)
		w.fails(read(0, n, 1), api.ErrNone)
		w.fails(read(0, n, 0), api.ErrNone)
		w.fails(write(0, n, "x"), api.ErrNone)
		w.fails(write(0, n, ""), api.ErrNone)
	}
	w.numbered(shut(1, 1), 0)
	w.numbered(shut(1, 0), 0)
	w.numbered(shut(0, 0), 0)
	if w.k.Nodes[0] != (api.Node{Name: "f", Kind: api.Plain, Data: "abc"}) {
		t.Errorf("the file is %+v", w.k.Nodes[0])
	}
}

// P5.5: all descriptors of a process become Free, and what only they reached is gone.
func TestExit(t *testing.T) {
	w := newWorld(t, create("a"), create("b"), create("c"), open(0, "a"), open(0, "b"), fork(0), pipe(1), open(1, "c"))
	for _, a := range []api.Act{write(1, 1, "lost"), write(1, 0, "kept"), write(1, 4, "gone"), write(1, 3, "bytes"), unlink("b"), unlink("c")} {
		w.done(a)
	}
	before := w.k
	w.numbered(exit(1), 0)
	w.is(before, func(k *api.Kernel) {
		k.Procs[1] = api.Proc{Ends: make([]api.End, 6)}
		k.Nodes[2], k.Pipes[0] = api.Node{}, ""
	})
	w.reads(read(0, 1, 9), "lost")
	before = w.k
	w.numbered(exit(0), 0)
	w.is(before, func(k *api.Kernel) {
		k.Procs[0] = api.Proc{Ends: make([]api.End, 6)}
		k.Nodes[1] = api.Node{}
	})
}

// P5.5: a pipe loses its contents with its last Reader, not with another one, and not with a Writer.
func TestPipeLosesContents(t *testing.T) {
	w := newWorld(t, pipe(0), write(0, 1, "abc"), fork(0), pipe(0), write(0, 3, "other"))
	w.done(shut(0, 0))
	w.done(shut(0, 1))
	w.done(shut(1, 1))
	if w.k.Pipes[0] != "abc" {
		t.Errorf("the pipe contains %q", w.k.Pipes[0])
	}
	w.done(fork(1))
	w.done(exit(1))
	if w.k.Pipes[0] != "abc" {
		t.Errorf("the pipe contains %q", w.k.Pipes[0])
	}
	before := w.k
	w.done(shut(2, 0))
	w.is(before, func(k *api.Kernel) { k.Pipes[0], k.Procs[2].Ends[0] = "", api.End{} })
	w.numbered(pipe(2), 0)
	w.fails(read(2, 0, 1), api.ErrWait)
}

// P5.5: contents are also lost while there is a Writer still.
func TestPipeLosesContentsBeforeWriter(t *testing.T) {
	w := newWorld(t, pipe(0), write(0, 1, "abc"), shut(0, 0))
	if w.k.Pipes[0] != "" {
		t.Errorf("the pipe contains %q", w.k.Pipes[0])
	}
	w.fails(write(0, 1, "x"), api.ErrEnd)
}

// P5.6: the first two Free descriptors, side by side or not, for the first pipe that nobody has.
func TestPipe(t *testing.T) {
	w := newWorld(t, create("f"))
	for range 6 {
		w.done(open(0, "f"))
	}
	w.done(shut(0, 1))
	w.done(shut(0, 4))
	before := w.k
	a := pipe(0)
	a.N, a.M, a.Name, a.Data = 3, 3, "x", "x"
	w.numbered(a, 1)
	w.is(before, func(k *api.Kernel) {
		k.Procs[0].Ends[1] = api.End{Kind: api.Reader}
		k.Procs[0].Ends[4] = api.End{Kind: api.Writer}
	})
	w.done(shut(0, 0))
	w.done(shut(0, 5))
	before = w.k
	w.numbered(pipe(0), 0)
	w.is(before, func(k *api.Kernel) {
		k.Procs[0].Ends[0] = api.End{Kind: api.Reader, Node: 1}
		k.Procs[0].Ends[5] = api.End{Kind: api.Writer, Node: 1}
	})
}

// P5.6: a pipe of which a Reader or a Writer is left is not taken.
func TestPipeInUse(t *testing.T) {
	w := newWorld(t, pipe(0), pipe(0), pipe(0), shut(0, 0), shut(0, 3))
	w.numbered(pipe(0), 0)
	if got := w.k.Procs[0].Ends[3]; got != (api.End{Kind: api.Writer, Node: 3}) {
		t.Errorf("the Writer is %+v", got)
	}
	w.done(shut(0, 1))
	w.done(shut(0, 0))
	w.numbered(pipe(0), 0)
	if got := w.k.Procs[0].Ends[1]; got != (api.End{Kind: api.Writer, Node: 0}) {
		t.Errorf("the Writer is %+v", got)
	}
}

// P5.6: too few descriptors, or no pipe.
func TestPipeFull(t *testing.T) {
	w := newWorld(t, pipe(0), pipe(0), pipe(0), fork(0))
	w.fails(pipe(0), api.ErrFull)
	w.done(shut(0, 2))
	w.fails(pipe(0), api.ErrFull)
	w.done(shut(0, 5))
	w.numbered(pipe(0), 2)
	w = newWorld(t, fork(0), pipe(0), pipe(0), pipe(0), pipe(1), pipe(1), fork(1))
	w.numbered(pipe(1), 4)
	w.fails(pipe(2), api.ErrFull)
	w.done(shut(0, 3))
	w.fails(pipe(2), api.ErrFull)
	w.done(shut(0, 2))
	w.numbered(pipe(2), 4)
	if got := w.k.Procs[2].Ends[4]; got != (api.End{Kind: api.Reader, Node: 1}) {
		t.Errorf("the Reader is %+v", got)
	}
}

// P5.6: the first process that is not live gets copies of all descriptors, which go on alone.
func TestFork(t *testing.T) {
	w := newWorld(t, create("f"), open(0, "f"), write(0, 0, "0123456789"), open(0, "f"), pipe(0), read(0, 1, 4))
	before := w.k
	a := fork(0)
	a.N, a.M, a.Name, a.Data = 3, 3, "x", "x"
	w.numbered(a, 1)
	w.is(before, func(k *api.Kernel) { k.Procs[1] = api.Proc{Live: true, Ends: slices.Clone(k.Procs[0].Ends)} })
	w.reads(read(1, 1, 3), "456")
	w.reads(read(0, 1, 2), "45")
	w.done(shut(1, 0))
	w.numbered(fork(1), 2)
	w.numbered(fork(0), 3)
	w.fails(fork(0), api.ErrFull)
	w.fails(fork(3), api.ErrFull)
	w.reads(read(2, 1, 9), "789")
	w.reads(read(3, 1, 1), "6")
	w.fails(read(2, 0, 1), api.ErrNone)
	w.done(exit(1))
	w.done(exit(0))
	w.numbered(fork(3), 0)
	w.reads(read(0, 1, 9), "789")
	w.numbered(fork(0), 1)
	w.fails(fork(2), api.ErrFull)
}
