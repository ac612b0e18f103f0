package kern_test

import (
	"strconv"
	"strings"
	"testing"

	"curfew/api"
)

// P5.7: up to M bytes from At on, which is advanced by as many as there were.
func TestReadFile(t *testing.T) {
	w := newWorld(t, create("f"), open(0, "f"), write(0, 0, "hello, \x00\xff"), open(0, "f"))
	before := w.k
	w.reads(read(0, 1, 1), "h")
	w.reads(read(0, 1, 4), "ello")
	w.is(before, func(k *api.Kernel) { k.Procs[0].Ends[1].At = 5 })
	w.reads(read(0, 1, 100), ", \x00\xff")
	w.is(before, func(k *api.Kernel) { k.Procs[0].Ends[1].At = 9 })
	w.fails(read(0, 1, 1), api.ErrEnd)
	w.fails(read(0, 0, 100), api.ErrEnd)
	w.done(write(0, 0, "more"))
	w.reads(read(0, 1, 4), "more")
	w.fails(read(0, 1, 4), api.ErrEnd)
}

// P5.7: a file without bytes, a full one, and one that ends before At.
func TestReadFileEnds(t *testing.T) {
	w := newWorld(t, create("f"), open(0, "f"), open(0, "f"))
	w.fails(read(0, 0, 1), api.ErrEnd)
	w.k.Procs[0].Ends[0].At = 100
	w.fails(read(0, 0, 100), api.ErrEnd)
	w.k.Nodes[0].Data = strings.Repeat("0123456789", 10)
	w.fails(read(0, 0, 100), api.ErrEnd)
	w.reads(read(0, 1, 99), w.k.Nodes[0].Data[:99])
	w.reads(read(0, 1, 100), "9")
	w.fails(read(0, 1, 1), api.ErrEnd)
	w.k.Procs[0].Ends[1].At = 0
	w.reads(read(0, 1, 100), w.k.Nodes[0].Data)
}

// P5.7: how many bytes may be asked for, of anything, even where nothing can be read.
func TestReadSize(t *testing.T) {
	w := newWorld(t, install(t, api.Module{Name: "m", Code: made(t, "jmp 0\n")}), attach("d", 0), create("f"), open(0, "d"), open(0, "f"), pipe(0))
	for _, m := range []int{0, -1, 101, farDown, farUp} {
		for n := range 3 {
			w.fails(read(0, n, m), api.ErrRange)
		}
		w.fails(read(0, 3, m), api.ErrKind)
		w.fails(read(0, 4, m), api.ErrNone)
	}
	for _, m := range []int{1, 100} {
		w.fails(read(0, 0, m), api.ErrFault)
		w.fails(read(0, 1, m), api.ErrEnd)
		w.fails(read(0, 2, m), api.ErrWait)
		w.fails(read(0, 3, m), api.ErrKind)
	}
}

// P5.7: bytes leave a pipe in the order in which they came.
func TestReadPipe(t *testing.T) {
	w := newWorld(t, pipe(0), write(0, 1, "hi"))
	w.reads(read(0, 0, 9), "hi")
	w.fails(read(0, 0, 9), api.ErrWait)
	w.done(write(0, 1, "abc"))
	w.done(write(0, 1, "def"))
	before := w.k
	w.reads(read(0, 0, 2), "ab")
	w.is(before, func(k *api.Kernel) { k.Pipes[0] = "cdef" })
	w.done(write(0, 1, "\x00\xff"))
	w.reads(read(0, 0, 3), "cde")
	w.reads(read(0, 0, 3), "f\x00\xff")
	w.fails(read(0, 0, 1), api.ErrWait)
}

// P5.7: whether an empty pipe is at its end depends on the Writers of all processes.
func TestReadPipeEnd(t *testing.T) {
	w := newWorld(t, pipe(0), pipe(0), write(0, 1, "xyz"), fork(0), shut(0, 1))
	w.reads(read(0, 0, 1), "x")
	w.done(shut(1, 1))
	w.reads(read(0, 0, 1), "y")
	w.reads(read(1, 0, 100), "z")
	w.fails(read(0, 0, 1), api.ErrEnd)
	w.fails(read(1, 0, 1), api.ErrEnd)
	w.fails(read(0, 2, 1), api.ErrWait)
	w.done(shut(0, 3))
	w.fails(read(0, 2, 1), api.ErrWait)
	w.done(exit(1))
	w.fails(read(0, 2, 1), api.ErrEnd)
}

// P5.7 and P5.8: the other end of a pipe does not do.
func TestWrongEnd(t *testing.T) {
	w := newWorld(t, pipe(0), write(0, 1, "abc"))
	w.fails(read(0, 1, 1), api.ErrKind)
	w.fails(write(0, 0, "x"), api.ErrKind)
	w.fails(write(0, 0, ""), api.ErrKind)
	w.fails(write(0, 0, strings.Repeat("x", 101)), api.ErrKind)
}

// P5.8: how many bytes may be written, to anything, even where nothing can be written.
func TestWriteSize(t *testing.T) {
	w := newWorld(t, install(t, api.Module{Name: "m", Code: made(t, "jmp 0\n")}), attach("d", 0), create("f"), open(0, "d"), open(0, "f"), pipe(0), shut(0, 2))
	w.k.Procs[0].Ends[1].At = 100
	for _, size := range []int{0, 101, 102, 4000, 1 << 20} {
		for _, n := range []int{0, 1, 3} {
			w.fails(write(0, n, strings.Repeat("x", size)), api.ErrRange)
		}
		w.fails(write(0, 2, strings.Repeat("x", size)), api.ErrNone)
	}
	for _, size := range []int{1, 100} {
		w.fails(write(0, 0, strings.Repeat("x", size)), api.ErrFault)
		w.fails(write(0, 1, strings.Repeat("x", size)), api.ErrFull)
		w.fails(write(0, 3, strings.Repeat("x", size)), api.ErrEnd)
	}
}

// P5.8: bytes replace those that are there, from At on, and go beyond the end.
func TestWriteFile(t *testing.T) {
	w := newWorld(t, create("f"), open(0, "f"), open(0, "f"))
	before := w.k
	a := write(0, 0, "hello")
	a.M = -1
	w.numbered(a, 5)
	w.is(before, func(k *api.Kernel) { k.Nodes[0].Data, k.Procs[0].Ends[0].At = "hello", 5 })
	w.numbered(write(0, 1, "J"), 1)
	w.is(before, func(k *api.Kernel) {
		k.Nodes[0].Data, k.Procs[0].Ends[0].At, k.Procs[0].Ends[1].At = "Jello", 5, 1
	})
	w.numbered(write(0, 0, "\x00\xff"), 2)
	w.numbered(write(0, 1, "ump"), 3)
	w.is(before, func(k *api.Kernel) {
		k.Nodes[0].Data, k.Procs[0].Ends[0].At, k.Procs[0].Ends[1].At = "Jumpo\x00\xff", 7, 4
	})
	w.reads(read(0, 1, 2), "o\x00")
	w.numbered(write(0, 1, "123"), 3)
	w.is(before, func(k *api.Kernel) {
		k.Nodes[0].Data, k.Procs[0].Ends[0].At, k.Procs[0].Ends[1].At = "Jumpo\x00123", 7, 9
	})
}

// P5.8: bytes between the end of the file and At become 0.
func TestWriteFileGap(t *testing.T) {
	for _, at := range []int{1, 5, 6, 50, 99} {
		w := newWorld(t, create("f"), open(0, "f"), write(0, 0, "12345"), open(0, "f"))
		w.k.Procs[0].Ends[1].At = at
		w.numbered(write(0, 1, "x"), 1)
		want := []byte("12345" + strings.Repeat("\x00", 95))
		want[at] = 'x'
		if got := w.k.Nodes[0].Data; got != string(want[:max(5, at+1)]) {
			t.Errorf("at %d: the file is %q", at, got)
		}
		if got := w.k.Procs[0].Ends[1].At; got != at+1 {
			t.Errorf("at %d: then at %d", at, got)
		}
	}
}

// P5.8: as many bytes as MaxData permits.
func TestWriteFileFull(t *testing.T) {
	long := strings.Repeat("0123456789", 10)
	w := newWorld(t, create("f"), open(0, "f"), open(0, "f"), create("g"), open(0, "g"))
	w.numbered(write(0, 0, long[:60]), 60)
	w.numbered(write(0, 0, long), 40)
	before := w.k
	w.fails(write(0, 0, "x"), api.ErrFull)
	w.fails(read(0, 0, 1), api.ErrEnd)
	w.numbered(write(0, 1, long), 100)
	w.is(before, func(k *api.Kernel) { k.Nodes[0].Data, k.Procs[0].Ends[1].At = long, 100 })
	w.fails(write(0, 1, long), api.ErrFull)
	w.numbered(write(0, 2, long), 100)
	w.k.Procs[0].Ends[2].At = 98
	w.numbered(write(0, 2, "abc"), 2)
	if got := w.k.Nodes[1].Data; got != long[:98]+"ab" {
		t.Errorf("the file is %q", got)
	}
}

// P5.8: as many bytes as fit into a pipe.
func TestWritePipe(t *testing.T) {
	long := strings.Repeat("0123456789", 10)
	w := newWorld(t, pipe(0), pipe(0))
	before := w.k
	w.numbered(write(0, 1, "ab"), 2)
	w.numbered(write(0, 1, "c"), 1)
	w.is(before, func(k *api.Kernel) { k.Pipes[0] = "abc" })
	w.numbered(write(0, 1, long), 17)
	w.is(before, func(k *api.Kernel) { k.Pipes[0] = "abc" + long[:17] })
	w.fails(write(0, 1, "x"), api.ErrWait)
	w.fails(write(0, 1, long), api.ErrWait)
	w.numbered(write(0, 3, long[:20]), 20)
	w.reads(read(0, 0, 1), "a")
	w.numbered(write(0, 1, "xy"), 1)
	w.reads(read(0, 0, 100), "bc"+long[:17]+"x")
	w.numbered(write(0, 1, long[:21]), 20)
}

// P5.8: a pipe without a Reader, in no process.
func TestWritePipeEnd(t *testing.T) {
	w := newWorld(t, pipe(0), pipe(0), fork(0), shut(0, 0), write(0, 1, strings.Repeat("x", 20)))
	w.fails(write(0, 1, "x"), api.ErrWait)
	w.done(exit(1))
	w.fails(write(0, 1, "x"), api.ErrEnd)
	w.numbered(write(0, 3, "x"), 1)
	w.done(shut(0, 2))
	w.fails(write(0, 3, "x"), api.ErrEnd)
}

// device returns a world in which process 0 has the descriptor 0 of a device, whose module is the one of this number, with this code and data.
func device(t *testing.T, number int, l []api.Instr, data ...int) *world {
	t.Helper()
	w := newWorld(t)
	for i := range number {
		w.done(install(t, halting(string(rune('a'+i)), 11, 12, 13)))
	}
	w.numbered(install(t, api.Module{Name: "dev", Code: l, Data: data}), number)
	w.done(attach("dev", number))
	w.done(open(0, "dev"))
	return w
}

// P5.7: one byte is read, whatever M is, and At is not advanced: a device has none.
func TestReadDevice(t *testing.T) {
	w := device(t, 0, made(t, "ld r0 r1\nadd r0 r0 r2\nret\n"), 65)
	before := w.k
	for _, m := range []int{1, 2, 9, 100} {
		w.reads(read(0, 0, m), "A")
	}
	w.is(before, func(*api.Kernel) {})
}

// P5.7: the result is taken modulo 256; the bytes need not be letters.
func TestReadDeviceModulo(t *testing.T) {
	for _, v := range []int{0, 1, 127, 128, 195, 255, 256, 257, 321, 511, 512, 65535} {
		w := device(t, 0, made(t, "li r0 "+strconv.Itoa(v)+"\nhalt\n"))
		w.reads(read(0, 0, 1), string([]byte{byte(v % 256)}))
	}
}

// P5.7 and P5.8: the word for which a module is asked is 256 for Read, and the byte for Write.
func TestWordsAsked(t *testing.T) {
	// Keeps the word in the word 1 of its region, and the number of words in the word 0.
	l := made(t, "li r1 1\nst r0 r1\nli r2 0\nld r3 r2\nadd r3 r3 r1\nst r3 r2\nhalt\n")
	w := device(t, 2, l)
	before := w.k
	w.reads(read(0, 0, 7), "\x00")
	w.is(before, func(k *api.Kernel) { k.Mem[128], k.Mem[129] = 1, 256 })
	for i, b := range []byte{0, 1, 'a', 127, 128, 255} {
		w.numbered(write(0, 0, string([]byte{b})), 1)
		w.is(before, func(k *api.Kernel) { k.Mem[128], k.Mem[129] = i+2, int(b) })
	}
	w.numbered(write(0, 0, strings.Repeat("é", 50)), 100)
	w.is(before, func(k *api.Kernel) { k.Mem[128], k.Mem[129] = 107, 0xa9 })
}

// P5.9: a module keeps words from one time to the next, in its own region.
func TestDeviceKeepsWords(t *testing.T) {
	// Returns the last byte that was written.
	l := made(t, "li r1 256\nlt r2 r0 r1\nli r3 63\njz r2 6\nst r0 r3\nret\nld r0 r3\nret\n")
	for _, number := range []int{0, 3, 7} {
		w := device(t, number, l)
		before := w.k
		w.reads(read(0, 0, 1), "\x00")
		w.numbered(write(0, 0, "xyz"), 3)
		w.is(before, func(k *api.Kernel) { k.Mem[64*number+63] = 'z' })
		w.reads(read(0, 0, 1), "z")
		w.done(fork(0))
		w.numbered(write(1, 0, "\xfe"), 1)
		w.reads(read(0, 0, 1), "\xfe")
	}
}

// P5.9: registers are as safe.Enter says each time: nothing is left of the last time.
func TestDeviceRegisters(t *testing.T) {
	for _, r := range []string{"r1", "r2", "r3", "r7"} {
		w := device(t, 1, lines(t, "add r0 "+r+" "+r+"\nli "+r+" 50\nret\n"))
		w.reads(read(0, 0, 1), "\x00")
		w.reads(read(0, 0, 1), "\x00")
	}
	for r, want := range map[string]int{"r4": 192, "r5": 192, "r6": 63} {
		w := device(t, 3, lines(t, "and r0 "+r+" "+r+"\nret\n"))
		w.reads(read(0, 0, 1), string([]byte{byte(want)}))
	}
}

// P5.8: a module is asked until it fails; the time it fails leaves the memory as it was.
func TestWriteDeviceFails(t *testing.T) {
	// Keeps the byte, and then never ends if it is an x.
	w := device(t, 1, made(t, "li r3 0\nst r0 r3\nli r1 120\nxor r1 r0 r1\njz r1 6\nret\njmp 6\n"), 33)
	before := w.k
	w.fails(write(0, 0, "x"), api.ErrFault)
	w.fails(write(0, 0, "xabc"), api.ErrFault)
	w.numbered(write(0, 0, "abc"), 3)
	w.is(before, func(k *api.Kernel) { k.Mem[64] = 'c' })
	w.numbered(write(0, 0, "dexf"), 2)
	w.is(before, func(k *api.Kernel) { k.Mem[64] = 'e' })
	w.numbered(write(0, 0, "gx"), 1)
	w.is(before, func(k *api.Kernel) { k.Mem[64] = 'g' })
	w.numbered(write(0, 0, strings.Repeat("h", 99)+"x"), 99)
}

// P5.9: every end but Done is a failure, and the memory stays as it was.
func TestDeviceEnds(t *testing.T) {
	keep := "li r1 7\nst r1 r2\n"
	for what, s := range map[string]string{
		"spent":           keep + "jmp 0\n",
		"deep":            keep + "call 2\nret\n",
		"seventeen calls": keep + nested(17),
		"long":            keep + "tell r1\njmp 2\n",
		"one word more":   keep + strings.Repeat("tell r1\n", 101) + "ret\n",
	} {
		w := device(t, 2, made(t, s), 3, 4)
		before := w.k
		w.fails(read(0, 0, 1), api.ErrFault)
		w.fails(write(0, 0, "abc"), api.ErrFault)
		w.is(before, func(*api.Kernel) {})
		if got := w.k.Mem[128]; got != 3 {
			t.Errorf("%s: the word is %d", what, got)
		}
	}
	for what, s := range map[string]string{
		"halt":            keep + "halt\n",
		"ret":             keep + "ret\n",
		"call":            keep + "call 3\nret\n",
		"sixteen calls":   keep + nested(16),
		"a hundred words": keep + strings.Repeat("tell r1\n", 100) + "ret\n",
	} {
		w := device(t, 2, made(t, s), 3, 4)
		before := w.k
		w.reads(read(0, 0, 1), "\x00")
		w.is(before, func(k *api.Kernel) { k.Mem[128] = 7 })
		if w.k.Mem[128] != 7 {
			t.Errorf("%s: the word is %d", what, w.k.Mem[128])
		}
	}
}

// nested code, for the place 2, makes so many calls, one inside the other, and then halts.
func nested(calls int) string {
	var b strings.Builder
	for i := range calls {
		b.WriteString("call " + strconv.Itoa(3+i) + "\n")
	}
	return b.String() + "halt\n"
}

// P5.9: a module has 2000 steps, for each byte anew, and not one more.
func TestDeviceFuel(t *testing.T) {
	// 3 * 666 + 2 steps.
	exact := "li r1 666\nli r2 1\nsub r1 r1 r2\njz r1 5\njmp 2\nhalt\n"
	w := device(t, 0, lines(t, exact))
	w.reads(read(0, 0, 1), "\x00")
	w.numbered(write(0, 0, strings.Repeat("x", 100)), 100)
	more := "li r1 666\nli r2 1\nsub r1 r1 r2\njz r1 5\njmp 2\nli r2 1\nhalt\n"
	w = device(t, 0, lines(t, more))
	w.fails(read(0, 0, 1), api.ErrFault)
	w.fails(write(0, 0, "x"), api.ErrFault)
}

// P5.9: two modules and their devices do not see each other's words; two devices of one module share them.
func TestDevicesApart(t *testing.T) {
	// Returns the sum of all bytes that were written.
	sum := made(t, "li r1 256\nld r2 r3\nlt r7 r0 r1\njz r7 6\nadd r2 r2 r0\nst r2 r3\nadd r0 r2 r3\nret\n")
	w := newWorld(t, install(t, api.Module{Name: "a", Code: sum}), install(t, api.Module{Name: "b", Code: sum, Data: []int{'a'}}))
	for _, a := range []api.Act{attach("a", 0), attach("b", 1), attach("c", 0), open(0, "a"), open(0, "b"), open(0, "c")} {
		w.done(a)
	}
	w.numbered(write(0, 0, "\x02\x03"), 2)
	w.numbered(write(0, 1, "\x01"), 1)
	w.numbered(write(0, 2, "0"), 1)
	w.reads(read(0, 0, 1), "5")
	w.reads(read(0, 1, 1), "b")
	w.reads(read(0, 2, 1), "5")
}
