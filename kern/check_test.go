package kern_test

import (
	"strings"
	"testing"
	"unsafe"

	"curfew/api"
	"curfew/kern"
)

// rich is a valid kernel in which everything occurs that may be, some of it by a hair.
func rich() api.Kernel {
	k := kern.New()
	k.Modules = []api.Module{halting("one", 1, 2, 3), halting("two"), halting("three", 65535)}
	for i := range k.Mem {
		k.Mem[i] = 65535 - i%3
	}
	k.Nodes = []api.Node{
		{Name: "full", Kind: api.Plain, Data: strings.Repeat("x", 100)},
		{Name: "dev", Kind: api.Device, Unit: 2},
		{Kind: api.Plain, Data: "nameless"},
		{},
		{Kind: api.Device, Unit: 0},
		{Name: "zzzzzz", Kind: api.Plain},
		{Name: "one", Kind: api.Device, Unit: 1},
		{},
	}
	k.Pipes = []string{strings.Repeat("p", 20), "", "read", "", "", "both"}
	k.Procs = []api.Proc{
		{Live: true, Ends: []api.End{{Kind: api.OfFile, Node: 2, At: 100}, {}, {Kind: api.Reader}, {Kind: api.Writer}, {Kind: api.OfFile, Node: 0, At: 50}, {Kind: api.Writer, Node: 1}}},
		{Ends: make([]api.End, 6)},
		{Live: true, Ends: make([]api.End, 6)},
		{Live: true, Ends: []api.End{{Kind: api.OfFile, Node: 4, At: 3}, {Kind: api.OfFile, Node: 2}, {Kind: api.Reader, Node: 2}, {Kind: api.Reader, Node: 5}, {Kind: api.Writer, Node: 5}, {Kind: api.OfFile, Node: 1}}},
	}
	return k
}

// checkIs: Check returns this error, and so does Do, whatever the act is.
func checkIs(t *testing.T, what string, k api.Kernel, want api.Errno) {
	t.Helper()
	given := twin(k)
	if got := kern.Check(given); got != want {
		t.Errorf("%s: Check = %v, want %v", what, got, want)
	}
	for _, a := range []api.Act{fork(0), {Kind: 99}} {
		wanted := want
		if want == api.OK && a.Kind == 99 {
			wanted = api.ErrKind
		}
		next, answer, e := kern.Do(given, a)
		if e != wanted || e != api.OK && (!none(next) || answer != api.Answer{}) {
			t.Errorf("%s: Do(%+v) = %+v, %v, want the error %v", what, a, answer, e, wanted)
		}
	}
	if !same(whole(given), whole(twin(k))) {
		t.Errorf("%s: the argument is modified", what)
	}
}

// changed is rich with a change.
func changed(change func(k *api.Kernel)) api.Kernel {
	k := rich()
	change(&k)
	return k
}

// P5.1: the numbers, written out a second time.
func TestNew(t *testing.T) {
	want := api.Kernel{Mem: make([]int, 1024), Nodes: make([]api.Node, 8), Pipes: make([]string, 6), Procs: make([]api.Proc, 4)}
	for i := range want.Procs {
		want.Procs[i] = api.Proc{Live: i == 0, Ends: make([]api.End, 6)}
	}
	for range 2 {
		k := kern.New()
		if !same(k, want) || len(k.Modules) != 0 {
			t.Errorf("New = %+v", k)
		}
		checkIs(t, "new", k, api.OK)
		spoil(k)
	}
}

// P5.1: the lists of a new kernel share no memory, nor does their unused capacity.
func TestNewListsApart(t *testing.T) {
	for i := range 4 {
		k := kern.New()
		fill(k.Procs[i].Ends, api.End{Kind: api.Reader})
		for j, p := range k.Procs {
			if i != j && p.Ends[0] != (api.End{}) {
				t.Errorf("the processes %d and %d share descriptors", i, j)
			}
		}
	}
}

// P5.2: kernels that are valid.
func TestCheckAccepts(t *testing.T) {
	checkIs(t, "rich", rich(), api.OK)
	for what, change := range map[string]func(k *api.Kernel){
		"eight modules": func(k *api.Kernel) {
			for _, name := range []string{"a", "b", "c", "d", "e"} {
				k.Modules = append(k.Modules, halting(name))
			}
		},
		"device of the last module": func(k *api.Kernel) { k.Nodes[3] = api.Node{Name: "new", Kind: api.Device, Unit: 2} },
		"words at their bounds":     func(k *api.Kernel) { k.Mem[0], k.Mem[1023] = 0, 65535 },
		"region unlike its data":    func(k *api.Kernel) { k.Mem[0] = 77 },
		"descriptor at its bounds":  func(k *api.Kernel) { k.Procs[0].Ends[0].At, k.Procs[0].Ends[4].At = 0, 100 },
		"descriptor of a device":    func(k *api.Kernel) { k.Procs[3].Ends[0].At = 100 },
		"last pipe":                 func(k *api.Kernel) { k.Procs[2].Ends[5] = api.End{Kind: api.Reader, Node: 5} },
		"last slot": func(k *api.Kernel) {
			k.Nodes[7] = api.Node{Kind: api.Plain}
			k.Procs[2].Ends[5] = api.End{Kind: api.OfFile, Node: 7}
		},
		"no live process": func(k *api.Kernel) { *k = kern.New(); k.Procs[0].Live = false },
		"bytes that are no letters": func(k *api.Kernel) {
			k.Nodes[0].Data, k.Pipes[0] = "\x00\xff\n", "\x00\xff\n"
		},
	} {
		checkIs(t, what, changed(change), api.OK)
	}
}

// P5.2: the numbers of elements.
func TestCheckSize(t *testing.T) {
	for what, change := range map[string]func(k *api.Kernel){
		"nothing": func(k *api.Kernel) { *k = api.Kernel{} },
		"nine modules": func(k *api.Kernel) {
			for _, name := range []string{"a", "b", "c", "d", "e", "f"} {
				k.Modules = append(k.Modules, halting(name))
			}
		},
		"no memory":     func(k *api.Kernel) { k.Mem = nil },
		"less memory":   func(k *api.Kernel) { k.Mem = k.Mem[:1023] },
		"more memory":   func(k *api.Kernel) { k.Mem = append(k.Mem, 0) },
		"no slots":      func(k *api.Kernel) { k.Nodes = nil },
		"seven slots":   func(k *api.Kernel) { k.Nodes = k.Nodes[:7] },
		"nine slots":    func(k *api.Kernel) { k.Nodes = append(k.Nodes, api.Node{}) },
		"no pipes":      func(k *api.Kernel) { k.Pipes = nil },
		"five pipes":    func(k *api.Kernel) { k.Pipes = k.Pipes[:5] },
		"seven pipes":   func(k *api.Kernel) { k.Pipes = append(k.Pipes, "") },
		"no processes":  func(k *api.Kernel) { k.Procs = nil },
		"three of them": func(k *api.Kernel) { k.Procs = k.Procs[:3] },
		"five of them":  func(k *api.Kernel) { k.Procs = append(k.Procs, api.Proc{Ends: make([]api.End, 6)}) },
	} {
		checkIs(t, what, changed(change), api.ErrSize)
	}
}

// P5.2: the errors of modules, in their order.
func TestCheckModules(t *testing.T) {
	badName := halting("A")
	badSize := halting("bad", make([]int, 65)...)
	badWord := halting("bad", -1)
	badCode := api.Module{Name: "bad", Code: lines(t, "ld r0 r1\nret\n")}
	for what, c := range map[string]struct {
		l    []api.Module
		want api.Errno
	}{
		"bad name":                  {[]api.Module{badName}, api.ErrForm},
		"too much data":             {[]api.Module{halting("a"), badSize}, api.ErrSize},
		"no word":                   {[]api.Module{halting("a"), halting("b"), badWord}, api.ErrRange},
		"code that is not trusted":  {[]api.Module{badCode, halting("b")}, api.ErrSafe},
		"unknown instruction":       {[]api.Module{{Name: "a", Code: make([]api.Instr, 1)}}, api.ErrKind},
		"twice":                     {[]api.Module{halting("a"), halting("a", 1)}, api.ErrTwice},
		"twice, not side by side":   {[]api.Module{halting("a"), halting("b"), halting("a")}, api.ErrTwice},
		"twice, then bad":           {[]api.Module{halting("a"), halting("a"), badName}, api.ErrTwice},
		"bad, then twice":           {[]api.Module{badWord, halting("a"), halting("a")}, api.ErrRange},
		"twice, the second one bad": {[]api.Module{halting("bad"), badCode}, api.ErrSafe},
		"bad and bad":               {[]api.Module{badCode, badName}, api.ErrSafe},
	} {
		k := kern.New()
		k.Modules = c.l
		checkIs(t, what, k, c.want)
	}
}

// P5.2: words of the memory.
func TestCheckWords(t *testing.T) {
	for _, i := range []int{0, 1, 500, 1023} {
		for _, v := range []int{-1, 65536, farDown, farUp} {
			checkIs(t, "word", changed(func(k *api.Kernel) { k.Mem[i] = v }), api.ErrRange)
		}
	}
}

// P5.2: file slots, in each of the slots.
func TestCheckFiles(t *testing.T) {
	for what, n := range map[string]api.Node{
		"name in an empty slot":       {Name: "new"},
		"data in an empty slot":       {Data: "x"},
		"unit in an empty slot":       {Unit: 1},
		"unknown kind":                {Name: "new", Kind: 3},
		"negative kind":               {Name: "new", Kind: -1},
		"far kind":                    {Name: "new", Kind: farUp},
		"plain with a unit":           {Name: "new", Kind: api.Plain, Unit: 1},
		"plain with a negative unit":  {Name: "new", Kind: api.Plain, Unit: -1},
		"plain with too much":         {Name: "new", Kind: api.Plain, Data: strings.Repeat("x", 101)},
		"device with data":            {Name: "new", Kind: api.Device, Data: "x"},
		"device of no module":         {Name: "new", Kind: api.Device, Unit: 3},
		"device of a negative module": {Name: "new", Kind: api.Device, Unit: -1},
		"device of a far module":      {Name: "new", Kind: api.Device, Unit: farUp},
		"capital":                     {Name: "New", Kind: api.Plain},
		"long name":                   {Name: "newfile", Kind: api.Plain},
		"device with a bad name":      {Name: "a b", Kind: api.Device},
		"nameless and not open":       {Kind: api.Plain},
		"nameless device":             {Kind: api.Device},
	} {
		for _, i := range []int{3, 5, 7} {
			checkIs(t, what, changed(func(k *api.Kernel) { k.Nodes[i] = n }), api.ErrState)
		}
	}
}

// P5.2: names of files that are not different, and files that are open or not.
func TestCheckNames(t *testing.T) {
	for what, change := range map[string]func(k *api.Kernel){
		"first and last":              func(k *api.Kernel) { k.Nodes[7] = k.Nodes[0] },
		"plain and device":            func(k *api.Kernel) { k.Nodes[5].Name = "dev" },
		"two open files":              func(k *api.Kernel) { k.Nodes[2].Name, k.Nodes[4].Name = "same", "same" },
		"open file with a bad name":   func(k *api.Kernel) { k.Nodes[2].Name = "no name" },
		"nameless, not open any more": func(k *api.Kernel) { k.Procs[3].Ends[0] = api.End{} },
		"a reader does not open":      func(k *api.Kernel) { k.Nodes[5].Name = ""; k.Procs[2].Ends[0] = api.End{Kind: api.Reader, Node: 5} },
		"nor does a writer":           func(k *api.Kernel) { k.Nodes[5].Name = ""; k.Procs[2].Ends[0] = api.End{Kind: api.Writer, Node: 5} },
		"nor a free one":              func(k *api.Kernel) { k.Nodes[0].Name = ""; k.Procs[0].Ends[4] = api.End{} },
	} {
		checkIs(t, what, changed(change), api.ErrState)
	}
}

// P5.2: descriptors, in live processes and in others.
func TestCheckEnds(t *testing.T) {
	for what, e := range map[string]api.End{
		"free of a file":           {Kind: api.Free, Node: 1},
		"free at a byte":           {Kind: api.Free, At: 1},
		"unknown kind":             {Kind: 4},
		"negative kind":            {Kind: -1},
		"far kind":                 {Kind: farDown, Node: 2},
		"file in an empty slot":    {Kind: api.OfFile, Node: 3},
		"file in no slot":          {Kind: api.OfFile, Node: 8},
		"file in a negative slot":  {Kind: api.OfFile, Node: -1},
		"file in a far slot":       {Kind: api.OfFile, Node: farUp},
		"file before its start":    {Kind: api.OfFile, Node: 0, At: -1},
		"file too far on":          {Kind: api.OfFile, Node: 0, At: 101},
		"device too far on":        {Kind: api.OfFile, Node: 1, At: 101},
		"file at a far byte":       {Kind: api.OfFile, Node: 0, At: farUp},
		"reader of no pipe":        {Kind: api.Reader, Node: 6},
		"reader of a negative one": {Kind: api.Reader, Node: -1},
		"reader at a byte":         {Kind: api.Reader, Node: 1, At: 1},
		"writer of no pipe":        {Kind: api.Writer, Node: 6},
		"writer of a far one":      {Kind: api.Writer, Node: farDown},
		"writer at a byte":         {Kind: api.Writer, Node: 1, At: -1},
	} {
		for _, i := range []int{0, 5} {
			checkIs(t, what, changed(func(k *api.Kernel) { k.Procs[2].Ends[i] = e }), api.ErrState)
			checkIs(t, what, changed(func(k *api.Kernel) { k.Procs[1].Ends[i] = e }), api.ErrState)
		}
	}
}

// P5.2: the number of descriptors, and processes that are not live.
func TestCheckProcs(t *testing.T) {
	for what, change := range map[string]func(k *api.Kernel){
		"no descriptors":         func(k *api.Kernel) { k.Procs[2].Ends = nil },
		"five descriptors":       func(k *api.Kernel) { k.Procs[2].Ends = make([]api.End, 5) },
		"seven descriptors":      func(k *api.Kernel) { k.Procs[2].Ends = make([]api.End, 7) },
		"none, not live":         func(k *api.Kernel) { k.Procs[1].Ends = nil },
		"seven, not live":        func(k *api.Kernel) { k.Procs[1].Ends = make([]api.End, 7) },
		"file, not live":         func(k *api.Kernel) { k.Procs[1].Ends[5] = api.End{Kind: api.OfFile} },
		"reader, not live":       func(k *api.Kernel) { k.Procs[1].Ends[0] = api.End{Kind: api.Reader} },
		"writer, not live":       func(k *api.Kernel) { k.Procs[1].Ends[0] = api.End{Kind: api.Writer} },
		"the first one not live": func(k *api.Kernel) { k.Procs[0].Live = false },
	} {
		checkIs(t, what, changed(change), api.ErrState)
	}
}

// P5.2: pipes.
func TestCheckPipes(t *testing.T) {
	for what, change := range map[string]func(k *api.Kernel){
		"too much":                   func(k *api.Kernel) { k.Pipes[0] += "p" },
		"bytes, only a writer":       func(k *api.Kernel) { k.Pipes[1] = "x" },
		"bytes, nobody":              func(k *api.Kernel) { k.Pipes[4] = "x" },
		"bytes, a file of the index": func(k *api.Kernel) { k.Pipes[4] = "x"; k.Procs[2].Ends[0] = api.End{Kind: api.OfFile, Node: 4} },
		"no reader any more":         func(k *api.Kernel) { k.Procs[3].Ends[2] = api.End{} },
		"still a writer":             func(k *api.Kernel) { k.Procs[3].Ends[3] = api.End{} },
	} {
		checkIs(t, what, changed(change), api.ErrState)
	}
}

// P5.2: of several errors, the first one in the order of the document, also inside lists that are too long.
func TestCheckOrder(t *testing.T) {
	spoils := []struct {
		change func(k *api.Kernel)
		want   api.Errno
	}{
		{func(k *api.Kernel) { k.Pipes = append(k.Pipes, "x") }, api.ErrSize},
		{func(k *api.Kernel) { k.Modules[0].Name = "" }, api.ErrForm},
		{func(k *api.Kernel) { k.Modules[1].Name = "three" }, api.ErrTwice},
		{func(k *api.Kernel) { k.Mem[1023] = -1 }, api.ErrRange},
		{func(k *api.Kernel) { k.Procs[0].Ends = nil }, api.ErrState},
	}
	for set := 1; set < 1<<len(spoils); set++ {
		k, want := rich(), api.OK
		for i, s := range spoils {
			if set>>i&1 == 0 {
				continue
			}
			s.change(&k)
			if want == api.OK {
				want = s.want
			}
		}
		checkIs(t, "several", k, want)
	}
}

// P5.2: a copy is the same, also of a kernel that is not valid.
func TestCopy(t *testing.T) {
	odd := rich()
	odd.Modules = append(odd.Modules, api.Module{}, api.Module{Name: "one", Data: []int{-1}})
	odd.Mem, odd.Pipes = odd.Mem[:3], append(odd.Pipes, strings.Repeat("x", 1000))
	odd.Procs[0].Ends, odd.Nodes[1].Kind = nil, -7
	for _, k := range []api.Kernel{kern.New(), rich(), odd, {}, {Procs: make([]api.Proc, 9)}, {Modules: make([]api.Module, 20)}} {
		given := twin(k)
		got := kern.Copy(given)
		if !same(got, k) {
			t.Errorf("Copy(%+v) = %+v", k, got)
		}
		if shared(stringsOf(got), stringsOf(given)) {
			t.Errorf("Copy(%+v) shares strings", k)
		}
		spoil(got)
		if !same(whole(given), whole(twin(k))) {
			t.Errorf("Copy(%+v) shares memory with its argument", k)
		}
		got = kern.Copy(given)
		spoil(given)
		if !same(got, k) {
			t.Errorf("Copy(%+v) shares memory with its argument", k)
		}
	}
}

// stringsOf a kernel, as far as they are long enough to be sure of memory of their own: Go itself shares strings of one byte.
func stringsOf(k api.Kernel) []string {
	var l []string
	for _, m := range k.Modules {
		l = append(l, m.Name)
	}
	for _, n := range k.Nodes {
		l = append(l, n.Name, n.Data)
	}
	return append(l, k.Pipes...)
}

func shared(a, b []string) bool {
	for _, s := range a {
		for _, u := range b {
			if len(s) > 1 && len(u) > 1 && overlap(s, u) {
				return true
			}
		}
	}
	return false
}

func overlap(s, u string) bool {
	first, other := uintptr(unsafe.Pointer(unsafe.StringData(s))), uintptr(unsafe.Pointer(unsafe.StringData(u)))
	return first < other+uintptr(len(u)) && other < first+uintptr(len(s))
}
