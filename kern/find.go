package kern

import (
	"slices"

	"curfew/api"
)

// empty stands beside the kinds of files, all of which are above 0.
const empty = 0

// within tells whether v is an index of a list of so many elements.
func within(v, size int) bool {
	return v >= 0 && v < size
}

// The functions that find return -1 where there is none.

func findModule(l []api.Module, name string) int {
	return slices.IndexFunc(l, func(m api.Module) bool { return m.Name == name })
}

func findFile(k *api.Kernel, name string) int {
	// A file that has lost its Name cannot be found by the empty one.
	named := func(n api.Node) bool { return n.Name == name && name != "" }
	return slices.IndexFunc(k.Nodes, named)
}

func findSlot(k *api.Kernel) int {
	return slices.IndexFunc(k.Nodes, func(n api.Node) bool { return n.Kind == empty })
}

func findFree(l []api.End) int {
	return slices.IndexFunc(l, func(e api.End) bool { return e.Kind == api.Free })
}

func findProc(k *api.Kernel) int {
	return slices.IndexFunc(k.Procs, func(p api.Proc) bool { return !p.Live })
}

// findPipe that nobody reads from or writes to.
func findPipe(k *api.Kernel) int {
	for i := range k.Pipes {
		if !hasEnd(k, api.Reader, i) && !hasEnd(k, api.Writer, i) {
			return i
		}
	}
	return -1
}

// hasEnd tells whether a process has a descriptor of this kind, of this file or pipe.
func hasEnd(k *api.Kernel, kind, node int) bool {
	of := func(e api.End) bool { return e.Kind == kind && e.Node == node }
	holds := func(p api.Proc) bool { return slices.ContainsFunc(p.Ends, of) }
	return slices.ContainsFunc(k.Procs, holds)
}
