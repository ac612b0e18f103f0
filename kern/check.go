package kern

import (
	"slices"

	"curfew/api"
	"curfew/module"
)

// Check a kernel.
func Check(k api.Kernel) api.Errno {
	if !sized(&k) {
		return api.ErrSize
	}
	if e := checkModules(k.Modules); e != api.OK {
		return e
	}
	noWord := func(v int) bool { return v < 0 || v > api.MaxWord }
	if slices.ContainsFunc(k.Mem, noWord) {
		return api.ErrRange
	}
	if !validFiles(&k) || !validProcs(&k) || !validPipes(&k) {
		return api.ErrState
	}
	return api.OK
}

func sized(k *api.Kernel) bool {
	return len(k.Modules) <= api.MaxModules &&
		len(k.Mem) == api.Memory &&
		len(k.Nodes) == api.MaxFiles &&
		len(k.Pipes) == api.MaxPipes &&
		len(k.Procs) == api.MaxProcs
}

func checkModules(l []api.Module) api.Errno {
	for i, m := range l {
		if e := module.Check(m); e != api.OK {
			return e
		}
		if findModule(l[:i], m.Name) >= 0 {
			return api.ErrTwice
		}
	}
	return api.OK
}

func validFiles(k *api.Kernel) bool {
	for i, n := range k.Nodes {
		if !validContent(k, n) || n.Kind != empty && !validName(k, i) {
			return false
		}
	}
	return true
}

func validContent(k *api.Kernel, n api.Node) bool {
	switch n.Kind {
	case api.Plain:
		return n.Unit == 0 && len(n.Data) <= api.MaxData
	case api.Device:
		return n.Data == "" && within(n.Unit, len(k.Modules))
	}
	return n == api.Node{}
}

func validName(k *api.Kernel, file int) bool {
	name := k.Nodes[file].Name
	if name == "" {
		return hasEnd(k, api.OfFile, file)
	}
	// Of two files with one name, the second one is not the one that is found.
	return module.Name(name) && findFile(k, name) == file
}

func validProcs(k *api.Kernel) bool {
	wrong := func(p api.Proc) bool {
		wrongEnd := func(e api.End) bool { return !validEnd(k, e) || !p.Live && e.Kind != api.Free }
		return len(p.Ends) != api.MaxOpen || slices.ContainsFunc(p.Ends, wrongEnd)
	}
	return !slices.ContainsFunc(k.Procs, wrong)
}

func validEnd(k *api.Kernel, e api.End) bool {
	switch e.Kind {
	case api.OfFile:
		return within(e.Node, len(k.Nodes)) && k.Nodes[e.Node].Kind != empty && within(e.At, api.MaxData+1)
	case api.Reader, api.Writer:
		return within(e.Node, len(k.Pipes)) && e.At == 0
	}
	return e == api.End{}
}

func validPipes(k *api.Kernel) bool {
	for i, content := range k.Pipes {
		if len(content) > api.MaxPipe || content != "" && !hasEnd(k, api.Reader, i) {
			return false
		}
	}
	return true
}
