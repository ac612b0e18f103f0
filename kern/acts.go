package kern

import (
	"strings"

	"curfew/api"
	"curfew/module"
)

func refuse(e api.Errno) api.Answer {
	return api.Answer{Code: e}
}

// perform an act of a known kind. Neither this nor what it calls changes anything before all errors are ruled out.
func perform(k *api.Kernel, a api.Act) api.Answer {
	switch a.Kind {
	case api.Install:
		return install(k, a.Data)
	case api.Create:
		return addFile(k, api.Node{Name: a.Name, Kind: api.Plain})
	case api.Attach:
		return addFile(k, api.Node{Name: a.Name, Kind: api.Device, Unit: a.N})
	case api.Unlink:
		return unlink(k, a.Name)
	}
	if !within(a.P, len(k.Procs)) || !k.Procs[a.P].Live {
		return refuse(api.ErrNone)
	}
	return performOf(k, &k.Procs[a.P], a)
}

func performOf(k *api.Kernel, p *api.Proc, a api.Act) api.Answer {
	switch a.Kind {
	case api.Open:
		return openFile(k, p, a.Name)
	case api.Pipe:
		return openPipe(k, p)
	case api.Fork:
		return fork(k, p)
	case api.Exit:
		return exit(k, p)
	}
	if !within(a.N, len(p.Ends)) || p.Ends[a.N].Kind == api.Free {
		return refuse(api.ErrNone)
	}
	end := &p.Ends[a.N]
	switch a.Kind {
	case api.Read:
		return read(k, end, a.M)
	case api.Write:
		return write(k, end, a.Data)
	}
	// Close is the only kind left.
	*end = api.End{}
	release(k)
	return api.Answer{}
}

func install(k *api.Kernel, s string) api.Answer {
	m, e := module.Decode(s)
	if e != api.OK {
		return refuse(e)
	}
	if findModule(k.Modules, m.Name) >= 0 {
		return refuse(api.ErrTwice)
	}
	number := len(k.Modules)
	if number == api.MaxModules {
		return refuse(api.ErrFull)
	}
	k.Modules = append(k.Modules, m)
	region := k.Mem[number*api.Region : (number+1)*api.Region]
	clear(region[copy(region, m.Data):])
	return api.Answer{N: number}
}

func addFile(k *api.Kernel, file api.Node) api.Answer {
	if !module.Name(file.Name) {
		return refuse(api.ErrForm)
	}
	if findFile(k, file.Name) >= 0 {
		return refuse(api.ErrTwice)
	}
	if file.Kind == api.Device && !within(file.Unit, len(k.Modules)) {
		return refuse(api.ErrNone)
	}
	slot := findSlot(k)
	if slot < 0 {
		return refuse(api.ErrFull)
	}
	file.Name = strings.Clone(file.Name)
	k.Nodes[slot] = file
	return api.Answer{N: slot}
}

func unlink(k *api.Kernel, name string) api.Answer {
	file := findFile(k, name)
	if file < 0 {
		return refuse(api.ErrNone)
	}
	k.Nodes[file].Name = ""
	release(k)
	return api.Answer{}
}

func openFile(k *api.Kernel, p *api.Proc, name string) api.Answer {
	if !module.Name(name) {
		return refuse(api.ErrForm)
	}
	file := findFile(k, name)
	if file < 0 {
		return refuse(api.ErrNone)
	}
	n := findFree(p.Ends)
	if n < 0 {
		return refuse(api.ErrFull)
	}
	p.Ends[n] = api.End{Kind: api.OfFile, Node: file}
	return api.Answer{N: n}
}

func openPipe(k *api.Kernel, p *api.Proc) api.Answer {
	pipe, first := findPipe(k), findFree(p.Ends)
	if pipe < 0 || first < 0 {
		return refuse(api.ErrFull)
	}
	next := findFree(p.Ends[first+1:])
	if next < 0 {
		return refuse(api.ErrFull)
	}
	p.Ends[first] = api.End{Kind: api.Reader, Node: pipe}
	p.Ends[first+1+next] = api.End{Kind: api.Writer, Node: pipe}
	return api.Answer{N: first}
}

func fork(k *api.Kernel, p *api.Proc) api.Answer {
	child := findProc(k)
	if child < 0 {
		return refuse(api.ErrFull)
	}
	k.Procs[child] = api.Proc{Live: true, Ends: copyEnds(p.Ends)}
	return api.Answer{N: child}
}

func exit(k *api.Kernel, p *api.Proc) api.Answer {
	p.Live = false
	clear(p.Ends)
	release(k)
	return api.Answer{}
}

// release the files and the contents of pipes that nobody can reach any more.
func release(k *api.Kernel) {
	for i, n := range k.Nodes {
		if n.Name == "" && !hasEnd(k, api.OfFile, i) {
			k.Nodes[i] = api.Node{}
		}
	}
	for i := range k.Pipes {
		if !hasEnd(k, api.Reader, i) {
			k.Pipes[i] = ""
		}
	}
}
