package kern

import (
	"strings"

	"curfew/api"
	"curfew/cpu"
	"curfew/safe"
)

// fuel with which a module is asked.
const fuel = 2000

// wanted is the word for which a module is asked when a device is read: it is no byte, so that the module can tell this from a byte that is written.
const wanted = 256

func read(k *api.Kernel, end *api.End, size int) api.Answer {
	if end.Kind == api.Writer {
		return refuse(api.ErrKind)
	}
	if size < 1 || size > api.MaxData {
		return refuse(api.ErrRange)
	}
	if end.Kind == api.Reader {
		return readPipe(k, end.Node, size)
	}
	file := k.Nodes[end.Node]
	if file.Kind == api.Device {
		return readDevice(k, file.Unit)
	}
	return readFile(file.Data, end, size)
}

func answerWith(data string) api.Answer {
	// A part of what the kernel holds would share memory with it.
	return api.Answer{N: len(data), Data: strings.Clone(data)}
}

func readPipe(k *api.Kernel, pipe, size int) api.Answer {
	content := k.Pipes[pipe]
	if content == "" {
		if hasEnd(k, api.Writer, pipe) {
			return refuse(api.ErrWait)
		}
		return refuse(api.ErrEnd)
	}
	size = min(size, len(content))
	k.Pipes[pipe] = content[size:]
	return answerWith(content[:size])
}

func readFile(data string, end *api.End, size int) api.Answer {
	// At may be beyond the end of the file: it could be written to there.
	rest := data[min(end.At, len(data)):]
	if rest == "" {
		return refuse(api.ErrEnd)
	}
	size = min(size, len(rest))
	end.At += size
	return answerWith(rest[:size])
}

func readDevice(k *api.Kernel, unit int) api.Answer {
	word, ok := ask(k, unit, wanted)
	if !ok {
		return refuse(api.ErrFault)
	}
	return answerWith(string([]byte{byte(word)}))
}

func write(k *api.Kernel, end *api.End, data string) api.Answer {
	if end.Kind == api.Reader {
		return refuse(api.ErrKind)
	}
	if data == "" || len(data) > api.MaxData {
		return refuse(api.ErrRange)
	}
	if end.Kind == api.Writer {
		return writePipe(k, end.Node, data)
	}
	file := &k.Nodes[end.Node]
	if file.Kind == api.Device {
		return writeDevice(k, file.Unit, data)
	}
	return writeFile(file, end, data)
}

func writePipe(k *api.Kernel, pipe int, data string) api.Answer {
	if !hasEnd(k, api.Reader, pipe) {
		return refuse(api.ErrEnd)
	}
	data = data[:min(len(data), api.MaxPipe-len(k.Pipes[pipe]))]
	if data == "" {
		return refuse(api.ErrWait)
	}
	// Adding to an empty string alone would keep the argument itself.
	k.Pipes[pipe] += strings.Clone(data)
	return api.Answer{N: len(data)}
}

func writeFile(file *api.Node, end *api.End, data string) api.Answer {
	data = data[:min(len(data), api.MaxData-end.At)]
	if data == "" {
		return refuse(api.ErrFull)
	}
	after := end.At + len(data)
	content := make([]byte, max(len(file.Data), after))
	copy(content, file.Data)
	copy(content[end.At:], data)
	file.Data = string(content)
	end.At = after
	return api.Answer{N: len(data)}
}

func writeDevice(k *api.Kernel, unit int, data string) api.Answer {
	written := 0
	for _, b := range []byte(data) {
		if _, ok := ask(k, unit, int(b)); !ok {
			break
		}
		written++
	}
	if written == 0 {
		return refuse(api.ErrFault)
	}
	return api.Answer{N: written}
}

// ask a module for a word; false if it fails.
func ask(k *api.Kernel, unit, word int) (int, bool) {
	regs, e := safe.Enter(unit, word)
	if e != api.OK {
		return 0, false
	}
	o, e := cpu.Run(k.Modules[unit].Code, regs, k.Mem, fuel)
	if e != api.OK || o.End != api.Done {
		return 0, false
	}
	k.Mem = o.Mem
	return o.Regs[0], true
}
