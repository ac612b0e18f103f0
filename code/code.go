// Package code: instructions, as they are, and as lines.
package code

import (
	"strconv"
	"strings"

	"curfew/api"
)

// What a field of an instruction contains.
const (
	unused   = 0
	register = 1
	word     = 2
	place    = 3
)

// largest value of a field, by what the field contains.
var largest = [4]int{
	unused:   0,
	register: api.Regs - 1,
	word:     api.MaxWord,
	place:    api.MaxCode - 1,
}

// names of the instructions, by their kinds.
var names = [api.Halt + 1]string{
	api.Li:   "li",
	api.Add:  "add",
	api.Sub:  "sub",
	api.And:  "and",
	api.Or:   "or",
	api.Xor:  "xor",
	api.Lt:   "lt",
	api.Ld:   "ld",
	api.St:   "st",
	api.Jmp:  "jmp",
	api.Jz:   "jz",
	api.Call: "call",
	api.Ret:  "ret",
	api.Tell: "tell",
	api.Halt: "halt",
}

// formats of the instructions, by their kinds: what A, B and C contain.
var formats = [api.Halt + 1][3]int{
	api.Li:   {register, unused, word},
	api.Add:  {register, register, register},
	api.Sub:  {register, register, register},
	api.And:  {register, register, register},
	api.Or:   {register, register, register},
	api.Xor:  {register, register, register},
	api.Lt:   {register, register, register},
	api.Ld:   {register, register, unused},
	api.St:   {register, register, unused},
	api.Jmp:  {unused, unused, place},
	api.Jz:   {register, unused, place},
	api.Call: {unused, unused, place},
	api.Ret:  {unused, unused, unused},
	api.Tell: {register, unused, unused},
	api.Halt: {unused, unused, unused},
}

// Check code.
func Check(l []api.Instr) api.Errno {
	if len(l) > api.MaxCode {
		return api.ErrSize
	}
	for _, in := range l {
		if e := checkInstr(in); e != api.OK {
			return e
		}
	}
	return api.OK
}

func checkInstr(in api.Instr) api.Errno {
	if in.Op < api.Li || in.Op > api.Halt {
		return api.ErrKind
	}
	for i, v := range fields(in) {
		if !fits(formats[in.Op][i], v) {
			return api.ErrRange
		}
	}
	return api.OK
}

func fields(in api.Instr) [3]int {
	return [3]int{in.A, in.B, in.C}
}

func fits(content, v int) bool {
	return v >= 0 && v <= largest[content]
}

// Show code, a line each.
func Show(l []api.Instr) (string, api.Errno) {
	if e := Check(l); e != api.OK {
		return "", e
	}
	var text strings.Builder
	for _, in := range l {
		text.WriteString(showInstr(in))
		text.WriteByte('\n')
	}
	return text.String(), api.OK
}

func showInstr(in api.Instr) string {
	line := names[in.Op]
	for i, v := range fields(in) {
		if content := formats[in.Op][i]; content != unused {
			line += " " + showField(content, v)
		}
	}
	return line
}

func showField(content, v int) string {
	if content == register {
		return "r" + strconv.Itoa(v)
	}
	return strconv.Itoa(v)
}

// Read lines as code; which line is wrong, from 1 on.
func Read(s string) ([]api.Instr, int, api.Errno) {
	if len(s) > api.MaxText {
		return nil, 0, api.ErrSize
	}
	var l []api.Instr
	for s != "" {
		number := len(l) + 1
		line, rest, ended := strings.Cut(s, "\n")
		if !ended {
			return nil, number, api.ErrShort
		}
		if len(l) == api.MaxCode {
			return nil, number, api.ErrSize
		}
		in, ok := readInstr(line)
		if !ok {
			return nil, number, api.ErrForm
		}
		l = append(l, in)
		s = rest
	}
	return l, 0, api.OK
}

func readInstr(line string) (api.Instr, bool) {
	parts := strings.Split(line, " ")
	op, ok := findName(parts[0])
	if !ok {
		return api.Instr{}, false
	}
	parts = parts[1:]
	var values [3]int
	for i, content := range formats[op] {
		if content == unused {
			continue
		}
		if len(parts) == 0 {
			return api.Instr{}, false
		}
		if values[i], ok = readField(content, parts[0]); !ok {
			return api.Instr{}, false
		}
		parts = parts[1:]
	}
	if len(parts) > 0 {
		return api.Instr{}, false
	}
	return api.Instr{Op: op, A: values[0], B: values[1], C: values[2]}, true
}

func findName(name string) (int, bool) {
	for op := api.Li; op <= api.Halt; op++ {
		if names[op] == name {
			return op, true
		}
	}
	return 0, false
}

func readField(content int, s string) (int, bool) {
	v, err := strconv.Atoi(strings.TrimPrefix(s, "r"))
	if err != nil || !fits(content, v) {
		return 0, false
	}
	// Atoi takes signs and leading zeros too, and the prefix may be wrong: only what Show writes is the field.
	return v, showField(content, v) == s
}
