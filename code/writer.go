package code

import (
	"strconv"
	"strings"

	"weave/api"
)

// writer makes a program's plain text. Programs that Parse did not answer may hold any numbers: they get some text.
type writer struct {
	api.Program
	strings.Builder
}

func (w *writer) line(words ...string) {
	w.WriteString(strings.Join(words, " "))
	w.WriteByte('\n')
}

func (w *writer) headings() {
	for _, h := range headings {
		if names := w.names(h.kind); len(names) > 0 {
			w.line(h.word, strings.Join(names, " "))
		}
	}
}

func (w *writer) names(kind byte) []string {
	switch kind {
	case variable:
		return w.Vars
	case flag:
		return w.Flags
	case lock:
		return w.Locks
	}
	return nil
}

func (w *writer) thread(t api.Thread) {
	w.line("thread", t.Name)
	targets := jumpTargets(t.Code)
	for k, in := range t.Code {
		if targets[k] {
			w.line(labelName(k) + ":")
		}
		w.instruction(in)
	}
	if end := len(t.Code); targets[end] {
		w.line(labelName(end) + ":")
	}
}

// jumpTargets tells for each instruction, and for the end, whether a jump goes there.
func jumpTargets(code []api.Instr) []bool {
	targets := make([]bool, len(code)+1)
	for _, in := range code {
		parts, _ := partsOf(in.Op)
		if strings.IndexByte(parts, label) >= 0 && 0 <= in.X && in.X < len(targets) {
			targets[in.X] = true
		}
	}
	return targets
}

func (w *writer) instruction(in api.Instr) {
	words := []string{in.Op}
	parts, _ := partsOf(in.Op)
	for i := range len(parts) {
		words = append(words, w.word(in, parts[i]))
	}
	w.line(words...)
}

func (w *writer) word(in api.Instr, part byte) string {
	switch part {
	case register:
		return registerName(in.R)
	case firstArg:
		return argText(in.A)
	case nextArg:
		return argText(in.B)
	case label:
		return labelName(in.X)
	case thread:
		return w.threadName(in.X)
	}
	if names := w.names(part); 0 <= in.X && in.X < len(names) {
		return names[in.X]
	}
	return "-"
}

func (w *writer) threadName(i int) string {
	if 0 <= i && i < len(w.Threads) {
		return w.Threads[i].Name
	}
	return "-"
}

func labelName(k int) string    { return "l" + strconv.Itoa(k) }
func registerName(n int) string { return "r" + strconv.Itoa(n) }

func argText(a api.Arg) string {
	if a.Reg {
		return registerName(a.N)
	}
	return strconv.Itoa(a.N)
}
