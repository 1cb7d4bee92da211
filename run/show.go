package run

import (
	"strconv"
	"strings"
)

// Show tells the state (B4).
func (m *Machine) Show() string {
	var b strings.Builder
	showCells(&b, &m.vars, strconv.Itoa)
	showCells(&b, &m.flags, strconv.Itoa)
	showCells(&b, &m.locks, m.holderName)
	for i := range m.threadCount {
		showThread(&b, &m.threads[i])
	}
	return b.String()
}

func showCells(b *strings.Builder, c *cells, text func(int) string) {
	for i := range c.count {
		b.WriteString(c.cell[i].name)
		b.WriteByte('=')
		b.WriteString(text(c.cell[i].value))
		b.WriteByte('\n')
	}
}

func (m *Machine) holderName(holder int) string {
	if holder == nobody {
		return "-"
	}
	return m.threads[holder].name
}

func showThread(b *strings.Builder, th *thread) {
	b.WriteString(th.name)
	b.WriteByte(' ')
	b.WriteString(phaseText(th))
	if th.phase != fresh {
		for _, n := range th.regs {
			b.WriteByte(' ')
			b.WriteString(strconv.Itoa(n))
		}
	}
	b.WriteByte('\n')
}

func phaseText(th *thread) string {
	switch th.phase {
	case going:
		return "at " + strconv.Itoa(th.at)
	case ended:
		return "ended"
	case failed:
		return "failed"
	}
	return "new"
}
