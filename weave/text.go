package weave

import (
	"strconv"
	"strings"

	"weave/api"
)

// list tells items, or that there are none.
func list[T any](items []T, between string, text func(T) string) string {
	if len(items) == 0 {
		return "-"
	}
	var b strings.Builder
	for i, item := range items {
		if i > 0 {
			b.WriteString(between)
		}
		b.WriteString(text(item))
	}
	return b.String()
}

func eventText(e api.Event) string {
	return list([]int{e.Thread, e.Kind, e.Obj, e.Value}, ".", strconv.Itoa)
}

func raceText(p api.Pair) string {
	return strconv.Itoa(p.I) + "-" + strconv.Itoa(p.J)
}

// outcomesText tells none by an empty text: what is told by a dash is no events, races or racy variables alone.
func outcomesText(r api.Report) string {
	return strings.Join(r.Outcomes, ";")
}

func statesText(r api.Report) string {
	text := strconv.Itoa(r.States)
	if r.Stuck {
		text += " stuck"
	}
	if r.Failed {
		text += " failed"
	}
	return text
}

// readSchedule reads a schedule. (An empty one is nil, too.)
func readSchedule(s string) ([]int, error) {
	if s == "-" {
		return nil, nil
	}
	var schedule []int
	for digits := range strings.SplitSeq(s, ",") {
		t, err := readNumber(digits)
		if err != nil {
			return nil, err
		}
		schedule = append(schedule, t)
	}
	return schedule, nil
}

func readNumber(digits string) (int, error) {
	if len(digits) < 1 || len(digits) > 3 {
		return 0, notALine
	}
	n := 0
	for _, c := range []byte(digits) {
		if c < '0' || c > '9' {
			return 0, notALine
		}
		n = 10*n + int(c-'0')
	}
	return n, nil
}
