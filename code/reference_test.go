package code_test

import (
	"math/rand"
	"reflect"
	"regexp"
	"strings"
	"testing"

	"weave/api"
	"weave/code"
)

// forms are the lines as one would write them down by heart: a second opinion on what a line is. In them R is a
// register, A an arg, N a name.
var forms = []string{
	"set R A", "add R A A", "sub R A A", "mul R A A", "load R N", "store N A", "get R N", "put N A", "lock N", "unlock N",
	"spawn N", "join N", "jump N", "jeq A A N", "jlt A A N", "check A A", "end",
}

func formOf(line string) *regexp.Regexp {
	line = strings.NewReplacer("R", "r[0-3]", "A", "(?:r[0-3]|[0-9]{1,3})", "N", "([a-z][a-z0-9]{0,7})", " ", " +").Replace(line)
	return regexp.MustCompile("^ *" + line + " *$")
}

var (
	instructionForms = func() (l []*regexp.Regexp) {
		for _, f := range forms {
			l = append(l, formOf(f))
		}
		return l
	}()
	namesForm    = regexp.MustCompile("^ *(var|flag|lock)((?: +[a-z][a-z0-9]{0,7})+) *$")
	threadForm   = formOf("thread N")
	labelForm    = formOf("N:")
	registerForm = regexp.MustCompile("^r[0-3]$")
)

type reference struct {
	kind   map[string]string
	count  map[string]int
	labels map[string]bool // by thread's number and name
	code   int
	thread int
	asked  []string // for each line: what it asks for behind the last one
}

// lineError tells the first error of a line, all lines ahead of which have none.
func (r *reference) lineError(line string) api.Errno {
	line, _, _ = strings.Cut(line, "#")
	r.asked = append(r.asked, "")
	if strings.Trim(line, " ") == "" {
		return api.OK
	}
	if m := threadForm.FindStringSubmatch(line); m != nil && !registerForm.MatchString(m[1]) {
		r.thread++
		r.code = 0
		return r.declare("thread", m[1])
	}
	if r.thread == 0 {
		m := namesForm.FindStringSubmatch(line)
		if m == nil || regexp.MustCompile(`\br[0-3]\b`).MatchString(m[2]) {
			return api.ErrForm
		}
		return r.declare(m[1], strings.Fields(m[2])...)
	}
	if m := labelForm.FindStringSubmatch(line); m != nil && !registerForm.MatchString(m[1]) {
		key := string(rune('0'+r.thread)) + m[1]
		if r.labels[key] {
			return api.ErrTwice
		}
		r.labels[key] = true
		return api.OK
	}
	return r.instruction(line)
}

func (r *reference) declare(kind string, names ...string) api.Errno {
	for _, n := range names {
		if r.kind[n] != "" {
			return api.ErrTwice
		}
		r.kind[n] = kind
		r.count[kind]++
	}
	if r.count[kind] > 4 {
		return api.ErrMany
	}
	return api.OK
}

func (r *reference) instruction(line string) api.Errno {
	for i, f := range instructionForms {
		m := f.FindStringSubmatch(line)
		if m == nil {
			continue
		}
		if len(m) == 2 && registerForm.MatchString(m[1]) {
			return api.ErrForm
		}
		if r.code++; r.code > 24 {
			return api.ErrMany
		}
		want := map[string]string{"load": "var", "store": "var", "get": "flag", "put": "flag", "lock": "lock", "unlock": "lock"}
		switch op, _, _ := strings.Cut(forms[i], " "); op {
		case "load", "store", "get", "put", "lock", "unlock":
			if r.kind[m[1]] != want[op] {
				return api.ErrNone
			}
		case "spawn", "join":
			r.asked[len(r.asked)-1] = m[1]
		case "jump", "jeq", "jlt":
			r.asked[len(r.asked)-1] = string(rune('0'+r.thread)) + m[1]
		}
		return api.OK
	}
	return api.ErrForm
}

func referenceError(s string) (api.Errno, int) {
	if len(s) > 3000 {
		return api.ErrLong, 0
	}
	r := &reference{kind: map[string]string{}, count: map[string]int{}, labels: map[string]bool{}}
	for i, line := range strings.Split(s, "\n") {
		if e := r.lineError(line); e != api.OK {
			return e, i + 1
		}
	}
	for i, name := range r.asked {
		if name != "" && r.kind[name] != "thread" && !r.labels[name] {
			return api.ErrNone, i + 1
		}
	}
	return api.OK, 0
}

// randomLine is mostly a line of its place, with few names, so that all errors come up, and none too soon.
func randomLine(rnd *rand.Rand, top bool) string {
	words := []string{"a", "b", "c", "d", "e", "f", "g", "h"}
	pick := func(l []string) string { return l[rnd.Intn(len(l))] }
	if rnd.Intn(60) == 0 {
		words = append(words, "r1", "9a", "abcdefghi", "a b", "", "X", "r4", ":", "\xff")
	}
	if top {
		if line := pick([]string{"var", "flag", "lock"}) + " " + pick(words); rnd.Intn(3) > 0 {
			return line
		}
		return pick([]string{"var", "flag", "lock"}) + "  " + pick(words) + " " + pick(words)
	}
	if rnd.Intn(4) == 0 {
		return pick(words) + ":"
	}
	line := pick(forms)
	for strings.Contains(line, "R") {
		line = strings.Replace(line, "R", pick([]string{"r0", "r1", "r2", "r3"}), 1)
	}
	for strings.Contains(line, "A") {
		line = strings.Replace(line, "A", pick([]string{"r0", "r3", "0", "07", "999"}), 1)
	}
	return strings.Replace(line, "N", pick(words), 1)
}

func randomText(rnd *rand.Rand) string {
	var lines []string
	for range rnd.Intn(4) {
		lines = append(lines, randomLine(rnd, true))
	}
	for _, name := range strings.Split("ijkl", "")[:rnd.Intn(5)] {
		lines = append(lines, "thread "+name)
		for range rnd.Intn(6) {
			lines = append(lines, randomLine(rnd, rnd.Intn(40) == 0))
		}
	}
	return strings.Join(lines, "\n")
}

func TestAgainstReference(t *testing.T) {
	rnd := rand.New(rand.NewSource(1))
	seen := map[api.Errno]int{}
	for range 30000 {
		s := randomText(rnd)
		p, e, line := code.Parse(s)
		if wantE, wantLine := referenceError(s); e != wantE || line != wantLine {
			t.Fatalf("A2: Parse(%q) = %d, line %d, want %d, line %d", s, e, line, wantE, wantLine)
		}
		if seen[e]++; e != api.OK {
			continue
		}
		plain := code.Print(p)
		if again, e, _ := code.Parse(plain); e != api.OK || !reflect.DeepEqual(again, p) {
			t.Fatalf("A3: of %q: %q", s, plain)
		}
	}
	for _, e := range []api.Errno{api.OK, api.ErrForm, api.ErrTwice, api.ErrMany, api.ErrNone} {
		if seen[e] < 30 {
			t.Errorf("only %d texts with %d: the texts have lost their use", seen[e], e)
		}
	}
}

func TestAnyBytes(t *testing.T) {
	rnd := rand.New(rand.NewSource(2))
	alphabet := []byte("\n\n  ##:ar01289xvthed\t\x00\xff\xc3")
	for range 20000 {
		b := make([]byte, rnd.Intn(40))
		for i := range b {
			b[i] = alphabet[rnd.Intn(len(alphabet))]
		}
		s := string(b)
		_, e, line := code.Parse(s)
		if wantE, wantLine := referenceError(s); e != wantE || line != wantLine {
			t.Fatalf("A2: Parse(%q) = %d, line %d, want %d, line %d", s, e, line, wantE, wantLine)
		}
	}
}
