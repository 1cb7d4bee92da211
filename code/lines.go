package code

// The parts of a line: what may stand at a place of it. Those that are named are kinds of names, too.
const (
	register = 'r'
	firstArg = 'a'
	nextArg  = 'b'
	variable = 'v'
	flag     = 'f'
	lock     = 'm'
	thread   = 't'
	label    = 'l'
	none     = 0
)

// headings are the lines ahead of the first thread, in the order of a plain text.
var headings = [...]struct {
	word string
	kind byte
}{
	{"var", variable},
	{"flag", flag},
	{"lock", lock},
}

// shapes are the instructions, and the parts behind their first words.
var shapes = [...]struct{ op, parts string }{
	{"set", "ra"},
	{"add", "rab"},
	{"sub", "rab"},
	{"mul", "rab"},
	{"load", "rv"},
	{"store", "va"},
	{"get", "rf"},
	{"put", "fa"},
	{"lock", "m"},
	{"unlock", "m"},
	{"spawn", "t"},
	{"join", "t"},
	{"jump", "l"},
	{"jeq", "abl"},
	{"jlt", "abl"},
	{"check", "ab"},
	{"end", ""},
}

// headingKind tells which kind of names a line ahead of the first thread has, or none.
func headingKind(word string) byte {
	for _, h := range headings {
		if h.word == word {
			return h.kind
		}
	}
	return none
}

// partsOf tells the parts of an instruction, and whether it is one.
func partsOf(op string) (string, bool) {
	for _, s := range shapes {
		if s.op == op {
			return s.parts, true
		}
	}
	return "", false
}
