package weave

import (
	"strconv"

	"weave/api"
)

// refusal is an error whose text is the answer to a line.
type refusal struct {
	errno api.Errno
}

func (r refusal) Error() string { return "ERR " + strconv.Itoa(int(r.errno)) }

func refuse(errno api.Errno) error { return refusal{errno} }

var (
	notALine   = refuse(api.ErrForm)
	noVariable = refuse(api.ErrNone)
)

// orRefusal makes an error of a number.
func orRefusal[T any](result T, errno api.Errno) (T, error) {
	if errno != api.OK {
		return result, refuse(errno)
	}
	return result, nil
}
