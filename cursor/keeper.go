package cursor

import "cheesepress/api"

// keeper is a cursor that keeps its first fault; with one, it does not change.
type keeper struct {
	api.Cursor
}

// valid tells whether the cursor is one as the document has it.
func (k keeper) valid() bool {
	return k.has(k.At) && (k.Fault == api.Fault{} || isError(k.Fault.Err) && k.has(k.Fault.At))
}

// has tells whether an offset is one of the string, or the one behind it.
func (k keeper) has(at int) bool {
	return at >= 0 && at <= len(k.S)
}

func (k keeper) failed() bool {
	return k.Fault.Err != api.OK
}

// left returns how many bytes may be read.
func (k keeper) left() int {
	if k.failed() {
		return 0
	}
	return len(k.S) - k.At
}

// keep gives the cursor a fault, or none, unless it has one already.
func (k *keeper) keep(f api.Fault) {
	if !k.failed() {
		k.Fault = f
	}
}

// isError tells whether a code is the one of an error.
func isError(err api.Errno) bool {
	return err > api.OK && err <= api.ErrAccuracy
}
