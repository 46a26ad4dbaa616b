package impl

const MaxWords = 2000

const (
	VUndef = iota
	VNull
	VBool
	VInt
	VText
	VObj
	VFun
	VInner
)

// value is 8 times its number and its kind. The exported functions take and
// tell plain ints, since words of a slab are such; the methods keep the two
// parts in one place.
type value int

func valueOf(kind int, num int) value { return value(8*num + kind) }

// kind takes the low bits rather than %, which would be below nought for a
// value below nought.
func (v value) kind() int { return int(v & 7) }

// num can't pass the least int: that is a number of eights itself.
func (v value) num() int { return (int(v) - v.kind()) / 8 }

func (v value) ok() bool {
	n := v.num()
	switch v.kind() {
	case VUndef, VNull:
		return n == 0
	case VBool:
		return n == 0 || n == 1
	case VInt:
		return n == Wrap(n)
	}
	return placeOk(n)
}

func placeOk(at int) bool { return at >= 0 && at < MaxWords }

// leads tells whether values of that kind have the place of a block.
func leads(kind int) bool { return kind >= VText && kind <= VInner }

// Wrap leaves it to 32 bits: what they keep of n is what is left by
// 4294967296, and their upper half stands for numbers below nought.
func Wrap(n int) int { return int(int32(n)) }

func IntOf(n int) int { return int(valueOf(VInt, Wrap(n))) }

func BoolOf(b bool) int {
	if b {
		return int(valueOf(VBool, 1))
	}
	return int(valueOf(VBool, 0))
}

func RefOf(kind int, at int) int {
	if !leads(kind) || !placeOk(at) {
		return int(valueOf(VUndef, 0))
	}
	return int(valueOf(kind, at))
}

func Kind(v int) int { return value(v).kind() }

func Num(v int) int { return value(v).num() }

func ValueOk(v int) bool { return value(v).ok() }
