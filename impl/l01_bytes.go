package impl

// The codes of all chapters.
const (
	OK         = 0
	ErrBad     = 1
	ErrLong    = 2
	ErrForm    = 3
	ErrRange   = 4
	ErrCause   = 5
	ErrExists  = 6
	ErrMissing = 7
	ErrKind    = 8
	ErrDenied  = 9
	ErrSum     = 10
	ErrMany    = 11
	ErrDown    = 12
	ErrSketch  = 13
	ErrLens    = 14
	ErrLine    = 15
	ErrFork    = 16
)

const (
	MaxBytes = 1048576
	MaxList  = 4096
	MaxNum   = 4611686018427387903
)

const (
	// A quarter, so that twice the amount between two such numbers is still a number.
	maxInRun = MaxNum / 4

	// Nine bytes of seven bits hold every number, and an int holds all that nine bytes can say.
	numberBits = 63

	sumStart = 2166136261
	sumTimes = 16777619
	maxKey   = 64
	sumLen   = 4
)

// A fault is what a reader panics with: the code that its bytes have earned.
type fault int

// A reader walks over bytes that somebody else wrote. It panics with a fault where they are not of the form;
// attempt turns that into a code, so that the readers of whole things need not ask at every step.
type reader struct {
	bytes []byte
	at    int
}

func (r *reader) require(ok bool) {
	if !ok {
		panic(fault(ErrForm))
	}
}

// take gives the next n bytes, which are the argument's own memory: copy what is to be kept.
func (r *reader) take(n int) []byte {
	r.require(n <= len(r.bytes)-r.at)
	r.at += n
	return r.bytes[r.at-n : r.at]
}

func (r *reader) number() int {
	v := 0
	for shift := 0; shift < numberBits; shift += 7 {
		b := int(r.take(1)[0])
		v += (b % 128) << shift
		if b < 128 {
			r.require(v <= MaxNum)
			// A nought at the end could be left out; only the number 0 is one.
			r.require(b > 0 || shift == 0)
			return v
		}
	}
	panic(fault(ErrForm))
}

// attempt reads one thing; what the reader panics with becomes the code.
func attempt[T any](r *reader, read func(*reader) T) (value T, code int) {
	defer func() {
		if caught := recover(); caught != nil {
			code = faultCode(caught)
		}
	}()
	return read(r), OK
}

// attemptAll reads one thing that is all of the bytes.
func attemptAll[T any](b []byte, read func(*reader) T) (T, int) {
	return attempt(&reader{bytes: b}, func(r *reader) T {
		value := read(r)
		r.require(r.at == len(b))
		return value
	})
}

// faultCode takes any other panic for bad bytes as well, because no call may panic whatever it is given.
func faultCode(caught any) int {
	if f, ok := caught.(fault); ok {
		return int(f)
	}
	return ErrForm
}

// appendInt writes a number that is known to be from 0 to MaxNum.
func appendInt(out []byte, v int) []byte {
	for v >= 128 {
		out = append(out, byte(v%128+128))
		v /= 128
	}
	return append(out, byte(v))
}

func PutInt(v int) ([]byte, int) {
	if v < 0 || v > MaxNum {
		return nil, ErrRange
	}
	return appendInt(nil, v), OK
}

func GetInt(b []byte, at int) (int, int, int) {
	if len(b) > MaxBytes {
		return 0, 0, ErrLong
	}
	if at < 0 || at > len(b) {
		return 0, 0, ErrBad
	}
	r := &reader{bytes: b, at: at}
	v, code := attempt(r, (*reader).number)
	if code != OK {
		return 0, 0, code
	}
	return v, r.at, OK
}

func sharedStart(a, b string) int {
	n := 0
	for n < len(a) && n < len(b) && a[n] == b[n] {
		n++
	}
	return n
}

func textsSize(list []string) int {
	size := 0
	for _, text := range list {
		size += len(text)
	}
	return size
}

func PutTexts(list []string) ([]byte, int) {
	// The texts are measured ahead of the writing, so that little is written of what is refused.
	if len(list) > MaxList || textsSize(list) > MaxBytes {
		return nil, ErrLong
	}
	out := appendInt(nil, len(list))
	ahead := ""
	for _, text := range list {
		shared := sharedStart(ahead, text)
		out = appendInt(out, shared)
		out = appendInt(out, len(text)-shared)
		out = append(out, text[shared:]...)
		ahead = text
	}
	if len(out) > MaxBytes {
		return nil, ErrLong
	}
	return out, OK
}

func GetTexts(b []byte) ([]string, int) {
	if len(b) > MaxBytes {
		return nil, ErrLong
	}
	return attemptAll(b, (*reader).texts)
}

// texts asks for all that PutTexts refuses, too: what it does not write has no bytes.
func (r *reader) texts() []string {
	count := r.number()
	r.require(count <= MaxList)
	list := make([]string, 0, count)
	ahead, room := "", MaxBytes
	for range count {
		ahead = r.text(ahead, room)
		room -= len(ahead)
		list = append(list, ahead)
	}
	return list
}

// text is bounded by room ahead of being made: a few bytes can ask for very long texts by what they share.
func (r *reader) text(ahead string, room int) string {
	shared := r.number()
	r.require(shared <= len(ahead))
	more := r.number()
	r.require(more <= room-shared)
	rest := r.take(more)
	if shared < len(ahead) && more > 0 {
		r.require(ahead[shared] != rest[0])
	}
	return ahead[:shared] + string(rest)
}

// foldSign tells an amount by a number that is not below 0.
func foldSign(d int) int {
	if d < 0 {
		return -2*d - 1
	}
	return 2 * d
}

func unfoldSign(v int) int {
	if v%2 == 1 {
		return -(v + 1) / 2
	}
	return v / 2
}

// runSize tells how long the run is with which a list of at least one number begins.
func runSize(list []int) int {
	if len(list) == 1 {
		return 1
	}
	size := 2
	for size < len(list) && list[size]-list[size-1] == list[1]-list[0] {
		size++
	}
	return size
}

func appendRun(out []byte, run []int) []byte {
	out = appendInt(out, run[0])
	out = appendInt(out, len(run))
	if len(run) > 1 {
		out = appendInt(out, foldSign(run[1]-run[0]))
	}
	return out
}

func inRun(v int) bool {
	return v >= 0 && v <= maxInRun
}

func PutRuns(list []int) ([]byte, int) {
	if len(list) > MaxList {
		return nil, ErrLong
	}
	for _, v := range list {
		if !inRun(v) {
			return nil, ErrRange
		}
	}
	out := appendInt(nil, len(list))
	for at := 0; at < len(list); {
		size := runSize(list[at:])
		out = appendRun(out, list[at:at+size])
		at += size
	}
	return out, OK
}

func GetRuns(b []byte) ([]int, int) {
	if len(b) > MaxBytes {
		return nil, ErrLong
	}
	return attemptAll(b, (*reader).runs)
}

func (r *reader) runs() []int {
	count := r.number()
	r.require(count <= MaxList)
	list := make([]int, 0, count)
	step := 0
	for len(list) < count {
		list, step = r.run(list, step, count-len(list))
	}
	return list
}

// run reads a run behind list, the last run of which went by step; left is how many numbers are still to come.
func (r *reader) run(list []int, step, left int) ([]int, int) {
	v := r.number()
	size := r.number()
	r.require(size >= 1 && size <= left)
	// Any two numbers make a run, so one alone can only be the last of all.
	r.require(size > 1 || left == 1)
	if len(list) > 0 {
		r.require(v != list[len(list)-1]+step)
	}
	if size > 1 {
		step = unfoldSign(r.number())
	}
	for range size {
		r.require(inRun(v))
		list = append(list, v)
		v += step
	}
	return list, step
}

// sumOn goes on with a sum over more bytes, so that pieces need not be laid one behind the other.
func sumOn(sum uint32, b []byte) uint32 {
	for _, x := range b {
		sum = (sum ^ uint32(x)) * sumTimes
	}
	return sum
}

func appendSum(out []byte, sum uint32) []byte {
	return append(out, byte(sum>>24), byte(sum>>16), byte(sum>>8), byte(sum))
}

func Sum32(b []byte) int {
	if len(b) > MaxBytes {
		return 0
	}
	return int(sumOn(sumStart, b))
}

func KeySum(key, b []byte) ([]byte, int) {
	// key has a limit of its own, which counts alone; b has only the general one, which goes ahead.
	if len(b) > MaxBytes {
		return nil, ErrLong
	}
	if len(key) < 1 || len(key) > maxKey {
		return nil, ErrRange
	}
	if len(key)+len(b)+max(len(key), sumLen) > MaxBytes {
		return nil, ErrLong
	}
	x := sumOn(sumOn(sumOn(sumStart, key), b), key)
	out := appendSum(nil, x)
	y := sumOn(sumOn(sumOn(sumStart, out), key), b)
	return appendSum(out, y), OK
}
