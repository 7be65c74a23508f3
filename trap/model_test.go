package trap

import (
	"fmt"
	"math"
	"slices"
	"testing"

	"cotterel/api"
)

// The control registers and the bits that the model speaks of, by the document's numbers.
const (
	status = 0
	cause  = 1
	val    = 2
	epc    = 3
	vec    = 4
	enable = 9
	pend   = 10
	stop   = 11

	kernelBit = 0
	enableBit = 1
	wasK      = 2
	wasE      = 3
	singleBit = 5
)

// bits is a word as the letters of its bits, the lowest first.
type bits [32]byte

// core is a core as the letters of its words.
type core struct {
	pc   bits
	r    [16]bits
	c    [12]bits
	halt bool
}

// letters is a word's letters.
func letters(v uint32) bits {
	var l bits
	for k := range l {
		l[k] = "01"[v%2]
		v /= 2
	}
	return l
}

// parts is a core's letters.
func parts(a api.Arch) core {
	m := core{pc: letters(a.PC), halt: a.Halt}
	for k, v := range a.R {
		m.r[k] = letters(v)
	}
	for k, v := range a.C {
		m.c[k] = letters(v)
	}
	return m
}

// String is a core's letters to be read.
func (m core) String() string {
	s := fmt.Sprintf("pc %s, halt %v", m.pc, m.halt)
	for k, l := range m.c {
		s += fmt.Sprintf(", c%d %s", k, l)
	}
	return s + fmt.Sprintf(", registers %s", m.r)
}

// inUser is that a core is in user mode.
func (m core) inUser() bool { return m.c[status][kernelBit] == '0' }

// wantTake is what Take must return.
func wantTake(m core, number int, value, from uint32) core {
	s := m.c[status]
	m.pc = m.c[vec]
	m.c[status][wasK], m.c[status][wasE] = s[kernelBit], s[enableBit]
	m.c[status][kernelBit], m.c[status][enableBit] = '1', '0'
	m.c[cause] = letters(uint32((number%32 + 32) % 32)) // a remainder is as the number's sign
	m.c[val] = letters(value)
	m.c[epc] = letters(from)
	return m
}

// wantReturn is what Return must return.
func wantReturn(m core) (core, int) {
	if m.inUser() {
		return parts(api.Arch{}), 8
	}
	s := m.c[status]
	m.pc = m.c[epc]
	m.c[status][kernelBit], m.c[status][enableBit] = s[wasK], s[wasE]
	return m, 0
}

// wantPending is what Pending must return: the causes stand in the lines' order.
func wantPending(m core) int {
	for line, number := range []int{16, 17, 18} {
		open := m.c[pend][line] == '1' && m.c[enable][line] == '1'
		if open && (m.inUser() || m.c[status][enableBit] == '1') {
			return number
		}
	}
	return 0
}

// wantStops is what Stops must return.
func wantStops(m core, pc uint32) bool {
	p, s := letters(pc), m.c[stop]
	return m.inUser() && s[0] == '1' && p[0] == '0' && [31]byte(s[1:]) == [31]byte(p[1:])
}

// wantSingle is what Single must return.
func wantSingle(m core) bool { return m.inUser() && m.c[status][singleBit] == '1' }

// check holds all calls with one core, a cause and two numbers against the model, and that they leave the core as it is.
func check(t *testing.T, a api.Arch, number int, value, pc uint32) {
	t.Helper()
	m := parts(a)
	wrong := func(call string, got, want any) {
		t.Helper()
		t.Fatalf("%s, core %v, cause %d, numbers %#x, %#x:\n%v, want\n%v", call, a, number, value, pc, got, want)
	}
	if got, want := parts(Take(a, number, value, pc)), wantTake(m, number, value, pc); got != want {
		wrong("Take", got, want)
	}
	back, refused := Return(a)
	if want, wantRefused := wantReturn(m); parts(back) != want || refused != wantRefused {
		wrong("Return", []any{parts(back), refused}, []any{want, wantRefused})
	}
	if got, want := Pending(a), wantPending(m); got != want {
		wrong("Pending", got, want)
	}
	if got, want := Stops(a, pc), wantStops(m, pc); got != want {
		wrong("Stops", got, want)
	}
	if got, want := Single(a), wantSingle(m); got != want {
		wrong("Single", got, want)
	}
	if parts(a) != m {
		wrong("what was handed in", parts(a), m)
	}
}

// full is a core no two parts of which are alike, each register with bits that it has not; its status is given.
func full(s uint32) api.Arch {
	a := api.Arch{PC: 0xa1b2c3d4, Halt: true}
	for k := range a.R {
		a.R[k] = 0x9e3779b9 * uint32(k+3)
	}
	for k := range a.C {
		a.C[k] = 0xf8765431 - 0x01234567*uint32(k)
	}
	return with(a, api.CStatus, s)
}

// with is a core with other contents of a control register, whatever mode it is in.
func with(a api.Arch, n int, v uint32) api.Arch {
	a.C[n] = v
	return a
}

// at is a core with another place to go on at.
func at(a api.Arch, pc uint32) api.Arch {
	a.PC = pc
	return a
}

// statuses is all contents of the status that it has bits for, each alone, with some of the bits that it has not, and with all of them.
func statuses() []uint32 {
	var l []uint32
	for s := range uint32(64) {
		for _, above := range []uint32{0, 1 << 6, 1 << 31, 0x5a5a5a40, 0xffffffc0} {
			l = append(l, s|above)
		}
	}
	return l
}

// numbers is numbers to stand in registers: each bit alone, all but each, runs of the lowest and of the highest, and some without a rule.
func numbers() []uint32 {
	l := []uint32{0, 1, math.MaxUint32, 0x12345678, 0x87654321, 0xaaaaaaaa, 0x55555555, 200, 15, 10, 1000}
	for k := range 32 {
		l = append(l, 1<<k, ^uint32(1<<k), 1<<k-1, ^uint32(1<<k-1))
	}
	slices.Sort(l)
	return slices.Compact(l)
}

// causes is all causes, and numbers that are none: with more bits than the register has, negative, very large and very small ones.
func causes() []int {
	l := []int{math.MaxInt, math.MaxInt - 1, math.MinInt, math.MinInt + 1, math.MaxInt32, math.MinInt32, math.MaxUint32, 1000, -1000, 12345678901, -12345678901}
	for k := range 40 {
		l = append(l, k, -k)
	}
	for k := 5; k < 63; k++ {
		l = append(l, 1<<k, 1<<k+7, 1<<k-1, -1<<k, -1<<k+18, -1<<k-1)
	}
	slices.Sort(l)
	return slices.Compact(l)
}

// choose is a number below n, and another one each time.
func choose(x *uint64, n int) int {
	*x = *x*6364136223846793005 + 1442695040888963407
	return int(*x>>33) % n
}

// word is a number of 32 bits, small ones, great ones and any.
func word(x *uint64) uint32 {
	v := uint32(choose(x, 1<<16))<<16 | uint32(choose(x, 1<<16))
	switch choose(x, 4) {
	case 0:
		return v % 16
	case 1:
		return math.MaxUint32 - v%16
	}
	return v
}

// anyCore is a core with any parts.
func anyCore(x *uint64) api.Arch {
	a := api.Arch{PC: word(x), Halt: choose(x, 2) == 0}
	for k := range a.R {
		a.R[k] = word(x)
	}
	for k := range a.C {
		a.C[k] = word(x)
	}
	return a
}

// anyCause is a cause, now and then a number that is none.
func anyCause(x *uint64) int {
	if choose(x, 2) == 0 {
		return choose(x, 19)
	}
	return int(word(x))<<choose(x, 33) - choose(x, 2)*int(word(x))
}

// anyPlace is a place to stop at, often that of a core's breakpoint, or one bit beside it.
func anyPlace(x *uint64, a api.Arch) uint32 {
	switch choose(x, 4) {
	case 0:
		return word(x)
	case 1:
		return a.C[api.CStop] ^ 1 ^ 1<<choose(x, 32)
	}
	return a.C[api.CStop] ^ 1
}
