package csr

import (
	"math"
	"slices"
	"testing"

	"cotterel/api"
)

// registers is the control registers by number, each with what it keeps of a number that is written to it.
var registers = map[int]func(v uint64) uint64{
	0:  func(v uint64) uint64 { return v % 64 },
	1:  func(v uint64) uint64 { return v % 32 },
	2:  whole,
	3:  whole,
	4:  whole,
	5:  func(v uint64) uint64 { return v - v%64 },
	6:  whole,
	7:  whole,
	8:  whole,
	9:  func(v uint64) uint64 { return v % 8 },
	10: func(v uint64) uint64 { return v % 8 },
	11: whole,
}

// whole keeps all of a number.
func whole(v uint64) uint64 { return v }

// core is the parts of a core as numbers: 0 is PC, 1 whether it halts, from 2 on its registers, from 18 on its control registers.
type core [30]uint64

// The parts that the model speaks of.
const (
	status = 18
	count  = 25
	timer  = 26
	pend   = 28
)

// parts is a core as numbers.
func parts(a api.Arch) core {
	m := core{0: uint64(a.PC)}
	if a.Halt {
		m[1] = 1
	}
	for k, v := range a.R {
		m[2+k] = uint64(v)
	}
	for k, v := range a.C {
		m[18+k] = uint64(v)
	}
	return m
}

// wantKernel is what Kernel must return: the lowest bit is the one that makes a number odd.
func wantKernel(m core) bool { return m[status]%2 == 1 }

// wantMasked is what Masked must return: the sum of the bits that are kept when each is written alone.
func wantMasked(n int) uint32 {
	sum := uint64(0)
	if keep, ok := registers[n]; ok {
		for k := range 32 {
			sum += keep(1 << k)
		}
	}
	return uint32(sum)
}

// wantCause is the cause beside which Read, unless it reads the counter, and Write must return nothing.
func wantCause(m core, n int) int {
	_, ok := registers[n]
	switch {
	case !wantKernel(m):
		return 8
	case !ok:
		return 2
	}
	return 0
}

// wantRead is what Read must return.
func wantRead(m core, n int) (uint32, int) {
	cause := wantCause(m, n)
	if n == 7 {
		cause = 0
	}
	if cause != 0 {
		return 0, cause
	}
	return uint32(m[18+n]), 0
}

// wantWrite is what Write must return.
func wantWrite(m core, n int, v uint32) (core, int) {
	if cause := wantCause(m, n); cause != 0 {
		return core{}, cause
	}
	m[18+n] = registers[n](uint64(v))
	return m, 0
}

// wantRaise is what Raise must return: each of three lines is added where it is missing.
func wantRaise(m core, lines uint32) core {
	for _, line := range []uint64{1, 2, 4} {
		if uint64(lines)/line%2 == 1 && m[pend]/line%2 == 0 {
			m[pend] += line
		}
	}
	return m
}

// wantCount is what Count must return, counted without bounds and then brought back below 2^32.
func wantCount(m core) core {
	m[count] = (m[count] + 1) % (1 << 32)
	if m[timer] > 0 && m[timer] <= m[count] {
		m = wantRaise(m, 4)
	}
	return m
}

// check holds all calls with one core, a register's number and a number against the model, and that they leave the core as it is.
func check(t *testing.T, a api.Arch, n int, v uint32) {
	t.Helper()
	m := parts(a)
	wrong := func(call string, got, want any) {
		t.Helper()
		t.Fatalf("%s, core %#x, register %d, number %#x: %#x, want %#x", call, m, n, v, got, want)
	}
	if got, want := Kernel(a), wantKernel(m); got != want {
		wrong("Kernel", got, want)
	}
	if got, want := Masked(n), wantMasked(n); got != want {
		wrong("Masked", got, want)
	}
	read, cause := Read(a, n)
	if want, wantCause := wantRead(m, n); read != want || cause != wantCause {
		wrong("Read", []any{read, cause}, []any{want, wantCause})
	}
	written, cause := Write(a, n, v)
	if want, wantCause := wantWrite(m, n, v); parts(written) != want || cause != wantCause {
		wrong("Write", []any{parts(written), cause}, []any{want, wantCause})
	}
	if got, want := parts(Count(a)), wantCount(m); got != want {
		wrong("Count", got, want)
	}
	if got, want := parts(Raise(a, v)), wantRaise(m, v); got != want {
		wrong("Raise", got, want)
	}
	if parts(a) != m {
		wrong("what was handed in", parts(a), m)
	}
}

// full is a core no two parts of which are alike, each register with bits that it has not; its lowest bit of the status is given.
func full(kernel bool) api.Arch {
	a := api.Arch{PC: 0xa1b2c3d4, Halt: true}
	for k := range a.R {
		a.R[k] = 0x9e3779b9 * uint32(k+3)
	}
	for k := range a.C {
		a.C[k] = 0xf8765431 - 0x01234567*uint32(k)
	}
	a.C[api.CStatus] &^= api.SKernel
	if kernel {
		a.C[api.CStatus] |= api.SKernel
	}
	return a
}

// inKernel is a core in kernel mode all other parts of which are 0.
func inKernel() api.Arch {
	var a api.Arch
	a.C[api.CStatus] = 1
	return a
}

// with is a core with other contents of a control register, whatever mode it is in.
func with(a api.Arch, n int, v uint32) api.Arch {
	a.C[n] = v
	return a
}

// outside is numbers that no control register has, also such as one has if only their lowest bits are looked at, or their lowest bits with a sign.
func outside() []int {
	l := []int{
		-1, -2, -3, -7, -11, -12, -13, -16, -32, -256, 12, 13, 14, 15, 16, 17, 23, 24, 31, 32, 39, 63, 64, 71, 127, 128, 255, 1000, 8191, -8192, 16383,
		math.MaxInt, math.MaxInt - 1, math.MinInt, math.MinInt + 1, math.MaxInt32, math.MinInt32, math.MaxUint32, math.MaxUint32 - 4,
	}
	for k := range 12 {
		l = append(l, 1<<4+k, 1<<8+k, 1<<16+k, 1<<31+k, 1<<32+k, 1<<62+k, -1<<4+k-12, -1<<8+k, -1<<16+k, -1<<32+k, math.MinInt+k, math.MaxInt-k, 12+k, -1-k)
	}
	slices.Sort(l)
	return slices.Compact(l)
}

// numbers is numbers to stand in registers: each bit alone, all but each, runs of the lowest and of the highest, and some without a rule.
func numbers() []uint32 {
	l := []uint32{0, 1, math.MaxUint32, 0x12345678, 0x87654321, 0xaaaaaaaa, 0x55555555, 200, 15, 10, 1000}
	for k := range 32 {
		l = append(l, 1<<k, ^uint32(1<<k), 1<<k-1, ^uint32(1<<k-1))
	}
	slices.Sort(l)
	return slices.Compact(l)
}

// choose is a number below n, and another one each time.
func choose(x *uint64, n int) int {
	*x = *x*6364136223846793005 + 1442695040888963407
	return int(*x>>33) % n
}

// word is a number of 32 bits, small ones, great ones and any.
func word(x *uint64) uint32 {
	v := uint32(choose(x, 1<<16))<<16 | uint32(choose(x, 1<<16))
	switch choose(x, 4) {
	case 0:
		return v % 16
	case 1:
		return math.MaxUint32 - v%16
	}
	return v
}

// anyCore is a core with any parts, now and then with a timer that is near to its counter.
func anyCore(x *uint64) api.Arch {
	a := api.Arch{PC: word(x), Halt: choose(x, 2) == 0}
	for k := range a.R {
		a.R[k] = word(x)
	}
	for k := range a.C {
		a.C[k] = word(x)
	}
	if choose(x, 2) == 0 {
		a.C[api.CTimer] = a.C[api.CCount] + uint32(choose(x, 4)) - 1
	}
	return a
}

// anyNumber is a register's number, now and then one that no register has.
func anyNumber(x *uint64) int {
	wrong := outside()
	if choose(x, 5) == 0 {
		return wrong[choose(x, len(wrong))]
	}
	return choose(x, api.Csrs)
}

// own is that each register of a core has no bits but its own.
func own(a api.Arch) bool {
	for k, v := range a.C {
		if registers[k](uint64(v)) != uint64(v) {
			return false
		}
	}
	return true
}
