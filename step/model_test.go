package step

import (
	"fmt"
	"math/big"
	"slices"
	"strconv"
	"strings"
	"testing"

	"cotterel/api"
)

// table is the document's table of operations in its order: in each line a form, and operations that have it.
const table = `R add sub and or xor sll srl sra slt sltu
R mul mulh mulhu div divu rem remu
R min max ror
M clz pop rev
R cmov
I addi andi ori xori slti
I slli srli srai
U lui
I lb lbu lh lhu lw
I lwp
S sb sh sw
B beq bne blt bge bltu bgeu
U jal
I jalr
A swap fadd cas
Z call tret
C csrr
W csrw
Z fence sync
X out
Z halt
X send
Z nop`

// The fields that a form has, in the order in which an instruction is written: rd, ra, rb, a number of 14 bits, one of 18.
var fieldsOf = map[string]string{"R": "dab", "M": "da", "I": "dai", "U": "dn", "S": "abi", "B": "abi", "A": "dab", "C": "di", "W": "ai", "X": "a", "Z": ""}

// operation is a row of the table: its name and its fields.
type operation struct{ name, fields string }

// operations are the table's, number 0 being none.
var operations = rows()

func rows() []operation {
	l := []operation{{}}
	for _, line := range strings.Split(table, "\n") {
		parts := strings.Fields(line)
		for _, name := range parts[1:] {
			l = append(l, operation{name, fieldsOf[parts[0]]})
		}
	}
	return l
}

// opOf is the number of the operation of that name.
func opOf(name string) int {
	return slices.IndexFunc(operations, func(o operation) bool { return o.name == name })
}

// Where a field stands in a word, and how many values it has.
var (
	weightOf = map[byte]int64{'d': 1 << 22, 'a': 1 << 18, 'b': 1 << 14, 'i': 1, 'n': 1}
	rangeOf  = map[byte]int64{'d': 16, 'a': 16, 'b': 16, 'i': 1 << 14, 'n': 1 << 18}
)

// ins is the word of an instruction that is written by its name and the fields of its form.
func ins(name string, fields ...int) uint32 {
	w := int64(opOf(name)) << 26
	have := operations[opOf(name)].fields
	if len(have) != len(fields) {
		panic(name + " has the fields " + have)
	}
	for k, f := range fields {
		w += remainder(int64(f), rangeOf[have[k]]) * weightOf[have[k]]
	}
	return uint32(w)
}

// whole is how many words there are.
const whole = 1 << 32

// remainder is what is left of v, never below 0.
func remainder(v, n int64) int64 { return (v%n + n) % n }

// word is the word that is v modulo 2^32.
func word(v int64) int64 { return remainder(v, whole) }

// signed is a word's signed value.
func signed(v int64) int64 {
	if v >= whole/2 {
		return v - whole
	}
	return v
}

// floor is the greatest number that times n is not above v.
func floor(v, n int64) int64 { return (v - remainder(v, n)) / n }

// bit reports whether a word's bit is 1.
func bit(v int64, k int) bool { return v>>k%2 == 1 }

// parts are the fields of an instruction as they count.
type parts struct {
	name       string
	fields     string
	d, a, b, i int64
}

// apart is a word's operation and fields; false: it is no instruction.
func apart(w int64) (parts, bool) {
	o := operations[w>>26]
	p := parts{name: o.name, fields: o.fields}
	left := w % (1 << 26)
	for k := range o.fields {
		f := o.fields[k]
		v := left / weightOf[f] % rangeOf[f]
		left -= v * weightOf[f]
		switch f {
		case 'd':
			p.d = v
		case 'a':
			p.a = v
		case 'b':
			p.b = v
		default:
			p.i = v
			if o.name != "lui" && v >= rangeOf[f]/2 {
				p.i -= rangeOf[f]
			}
		}
	}
	if slices.Contains([]string{"slli", "srli", "srai"}, p.name) && (p.i < 0 || p.i > 31) {
		return p, false
	}
	return p, w>>26 != 0 && left == 0
}

// machine is the model's machine: words are numbers from 0 to 2^32-1.
type machine struct {
	pc          int64
	r           [16]int64
	c           [12]int64
	halt        bool
	mem, shadow []byte
	out         []uint32
}

// modelOf is a machine as the model has it, in memory of its own.
func modelOf(m api.Mach) machine {
	n := machine{pc: int64(m.A.PC), halt: m.A.Halt, mem: slices.Clone(m.Mem), shadow: slices.Clone(m.Shadow), out: slices.Clone(m.Out)}
	for k, v := range m.A.R {
		n.r[k] = int64(v)
	}
	for k, v := range m.A.C {
		n.c[k] = int64(v)
	}
	return n
}

// plain is the model's machine as a machine.
func (m machine) plain() api.Mach {
	p := api.Mach{Mem: m.mem, Shadow: m.shadow, Out: m.out}
	p.A.PC, p.A.Halt = uint32(m.pc), m.halt
	for k, v := range m.r {
		p.A.R[k] = uint32(v)
	}
	for k, v := range m.c {
		p.A.C[k] = uint32(v)
	}
	return p
}

// inUser is that the mode is user mode.
func (m machine) inUser() bool { return !bit(m.c[0], 0) }

// number is the number of so many bytes at an address; false: there is none.
func number(l []byte, at, size int64) (int64, bool) {
	if at+size > int64(len(l)) {
		return 0, false
	}
	v := int64(0)
	for k := size - 1; k >= 0; k-- {
		v = v*256 + int64(l[at+k])
	}
	return v, true
}

// The causes by which an access is refused, and the flags that its page must have.
var (
	refusal = map[byte]int{'x': 1, 'r': 4, 'w': 6}
	needs   = map[byte][]int{'x': {0, 4, 5, 3}, 'r': {0, 4, 5, 1}, 'w': {0, 4, 5, 2, 6}}
)

// locate is the physical address of an access of a kind (x, r, w) to memory or the shadow, or the cause why it fails.
func (m machine) locate(l []byte, va, size int64, kind byte) (int64, int) {
	if va%size != 0 {
		return 0, 5
	}
	at := va
	if m.inUser() && bit(m.c[0], 4) {
		// A table's word leads to the next table, and the last one to the page.
		table, last := m.c[5], int64(0)
		for level, part := range []int64{1 << 10, 1 << 6} {
			w, ok := number(m.shadow, word(table+va/part%16*4), 4)
			leaf := w/2%8 != 0
			if va >= 1<<14 || !ok || !bit(w, 0) || leaf != (level == 1) {
				return 0, refusal[kind]
			}
			table, last = w/256%256*64, w
		}
		for _, flag := range needs[kind] {
			if !bit(last, flag) {
				return 0, refusal[kind]
			}
		}
		at = table + va%64
	}
	if _, ok := number(l, at, size); !ok {
		return 0, 9
	}
	return at, 0
}

// fetched is what Fetch must return.
func (m machine) fetched() (int64, int) {
	at, cause := m.locate(m.shadow, m.pc, 4, 'x')
	if cause != 0 {
		return 0, cause
	}
	w, _ := number(m.shadow, at, 4)
	return w, 0
}

// trap goes to the handler.
func (m *machine) trap(cause int, val, from int64) {
	s := m.c[0]
	// The lowest four bits are those of the mode and of interrupts: 1 now, and what was in the two above.
	m.c[0] = s - s%16 + s%4*4 + 1
	m.c[1], m.c[2], m.c[3] = int64(cause), val, from
	m.pc = m.c[4]
}

// next is what Step must return.
func (m machine) next() (machine, api.Event, bool) {
	if m.halt {
		return m, api.Event{}, false
	}
	e := api.Event{PC: uint32(m.pc), Rd: -1, Rd2: -1}
	single := m.inUser() && bit(m.c[0], 5)
	before := m
	cause, val := m.do(&e)
	if cause != 0 {
		// Nothing that was done ahead of it counts.
		m = before
		m.trap(cause, val, before.pc)
	} else {
		m.c[7] = word(m.c[7] + 1)
		if m.c[8] != 0 && m.c[7] >= m.c[8] && !bit(m.c[10], 2) {
			m.c[10] += 4
		}
		if single && !m.halt {
			cause = 10
			m.trap(10, 0, m.pc)
		}
	}
	e.Cause, e.Tval, e.Next = cause, uint32(val), uint32(m.pc)
	return m, e, true
}

// do is the next instruction, or the cause and the number of the trap in its place.
func (m *machine) do(e *api.Event) (int, int64) {
	for line, cause := range []int{16, 17, 18} {
		if bit(m.c[10], line) && bit(m.c[9], line) && (m.inUser() || bit(m.c[0], 1)) {
			return cause, 0
		}
	}
	if m.inUser() && bit(m.c[11], 0) && m.c[11]-1 == m.pc {
		return 3, m.pc
	}
	w, cause := m.fetched()
	if cause != 0 {
		return cause, m.pc
	}
	e.Word = uint32(w)
	p, ok := apart(w)
	if !ok {
		return 2, w
	}
	if m.inUser() && (slices.Contains([]string{"tret", "csrw", "halt", "sync"}, p.name) || p.name == "csrr" && p.i != 7) {
		return 8, w
	}
	if strings.HasPrefix(p.name, "csr") && (p.i < 0 || p.i > 11) {
		return 2, w
	}
	if p.name == "call" {
		return 7, 0
	}
	if size := sizes[p.name]; size != 0 {
		return m.access(p, size, e)
	}
	m.effect(p, e)
	return 0, 0
}

// sizes is the bytes that an operation reads or writes.
var sizes = map[string]int64{"lb": 1, "lbu": 1, "sb": 1, "lh": 2, "lhu": 2, "sh": 2, "lw": 4, "lwp": 4, "sw": 4, "swap": 4, "fadd": 4, "cas": 4}

// access is what a load, a store or an atomic operation does, or the cause and the number of the trap in its place.
func (m *machine) access(p parts, size int64, e *api.Event) (int, int64) {
	va, kind := m.r[p.a], byte('w')
	if p.name != "lwp" {
		va = word(va + p.i)
	}
	if p.name[0] == 'l' {
		kind = 'r'
	}
	at, cause := m.locate(m.mem, va, size, kind)
	if cause != 0 {
		return cause, va
	}
	old, _ := number(m.mem, at, size)
	if put, ok := m.stored(p, old); ok {
		put = remainder(put, 1<<(8*size))
		e.Size, e.Addr, e.Data = int(size), uint32(at), uint32(put)
		for k := range size {
			m.mem[at+k] = byte(put % 256)
			put /= 256
		}
	}
	moved := word(m.r[p.a] + p.i)
	if p.name == "lb" || p.name == "lh" {
		if bits := 8 * size; bit(old, int(bits-1)) {
			old += whole - 1<<bits
		}
	}
	if strings.Contains(p.fields, "d") {
		m.write(p.d, old, &e.Rd, &e.Val)
	}
	if p.name == "lwp" && p.a != p.d {
		m.write(p.a, moved, &e.Rd2, &e.Val2)
	}
	m.pc = word(m.pc + 4)
	return 0, 0
}

// stored is what an operation writes in the place of an old number; false: it writes nothing.
func (m *machine) stored(p parts, old int64) (int64, bool) {
	switch p.name {
	case "sb", "sh", "sw", "swap":
		return m.r[p.b], true
	case "fadd":
		return m.r[p.b] + old, true
	case "cas":
		return m.r[p.b], old == m.r[p.d]
	}
	return 0, false
}

// write writes a register, but number 0, and tells it.
func (m *machine) write(r, v int64, which *int, told *uint32) {
	if r > 0 {
		m.r[r] = v
		*which, *told = int(r), uint32(v)
	}
}

// effect is what any other instruction does.
func (m *machine) effect(p parts, e *api.Event) {
	x, y := m.r[p.a], m.r[p.b]
	next := m.pc + 4
	switch p.name {
	case "jal":
		m.write(p.d, word(next), &e.Rd, &e.Val)
		next = m.pc + 4*p.i
	case "jalr":
		to := word(x + p.i)
		m.write(p.d, word(next), &e.Rd, &e.Val)
		next = to - to%4
	case "beq", "bne", "blt", "bge", "bltu", "bgeu":
		if map[string]bool{"beq": x == y, "bne": x != y, "blt": signed(x) < signed(y), "bge": signed(x) >= signed(y), "bltu": x < y, "bgeu": x >= y}[p.name] {
			next = m.pc + 4*p.i
		}
	case "tret":
		// The mode and interrupts are as they were, in the two bits above.
		m.c[0] = m.c[0] - m.c[0]%4 + m.c[0]/4%4
		next = m.c[3]
	case "csrr":
		m.write(p.d, m.c[p.i], &e.Rd, &e.Val)
	case "csrw":
		m.c[p.i] = map[int64]int64{0: x % 64, 1: x % 32, 5: x - x%64, 9: x % 8, 10: x % 8, 2: x, 3: x, 4: x, 6: x, 7: x, 8: x, 11: x}[p.i]
	case "sync":
		m.shadow = slices.Clone(m.mem)
	case "out", "send":
		e.Data = uint32(x)
		if p.name == "out" {
			m.out = append(m.out, uint32(x))
		}
	case "halt":
		m.halt = true
	case "fence", "nop":
	default:
		if strings.HasSuffix(p.fields, "i") || strings.HasSuffix(p.fields, "n") {
			y = word(p.i)
		}
		m.write(p.d, word(computed(p.name, x, y, m.r[p.d])), &e.Rd, &e.Val)
	}
	m.pc = word(next)
}

// digits is a word's 32 binary digits.
func digits(v int64) string {
	s := strconv.FormatInt(v, 2)
	return strings.Repeat("0", 32-len(s)) + s
}

// value is the number that binary digits are.
func value(s string) int64 {
	v, _ := strconv.ParseInt(s, 2, 64)
	return v
}

// each is a word of which each bit is made of those of two others.
func each(x, y int64, made func(a, b byte) bool) int64 {
	l, r, v := digits(x), digits(y), int64(0)
	for k := range l {
		v *= 2
		if made(l[k], r[k]) {
			v++
		}
	}
	return v
}

// product is the upper or the lower half of a product.
func product(x, y int64, upper bool) int64 {
	p := new(big.Int).Mul(big.NewInt(x), big.NewInt(y))
	quotient, rest := new(big.Int).DivMod(p, big.NewInt(whole), new(big.Int))
	if upper {
		return quotient.Int64()
	}
	return rest.Int64()
}

// one is 1 if something holds, otherwise 0.
func one(holds bool) int64 {
	if holds {
		return 1
	}
	return 0
}

// computed is the result of an operation with two numbers and what rd was, modulo 2^32.
func computed(name string, x, y, was int64) int64 {
	power := int64(1) << (y % 32)
	switch strings.TrimSuffix(name, "i") {
	case "add":
		return x + y
	case "sub":
		return x - y
	case "and":
		return each(x, y, func(a, b byte) bool { return a == '1' && b == '1' })
	case "or":
		return each(x, y, func(a, b byte) bool { return a == '1' || b == '1' })
	case "xor":
		return each(x, y, func(a, b byte) bool { return a != b })
	case "sll":
		return x * power
	case "srl":
		return x / power
	case "sra":
		return floor(signed(x), power)
	case "slt":
		return one(signed(x) < signed(y))
	case "sltu":
		return one(x < y)
	case "mul":
		return product(x, y, false)
	case "mulh":
		return product(signed(x), signed(y), true)
	case "mulhu":
		return product(x, y, true)
	case "min":
		return min(signed(x), signed(y))
	case "max":
		return max(signed(x), signed(y))
	case "ror":
		d, n := digits(x), 32-int(y%32)
		return value(d[n:] + d[:n])
	case "clz":
		return int64(len(digits(x)) - len(strings.TrimLeft(digits(x), "0")))
	case "pop":
		return int64(strings.Count(digits(x), "1"))
	case "rev":
		d := digits(x)
		return value(d[24:] + d[16:24] + d[8:16] + d[:8])
	case "cmov":
		if y == 0 {
			return was
		}
		return x
	case "lu":
		return y << 14
	}
	return divided(name, x, y)
}

// divided is a quotient or a remainder.
func divided(name string, x, y int64) int64 {
	quotient := strings.HasPrefix(name, "div")
	if y == 0 {
		if quotient {
			return -1
		}
		return x
	}
	if !strings.HasSuffix(name, "u") {
		x, y = signed(x), signed(y)
	}
	if quotient {
		return x / y
	}
	return x - x/y*y
}

// same reports whether two machines are equal.
func same(a, b api.Mach) bool {
	return a.A == b.A && string(a.Mem) == string(b.Mem) && string(a.Shadow) == string(b.Shadow) && slices.Equal(a.Out, b.Out)
}

// differences is in what a machine is not as it should be.
func differences(got, want api.Mach) string {
	s := fmt.Sprintf("%v, output %v, want %v, %v", got.A, got.Out, want.A, want.Out)
	if got.A == want.A && slices.Equal(got.Out, want.Out) {
		s = "core and output as they should be"
	}
	for what, lists := range map[string][2][]byte{"memory": {got.Mem, want.Mem}, "shadow": {got.Shadow, want.Shadow}} {
		if len(lists[0]) != len(lists[1]) {
			s += fmt.Sprintf("; %s of %d bytes, want %d", what, len(lists[0]), len(lists[1]))
			continue
		}
		for k := range lists[0] {
			if lists[0][k] != lists[1][k] {
				s += fmt.Sprintf("; byte %d of %s %#x, want %#x", k, what, lists[0][k], lists[1][k])
			}
		}
	}
	return s
}

// room is how much there is behind a list that is handed in.
const room = 5

// guard is a machine in memory with something behind each list, and a question: is all that memory as it was?
func guard(m api.Mach) (api.Mach, func() bool) {
	mem := append(slices.Clone(m.Mem), "room!"...)
	shadow := append(slices.Clone(m.Shadow), "behin"...)
	out := append(slices.Clone(m.Out), 91, 92, 93, 94, 95)
	was := api.Mach{Mem: slices.Clone(mem), Shadow: slices.Clone(shadow), Out: slices.Clone(out)}
	m.Mem, m.Shadow, m.Out = mem[:len(mem)-room], shadow[:len(shadow)-room], out[:len(out)-room]
	return m, func() bool { return same(was, api.Mach{Mem: mem, Shadow: shadow, Out: out}) }
}

// spoil overwrites all of a list, and what is behind it.
func spoil[E byte | uint32](l []E) {
	l = l[:cap(l)]
	for k := range l {
		l[k] ^= 0x5a
	}
}

// stands reports whether a machine that was returned stands in memory of its own: nothing else changes when one of its lists does.
func stands(m api.Mach, untouched func() bool) bool {
	was := api.Mach{A: m.A, Mem: slices.Clone(m.Mem), Shadow: slices.Clone(m.Shadow), Out: slices.Clone(m.Out)}
	spoil(m.Mem)
	alone := string(m.Shadow) == string(was.Shadow)
	spoil(m.Shadow)
	spoil(m.Out)
	return alone && untouched()
}

// check holds Fetch and Step with one machine against the model, that they leave it as it is and that Step's machine is new memory, and returns that machine.
func check(t *testing.T, m api.Mach) (api.Mach, api.Event) {
	t.Helper()
	m, untouched := guard(m)
	model := modelOf(m)
	w, cause := Fetch(m)
	if want, wantCause := model.fetched(); int64(w) != want || cause != wantCause {
		t.Fatalf("Fetch of %v: %#x, %d, want %#x, %d", m.A, w, cause, want, wantCause)
	}
	got, e, ok := Step(m)
	after, wantEvent, wantOk := model.next()
	want := after.plain()
	if !same(got, want) || e != wantEvent || ok != wantOk {
		t.Fatalf("Step of %v:\n%s\n%+v, %v, want\n%+v, %v", m.A, differences(got, want), e, ok, wantEvent, wantOk)
	}
	if !untouched() || !stands(got, untouched) {
		t.Fatalf("Step of %v: what was handed in is not as it was, or shared", m.A)
	}
	return want, e
}

// valid reports whether a machine is valid.
func valid(m api.Mach) bool {
	n := len(m.Mem)
	for k, v := range m.A.C {
		last := map[int]uint32{0: 63, 1: 31, 9: 7, 10: 7}
		if limit, ok := last[k]; ok && v > limit || k == 5 && v%64 != 0 {
			return false
		}
	}
	return n%64 == 0 && n >= 64 && n <= 1<<14 && len(m.Shadow) == n && m.A.R[0] == 0
}

// choose is a number below n, and another one each time.
func choose(x *uint64, n int) int {
	*x = *x*6364136223846793005 + 1442695040888963407
	return int(*x>>33) % n
}
