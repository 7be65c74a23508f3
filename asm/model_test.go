package asm

import (
	"fmt"
	"maps"
	"math/big"
	"regexp"
	"slices"
	"strings"
	"testing"

	"cotterel/api"
)

// row is an operation as the document's tables give it: its operands are letters, d for rd, a for ra, b for rb, i for imm, in the order in which they are written.
type row struct {
	op       uint32
	operands string
	form     byte
	lo, hi   int64 // of imm
}

// table is made once, as the model asks for it at every line.
var table = rows()

func rows() map[string]row {
	l := map[string]row{}
	for _, g := range []struct {
		names, operands string
		form            byte
	}{
		{"add sub and or xor sll srl sra slt sltu mul mulh mulhu div divu rem remu min max ror", "dab", 'R'}, {"clz pop rev", "da", 'M'}, {"cmov", "dab", 'R'},
		{"addi andi ori xori slti slli srli srai", "dai", 'I'}, {"lui", "di", 'U'}, {"lb lbu lh lhu lw lwp", "dai", 'I'}, {"sb sh sw", "abi", 'S'}, {"beq bne blt bge bltu bgeu", "abi", 'B'},
		{"jal", "di", 'U'}, {"jalr", "dai", 'I'}, {"swap fadd cas", "dab", 'A'}, {"call tret", "", 'Z'}, {"csrr", "di", 'C'}, {"csrw", "ai", 'W'}, {"fence sync", "", 'Z'},
		{"out", "a", 'X'}, {"halt", "", 'Z'}, {"send", "a", 'X'}, {"nop", "", 'Z'},
	} {
		for _, name := range strings.Fields(g.names) {
			r := row{uint32(len(l) + 1), g.operands, g.form, -8192, 8191}
			switch name {
			case "slli", "srli", "srai":
				r.lo, r.hi = 0, 31
			case "lui":
				r.lo, r.hi = 0, 262143
			case "jal":
				r.lo, r.hi = -131072, 131071
			}
			l[name] = r
		}
	}
	return l
}

// names is the names of the operations in the order of their numbers.
func names() []string {
	l := slices.Collect(maps.Keys(table))
	slices.SortFunc(l, func(a, b string) int { return int(table[a].op) - int(table[b].op) })
	return l
}

// answer is all that Assemble returns.
type answer struct {
	im    api.Image
	names []api.Name
	line  int
	e     api.Errno
}

// String is an answer in short: beside the start its segments in hexadecimal digits, its names, its line and its error.
func (a answer) String() string {
	s := fmt.Sprintf("%d", a.im.Start)
	for _, g := range a.im.Segs {
		s += fmt.Sprintf(" %d:%x", g.At, g.Data)
	}
	for _, n := range a.names {
		s += fmt.Sprintf(" %s=%d", n.Text, n.Val)
	}
	return s + fmt.Sprintf(" line %d error %d", a.line, a.e)
}

func assembled(src string) answer {
	im, names, line, e := Assemble(src)
	return answer{im, names, line, e}
}

var (
	isNumber   = regexp.MustCompile(`\A(0|-?[1-9][0-9]*|0x[0-9a-f]{1,8})\z`)
	isAName    = regexp.MustCompile(`\A[a-zA-Z_][a-zA-Z0-9_]{0,15}\z`)
	isLabel    = regexp.MustCompile(`:\z`)
	isRegister = regexp.MustCompile(`\Ar([0-9]|1[0-5])\z`)
	isLines    = regexp.MustCompile(`\A([ -~\t]*\n)*\z`)
	isCode     = regexp.MustCompile(`\A[^;]*`)
	isWord     = regexp.MustCompile(`[^ \t,]+`)
)

// model is the assembler as the chapter tells it, by patterns, numbers without bounds and bytes in a map.
type model struct {
	order  []string
	values map[string]*big.Int
	bytes  map[int]byte
}

// within reports whether lo <= n <= hi.
func within(n *big.Int, lo, hi int64) bool {
	return n.Cmp(big.NewInt(lo)) >= 0 && n.Cmp(big.NewInt(hi)) <= 0
}

func modulo(n *big.Int) *big.Int {
	return new(big.Int).Mod(n, big.NewInt(1<<32))
}

// asSigned is a number from 0 to 2^32 - 1 in two's complement.
func asSigned(n *big.Int) *big.Int {
	if n.Cmp(big.NewInt(1<<31)) < 0 {
		return n
	}
	return new(big.Int).Sub(n, big.NewInt(1<<32))
}

func readNumber(s string) *big.Int {
	n, ok := new(big.Int).SetString(strings.TrimPrefix(s, "0x"), map[bool]int{true: 16, false: 10}[strings.HasPrefix(s, "0x")])
	if !ok {
		panic(s)
	}
	return n
}

// expected is what Assemble must return.
func expected(src string) answer {
	if len(src) > 65536 || strings.Count(src, "\n") > 4096 {
		return answer{e: api.ErrLong}
	}
	if !isLines.MatchString(src) {
		return answer{e: api.ErrForm}
	}
	m := &model{values: map[string]*big.Int{}, bytes: map[int]byte{}}
	lines := strings.Split(src, "\n")
	lines = lines[:len(lines)-1]
	at, starts, code := 0, make([]int, len(lines)), make([][]string, len(lines))
	for k, line := range lines {
		words := isWord.FindAllString(isCode.FindString(line), -1)
		starts[k] = at
		var e api.Errno
		if at, code[k], e = m.first(at, words); e != api.OK {
			return answer{line: k + 1, e: e}
		}
	}
	for k := range lines {
		if e := m.second(starts[k], code[k]); e != api.OK {
			return answer{line: k + 1, e: e}
		}
	}
	return m.answer()
}

// first is AQ1 for a line: the address behind it, and its words without labels.
func (m *model) first(at int, words []string) (int, []string, api.Errno) {
	for len(words) > 0 && isLabel.MatchString(words[0]) {
		if e := m.add(strings.TrimSuffix(words[0], ":"), big.NewInt(int64(at))); e != api.OK {
			return 0, nil, e
		}
		words = words[1:]
	}
	if len(words) == 0 {
		return at, nil, api.OK
	}
	n, align := 4, 4
	switch words[0] {
	case ".org", ".space":
		if len(words) != 2 || !isNumber.MatchString(words[1]) {
			return 0, nil, api.ErrForm
		}
		v := readNumber(words[1])
		if !within(v, 0, 16384) {
			return 0, nil, api.ErrRange
		}
		if words[0] == ".org" {
			return int(v.Int64()), nil, api.OK
		}
		n, align = int(v.Int64()), 1
	case ".equ":
		return m.equ(at, words[1:])
	case ".word", ".byte":
		if len(words) < 2 {
			return 0, nil, api.ErrForm
		}
		if words[0] == ".byte" {
			align = 1
		}
		n = align * (len(words) - 1)
	default:
		if words[0][0] == '.' {
			return 0, nil, api.ErrForm
		}
	}
	return at + n, words, m.take(at, n, align)
}

func (m *model) equ(at int, words []string) (int, []string, api.Errno) {
	if len(words) != 2 {
		return 0, nil, api.ErrForm
	}
	n := new(big.Int)
	good := isNumber.MatchString(words[1])
	if good {
		n = readNumber(words[1])
	}
	if e := m.add(words[0], modulo(n)); e != api.OK {
		return 0, nil, e
	}
	if !good {
		return 0, nil, api.ErrForm
	}
	if !within(n, -1<<31, 1<<32-1) {
		return 0, nil, api.ErrRange
	}
	return at, nil, api.OK
}

func (m *model) add(name string, v *big.Int) api.Errno {
	if !isAName.MatchString(name) {
		return api.ErrForm
	}
	if slices.Contains(m.order, name) {
		return api.ErrTwice
	}
	m.order = append(m.order, name)
	m.values[name] = v
	return api.OK
}

func (m *model) take(at, n, align int) api.Errno {
	if at%align != 0 || at+n > 16384 {
		return api.ErrRange
	}
	for k := at; k < at+n; k++ {
		if _, is := m.bytes[k]; is {
			return api.ErrTwice
		}
	}
	for k := at; k < at+n; k++ {
		m.bytes[k] = 0
	}
	return api.OK
}

// second is AQ2 for a line that places something.
func (m *model) second(at int, words []string) api.Errno {
	if len(words) == 0 || words[0] == ".space" {
		return api.OK
	}
	if words[0] != ".word" && words[0] != ".byte" {
		w, e := m.instruction(at, words[0], words[1:])
		m.store(at, 4, w)
		return e
	}
	for _, w := range words[1:] {
		n, lo, hi := 4, int64(-1<<31), int64(1<<32-1)
		if words[0] == ".byte" {
			n, lo, hi = 1, -128, 255
		}
		var v *big.Int
		switch {
		case isNumber.MatchString(w):
			v = readNumber(w)
		case !isAName.MatchString(w):
			return api.ErrForm
		case m.values[w] == nil:
			return api.ErrLabel
		default:
			v = m.values[w]
		}
		if !within(v, lo, hi) {
			return api.ErrRange
		}
		m.store(at, n, uint32(modulo(v).Uint64()))
		at += n
	}
	return api.OK
}

func (m *model) store(at, n int, v uint32) {
	for k := range n {
		m.bytes[at+k] = byte(v >> (8 * k))
	}
}

// instruction is the word of an instruction.
func (m *model) instruction(at int, name string, words []string) (uint32, api.Errno) {
	r, is := table[name]
	if !is {
		return 0, api.ErrOp
	}
	var last *big.Int // the imm, where one is given
	if len(words) > 0 && strings.HasSuffix(r.operands, "i") {
		word, before := words[len(words)-1], append([]string{""}, words...)[len(words)-1]
		part := before == "hi" || before == "lo"
		switch {
		case !part && isNumber.MatchString(word):
			if last = readNumber(word); !last.IsInt64() {
				return 0, api.ErrRange
			}
		case isAName.MatchString(word):
			if m.values[word] == nil {
				return 0, api.ErrLabel
			}
			var e api.Errno
			if last, e = m.operand(at, name, before, m.values[word]); e != api.OK {
				return 0, e
			}
		case part:
			return 0, api.ErrForm
		}
		words = words[:len(words)-1]
		if part {
			words = words[:len(words)-1]
		}
	}
	return r.word(words, last)
}

// operand is the imm that a name behind another word stands for.
func (m *model) operand(at int, name, before string, v *big.Int) (*big.Int, api.Errno) {
	if before == "hi" {
		return new(big.Int).Div(modulo(new(big.Int).Add(v, big.NewInt(8192))), big.NewInt(16384)), api.OK
	}
	if before == "lo" {
		n := new(big.Int).Mod(v, big.NewInt(16384))
		if n.Int64() > 8191 {
			n.Sub(n, big.NewInt(16384))
		}
		return n, api.OK
	}
	if name != "jal" && table[name].form != 'B' {
		return asSigned(v), api.OK
	}
	n, left := new(big.Int).DivMod(asSigned(modulo(new(big.Int).Sub(v, big.NewInt(int64(at))))), big.NewInt(4), new(big.Int))
	if left.Sign() != 0 {
		return nil, api.ErrRange
	}
	return n, api.OK
}

// word is an operation with its registers and its imm.
func (r row) word(words []string, last *big.Int) (uint32, api.Errno) {
	w := r.op << 26
	registers, hasImm := strings.CutSuffix(r.operands, "i")
	if len(words) != len(registers) || hasImm != (last != nil) {
		return 0, api.ErrForm
	}
	for k, o := range registers {
		found := isRegister.FindStringSubmatch(words[k])
		if found == nil {
			return 0, api.ErrForm
		}
		w |= uint32(readNumber(found[1]).Uint64()) << map[rune]int{'d': 22, 'a': 18, 'b': 14}[o]
	}
	if !hasImm {
		return w, api.OK
	}
	if !within(last, r.lo, r.hi) {
		return 0, api.ErrForm
	}
	size := int64(1 << 14)
	if r.form == 'U' {
		size = 1 << 18
	}
	return w | uint32(new(big.Int).Mod(last, big.NewInt(size)).Uint64()), api.OK
}

// answer is AQ3.
func (m *model) answer() answer {
	var a answer
	at := slices.Sorted(maps.Keys(m.bytes))
	for k, p := range at {
		if k == 0 || at[k-1] != p-1 {
			a.im.Segs = append(a.im.Segs, api.Seg{At: uint32(p)})
		}
		s := &a.im.Segs[len(a.im.Segs)-1]
		s.Data = append(s.Data, m.bytes[p])
	}
	if len(at) > 0 {
		a.im.Start = uint32(at[0])
	}
	if v := m.values["start"]; v != nil {
		a.im.Start = uint32(v.Uint64())
	}
	for _, n := range m.order {
		a.names = append(a.names, api.Name{Text: n, Val: uint32(m.values[n].Uint64())})
	}
	return a
}

// check holds Assemble against the model, and returns what both answer.
func check(t *testing.T, src string) answer {
	t.Helper()
	got, want := assembled(src), expected(src)
	if got.String() != want.String() {
		t.Fatalf("Assemble of %d bytes %.300q:\n got %.300s\nwant %.300s", len(src), src, got, want)
	}
	return got
}

// wrong holds Assemble against an error that is written out.
func wrong(t *testing.T, e api.Errno, line int, srcs ...string) {
	t.Helper()
	for _, src := range srcs {
		if got := check(t, src); got.line != line || got.e != e || got.im.Start != 0 || len(got.im.Segs) > 0 || len(got.names) > 0 {
			t.Errorf("Assemble of %d bytes %.200q: %.300s, want error %d in line %d alone", len(src), src, got, e, line)
		}
	}
}

// right holds Assemble against an image and names that are written out, as String of an answer has them.
func right(t *testing.T, src, want string) {
	t.Helper()
	if got := check(t, src).String(); got != strings.TrimSpace(want)+" line 0 error 0" {
		t.Errorf("Assemble of %d bytes %.200q: %.300s, want %.300s", len(src), src, got, want)
	}
}
