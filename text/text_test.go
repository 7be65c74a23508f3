package text

import (
	"fmt"
	"math"
	"math/big"
	"regexp"
	"slices"
	"strings"
	"testing"

	"cotterel/api"
	"cotterel/inst"
)

// listed is the names of Te1, in its order.
var listed = strings.Fields(`add sub and or xor sll srl sra slt sltu mul mulh mulhu div divu rem remu min max ror clz pop rev cmov
	addi andi ori xori slti slli srli srai lui lb lbu lh lhu lw lwp sb sh sw beq bne blt bge bltu bgeu jal jalr swap fadd cas
	call tret csrr csrw fence sync out halt send nop`)

// row is an operation as the document's tables give it: its operands are letters, d for rd, a for ra, b for rb, i for imm, in the order in which they are written.
type row struct {
	op       int
	name     string
	operands string
	lo, hi   int // of imm
	pattern  *regexp.Regexp
}

// table is made once, as the models ask for it at every text.
var table = rows()

func rows() []row {
	var l []row
	for _, b := range []struct {
		to       int
		operands string
	}{
		{20, "dab"}, {23, "da"}, {24, "dab"}, {32, "dai"}, {33, "di"}, {39, "dai"}, {42, "abi"}, {48, "abi"}, {49, "di"}, {50, "dai"},
		{53, "dab"}, {55, ""}, {56, "di"}, {57, "ai"}, {59, ""}, {60, "a"}, {61, ""}, {62, "a"}, {63, ""},
	} {
		for len(l) < b.to {
			r := row{op: len(l) + 1, name: listed[len(l)], operands: b.operands}
			r.lo, r.hi = bounds(r.op)
			r.pattern = pattern(r)
			l = append(l, r)
		}
	}
	return l
}

func bounds(op int) (lo, hi int) {
	switch op {
	case 30, 31, 32:
		return 0, 31
	case 33:
		return 0, 262143
	case 49:
		return -131072, 131071
	}
	return -8192, 8191
}

// pattern is what an operation's text may be, but for the range of imm.
func pattern(r row) *regexp.Regexp {
	var l []string
	for _, o := range r.operands {
		if o == 'i' {
			l = append(l, `(0|-?[1-9][0-9]*)`)
		} else {
			l = append(l, `r([0-9]|1[0-5])`)
		}
	}
	gap := ""
	if len(l) > 0 {
		gap = " "
	}
	return regexp.MustCompile(`\A` + r.name + gap + strings.Join(l, ", ") + `\z`)
}

func (r row) has(o string) bool { return strings.Contains(r.operands, o) }

func set(i api.Inst, o rune, v int) api.Inst {
	switch o {
	case 'd':
		i.Rd = v
	case 'a':
		i.Ra = v
	case 'b':
		i.Rb = v
	case 'i':
		i.Imm = v
	}
	return i
}

func get(i api.Inst, o rune) int {
	return map[rune]int{'d': i.Rd, 'a': i.Ra, 'b': i.Rb, 'i': i.Imm}[o]
}

// base is a valid instruction with every field that the form has, each of them different.
func (r row) base() api.Inst {
	i := api.Inst{Op: r.op}
	for _, o := range r.operands {
		i = set(i, o, map[rune]int{'d': 9, 'a': 12, 'b': 10, 'i': 21}[o])
	}
	return i
}

// printed is the text of a valid instruction, by the definition of its operands.
func printed(i api.Inst) string {
	r := table[i.Op-1]
	var l []string
	for _, o := range r.operands {
		if o == 'i' {
			l = append(l, fmt.Sprintf("%d", get(i, o)))
		} else {
			l = append(l, fmt.Sprintf("r%d", get(i, o)))
		}
	}
	if len(l) == 0 {
		return r.name
	}
	return r.name + " " + strings.Join(l, ", ")
}

// parsed is what Parse must return, by patterns and numbers without bounds.
func parsed(s string) (api.Inst, api.Errno) {
	name := s
	if at := strings.IndexByte(s, ' '); at >= 0 {
		name = s[:at]
	}
	op := slices.Index(listed, name) + 1
	if op == 0 {
		return api.Inst{}, api.ErrOp
	}
	r := table[op-1]
	found := r.pattern.FindStringSubmatch(s)
	if found == nil {
		return api.Inst{}, api.ErrForm
	}
	i := api.Inst{Op: op}
	for k, o := range r.operands {
		n, _ := new(big.Int).SetString(found[k+1], 10)
		if o == 'i' && (n.Cmp(big.NewInt(int64(r.lo))) < 0 || n.Cmp(big.NewInt(int64(r.hi))) > 0) {
			return api.Inst{}, api.ErrForm
		}
		i = set(i, o, int(n.Int64()))
	}
	return i, api.OK
}

// imms has both ends of the range of imm, what is negative, 0 or positive between them, and numbers of every length.
func (r row) imms() []int {
	if !r.has("i") {
		return []int{0}
	}
	l := []int{r.lo, r.lo + 1, r.hi - 1, r.hi}
	for _, v := range []int{0, 1, -1, 5, -5, 9, -9, 10, -10, 11, 15, 16, 99, 100, -100, 999, 1000, -1000, 4096, 10000, -10000, 99999, 100000, -100000} {
		if v > r.lo+1 && v < r.hi-1 {
			l = append(l, v)
		}
	}
	return l
}

// each calls f with every register where a form has the operand, otherwise with 0.
func each(has bool, f func(r int)) {
	if !has {
		f(0)
		return
	}
	for r := range 16 {
		f(r)
	}
}

// eachValid calls f with instructions of every operation: all registers, and imm at imms.
func eachValid(f func(i api.Inst)) {
	for _, r := range table {
		imms := r.imms()
		each(r.has("d"), func(d int) {
			each(r.has("a"), func(a int) {
				each(r.has("b"), func(b int) {
					for _, m := range imms {
						f(api.Inst{Op: r.op, Rd: d, Ra: a, Rb: b, Imm: m})
					}
				})
			})
		})
	}
}

// strange has numbers that are no operation's and no cause's, some of them equal to one modulo 2^6, 2^8, 2^16 or 2^32.
func strange() []int {
	l := []int{math.MinInt, math.MinInt + 1, math.MinInt32, -1 << 32, math.MaxInt32, math.MaxInt - 1, math.MaxInt}
	for n := range 64 {
		l = append(l, -n-1, n+64, n+128, n+1<<8, n+1<<16, n+1<<32, n-1<<32, n+math.MinInt, math.MaxInt-n)
	}
	return l
}

// bytewise is every text of one byte.
func bytewise() []string {
	var l []string
	for k := range 256 {
		l = append(l, string([]byte{byte(k)}))
	}
	return l
}

// near is a text with one byte missing, doubled, replaced, or one more, at every place, and with two neighbours exchanged.
func near(s string, with []string) []string {
	var l []string
	for k := range len(s) + 1 {
		for _, w := range with {
			l = append(l, s[:k]+w+s[k:])
			if k < len(s) {
				l = append(l, s[:k]+w+s[k+1:])
			}
		}
		if k < len(s) {
			l = append(l, s[:k]+s[k+1:], s[:k+1]+s[k:])
		}
		if k+1 < len(s) {
			l = append(l, s[:k]+s[k+1:k+2]+s[k:k+1]+s[k+2:])
		}
	}
	return l
}

// checkParse holds Parse against the model; where the text is accepted, Print must give it back.
func checkParse(t *testing.T, s string) {
	t.Helper()
	want, bad := parsed(s)
	i, e := Parse(s)
	if i != want || e != bad {
		t.Fatalf("Parse(%q) = %+v, %d, want %+v, %d", s, i, e, want, bad)
	}
	if e == api.OK && Print(i) != s {
		t.Fatalf("Print(Parse(%q)) = %q", s, Print(i))
	}
}

func TestName(t *testing.T) { // Te1: every number of an operation
	if n := len(listed); n != 63 {
		t.Fatalf("%d names are listed, want 63", n)
	}
	for k, want := range listed {
		if got := Name(k + 1); got != want {
			t.Errorf("Name(%d) = %q, want %q", k+1, got, want)
		}
	}
}

func TestNameOfConstant(t *testing.T) { // Te1: the operations by api's names
	for k, op := range []int{
		api.OAdd, api.OSub, api.OAnd, api.OOr, api.OXor, api.OSll, api.OSrl, api.OSra, api.OSlt, api.OSltu, api.OMul, api.OMulh, api.OMulhu, api.ODiv, api.ODivu, api.ORem, api.ORemu,
		api.OMin, api.OMax, api.ORor, api.OClz, api.OPop, api.ORev, api.OCmov, api.OAddi, api.OAndi, api.OOri, api.OXori, api.OSlti, api.OSlli, api.OSrli, api.OSrai, api.OLui,
		api.OLb, api.OLbu, api.OLh, api.OLhu, api.OLw, api.OLwp, api.OSb, api.OSh, api.OSw, api.OBeq, api.OBne, api.OBlt, api.OBge, api.OBltu, api.OBgeu, api.OJal, api.OJalr,
		api.OSwap, api.OFadd, api.OCas, api.OCall, api.OTret, api.OCsrr, api.OCsrw, api.OFence, api.OSync, api.OOut, api.OHalt, api.OSend, api.ONop,
	} {
		if Name(op) != listed[k] || Op(listed[k]) != op {
			t.Errorf("Name(%d) = %q, Op(%q) = %d", op, Name(op), listed[k], Op(listed[k]))
		}
	}
}

func TestNoName(t *testing.T) { // Te1: numbers that are no operation's
	for _, n := range append(strange(), 0, 64, 65, 100, 1000) {
		if got := Name(n); got != "" {
			t.Errorf("Name(%d) = %q, want an empty text", n, got)
		}
	}
}

func TestOp(t *testing.T) { // Te1: every name, and that Name gives it back
	for k, name := range listed {
		if got := Op(name); got != k+1 || Name(got) != name {
			t.Errorf("Op(%q) = %d, whose name is %q", name, got, Name(got))
		}
	}
}

func TestNoOp(t *testing.T) { // Te1: texts that are no name, written out
	for _, s := range []string{
		"", " ", "x", "a", "ad", "addd", "aadd", "Add", "ADD", "aDd", " add", "add ", "\tadd", "add\t", "add\n", "add\x00", "\x00", "add r1", "add,", "addadd", "add sub", "adi", "addii", "subi", "l", "s", "lbs", "lwu", "no", "nopp", "NOP", "hal", "halts",
		"none", "fetch", "illegal", "r0", "0", "1", "63", "é", "addé", "áad", "add\x80", "\xffadd", "\xe1dd", "ａｄｄ", "add\u00a0", "o\u0072\u0301", "ſub", "nop\ufffd",
	} {
		if got := Op(s); got != 0 {
			t.Errorf("Op(%q) = %d, want 0", s, got)
		}
	}
	for _, name := range listed {
		for _, s := range []string{" " + name, name + " ", strings.ToUpper(name), strings.ToUpper(name[:1]) + name[1:], name + "q", "q" + name, name + name, strings.Repeat(name, 20000)} {
			if got := Op(s); got != 0 {
				t.Errorf("Op of %d bytes that begin with %.10q = %d, want 0", len(s), s, got)
			}
		}
	}
}

func TestOpNear(t *testing.T) { // Te1: texts near to a name, some of which are the name of another operation
	for _, name := range listed {
		for _, s := range near(name, bytewise()) {
			if got, want := Op(s), slices.Index(listed, s)+1; got != want {
				t.Fatalf("Op(%q) = %d, want %d", s, got, want)
			}
		}
		for _, other := range listed {
			if got := Op(name + other); got != 0 {
				t.Fatalf("Op(%q) = %d, want 0", name+other, got)
			}
		}
	}
}

func TestWritten(t *testing.T) { // Te2, Te3: texts written out, of every operation
	for _, c := range []struct {
		i api.Inst
		s string
	}{
		{api.Inst{Op: api.OAddi, Rd: 1, Imm: -5}, "addi r1, r0, -5"}, {api.Inst{Op: api.OAdd}, "add r0, r0, r0"}, {api.Inst{Op: api.OAdd, Rd: 15, Ra: 10, Rb: 9}, "add r15, r10, r9"}, {api.Inst{Op: api.OSub, Rd: 1, Ra: 2, Rb: 3}, "sub r1, r2, r3"},
		{api.Inst{Op: api.OAnd, Rd: 3, Ra: 2, Rb: 1}, "and r3, r2, r1"}, {api.Inst{Op: api.OOr, Rd: 4, Ra: 14, Rb: 11}, "or r4, r14, r11"}, {api.Inst{Op: api.OXor, Ra: 12, Rb: 13}, "xor r0, r12, r13"},
		{api.Inst{Op: api.OSll, Rd: 1}, "sll r1, r0, r0"}, {api.Inst{Op: api.OSrl, Ra: 1}, "srl r0, r1, r0"}, {api.Inst{Op: api.OSra, Rb: 1}, "sra r0, r0, r1"}, {api.Inst{Op: api.OSlt, Rd: 9, Ra: 9, Rb: 9}, "slt r9, r9, r9"}, {api.Inst{Op: api.OSltu, Rd: 10, Ra: 10, Rb: 10}, "sltu r10, r10, r10"},
		{api.Inst{Op: api.OMul, Rd: 1, Ra: 2, Rb: 3}, "mul r1, r2, r3"}, {api.Inst{Op: api.OMulh, Rd: 1, Ra: 2, Rb: 3}, "mulh r1, r2, r3"}, {api.Inst{Op: api.OMulhu, Rd: 1, Ra: 2, Rb: 3}, "mulhu r1, r2, r3"},
		{api.Inst{Op: api.ODiv, Rd: 1, Ra: 2}, "div r1, r2, r0"}, {api.Inst{Op: api.ODivu, Rd: 1, Ra: 2, Rb: 3}, "divu r1, r2, r3"}, {api.Inst{Op: api.ORem, Rd: 1, Ra: 2, Rb: 3}, "rem r1, r2, r3"}, {api.Inst{Op: api.ORemu, Rd: 1, Ra: 2, Rb: 3}, "remu r1, r2, r3"},
		{api.Inst{Op: api.OMin, Rd: 5, Ra: 6, Rb: 7}, "min r5, r6, r7"}, {api.Inst{Op: api.OMax, Rd: 5, Ra: 6, Rb: 7}, "max r5, r6, r7"}, {api.Inst{Op: api.ORor, Rd: 5, Ra: 6, Rb: 7}, "ror r5, r6, r7"},
		{api.Inst{Op: api.OClz}, "clz r0, r0"}, {api.Inst{Op: api.OPop, Rd: 15, Ra: 14}, "pop r15, r14"}, {api.Inst{Op: api.ORev, Rd: 8, Ra: 9}, "rev r8, r9"}, {api.Inst{Op: api.OCmov, Rd: 1, Ra: 2, Rb: 3}, "cmov r1, r2, r3"},
		{api.Inst{Op: api.OAddi, Imm: 0}, "addi r0, r0, 0"}, {api.Inst{Op: api.OAndi, Rd: 15, Ra: 15, Imm: 8191}, "andi r15, r15, 8191"}, {api.Inst{Op: api.OOri, Rd: 1, Ra: 2, Imm: -8192}, "ori r1, r2, -8192"}, {api.Inst{Op: api.OXori, Rd: 1, Imm: -1}, "xori r1, r0, -1"}, {api.Inst{Op: api.OSlti, Ra: 1, Imm: 100}, "slti r0, r1, 100"},
		{api.Inst{Op: api.OSlli, Rd: 1, Ra: 2, Imm: 31}, "slli r1, r2, 31"}, {api.Inst{Op: api.OSrli, Rd: 1, Ra: 2}, "srli r1, r2, 0"}, {api.Inst{Op: api.OSrai, Rd: 1, Ra: 2, Imm: 16}, "srai r1, r2, 16"},
		{api.Inst{Op: api.OLui, Rd: 1, Imm: 1}, "lui r1, 1"}, {api.Inst{Op: api.OLui}, "lui r0, 0"}, {api.Inst{Op: api.OLui, Rd: 15, Imm: 262143}, "lui r15, 262143"},
		{api.Inst{Op: api.OLb, Rd: 1, Ra: 2, Imm: 3}, "lb r1, r2, 3"}, {api.Inst{Op: api.OLbu, Rd: 1, Ra: 2, Imm: 3}, "lbu r1, r2, 3"}, {api.Inst{Op: api.OLh, Rd: 1, Ra: 2, Imm: -2}, "lh r1, r2, -2"}, {api.Inst{Op: api.OLhu, Rd: 1, Ra: 2, Imm: 2}, "lhu r1, r2, 2"}, {api.Inst{Op: api.OLw, Rd: 1, Ra: 2, Imm: -4}, "lw r1, r2, -4"}, {api.Inst{Op: api.OLwp, Rd: 1, Ra: 2, Imm: 4}, "lwp r1, r2, 4"},
		{api.Inst{Op: api.OSb, Ra: 1, Rb: 2, Imm: 3}, "sb r1, r2, 3"}, {api.Inst{Op: api.OSh, Ra: 15, Rb: 10, Imm: -8192}, "sh r15, r10, -8192"}, {api.Inst{Op: api.OSw, Ra: 2, Rb: 1, Imm: 8}, "sw r2, r1, 8"},
		{api.Inst{Op: api.OBeq, Ra: 1, Rb: 2, Imm: 12}, "beq r1, r2, 12"}, {api.Inst{Op: api.OBne, Ra: 1, Imm: -1}, "bne r1, r0, -1"}, {api.Inst{Op: api.OBlt, Rb: 1}, "blt r0, r1, 0"}, {api.Inst{Op: api.OBge, Ra: 9, Rb: 9, Imm: 9}, "bge r9, r9, 9"}, {api.Inst{Op: api.OBltu, Ra: 3, Rb: 4, Imm: 8191}, "bltu r3, r4, 8191"}, {api.Inst{Op: api.OBgeu, Ra: 4, Rb: 3, Imm: -10}, "bgeu r4, r3, -10"},
		{api.Inst{Op: api.OJal, Rd: 15, Imm: -3}, "jal r15, -3"}, {api.Inst{Op: api.OJal, Imm: -131072}, "jal r0, -131072"}, {api.Inst{Op: api.OJal, Rd: 1, Imm: 131071}, "jal r1, 131071"}, {api.Inst{Op: api.OJalr, Rd: 0, Ra: 15}, "jalr r0, r15, 0"},
		{api.Inst{Op: api.OSwap, Rd: 1, Ra: 2, Rb: 3}, "swap r1, r2, r3"}, {api.Inst{Op: api.OFadd, Rd: 3, Ra: 1, Rb: 2}, "fadd r3, r1, r2"}, {api.Inst{Op: api.OCas, Rd: 2, Ra: 3, Rb: 1}, "cas r2, r3, r1"},
		{api.Inst{Op: api.OCall}, "call"}, {api.Inst{Op: api.OTret}, "tret"}, {api.Inst{Op: api.OCsrr, Rd: 1, Imm: 7}, "csrr r1, 7"}, {api.Inst{Op: api.OCsrr, Rd: 1, Imm: -8192}, "csrr r1, -8192"}, {api.Inst{Op: api.OCsrw, Ra: 1, Imm: 4}, "csrw r1, 4"}, {api.Inst{Op: api.OCsrw, Ra: 15, Imm: 8191}, "csrw r15, 8191"},
		{api.Inst{Op: api.OFence}, "fence"}, {api.Inst{Op: api.OSync}, "sync"}, {api.Inst{Op: api.OOut, Ra: 9}, "out r9"}, {api.Inst{Op: api.OHalt}, "halt"}, {api.Inst{Op: api.OSend, Ra: 10}, "send r10"}, {api.Inst{Op: api.OSend}, "send r0"}, {api.Inst{Op: api.ONop}, "nop"},
	} {
		if got := Print(c.i); got != c.s {
			t.Errorf("Print(%+v) = %q, want %q", c.i, got, c.s)
		}
		if i, e := Parse(c.s); i != c.i || e != api.OK {
			t.Errorf("Parse(%q) = %+v, %d, want %+v", c.s, i, e, c.i)
		}
	}
}

func TestPrint(t *testing.T) { // Te2: every register in every place, imm at both ends of its range and between
	eachValid(func(i api.Inst) {
		if got, want := Print(i), printed(i); got != want {
			t.Fatalf("Print(%+v) = %q, want %q", i, got, want)
		}
	})
}

func TestPrintInvalid(t *testing.T) { // Te2: instructions that are not valid, with each error of Right
	refused := map[api.Errno]int{}
	check := func(i api.Inst) {
		e := inst.Right(i)
		refused[e]++
		if got := Print(i); e != api.OK && got != "" || e == api.OK && got != printed(i) {
			t.Fatalf("Print(%+v) = %q, where Right returns %d", i, got, e)
		}
	}
	for _, op := range append(strange(), 0) {
		check(api.Inst{Op: op})
		check(api.Inst{Op: op, Rd: 1, Ra: 2, Rb: 3, Imm: 4})
	}
	values := []int{math.MinInt, -1 << 32, -131073, -131072, -8193, -8192, -1, 0, 1, 15, 16, 17, 31, 32, 8191, 8192, 131071, 131072, 262143, 262144, 1 << 32, 1<<32 + 1, math.MaxInt}
	for _, r := range table {
		for _, o := range "dabi" {
			for _, v := range values {
				check(set(r.base(), o, v))
				check(set(api.Inst{Op: r.op}, o, v))
			}
		}
	}
	for _, e := range []api.Errno{api.OK, api.ErrOp, api.ErrArg, api.ErrRange} {
		if refused[e] == 0 {
			t.Errorf("no instruction for which Right returns %d", e)
		}
	}
}

func TestPrintRefused(t *testing.T) { // Te2: instructions that are not valid, written out
	for _, i := range []api.Inst{
		{}, {Op: -1}, {Op: 64}, {Rd: 1}, {Op: math.MinInt}, {Op: math.MaxInt}, {Op: 1<<32 + 1},
		{Op: api.OAdd, Rd: 16}, {Op: api.OAdd, Ra: -1}, {Op: api.OAdd, Rb: 16}, {Op: api.OAdd, Imm: 1}, {Op: api.OClz, Rb: 1}, {Op: api.OAddi, Rb: 1}, {Op: api.OSw, Rd: 1}, {Op: api.OBeq, Rd: 1},
		{Op: api.OLui, Ra: 1}, {Op: api.OCsrr, Ra: 1}, {Op: api.OCsrw, Rd: 1}, {Op: api.OOut, Rd: 1}, {Op: api.OOut, Imm: 1}, {Op: api.OHalt, Ra: 1}, {Op: api.ONop, Imm: -1},
		{Op: api.OAddi, Imm: 8192}, {Op: api.OAddi, Imm: -8193}, {Op: api.OSlli, Imm: 32}, {Op: api.OSrai, Imm: -1}, {Op: api.OLui, Imm: -1}, {Op: api.OLui, Imm: 262144}, {Op: api.OJal, Imm: 131072}, {Op: api.OJal, Imm: -131073}, {Op: api.OCsrr, Imm: 8192},
	} {
		if got := Print(i); got != "" {
			t.Errorf("Print(%+v) = %q, want an empty text", i, got)
		}
	}
}

func TestParseNoOp(t *testing.T) { // Te3: ErrOp, whatever stands behind the first blank
	for _, s := range []string{
		"", " ", "  ", "\t", "\n", ",", "x", "ad", "ad r1", "addd r1, r2, r3", "Add r1, r2, r3", "ADD r1, r2, r3", "HALT", " halt", "  halt", " add r1, r2, r3", "\tadd r1, r2, r3", "add\tr1, r2, r3", "add\tr1,\tr2,\tr3", "halt\t", "halt\n", "halt\r\n", "\nhalt", "halt,", "halt, ", "fence,  ", "add, r1, r2, r3", "add,r1,r2,r3", "add\u00a0r1, r2, r3",
		"r1, r2, r3", "r1 add", "1 r1, r2, r3", "none", "fetch r1", "addr1, r2, r3", "add.w r1, r2, r3", "add\x00 r1, r2, r3", "halt\x00", "ádd r1, r2, r3", "\xffadd r1, r2, r3", "add\x80 r1", "ｈalt", "halt\ufeff", "\ufeffhalt", "é", "lwp2 r1, r2, 4", "mulhsu r1, r2, r3", "xnor r1, r2, r3",
		strings.Repeat("add", 30000), strings.Repeat(" ", 70000), "x" + strings.Repeat(" r1,", 20000), strings.Repeat("é", 40000),
	} {
		if i, e := Parse(s); i != (api.Inst{}) || e != api.ErrOp {
			t.Errorf("Parse of %d bytes that begin with %.30q = %+v, %d, want ErrOp", len(s), s, i, e)
		}
	}
}

func TestParseWrongOperands(t *testing.T) { // Te3: ErrForm: operands too many, too few, in the wrong order, of the wrong kind
	for _, s := range []string{
		"add", "add ", "add r1", "add r1, ", "add r1, r2", "add r1, r2, ", "add r1, r2, r3, r4", "add r1, r2, r3, ", "add r1, r2, r3, 0", "add r1, r2, 3", "add 1, r2, r3", "add 1, 2, 3", "add , , ", "add , r2, r3", "add r1, , r3", "add add r1, r2, r3", "add r1, r2, r3 add",
		"clz r1", "clz r1, r2, r3", "clz r1, 2", "clz", "addi r1, r2", "addi r1, r2, r3", "addi r1, 5, r2", "addi 5, r1, r2", "addi r1, 5", "addi r1, r2, 3, 4", "addi r1, r2, ", "addi r1, r2, r3, 4", "lw r1, 4(r2)", "lw r1, 4, r2", "lw r1", "lw r1, r2, x", "lw r1, r2, rr4",
		"sw r1, r2", "sw r1, r2, r3", "sw r1, 4, r2", "sw r1, r2, r3, 4", "sw 4, r1, r2", "beq r1, r2", "beq r1, r2, r3", "beq 1, r1, r2", "beq r1, r2, label", "lui 1, r1", "lui r1", "lui 1", "lui r1, r2", "lui r1, r2, 1", "jal 4", "jal 4, r1", "jal r1", "jal r1, r2, 4", "jalr r1, r2", "jalr r1", "jalr",
		"cas r1, r2", "cas r1, r2, 3", "cas r1, r2, r3, r4", "csrr 7, r1", "csrr r1", "csrr r1, r7", "csrr r1, status", "csrr 7", "csrw 4, r1", "csrw r1", "csrw r1, r4", "csrw r1, r2, 4", "out", "out ", "out 1", "out r1, r2", "out r1, 1", "send 1", "send", "send r1, r2",
		"halt ", "halt r1", "halt 0", "halt ,", "halt , ", "halt halt", "nop r0", "nop 0", "nop  ", "call 1", "call r1", "tret ", "fence r1, r2", "sync r0", "halt \t",
	} {
		if i, e := Parse(s); i != (api.Inst{}) || e != api.ErrForm {
			t.Errorf("Parse(%q) = %+v, %d, want ErrForm", s, i, e)
		}
	}
}

func TestParseWrongRegister(t *testing.T) { // Te3: ErrForm: registers that are none, in every place
	for _, w := range []string{
		"", "r", "R1", "R0", "R", "r0 ", " r0", "r0\n", "r+0", "r0x0", "r0r", "0r", "r16", "r17", "r20", "r99", "r100", "r255", "r01", "r00", "r015", "r-1", "r-0", "r+1", "r 1", " r1", "r1 ", "r1x", "xr1", "rr1", "r1r", "r1.", "r1.0", "r0x1", "r0xf", "rx1", "r0b1", "r1_0", "1r", "x1", "a0", "$1", "%r1", "1", "0", "-1", "zero", "sp", "rd", "ra", "rb", "(r1)", "[r1]", "r1:", "r1;", "r\t1", "r1\t", "r1\n", "r1\r", "r1\x00", "\x00", "r\x001",
		"r4294967296", "r4294967297", "r18446744073709551616", "r18446744073709551617", "r9223372036854775807", "r9223372036854775808", "r-18446744073709551615", "r-4294967295", "r" + strings.Repeat("1", 5000), "r" + strings.Repeat("0", 5000) + "1",
		"ｒ1", "r１", "r\u0661", "r1é", "ér1", "r\xff", "\xff1", "r1\x80", "r\u00b9", "r\u2081", "r1\u00a0",
	} {
		for s, ok := range map[string]api.Inst{
			"add @, r2, r3": {Op: api.OAdd, Rd: 7, Ra: 2, Rb: 3}, "add r1, @, r3": {Op: api.OAdd, Rd: 1, Ra: 7, Rb: 3}, "add r1, r2, @": {Op: api.OAdd, Rd: 1, Ra: 2, Rb: 7}, "clz @, r1": {Op: api.OClz, Rd: 7, Ra: 1}, "clz r1, @": {Op: api.OClz, Rd: 1, Ra: 7},
			"addi @, r2, 3": {Op: api.OAddi, Rd: 7, Ra: 2, Imm: 3}, "lw r1, @, 3": {Op: api.OLw, Rd: 1, Ra: 7, Imm: 3}, "sw @, r2, 3": {Op: api.OSw, Ra: 7, Rb: 2, Imm: 3}, "beq r1, @, 3": {Op: api.OBeq, Ra: 1, Rb: 7, Imm: 3}, "jal @, 3": {Op: api.OJal, Rd: 7, Imm: 3}, "cas r1, r2, @": {Op: api.OCas, Rd: 1, Ra: 2, Rb: 7}, "csrr @, 3": {Op: api.OCsrr, Rd: 7, Imm: 3}, "csrw @, 3": {Op: api.OCsrw, Ra: 7, Imm: 3}, "out @": {Op: api.OOut, Ra: 7},
		} {
			if i, e := Parse(strings.Replace(s, "@", "r7", 1)); i != ok || e != api.OK {
				t.Fatalf("Parse(%q) with r7 = %+v, %d, want %+v", s, i, e, ok)
			}
			if i, e := Parse(strings.Replace(s, "@", w, 1)); i != (api.Inst{}) || e != api.ErrForm {
				t.Errorf("Parse(%q) with %.30q = %+v, %d, want ErrForm", s, w, i, e)
			}
		}
	}
}

func TestParseWrongImm(t *testing.T) { // Te3: ErrForm: an imm that is not in its decimal form, of every form that has one
	for _, w := range []string{
		"", "-", "+", "0 ", " 0", "0\n", "r0", "0r", "+1", "+0", "-0", "00", "01", "007", "-01", "-00", "--1", "- 1", "-+1", "1-", "0x1", "0x0", "0x1f", "0X1", "-0x1", "0xffffffff", "0b1", "0o7", "1_0", "1.0", "1.", ".1", "1e1", "1,", "1, ", "1 ", " 1", "1 2", "1\t", "\t1", "1\n", "1\r\n", "1\x00", "1x", "x1", "r1", "#1", "$1", "(1)", "'1'", "one", "inf", "nan", "i",
		"262144", "1000000", "-131073", "-1000000", "2147483648", "4294967295", "4294967296", "4294967297", "-4294967295", "9223372036854775807", "-9223372036854775808", "9223372036854775808", "-9223372036854775809", "18446744073709551615", "18446744073709551616", "18446744073709551617", "-18446744073709551615", "340282366920938463463374607431768211457", strings.Repeat("1", 5000), strings.Repeat("0", 5000) + "1", "-" + strings.Repeat("9", 5000), "1" + strings.Repeat("0", 5000),
		"１", "\u0661", "\u22121", "1é", "é1", "\xff", "1\x80", "\u00b9", "1\u00a0",
	} {
		for _, s := range []string{"addi r1, r2, @", "slli r1, r2, @", "lw r1, r2, @", "jalr r1, r2, @", "lui r1, @", "jal r1, @", "sw r1, r2, @", "beq r1, r2, @", "csrr r1, @", "csrw r1, @"} {
			if i, e := Parse(strings.Replace(s, "@", "1", 1)); i.Imm != 1 || e != api.OK {
				t.Fatalf("Parse(%q) with 1 = %+v, %d", s, i, e)
			}
			if i, e := Parse(strings.Replace(s, "@", w, 1)); i != (api.Inst{}) || e != api.ErrForm {
				t.Errorf("Parse(%q) with %.30q = %+v, %d, want ErrForm", s, w, i, e)
			}
		}
	}
}

func TestParseRange(t *testing.T) { // Te3: imm at the ends of its range, and one beyond them, of every operation that has one
	for _, r := range table {
		if !r.has("i") {
			continue
		}
		head := strings.TrimSuffix(printed(r.base()), "21")
		for _, v := range []int{r.lo - 1, r.lo, r.hi, r.hi + 1, r.lo - 1<<14, r.hi + 1<<14, r.lo - 1<<18, r.hi + 1<<18, r.lo - 1<<32, r.hi + 1<<32} {
			want, bad := set(r.base(), 'i', v), api.OK
			if v < r.lo || v > r.hi {
				want, bad = api.Inst{}, api.ErrForm
			}
			s := head + fmt.Sprint(v)
			if i, e := Parse(s); i != want || e != bad {
				t.Errorf("Parse(%q) = %+v, %d, want %+v, %d", s, i, e, want, bad)
			}
		}
	}
}

func TestParseGaps(t *testing.T) { // Te3: ErrForm: other gaps than one blank behind the name and a comma and a blank between operands
	for _, r := range table {
		s := printed(r.base())
		for _, gap := range []string{"  ", " \t", "   ", " ,", " , ", " \n"} {
			if !strings.Contains(s, " ") {
				s += " "
			}
			if i, e := Parse(strings.Replace(s, " ", gap, 1)); i != (api.Inst{}) || e != api.ErrForm {
				t.Errorf("Parse(%q) with %q behind the name = %+v, %d, want ErrForm", s, gap, i, e)
			}
		}
		s = printed(r.base())
		for _, gap := range []string{"", " ", ",", ",  ", ",\t", " ,", " , ", "\t, ", ",, ", ", , ", "; ", ". ", ",\n", ",\r\n", ",\u00a0", "\x00, ", "\uff0c ", "\u3001", "\xff, ", ", \xff"} {
			for k := range strings.Count(s, ", ") {
				parts := strings.SplitAfterN(s, ", ", k+2)
				parts[k] = strings.TrimSuffix(parts[k], ", ") + gap
				if i, e := Parse(strings.Join(parts, "")); i != (api.Inst{}) || e != api.ErrForm {
					t.Errorf("Parse(%q) = %+v, %d, want ErrForm", strings.Join(parts, ""), i, e)
				}
			}
		}
		for _, end := range []string{" ", ",", ", ", "\t", "\n", "\r", "\r\n", "\x00", ";", " #", "é", "\xff", "\u00a0", strings.Repeat(" ", 70000), strings.Repeat(", r1", 20000)} {
			want := api.ErrForm
			if r.operands == "" && end[0] != ' ' {
				want = api.ErrOp
			}
			if i, e := Parse(s + end); i != (api.Inst{}) || e != want {
				t.Errorf("Parse(%q) with %.10q behind it = %+v, %d, want %d", s, end, i, e, want)
			}
		}
	}
}

func TestParseLong(t *testing.T) { // Te3: very long texts
	for _, r := range table {
		for _, part := range []string{"r1, ", " ", ", ", ",", "1", "0", "-", "r", "é", "\x00", "nop ", "\n"} {
			s := r.name + " " + strings.Repeat(part, 30000)
			if i, e := Parse(s); i != (api.Inst{}) || e != api.ErrForm {
				t.Errorf("Parse of %.10q and many of %q = %+v, %d, want ErrForm", s, part, i, e)
			}
		}
	}
	s := "add r1, r2, r" + strings.Repeat("1", 1<<24)
	if i, e := Parse(s); i != (api.Inst{}) || e != api.ErrForm {
		t.Errorf("Parse of 2^24 digits = %+v, %d, want ErrForm", i, e)
	}
}

func TestParseNear(t *testing.T) { // Te3, Te5: texts near to one that is printed, some of which are that of another instruction
	parts := []string{" ", ",", ", ", "\t", "\n", "r", "R", "-", "+", "0", "1", "5", "6", "9", "x", "i", "u", "A", "\x00", "\x7f", "\x80", "é"}
	for _, r := range table {
		for _, v := range []int{0, r.lo, r.hi, 21} {
			i := r.base()
			if r.has("i") {
				i.Imm = v
			}
			checkParse(t, printed(i))
			for _, s := range near(printed(i), parts) {
				checkParse(t, s)
			}
		}
		// What is no number must not pass for 0.
		for _, i := range []api.Inst{r.base(), {Op: r.op}} {
			for _, s := range near(printed(i), bytewise()) {
				checkParse(t, s)
			}
		}
	}
}

func TestParseEveryOperands(t *testing.T) { // Te3: every name with up to four operands of both kinds
	words := []string{"r0", "r15", "r16", "0", "-1", "31", "32", "8192", ""}
	all, last := []string{""}, []string{""}
	for n := range 4 {
		gap := ", "
		if n == 0 {
			gap = " "
		}
		var next []string
		for _, s := range last {
			for _, w := range words {
				next = append(next, s+gap+w)
			}
		}
		all, last = append(all, next...), next
	}
	for _, r := range table {
		for _, s := range all {
			checkParse(t, r.name+s)
		}
	}
}

func TestCause(t *testing.T) { // Te4: every cause, by its number and by api's name
	written := map[int]string{0: "none", 1: "fetch", 2: "illegal", 3: "stop", 4: "load", 5: "align", 6: "store", 7: "call", 8: "priv", 9: "bus", 10: "single", 16: "out", 17: "send", 18: "timer"}
	for n := -1; n <= 20; n++ {
		if got := Cause(n); got != written[n] {
			t.Errorf("Cause(%d) = %q, want %q", n, got, written[n])
		}
	}
	for n, want := range map[int]string{
		api.TNone: "none", api.TFetch: "fetch", api.TIllegal: "illegal", api.TStop: "stop", api.TLoad: "load", api.TAlign: "align", api.TStore: "store", api.TCall: "call", api.TPriv: "priv", api.TBus: "bus", api.TSingle: "single",
		api.TOut: "out", api.TSend: "send", api.TTimer: "timer",
	} {
		if got := Cause(n); got != want {
			t.Errorf("Cause(%d) = %q, want %q", n, got, want)
		}
	}
}

func TestNoCause(t *testing.T) { // Te4: numbers that are no cause's
	for _, n := range append(strange(), 11, 12, 13, 14, 15, 19, 20, 26, 32, 63) {
		if got := Cause(n); got != "" {
			t.Errorf("Cause(%d) = %q, want an empty text", n, got)
		}
	}
}

func TestPrintAndParse(t *testing.T) { // Te5: Parse inverts Print, and no two instructions are printed alike
	of := map[string]api.Inst{}
	eachValid(func(i api.Inst) {
		s := Print(i)
		if other, is := of[s]; is {
			t.Fatalf("%+v and %+v are both printed as %q", i, other, s)
		}
		of[s] = i
		if back, e := Parse(s); back != i || e != api.OK {
			t.Fatalf("Parse(%q) = %+v, %d, want %+v", s, back, e, i)
		}
	})
}

func TestEveryImm(t *testing.T) { // Te5: imm throughout its range
	for _, r := range table {
		if !r.has("i") {
			continue
		}
		for v := r.lo; v <= r.hi; v++ {
			i := set(r.base(), 'i', v)
			if back, e := Parse(Print(i)); back != i || e != api.OK {
				t.Fatalf("Parse(%q) = %+v, %d, want %+v", Print(i), back, e, i)
			}
		}
	}
}
