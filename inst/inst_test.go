package inst

import (
	"math"
	"strings"
	"testing"

	"cotterel/api"
)

// row is an operation as the document's tables give it: its fields are letters, d for Rd, a for Ra, b for Rb, i for Imm.
type row struct {
	op, form int
	fields   string
	lo, hi   int // of Imm
}

// rows has the operations from 1 to 63 in their order, by the numbers that the chapter writes out.
func rows() []row {
	var l []row
	for _, b := range []struct {
		to, form int
		fields   string
	}{
		{20, 1, "dab"}, {23, 11, "da"}, {24, 1, "dab"}, {32, 2, "dai"}, {33, 5, "di"}, {39, 2, "dai"}, {42, 3, "abi"}, {48, 4, "abi"}, {49, 5, "di"}, {50, 2, "dai"},
		{53, 6, "dab"}, {55, 10, ""}, {56, 7, "di"}, {57, 8, "ai"}, {59, 10, ""}, {60, 9, "a"}, {61, 10, ""}, {62, 9, "a"}, {63, 10, ""},
	} {
		for len(l) < b.to {
			r := row{op: len(l) + 1, form: b.form, fields: b.fields}
			if r.has("i") {
				r.lo, r.hi = bounds(r.op)
			}
			l = append(l, r)
		}
	}
	return l
}

// table is made once, as the models ask for it at every word.
var table = rows()

func bounds(op int) (lo, hi int) {
	switch op {
	case 30, 31, 32:
		return 0, 31
	case 33:
		return 0, 262143
	case 49:
		return -131072, 131071
	}
	return -8192, 8191
}

func (r row) has(field string) bool { return strings.Contains(r.fields, field) }

// base is a valid instruction with every field that the form has, each of them different.
func (r row) base() api.Inst {
	i := api.Inst{Op: r.op}
	if r.has("d") {
		i.Rd = 9
	}
	if r.has("a") {
		i.Ra = 6
	}
	if r.has("b") {
		i.Rb = 13
	}
	if r.has("i") {
		i.Imm = 21
	}
	return i
}

// letters are the fields in the order of set.
const letters = "dabi"

func set(i api.Inst, field byte, v int) api.Inst {
	switch field {
	case 'd':
		i.Rd = v
	case 'a':
		i.Ra = v
	case 'b':
		i.Rb = v
	case 'i':
		i.Imm = v
	}
	return i
}

func get(i api.Inst, field byte) int {
	switch field {
	case 'o':
		return i.Op
	case 'd':
		return i.Rd
	case 'a':
		return i.Ra
	case 'b':
		return i.Rb
	}
	return i.Imm
}

// strange has numbers that are no operation's, some of them equal to one modulo 2^6, 2^8, 2^16 or 2^32.
func strange() []int {
	l := []int{math.MinInt, math.MinInt + 1, math.MinInt32, -1 << 32, math.MaxInt32, math.MaxInt - 1, math.MaxInt, 0}
	for op := range 64 {
		l = append(l, -op-1, op+64, op+128, op+1<<8, op+1<<16, op+1<<32, op-1<<32, op+math.MinInt, math.MaxInt-op)
	}
	return l
}

// values has the bounds of all fields and what lies beside them, the ends of an int, and numbers whose lowest bits alone would be in range.
func values() []int {
	l := []int{0, 1, -1, 7, 21, 1 << 32, 1<<32 + 5, -1 << 32, 1<<40 + 3, math.MinInt, math.MinInt + 1, math.MaxInt, math.MaxInt - 1, math.MinInt32, math.MaxInt32}
	for _, b := range []int{16, 32, 64, 256, 8192, 16384, 65536, 131072, 262144} {
		l = append(l, b-1, b, b+1, -b-1, -b, -b+1)
	}
	return l
}

// rightly is what Right must return: the chapter's sentence, field by field.
func rightly(i api.Inst) api.Errno {
	if i.Op < 1 || i.Op > 63 {
		return api.ErrOp
	}
	r := table[i.Op-1]
	for k := range len(letters) {
		v, has := get(i, letters[k]), r.has(letters[k:k+1])
		if !has && v != 0 || has && letters[k] != 'i' && (v < 0 || v > 15) {
			return api.ErrArg
		}
	}
	if r.has("i") && (i.Imm < r.lo || i.Imm > r.hi) {
		return api.ErrRange
	}
	return api.OK
}

// holder is the field of which a bit of a word of this form is a part, and which bit of that field it is.
func holder(bit, form int) (field byte, part int) {
	switch {
	case bit >= 26:
		return 'o', bit - 26
	case bit >= 22:
		return 'd', bit - 22
	case bit >= 18:
		return 'a', bit - 18
	case form == 5 || bit < 14:
		return 'i', bit
	}
	return 'b', bit - 14
}

// composed is the word of a valid instruction, bit by bit out of the table of positions.
func composed(i api.Inst) uint32 {
	form := table[i.Op-1].form
	var w uint32
	for bit := range 32 {
		field, part := holder(bit, form)
		if get(i, field)>>part&1 == 1 {
			w += 1 << bit
		}
	}
	return w
}

// decoded is what Dec must return.
func decoded(w uint32) (api.Inst, api.Errno) {
	op := int(w / (1 << 26))
	if op == 0 {
		return api.Inst{}, api.ErrOp
	}
	r := table[op-1]
	i := api.Inst{Op: op}
	for bit := range 26 {
		if w/(1<<bit)%2 == 0 {
			continue
		}
		field, part := holder(bit, r.form)
		if !r.has(string(field)) {
			return api.Inst{}, api.ErrForm
		}
		weight := 1 << part
		if field == 'i' && (op == 49 && bit == 17 || r.form != 5 && bit == 13) {
			weight = -weight
		}
		i = set(i, field, get(i, field)+weight)
	}
	if op >= 30 && op <= 32 && (i.Imm < 0 || i.Imm > 31) {
		return api.Inst{}, api.ErrForm
	}
	return i, api.OK
}

// checkInst holds Right and Enc against the models; where the instruction is valid, Dec must give it back.
func checkInst(t *testing.T, i api.Inst) {
	t.Helper()
	want := rightly(i)
	if got := Right(i); got != want {
		t.Fatalf("Right(%+v) = %d, want %d", i, got, want)
	}
	w, e := Enc(i)
	if want != api.OK {
		if w != 0 || e != want {
			t.Fatalf("Enc(%+v) = %#x, %d, want 0, %d", i, w, e, want)
		}
		return
	}
	if e != api.OK || w != composed(i) {
		t.Fatalf("Enc(%+v) = %#x, %d, want %#x", i, w, e, composed(i))
	}
	if back, e := Dec(w); back != i || e != api.OK {
		t.Fatalf("Dec(%#x) = %+v, %d, want %+v", w, back, e, i)
	}
}

// checkWord holds Dec against the model; where the word is accepted, Enc must give it back.
func checkWord(t *testing.T, w uint32) {
	t.Helper()
	want, e := decoded(w)
	i, got := Dec(w)
	if i != want || got != e {
		t.Fatalf("Dec(%#x) = %+v, %d, want %+v, %d", w, i, got, want, e)
	}
	if got != api.OK {
		return
	}
	if back, e := Enc(i); back != w || e != api.OK {
		t.Fatalf("Enc(%+v) = %#x, %d, want %#x", i, back, e, w)
	}
}

func TestForm(t *testing.T) { // In1: every operation by its number
	if n := len(table); n != 63 {
		t.Fatalf("%d operations are listed, want 63", n)
	}
	for _, r := range table {
		if got := Form(r.op); got != r.form {
			t.Errorf("Form(%d) = %d, want %d", r.op, got, r.form)
		}
	}
}

func TestFormNamed(t *testing.T) { // In1: every operation by its name, in the document's table
	n := 0
	for form, ops := range map[int][]int{
		api.FormR: {api.OAdd, api.OSub, api.OAnd, api.OOr, api.OXor, api.OSll, api.OSrl, api.OSra, api.OSlt, api.OSltu, api.OMul, api.OMulh, api.OMulhu, api.ODiv, api.ODivu, api.ORem, api.ORemu, api.OMin, api.OMax, api.ORor, api.OCmov},
		api.FormM: {api.OClz, api.OPop, api.ORev},
		api.FormI: {api.OAddi, api.OAndi, api.OOri, api.OXori, api.OSlti, api.OSlli, api.OSrli, api.OSrai, api.OLb, api.OLbu, api.OLh, api.OLhu, api.OLw, api.OLwp, api.OJalr},
		api.FormU: {api.OLui, api.OJal},
		api.FormS: {api.OSb, api.OSh, api.OSw},
		api.FormB: {api.OBeq, api.OBne, api.OBlt, api.OBge, api.OBltu, api.OBgeu},
		api.FormA: {api.OSwap, api.OFadd, api.OCas},
		api.FormC: {api.OCsrr},
		api.FormW: {api.OCsrw},
		api.FormX: {api.OOut, api.OSend},
		api.FormZ: {api.OCall, api.OTret, api.OFence, api.OSync, api.OHalt, api.ONop},
	} {
		for _, op := range ops {
			n++
			if got := Form(op); got != form {
				t.Errorf("Form(%d) = %d, want %d", op, got, form)
			}
		}
	}
	if n != 63 {
		t.Errorf("%d operations are listed, want 63", n)
	}
}

func TestPriv(t *testing.T) { // In1: four operations, and no other
	for op := 1; op <= 63; op++ {
		want := op == 55 || op == 57 || op == 59 || op == 61
		if got := Priv(op); got != want {
			t.Errorf("Priv(%d) = %v", op, got)
		}
	}
	for _, op := range []int{api.OTret, api.OCsrw, api.OSync, api.OHalt} {
		if !Priv(op) {
			t.Errorf("Priv(%d) is false", op)
		}
	}
	for _, op := range []int{api.OCall, api.OCsrr, api.OFence, api.OOut, api.OSend, api.ONop} {
		if Priv(op) {
			t.Errorf("Priv(%d) is true", op)
		}
	}
}

func TestNoOperation(t *testing.T) { // In1, In2: numbers that are no operation's, with right and with wrong fields
	for _, op := range strange() {
		if Form(op) != api.FormNone || Priv(op) {
			t.Errorf("Form(%d) = %d, Priv %v", op, Form(op), Priv(op))
		}
		for _, i := range []api.Inst{{Op: op}, {Op: op, Rd: 1, Ra: 2, Rb: 3}, {Op: op, Rd: 16, Imm: 1 << 20}, {Op: op, Rd: math.MinInt, Ra: math.MaxInt, Rb: -1, Imm: math.MinInt}} {
			if e := Right(i); e != api.ErrOp {
				t.Errorf("Right(%+v) = %d, want ErrOp", i, e)
			}
			if w, e := Enc(i); w != 0 || e != api.ErrOp {
				t.Errorf("Enc(%+v) = %#x, %d, want 0, ErrOp", i, w, e)
			}
		}
	}
}

func TestOneField(t *testing.T) { // In2: every field of every operation at its bounds, just outside, and far outside
	for _, r := range table {
		for k := range len(letters) {
			for _, v := range values() {
				checkInst(t, set(api.Inst{Op: r.op}, letters[k], v))
				checkInst(t, set(r.base(), letters[k], v))
			}
		}
	}
}

func TestTwoFields(t *testing.T) { // In2: the first error, where two fields have one
	for _, r := range table {
		for a := range len(letters) {
			for b := range a {
				for _, v := range values() {
					for _, w := range []int{-1, 0, 15, 16, 31, 32, -8192, -8193, 8191, 8192, math.MinInt, math.MaxInt} {
						checkInst(t, set(set(r.base(), letters[a], v), letters[b], w))
						checkInst(t, set(set(r.base(), letters[a], w), letters[b], v))
					}
				}
			}
		}
	}
}

func TestAllFields(t *testing.T) { // In2: all fields at once, at both ends of an int among them
	ends := []int{math.MinInt, -1, 0, 15, 16, math.MaxInt}
	for _, r := range table {
		for _, d := range ends {
			for _, a := range ends {
				for _, b := range ends {
					for _, m := range append([]int{r.lo, r.lo - 1, r.hi, r.hi + 1}, ends...) {
						checkInst(t, api.Inst{Op: r.op, Rd: d, Ra: a, Rb: b, Imm: m})
					}
				}
			}
		}
	}
}

func TestRefused(t *testing.T) { // In2: errors written out, independent of the model
	for _, c := range []struct {
		i api.Inst
		e api.Errno
	}{
		{api.Inst{Op: api.OAddi, Rd: 1, Rb: 1, Imm: 5}, api.ErrArg},
		{api.Inst{Op: api.OAdd, Rd: -1}, api.ErrArg}, {api.Inst{Op: api.OAdd, Ra: 16}, api.ErrArg}, {api.Inst{Op: api.OAdd, Rb: 16}, api.ErrArg}, {api.Inst{Op: api.OAdd, Imm: -1}, api.ErrArg},
		{api.Inst{Op: api.OClz, Rb: 1}, api.ErrArg}, {api.Inst{Op: api.OClz, Imm: math.MinInt}, api.ErrArg}, {api.Inst{Op: api.OCmov, Imm: 8192}, api.ErrArg},
		{api.Inst{Op: api.OLui, Ra: 1}, api.ErrArg}, {api.Inst{Op: api.OLui, Rb: 1}, api.ErrArg}, {api.Inst{Op: api.OJal, Ra: -1}, api.ErrArg}, {api.Inst{Op: api.OJal, Rb: 15}, api.ErrArg},
		{api.Inst{Op: api.OSw, Rd: 1}, api.ErrArg}, {api.Inst{Op: api.OBgeu, Rd: 15}, api.ErrArg}, {api.Inst{Op: api.OCas, Imm: 1}, api.ErrArg},
		{api.Inst{Op: api.OCsrr, Ra: 1}, api.ErrArg}, {api.Inst{Op: api.OCsrr, Rb: 1}, api.ErrArg}, {api.Inst{Op: api.OCsrw, Rd: 1}, api.ErrArg}, {api.Inst{Op: api.OCsrw, Rb: 1}, api.ErrArg},
		{api.Inst{Op: api.OOut, Rd: 1}, api.ErrArg}, {api.Inst{Op: api.OSend, Rb: 1}, api.ErrArg}, {api.Inst{Op: api.OOut, Imm: 1}, api.ErrArg}, {api.Inst{Op: api.OSend, Ra: 16}, api.ErrArg},
		{api.Inst{Op: api.OHalt, Rd: 1}, api.ErrArg}, {api.Inst{Op: api.OCall, Ra: 1}, api.ErrArg}, {api.Inst{Op: api.ONop, Rb: 1}, api.ErrArg}, {api.Inst{Op: api.OSync, Imm: 1}, api.ErrArg},
		// ErrArg comes ahead of ErrRange, whichever field stands first.
		{api.Inst{Op: api.OAddi, Rd: 16, Imm: 8192}, api.ErrArg}, {api.Inst{Op: api.OAddi, Rb: 1, Imm: 8192}, api.ErrArg}, {api.Inst{Op: api.OSlli, Ra: -1, Imm: 32}, api.ErrArg}, {api.Inst{Op: api.OJal, Rb: 1, Imm: 1 << 17}, api.ErrArg},
		{api.Inst{Op: api.OSlli, Imm: 32}, api.ErrRange}, {api.Inst{Op: api.OSrli, Imm: -1}, api.ErrRange}, {api.Inst{Op: api.OSrai, Imm: 32}, api.ErrRange},
		{api.Inst{Op: api.OLui, Imm: 1 << 18}, api.ErrRange}, {api.Inst{Op: api.OLui, Imm: -1}, api.ErrRange}, {api.Inst{Op: api.OJal, Imm: 1 << 17}, api.ErrRange}, {api.Inst{Op: api.OJal, Imm: -1<<17 - 1}, api.ErrRange},
		{api.Inst{Op: api.OLw, Imm: 8192}, api.ErrRange}, {api.Inst{Op: api.OJalr, Imm: -8193}, api.ErrRange}, {api.Inst{Op: api.OSb, Imm: 8192}, api.ErrRange}, {api.Inst{Op: api.OBeq, Imm: -8193}, api.ErrRange},
		{api.Inst{Op: api.OCsrr, Imm: 8192}, api.ErrRange}, {api.Inst{Op: api.OCsrw, Imm: -8193}, api.ErrRange}, {api.Inst{Op: api.OAddi, Imm: 1 << 32}, api.ErrRange}, {api.Inst{Op: api.OSlli, Imm: 1<<32 + 1}, api.ErrRange},
	} {
		if e := Right(c.i); e != c.e {
			t.Errorf("Right(%+v) = %d, want %d", c.i, e, c.e)
		}
		if w, e := Enc(c.i); w != 0 || e != c.e {
			t.Errorf("Enc(%+v) = %#x, %d, want 0, %d", c.i, w, e, c.e)
		}
	}
}

func TestWritten(t *testing.T) { // In2, In3, In4: words written out, of every form
	for _, c := range []struct {
		i api.Inst
		w uint32
	}{
		{api.Inst{Op: api.OAddi, Rd: 1, Imm: 5}, 0x64400005}, {api.Inst{Op: api.OAdd}, 0x04000000}, {api.Inst{Op: api.OAdd, Rd: 15, Ra: 15, Rb: 15}, 0x07ffc000}, {api.Inst{Op: api.OCmov, Rd: 1, Ra: 2, Rb: 4}, 0x60490000},
		{api.Inst{Op: api.ORemu, Rd: 8}, 0x46000000}, {api.Inst{Op: api.ORev, Rd: 1, Ra: 8}, 0x5c600000},
		{api.Inst{Op: api.OAddi, Imm: -1}, 0x64003fff}, {api.Inst{Op: api.OAddi, Imm: -8192}, 0x64002000}, {api.Inst{Op: api.OAddi, Imm: 8191}, 0x64001fff}, {api.Inst{Op: api.OLwp, Rd: 3, Ra: 5, Imm: -4}, 0x9cd43ffc},
		{api.Inst{Op: api.OSlli, Imm: 31}, 0x7800001f}, {api.Inst{Op: api.OSrli, Rd: 15, Ra: 15}, 0x7ffc0000}, {api.Inst{Op: api.OSrai, Imm: 16}, 0x80000010},
		{api.Inst{Op: api.OLui, Imm: 1 << 17}, 0x84020000}, {api.Inst{Op: api.OLui, Rd: 1, Imm: 1<<18 - 1}, 0x8443ffff}, {api.Inst{Op: api.OLui, Imm: 8192}, 0x84002000},
		{api.Inst{Op: api.OJal, Imm: -1 << 17}, 0xc4020000}, {api.Inst{Op: api.OJal, Imm: 1<<17 - 1}, 0xc401ffff}, {api.Inst{Op: api.OJal, Imm: 8192}, 0xc4002000}, {api.Inst{Op: api.OJal, Rd: 15, Imm: -8192}, 0xc7c3e000},
		{api.Inst{Op: api.OJalr, Rd: 0, Ra: 1}, 0xc8040000}, {api.Inst{Op: api.OSb, Ra: 1, Rb: 2, Imm: -1}, 0xa004bfff}, {api.Inst{Op: api.OBgeu, Ra: 15, Rb: 1, Imm: -8192}, 0xc03c6000}, {api.Inst{Op: api.OSwap, Rd: 1, Ra: 2, Rb: 3}, 0xcc48c000},
		{api.Inst{Op: api.OCsrr, Rd: 1, Imm: 7}, 0xe0400007}, {api.Inst{Op: api.OCsrw, Ra: 1, Imm: -1}, 0xe4043fff}, {api.Inst{Op: api.OSend, Ra: 15}, 0xf83c0000},
		{api.Inst{Op: api.OCall}, 0xd8000000}, {api.Inst{Op: api.OTret}, 0xdc000000}, {api.Inst{Op: api.OFence}, 0xe8000000}, {api.Inst{Op: api.OSync}, 0xec000000}, {api.Inst{Op: api.ONop}, 0xfc000000},
	} {
		if e := Right(c.i); e != api.OK {
			t.Errorf("Right(%+v) = %d", c.i, e)
		}
		if w, e := Enc(c.i); w != c.w || e != api.OK {
			t.Errorf("Enc(%+v) = %#x, %d, want %#x", c.i, w, e, c.w)
		}
		if i, e := Dec(c.w); i != c.i || e != api.OK {
			t.Errorf("Dec(%#x) = %+v, %d, want %+v", c.w, i, e, c.i)
		}
	}
}

func TestNoWord(t *testing.T) { // In3: words that are no instruction, written out
	for _, c := range []struct {
		w uint32
		e api.Errno
	}{
		{0, api.ErrOp}, {1, api.ErrOp}, {0x03ffffff, api.ErrOp}, {0x02000000, api.ErrOp}, {0x00004000, api.ErrOp},
		{0x64400005 | 1<<14, api.ErrForm}, {0x64020000, api.ErrForm}, {0x04000001, api.ErrForm}, {0x04002000, api.ErrForm}, {0x54004000, api.ErrForm}, {0x54000001, api.ErrForm},
		{0x78000020, api.ErrForm}, {0x7c001fff, api.ErrForm}, {0x80003fff, api.ErrForm}, {0x80002000, api.ErrForm}, {0x7800201f, api.ErrForm}, {0x7c004000, api.ErrForm},
		{0x84040000, api.ErrForm}, {0xc4200000, api.ErrForm}, {0xa0400000, api.ErrForm}, {0xc2000000, api.ErrForm}, {0xcc000001, api.ErrForm},
		{0xe0040000, api.ErrForm}, {0xe0004000, api.ErrForm}, {0xe4400000, api.ErrForm}, {0xe4020000, api.ErrForm},
		{0xf0400000, api.ErrForm}, {0xf0004000, api.ErrForm}, {0xf8000001, api.ErrForm}, {0xf4400000, api.ErrForm}, {0xfc200000, api.ErrForm}, {0xd8004000, api.ErrForm}, {0xffffffff, api.ErrForm},
	} {
		if i, e := Dec(c.w); i != (api.Inst{}) || e != c.e {
			t.Errorf("Dec(%#x) = %+v, %d, want %d", c.w, i, e, c.e)
		}
	}
}

func TestBits(t *testing.T) { // In3: one bit and two bits set in words of every operation, and of none
	for op := range uint32(64) {
		base := op << 26
		if op > 0 {
			base = composed(table[op-1].base())
		}
		for a := range 26 {
			for b := range a + 1 {
				checkWord(t, op<<26|1<<a|1<<b)
				checkWord(t, base^1<<a^1<<b)
			}
			checkWord(t, base^1<<a)
		}
		checkWord(t, op<<26)
		checkWord(t, op<<26|(1<<26-1))
	}
}

func TestMixedWords(t *testing.T) { // In3: words of all kinds
	x := uint32(5)
	for range 30000 {
		x = x*1664525 + 1013904223
		checkWord(t, x)
		checkWord(t, x&^0x3fff)
		checkWord(t, x&^0x3c000)
		checkWord(t, x&^0x03fc0000)
		checkWord(t, x&^0x03ffc000)
		checkWord(t, x&^0xfc000000)
	}
}

func TestEveryImm(t *testing.T) { // In2, In3, In4: Imm throughout its range
	for _, r := range table {
		if !r.has("i") {
			continue
		}
		for v := r.lo; v <= r.hi; v++ {
			i := set(r.base(), 'i', v)
			w, e := Enc(i)
			back, f := Dec(w)
			if e != api.OK || f != api.OK || back != i {
				t.Fatalf("%+v is %#x, %d, and that %+v, %d", i, w, e, back, f)
			}
		}
	}
}

func TestAcceptedWords(t *testing.T) { // In3, In4: how many words are accepted, and that each is encoded to itself
	for _, r := range table {
		low, high := 1, 1
		if r.has("d") {
			high *= 16
		}
		if r.has("a") {
			high *= 16
		}
		if r.has("b") {
			low *= 16
		}
		if r.has("i") {
			low *= r.hi - r.lo + 1
		}
		top := uint32(r.op) << 26
		if got := accepted(t, top, 0, 1<<18); got != low {
			t.Errorf("operation %d: %d words without Rd and Ra, want %d", r.op, got, low)
		}
		if got := accepted(t, top, 18, 1<<8); got != high {
			t.Errorf("operation %d: %d words with Rd and Ra alone, want %d", r.op, got, high)
		}
	}
}

// accepted counts the numbers below n that, laid into a word from a bit on, make one that Dec accepts.
func accepted(t *testing.T, top uint32, from int, n uint32) int {
	t.Helper()
	count := 0
	for k := range n {
		w := top | k<<from
		i, e := Dec(w)
		if e != api.OK {
			continue
		}
		count++
		if back, e := Enc(i); back != w || e != api.OK {
			t.Fatalf("Enc(%+v) = %#x, %d, want %#x", i, back, e, w)
		}
	}
	return count
}

// each calls f with every register where a field is one, otherwise with 0.
func each(has bool, f func(r int)) {
	if !has {
		f(0)
		return
	}
	for r := range 16 {
		f(r)
	}
}

func TestDifferentWords(t *testing.T) { // In4: no two valid instructions have the same word
	of := map[uint32]api.Inst{}
	for _, r := range table {
		imms := []int{0}
		if r.has("i") {
			imms = []int{r.lo, r.lo + 1, 0, 1, 2, 16, 30, r.hi - 1, r.hi}
		}
		each(r.has("d"), func(d int) {
			each(r.has("a"), func(a int) {
				each(r.has("b"), func(b int) {
					for _, m := range imms {
						i := api.Inst{Op: r.op, Rd: d, Ra: a, Rb: b, Imm: m}
						w, e := Enc(i)
						if other, is := of[w]; e != api.OK || is && other != i {
							t.Fatalf("%+v is %#x, %d, which is %+v", i, w, e, other)
						}
						of[w] = i
						if back, e := Dec(w); back != i || e != api.OK {
							t.Fatalf("Dec(%#x) = %+v, %d, want %+v", w, back, e, i)
						}
					}
				})
			})
		})
	}
}
