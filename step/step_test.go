package step

import (
	"math"
	"slices"
	"strings"
	"testing"

	"cotterel/api"
	"cotterel/rom"
)

// bytes is the memory of the tests' machines, and start where their instructions stand.
const (
	bytes = 512
	start = 64
)

// change is something that becomes of a machine.
type change func(m *api.Mach)

func reg(r int, v uint32) change      { return func(m *api.Mach) { m.A.R[r] = v } }
func ctl(n int, v uint32) change      { return func(m *api.Mach) { m.A.C[n] = v } }
func goes(pc uint32) change           { return func(m *api.Mach) { m.A.PC = pc } }
func outs(l ...uint32) change         { return func(m *api.Mach) { m.Out = append(m.Out, l...) } }
func halts(m *api.Mach)               { m.A.Halt = true }
func synced(m *api.Mach)              { m.Shadow = slices.Clone(m.Mem) }
func memory(at int, b ...byte) change { return func(m *api.Mach) { copy(m.Mem[at:], b) } }

// shadow puts words into the shadow.
func shadow(at int, words ...uint32) change {
	return func(m *api.Mach) { copy(m.Shadow[at:], code(words...)) }
}

// with is a machine with changes, in memory of its own.
func with(m api.Mach, l ...change) api.Mach {
	m.Mem, m.Shadow, m.Out = slices.Clone(m.Mem), slices.Clone(m.Shadow), slices.Clone(m.Out)
	for _, f := range l {
		f(&m)
	}
	return m
}

// code is words' bytes.
func code(words ...uint32) []byte {
	var l []byte
	for _, w := range words {
		for range 4 {
			l = append(l, byte(w%256))
			w /= 256
		}
	}
	return l
}

// kernel is a valid machine in kernel mode with words in its shadow from PC on; memory, shadow and registers are not alike, and no interrupt comes.
func kernel(words ...uint32) api.Mach {
	m := api.Mach{Out: []uint32{7, 8}}
	for k := range bytes {
		m.Mem = append(m.Mem, byte(7*k+3))
		m.Shadow = append(m.Shadow, byte(11*k+5))
	}
	for k := range m.A.R {
		m.A.R[k] = 0x9e3779b9 * uint32(k)
	}
	m.A.C = [12]uint32{api.SKernel, 21, 0x87654321, 0x12345678, 0x1b4, 256, 0x5a5a5a5a, 1000, 0, 5, 2, 0xfffffff0}
	return with(m, goes(start), shadow(start, words...))
}

// user is the same machine in user mode.
func user(words ...uint32) api.Mach {
	return with(kernel(words...), ctl(api.CStatus, 0))
}

// flags is the bits of an entry by their letters.
func flags(letters string) uint32 {
	w := uint32(0)
	for _, l := range letters {
		w += map[rune]uint32{'v': 1, 'r': 2, 'w': 4, 'x': 8, 'u': 16, 't': 32, 'd': 64}[l]
	}
	return w
}

// page is an entry of the second table of the tests' machines: virtual page v is that page, with flags.
func page(v int, to uint32, letters string) change {
	return shadow(320+4*v, to<<8+flags(letters))
}

// paged is the same machine in user mode with virtual addresses: the tables stand at 256 and 320, page 1 has the words, page 2 is page 6 to be read and written.
func paged(words ...uint32) api.Mach {
	m := with(user(words...), ctl(api.CStatus, api.SPaged), shadow(256, flags("v")+5<<8))
	for v := range 16 {
		m = with(m, page(v, 0, ""))
	}
	return with(m, page(1, 1, "vxut"), page(2, 6, "vrwutd"))
}

// did is the event of an instruction that writes a register, or none if that is -1.
func did(rd int, v uint32) api.Event {
	return api.Event{Rd: rd, Val: v, Rd2: -1}
}

// expect holds Step of a machine against one that is written out, and its event, of which PC and Next are those of the machines.
func expect(t *testing.T, what string, m, want api.Mach, e api.Event) {
	t.Helper()
	e.PC, e.Next = m.A.PC, want.A.PC
	got, told := check(t, m)
	if !same(got, want) {
		t.Errorf("%s: %s", what, differences(got, want))
	}
	if told != e {
		t.Errorf("%s: %+v, want %+v", what, told, e)
	}
}

// executes holds an instruction that is at PC against what it must do, beside counting; PC is the next one if the changes do not say otherwise.
func executes(t *testing.T, what string, m api.Mach, w uint32, e api.Event, l ...change) {
	t.Helper()
	e.Word = w
	want := with(with(m, goes(m.A.PC+4), ctl(api.CCount, m.A.C[api.CCount]+1)), l...)
	expect(t, what, m, want, e)
}

// traps holds a trap in an instruction's place against what it must do: nothing but PC and four control registers is changed.
func traps(t *testing.T, what string, m api.Mach, w uint32, cause int, val uint32) {
	t.Helper()
	s := m.A.C[api.CStatus]
	s = s/16*16 + s%4*4 + 1
	want := with(m, ctl(api.CStatus, s), ctl(api.CCause, uint32(cause)), ctl(api.CVal, val), ctl(api.CEpc, m.A.PC), goes(m.A.C[api.CVec]))
	expect(t, what, m, want, api.Event{Word: w, Rd: -1, Rd2: -1, Cause: cause, Tval: val})
}

func TestExamples(t *testing.T) { // Sm1, Sm2, Sm3, Sm4: the chapter's examples
	m, e := New(api.Image{Segs: []api.Seg{{Data: []byte{5, 0, 64, 100}}}}, 64)
	if e != api.OK {
		t.Fatal(e)
	}
	before := append([]byte{5, 0, 64, 100}, make([]byte, 60)...)
	want := api.Mach{A: api.Arch{PC: 4, R: [16]uint32{1: 5}, C: [12]uint32{api.CStatus: 1, api.CCount: 1}}, Mem: before, Shadow: before}
	m, told, ok := Step(m)
	if !same(m, want) || told != (api.Event{Word: 0x64400005, Rd: 1, Val: 5, Rd2: -1, Next: 4}) || !ok {
		t.Errorf("addi: %v, %+v, %v", m, told, ok)
	}
	want.A.PC, want.A.C = 0, [12]uint32{api.CStatus: 5, api.CCount: 1, api.CCause: 2, api.CEpc: 4}
	m, told, ok = Step(m)
	if !same(m, want) || told != (api.Event{PC: 4, Rd: -1, Rd2: -1, Cause: api.TIllegal}) || !ok {
		t.Errorf("a word 0: %v, %+v, %v", m, told, ok)
	}
}

func TestNew(t *testing.T) { // Sm1: whole machines written out, with one, several and no segments, at any start
	put := func(size int, segs ...api.Seg) []byte {
		l := make([]byte, size)
		for _, s := range segs {
			copy(l[s.At:], s.Data)
		}
		return l
	}
	for _, segs := range [][]api.Seg{
		nil, {}, {{Data: []byte{5, 0, 64, 100}}}, {{At: 1, Data: []byte{9}}, {At: 2, Data: []byte{8, 7}}, {At: 60, Data: []byte{1, 2, 3, 4}}}, {{At: 63, Data: []byte{255}}},
	} {
		for _, size := range []int{64, 128, 192, 1024, 8192, 16320, 16384} {
			for _, from := range []uint32{0, 4, 7, 60, 64, 128, 1 << 14, 0x80000000, 0xfffffffc, 0xffffffff} {
				im := api.Image{Start: from, Segs: segs}
				m, e := New(im, size)
				want := api.Mach{A: api.Arch{PC: from, C: [12]uint32{1}}, Mem: put(size, segs...), Shadow: put(size, segs...)}
				if e != api.OK || !same(m, want) || len(m.Out) != 0 || !valid(m) {
					t.Fatalf("New of %v, %d: %s, %d", im, size, differences(m, want), e)
				}
				m.Mem[0]++
				m.Mem[size-1]++
				if string(m.Shadow) != string(want.Shadow) {
					t.Fatalf("New of %v, %d: the shadow is memory", im, size)
				}
				if again, _ := New(im, size); !same(again, want) {
					t.Fatalf("New of %v, %d, for the second time: %s", im, size, differences(again, want))
				}
			}
		}
	}
	data := []byte{1, 2, 3, 4}
	im := api.Image{Segs: []api.Seg{{Data: data}}}
	m, _ := New(im, 64)
	spoil(m.Mem)
	spoil(m.Shadow)
	if string(data) != "\x01\x02\x03\x04" || im.Segs[0].At != 0 {
		t.Errorf("New shares the image: %v", im)
	}
}

func TestNewErrors(t *testing.T) { // Sm1: the errors of loading, in their order, with the zero machine
	many := make([]api.Seg, 65)
	for k := range many {
		many[k] = api.Seg{At: uint32(k), Data: []byte{1}}
	}
	most := many[:64]
	none := append(slices.Clone(most), api.Seg{At: 64})
	long := api.Seg{At: 100, Data: make([]byte, 28)}
	for _, c := range []struct {
		segs []api.Seg
		size int
		want api.Errno
	}{
		{nil, 0, api.ErrArg}, {nil, 1, api.ErrArg}, {nil, 63, api.ErrArg}, {nil, 65, api.ErrArg}, {nil, 96, api.ErrArg}, {nil, -64, api.ErrArg}, {nil, -1, api.ErrArg},
		{nil, 16385, api.ErrArg}, {nil, 16448, api.ErrArg}, {nil, 32768, api.ErrArg}, {nil, 1 << 32, api.ErrArg}, {nil, 1<<32 + 64, api.ErrArg}, {nil, math.MaxInt, api.ErrArg}, {nil, math.MaxInt - 63, api.ErrArg}, {nil, math.MinInt, api.ErrArg},
		{many, 128, api.ErrLong}, {many, 100, api.ErrArg}, {most, 64, api.OK}, {most, 100, api.ErrArg},
		{none, 128, api.ErrLong}, {[]api.Seg{{At: 5}}, 64, api.ErrArg}, {[]api.Seg{{Data: []byte{1}}, {At: 3}, {At: 2, Data: []byte{1}}}, 64, api.ErrArg},
		{[]api.Seg{long}, 64, api.ErrRange}, {[]api.Seg{long}, 128, api.OK}, {[]api.Seg{long}, 192, api.OK}, {[]api.Seg{long}, 127, api.ErrArg},
		{[]api.Seg{{At: 101, Data: make([]byte, 28)}}, 128, api.ErrRange}, {[]api.Seg{{At: 101, Data: make([]byte, 28)}}, 192, api.OK},
		{[]api.Seg{{At: 16383, Data: []byte{1}}}, 16384, api.OK}, {[]api.Seg{{At: 16384, Data: []byte{1}}}, 16384, api.ErrRange}, {[]api.Seg{{At: 16383, Data: []byte{1, 2}}}, 16384, api.ErrRange}, {[]api.Seg{{At: 0xffffffff, Data: []byte{1, 2}}}, 16384, api.ErrRange},
		{[]api.Seg{{At: 4, Data: []byte{1, 2}}, {At: 5, Data: []byte{3}}}, 64, api.ErrTwice}, {[]api.Seg{{At: 4, Data: []byte{1, 2}}, {At: 0, Data: []byte{3}}}, 64, api.ErrTwice}, {[]api.Seg{{At: 4, Data: []byte{1, 2}}, {At: 6, Data: []byte{3}}}, 64, api.OK},
		{[]api.Seg{long, {At: 5, Data: []byte{3}}}, 64, api.ErrTwice}, {[]api.Seg{long, {At: 5, Data: []byte{3}}}, 66, api.ErrArg},
	} {
		im := api.Image{Start: 12, Segs: c.segs}
		m, e := New(im, c.size)
		if e != c.want || e != api.OK && (m.A != api.Arch{} || m.Mem != nil || m.Shadow != nil || m.Out != nil) {
			t.Errorf("New of %v, %d: %v, %d, want %d", im, c.size, m.A, e, c.want)
		}
		if b, want := rom.Load(c.size, im); e != want || string(m.Mem) != string(b) || string(m.Shadow) != string(b) {
			t.Errorf("New of %v, %d: %v, %d, but loading gives %d", im, c.size, m.A, e, want)
		}
	}
}

func TestCopy(t *testing.T) { // Sm1: an equal machine in memory of its own, also for machines that are not valid
	for _, m := range []api.Mach{
		{}, kernel(), user(), paged(), with(kernel(), halts, reg(0, 5)), {Mem: []byte{1}}, {Shadow: []byte{1, 2}}, {Out: []uint32{3}}, {Mem: []byte{}, Shadow: []byte{}, Out: []uint32{}},
		{A: api.Arch{R: [16]uint32{1, 2}, C: [12]uint32{math.MaxUint32, math.MaxUint32}, Halt: true}, Mem: make([]byte, 20000), Out: make([]uint32, 5000)},
	} {
		m, untouched := guard(m)
		was := modelOf(m).plain()
		got := Copy(m)
		if !same(got, was) || !untouched() || !stands(got, untouched) || !same(m, was) {
			t.Errorf("Copy of %v: %s", was.A, differences(got, was))
		}
		got = Copy(m)
		spoil(m.Mem)
		spoil(m.Shadow)
		spoil(m.Out)
		if !same(got, was) {
			t.Errorf("Copy of %v changes with it: %s", was.A, differences(got, was))
		}
	}
	one := make([]byte, 64)
	m := Copy(api.Mach{Mem: one, Shadow: one})
	m.Mem[5]++
	if m.Shadow[5] != 0 || one[5] != 0 {
		t.Errorf("Copy of a machine whose shadow is memory: %v", m)
	}
}

func TestSame(t *testing.T) { // Sm1: equal in all fields, and different in exactly one
	l := []api.Mach{{}, kernel(), user(), paged(), with(kernel(), halts), {Mem: []byte{0}}, {Shadow: []byte{0}}, {Out: []uint32{0}}}
	for j, a := range l {
		for k, b := range l {
			if Same(a, b) != (j == k) || Same(a, Copy(b)) != (j == k) || Same(Copy(a), b) != (j == k) {
				t.Errorf("Same of machines %d, %d is not %v", j, k, j == k)
			}
		}
	}
	differ := func(what string, a, b api.Mach) {
		t.Helper()
		if Same(a, b) || Same(b, a) || !Same(a, a) || !Same(b, b) {
			t.Errorf("Same of two machines with other %s", what)
		}
	}
	for _, m := range []api.Mach{kernel(), user(), with(api.Mach{Mem: make([]byte, 64), Shadow: make([]byte, 64), Out: make([]uint32, 3)})} {
		for k := range 32 {
			for r := range m.A.R {
				differ("registers", m, with(m, reg(r, m.A.R[r]^1<<k)))
			}
			for n := range m.A.C {
				differ("control registers", m, with(m, ctl(n, m.A.C[n]^1<<k)))
			}
			differ("PC", m, with(m, goes(m.A.PC^1<<k)))
			for j := range m.Out {
				differ("output", m, with(m, func(m *api.Mach) { m.Out[j] ^= 1 << k }))
			}
		}
		differ("halt", m, with(m, halts))
		for j := range m.Mem {
			for k := range 8 {
				differ("memory", m, with(m, func(m *api.Mach) { m.Mem[j] ^= 1 << k }))
				differ("shadow", m, with(m, func(m *api.Mach) { m.Shadow[j] ^= 1 << k }))
			}
		}
		for _, n := range []int{0, 1, 2} {
			differ("length of output", m, with(m, func(m *api.Mach) { m.Out = m.Out[:min(n, len(m.Out)-1)] }))
			differ("length of memory", m, with(m, func(m *api.Mach) { m.Mem = m.Mem[:len(m.Mem)-n-1] }))
			differ("length of the shadow", m, with(m, func(m *api.Mach) { m.Shadow = m.Shadow[:len(m.Shadow)-n-1] }))
		}
		differ("length of output", m, with(m, outs(0)))
		differ("memory and shadow", m, with(m, func(m *api.Mach) { m.Mem = m.Mem[:0] }))
		differ("no shadow", m, with(m, func(m *api.Mach) { m.Shadow = nil }))
		differ("no output", m, with(m, func(m *api.Mach) { m.Out = nil }))
	}
}

func TestSameEmpty(t *testing.T) { // Sm1, R5: no list is an empty list, and what is behind a list does not matter
	empty := api.Mach{Mem: []byte{}, Shadow: []byte{}, Out: []uint32{}}
	for _, m := range []api.Mach{empty, {Mem: []byte{}}, {Shadow: []byte{}}, {Out: []uint32{}}, {Mem: []byte{1, 2}[:0], Shadow: []byte{3}[:0], Out: []uint32{4}[:0]}} {
		if !Same(m, api.Mach{}) || !Same(api.Mach{}, m) || !Same(m, empty) || !Same(Copy(m), m) || !Same(Copy(m), api.Mach{}) {
			t.Errorf("Same of empty lists: %v", m)
		}
	}
	a, _ := guard(kernel())
	b := with(kernel())
	if !Same(a, b) || !Same(b, a) {
		t.Error("Same looks behind lists")
	}
	one := []byte{1, 2, 1, 2}
	if !Same(api.Mach{Mem: one[:2]}, api.Mach{Mem: one[2:]}) || Same(api.Mach{Mem: one[:2]}, api.Mach{Mem: one[:3]}) || Same(api.Mach{Mem: one}, api.Mach{Shadow: one}) {
		t.Error("Same of lists in one memory")
	}
}

// fetches holds Fetch against a word, or a cause, that is written out.
func fetches(t *testing.T, what string, m api.Mach, word uint32, cause int) {
	t.Helper()
	m, untouched := guard(m)
	got, gotCause := Fetch(m)
	if got != word || gotCause != cause || !untouched() {
		t.Errorf("Fetch, %s, of %v: %#x, %d, want %#x, %d", what, m.A, got, gotCause, word, cause)
	}
	if again, _ := Fetch(m); again != got {
		t.Errorf("Fetch, %s: another word for the second time", what)
	}
}

func TestFetch(t *testing.T) { // Sm2: at each address of memory, at its end and beyond, in both modes
	for _, m := range []api.Mach{kernel(), user(), with(kernel(), ctl(api.CStatus, api.SKernel|api.SPaged)), with(kernel(), halts), with(user(), ctl(api.CEnable, 7), ctl(api.CPend, 7))} {
		for pc := range uint32(bytes + 20) {
			m := with(m, goes(pc), ctl(api.CStop, pc|1))
			switch {
			case pc%4 != 0:
				fetches(t, "unaligned", m, 0, api.TAlign)
			case pc >= bytes:
				fetches(t, "beyond", m, 0, api.TBus)
			default:
				b := m.Shadow[pc:]
				fetches(t, "aligned", m, uint32(b[0])+uint32(b[1])<<8+uint32(b[2])<<16+uint32(b[3])<<24, 0)
			}
		}
		for _, pc := range []uint32{1 << 14, 1<<14 + 4, 1 << 16, 1<<16 + start, 1<<31 - 4, 1 << 31, 1<<31 + start, 0xfffffff8, 0xfffffffc} {
			fetches(t, "far beyond", with(m, goes(pc)), 0, api.TBus)
			for k := range uint32(3) {
				fetches(t, "unaligned, far beyond", with(m, goes(pc+k+1)), 0, api.TAlign)
			}
		}
	}
	for _, size := range []int{64, 128, 1024, 16320, 16384} {
		m := api.Mach{Mem: make([]byte, size), Shadow: make([]byte, size)}
		m = with(m, shadow(size-4, 0x12345678))
		fetches(t, "the last word", with(m, goes(uint32(size-4))), 0x12345678, 0)
		fetches(t, "behind the last word", with(m, goes(uint32(size))), 0, api.TBus)
	}
}

func TestFetchPaged(t *testing.T) { // Sm2: by page tables that translate, and with each cause that they give
	const w = 0xabcdef01
	m := paged(w)
	fetches(t, "page 1", m, w, 0)
	// Page 1's last word is at 124; page 3 is physical page 2, page 7 the last one.
	m = with(m, shadow(124, 1234), shadow(128, 5678), shadow(188, 91011), shadow(508, 121314), page(3, 2, "vxut"), page(7, 7, "vxut"), page(8, 8, "vxut"), page(9, 255, "vxut"), page(15, 1, "vxut"))
	for _, c := range []struct {
		pc, word uint32
		cause    int
	}{
		{124, 1234, 0}, {192, 5678, 0}, {252, 91011, 0}, {508, 121314, 0}, {7 * 64, 0, 0}, {8 * 64, 0, api.TBus}, {9*64 + 60, 0, api.TBus}, {15 * 64, w, 0}, {15*64 + 60, 1234, 0},
		{0, 0, api.TFetch}, {60, 0, api.TFetch}, {128, 0, api.TFetch}, {256, 0, api.TFetch}, {16 * 64, 0, api.TFetch}, {16*64 + start, 0, api.TFetch},
		{1<<14 - 4, 0, api.TFetch}, {1 << 14, 0, api.TFetch}, {1<<14 + start, 0, api.TFetch}, {1<<16 + start, 0, api.TFetch}, {1<<31 + start, 0, api.TFetch}, {0xfffffffc, 0, api.TFetch},
		{1, 0, api.TAlign}, {65, 0, api.TAlign}, {66, 0, api.TAlign}, {67, 0, api.TAlign}, {126, 0, api.TAlign}, {129, 0, api.TAlign}, {8*64 + 2, 0, api.TAlign}, {1<<14 + 1, 0, api.TAlign}, {0xffffffff, 0, api.TAlign},
	} {
		if c.pc == 7*64 {
			c.word = uint32(m.Shadow[448]) + uint32(m.Shadow[449])<<8 + uint32(m.Shadow[450])<<16 + uint32(m.Shadow[451])<<24
		}
		fetches(t, "paged", with(m, goes(c.pc)), c.word, c.cause)
		fetches(t, "paged, halted", with(m, goes(c.pc), halts), c.word, c.cause)
	}
	for _, letters := range []string{"vxut", "vrxut", "vwxut", "vxutd", "vrwxutd"} {
		fetches(t, letters, with(m, page(1, 1, letters)), w, 0)
	}
	for _, letters := range []string{"", "xut", "vut", "vxt", "vxu", "vrwutd", "vrwxtd", "vrwxud", "rwxutd", "v"} {
		fetches(t, letters, with(m, page(1, 1, letters)), 0, api.TFetch)
	}
}

func TestFetchTables(t *testing.T) { // Sm2: tables elsewhere, at the end of memory and beyond, and first entries that lead nowhere
	const w = 0xabcdef01
	m := paged(w)
	for _, c := range []struct {
		what  string
		m     api.Mach
		cause int
	}{
		{"a first entry that is not valid", with(m, shadow(256, 5<<8)), api.TFetch},
		{"a first entry to be read", with(m, shadow(256, flags("vr")+5<<8)), api.TFetch},
		{"a first entry to be written", with(m, shadow(256, flags("vw")+5<<8)), api.TFetch},
		{"a first entry to be executed", with(m, shadow(256, flags("vx")+5<<8)), api.TFetch},
		{"a first entry with other flags", with(m, shadow(256, flags("vutd")+5<<8)), 0},
		{"a first entry with bits that do not count", with(m, shadow(256, flags("v")+5<<8+0xffff0080)), 0},
		{"a second table beyond memory", with(m, shadow(256, flags("v")+8<<8)), api.TFetch},
		{"a second table far beyond memory", with(m, shadow(256, flags("v")+255<<8)), api.TFetch},
		{"a first table beyond memory", with(m, ctl(api.CRoot, bytes)), api.TFetch},
		{"a first table far beyond memory", with(m, ctl(api.CRoot, 0xffffffc0)), api.TFetch},
		{"a first table at the end", with(m, ctl(api.CRoot, 448), shadow(448, flags("v")+5<<8)), 0},
		{"a first table at the beginning", with(m, ctl(api.CRoot, 0), shadow(0, flags("v")+5<<8)), 0},
		{"a second table at the end", with(m, shadow(256, flags("v")+7<<8), shadow(452, flags("vxut")+1<<8)), 0},
		{"a second table with nothing", with(m, shadow(256, flags("v")+7<<8), shadow(452, 0)), api.TFetch},
	} {
		word := uint32(w)
		if c.cause != 0 {
			word = 0
			traps(t, c.what, c.m, 0, c.cause, start)
		}
		fetches(t, c.what, c.m, word, c.cause)
	}
	second := with(m, goes(1<<10+start), shadow(260, flags("v")+7<<8), shadow(452, flags("vxut")+1<<8))
	fetches(t, "the second entry of the first table", second, w, 0)
	fetches(t, "the first entry of the first table is not asked", with(second, shadow(256, 0)), w, 0)
}

func TestFetchShadow(t *testing.T) { // Sm2, Sm5: the shadow counts, for words and for tables, and memory does not
	for _, m := range []api.Mach{kernel(5), user(5), paged(5)} {
		empty := with(m, func(m *api.Mach) { clear(m.Mem) })
		swapped := with(m, func(m *api.Mach) { m.Mem, m.Shadow = m.Shadow, m.Mem })
		fetches(t, "memory with nothing", empty, 5, 0)
		fetches(t, "memory as the shadow", with(m, func(m *api.Mach) { copy(m.Mem, m.Shadow) }), 5, 0)
		for k := range bytes / 4 {
			fetches(t, "a byte of memory", with(m, memory(4*k, 1)), 5, 0)
			fetches(t, "all of memory", with(m, memory(4*k, slices.Repeat([]byte{255}, 100)...)), 5, 0)
		}
		want, cause := modelOf(swapped).fetched()
		if fetches(t, "memory and shadow swapped", swapped, uint32(want), cause); want == 5 {
			t.Error("memory and shadow are alike")
		}
		for _, k := range []int{start, start + 1, start + 2, start + 3} {
			fetches(t, "a byte of the shadow", with(m, func(m *api.Mach) { m.Shadow[k] ^= 0x80 }), 5^0x80<<(8*(k-start)), 0)
		}
	}
	m := paged(5)
	fetches(t, "an entry of the shadow", with(m, page(1, 1, "vrwutd")), 0, api.TFetch)
	fetches(t, "an entry of memory", with(m, memory(324, code(flags("vrwutd")+1<<8)...)), 5, 0)
	fetches(t, "a first entry of the shadow", with(m, shadow(256, 0)), 0, api.TFetch)
	fetches(t, "a first entry of memory", with(m, memory(256, 0, 0, 0, 0)), 5, 0)
}

// every is each operation of the table once, with the registers 4, 1 and 2 (rd, ra, rb) and a number.
func every(number int) []uint32 {
	var l []uint32
	for _, o := range operations[1:] {
		var fields []int
		for k := range o.fields {
			fields = append(fields, map[byte]int{'d': 4, 'a': 1, 'b': 2, 'i': number, 'n': number}[o.fields[k]])
		}
		l = append(l, ins(o.name, fields...))
	}
	return l
}

func TestHalted(t *testing.T) { // Sm2: nothing becomes of a halted machine, whatever could come; its lists are in new memory
	for _, w := range append(every(7), 0) {
		for _, m := range []api.Mach{kernel(w), user(w), paged(w), with(user(w), ctl(api.CEnable, 7), ctl(api.CPend, 7)), with(user(w), ctl(api.CStop, start+1)), with(user(w), goes(3)), with(user(w), ctl(api.CStatus, api.SSingle))} {
			m, untouched := guard(with(m, halts))
			got, e, ok := Step(m)
			if !same(got, m) || e != (api.Event{}) || ok || !untouched() || !stands(got, untouched) {
				t.Errorf("Step of a halted machine, %#x: %s, %+v, %v", w, differences(got, m), e, ok)
			}
		}
	}
	for _, m := range []api.Mach{{A: api.Arch{Halt: true}}, {A: api.Arch{Halt: true}, Mem: make([]byte, 64), Shadow: make([]byte, 64)}} {
		if got, e, ok := Step(m); !same(got, m) || e != (api.Event{}) || ok {
			t.Errorf("Step of a halted machine: %s, %+v, %v", differences(got, m), e, ok)
		}
	}
}

func TestTrap(t *testing.T) { // Sm2, Sm5: a whole machine with a trap, written out
	memory, copied := make([]byte, 64), make([]byte, 64)
	memory[9], copied[8], copied[11] = 77, 1, 0xd8 // call with a bit that it has not
	m := api.Mach{
		A:   api.Arch{PC: 8, R: [16]uint32{0, 21, 22, 23, 24, 25, 26, 27, 28, 29, 30, 31, 32, 33, 34, 35}, C: [12]uint32{api.SEnable | api.SWasK | api.SSingle, 17, 42, 43, 44, 64, 46, 47, 48, 4, 3, 50}},
		Mem: memory, Shadow: copied, Out: []uint32{5, 6},
	}
	want := m
	want.A.PC = 44
	want.A.C = [12]uint32{api.SKernel | api.SWasE | api.SSingle, 2, 0xd8000001, 8, 44, 64, 46, 47, 48, 4, 3, 50}
	got, e, ok := Step(m)
	if !same(got, want) || e != (api.Event{PC: 8, Word: 0xd8000001, Rd: -1, Rd2: -1, Cause: 2, Tval: 0xd8000001, Next: 44}) || !ok {
		t.Errorf("Step: %v, %+v, %v", got, e, ok)
	}
	check(t, m)
}

func TestInterrupts(t *testing.T) { // Sm2, Sm4: each line, open or not, in each mode; nothing is fetched
	for s := range uint32(64) {
		for enabled := range uint32(8) {
			for raised := range uint32(8) {
				for _, m := range []api.Mach{kernel(ins("nop")), paged(ins("nop")), with(kernel(ins("nop")), goes(1)), with(kernel(ins("halt")))} {
					m = with(m, ctl(api.CStatus, s), ctl(api.CEnable, enabled), ctl(api.CPend, raised))
					cause := map[uint32]int{0: 0, 1: 16, 2: 17, 3: 16, 4: 18, 5: 16, 6: 17, 7: 16}[enabled&raised]
					if cause == 0 || s%4 == api.SKernel {
						if _, e := check(t, m); e.Cause >= 16 {
							t.Errorf("status %d, lines %d, %d: %+v", s, enabled, raised, e)
						}
						continue
					}
					traps(t, "an interrupt", m, 0, cause, 0)
				}
			}
		}
	}
}

func TestStops(t *testing.T) { // Sm2, Sm4: a breakpoint at PC in user mode, enabled, ahead of what is there; nothing is fetched
	for _, w := range append(every(7), 0, 0xffffffff) {
		for _, s := range []uint32{0, api.SPaged, api.SSingle, api.SPaged | api.SSingle | api.SEnable | api.SWasE | api.SWasK} {
			m := with(paged(w), ctl(api.CStatus, s))
			traps(t, "a breakpoint", with(m, ctl(api.CStop, start+1)), 0, api.TStop, start)
			for _, pc := range []uint32{0, 2, 66, 126, 128, 508, 510, 512, 1 << 14, 1<<31 + 6, 0xfffffffc, 0xfffffffe} {
				traps(t, "a breakpoint elsewhere", with(m, goes(pc), ctl(api.CStop, pc+1)), 0, api.TStop, pc)
			}
			for _, stop := range []uint32{start, 0, 1, start + 3, start + 5, start - 3, 1<<31 + start + 1, 1<<8 + start + 1} {
				if _, e := check(t, with(m, ctl(api.CStop, stop))); e.Cause == api.TStop {
					t.Errorf("a breakpoint at %#x: %+v", stop, e)
				}
			}
			for _, pc := range []uint32{1, 65, 67, 0xffffffff} {
				traps(t, "a breakpoint at an odd address", with(m, goes(pc), ctl(api.CStop, pc)), 0, api.TAlign, pc)
			}
		}
		for _, s := range []uint32{api.SKernel, 63, api.SKernel | api.SPaged | api.SSingle} {
			if _, e := check(t, with(kernel(w), ctl(api.CStatus, s), ctl(api.CStop, start+1))); e.Cause == api.TStop {
				t.Errorf("a breakpoint in kernel mode: %+v", e)
			}
		}
	}
}

func TestFetchTraps(t *testing.T) { // Sm2, Sm4: the cause of Fetch with PC, whatever the shadow has; no word is told
	for _, m := range []api.Mach{kernel(), user(), paged(), with(kernel(), ctl(api.CStatus, 63)), with(paged(), ctl(api.CStatus, api.SPaged|api.SSingle|api.SEnable))} {
		for _, pc := range []uint32{1, 2, 3, 65, 66, 67, 509, 511, 513, 1<<14 + 2, 1<<31 + 1, 0xfffffffd, 0xfffffffe, 0xffffffff} {
			traps(t, "unaligned", with(m, goes(pc)), 0, api.TAlign, pc)
		}
		for _, pc := range []uint32{512, 516, 1 << 14, 1<<14 + 64, 1 << 16, 1 << 31, 0xfffffffc} {
			cause := api.TBus
			if m.A.C[0]&(api.SPaged|api.SKernel) == api.SPaged {
				cause = api.TFetch
			}
			traps(t, "beyond memory", with(m, goes(pc)), 0, cause, pc)
		}
	}
	m := paged(ins("nop"))
	for _, pc := range []uint32{0, 60, 128, 188, 192, 1020} {
		traps(t, "no page to fetch from", with(m, goes(pc)), 0, api.TFetch, pc)
	}
	traps(t, "a page beyond memory", with(m, page(1, 8, "vxut")), 0, api.TBus, start)
	traps(t, "a page beyond memory, not to be fetched from", with(m, page(1, 8, "vrwutd")), 0, api.TFetch, start)
	traps(t, "a page beyond memory, unaligned", with(m, page(1, 8, "vxut"), goes(66)), 0, api.TAlign, 66)
}

func TestIllegal(t *testing.T) { // Sm2, Sm4: words that are no instructions, with the word, in both modes
	words := []uint32{0, 1, 0x3ffffff, 1 << 25, ins("slli", 1, 2, 32), ins("srli", 1, 2, -1), ins("srai", 1, 2, 8191), ins("srai", 1, 2, 63), ins("slli", 0, 0, -8192)}
	for op, o := range operations[1:] {
		for _, f := range []byte{'d', 'a', 'b', 'i'} {
			wide := slices.Contains([]byte(o.fields), 'n') && f != 'd' // the number of 18 bits is there
			if wide || slices.Contains([]byte(o.fields), f) {
				continue
			}
			for v := int64(1); v < rangeOf[f]; v *= 2 {
				words = append(words, uint32(int64(op+1)<<26+v*weightOf[f]))
			}
			words = append(words, uint32(int64(op+1)<<26+(rangeOf[f]-1)*weightOf[f]))
		}
	}
	if len(words) < 500 {
		t.Errorf("%d words", len(words))
	}
	for _, w := range words {
		for _, m := range []api.Mach{kernel(w), user(w), paged(w), with(user(w), ctl(api.CStatus, api.SSingle))} {
			traps(t, "no instruction", m, w, api.TIllegal, w)
		}
	}
}

func TestPrivileged(t *testing.T) { // Sm2, Sm4: what user mode may not do, with the word; each other operation it may
	for _, w := range every(6) {
		p, _ := apart(int64(w))
		refused := slices.Contains([]string{"tret", "csrr", "csrw", "halt", "sync"}, p.name)
		for _, m := range []api.Mach{user(w), paged(w), with(user(w), ctl(api.CStatus, api.SSingle|api.SEnable|api.SWasK))} {
			if refused {
				traps(t, p.name, m, w, api.TPriv, w)
			} else if _, e := check(t, m); e.Cause == api.TPriv {
				t.Errorf("%s in user mode: %+v", p.name, e)
			}
		}
		if _, e := check(t, kernel(w)); e.Cause == api.TPriv {
			t.Errorf("%s in kernel mode: %+v", p.name, e)
		}
	}
}

func TestNoControlRegister(t *testing.T) { // Sm2: csrr and csrw of each number, in both modes
	for n := -8192; n < 8192; n++ {
		if n > 100 && n < 8000 && n%97 != 0 || n < -100 && n > -8000 && n%89 != 0 {
			continue
		}
		r, w := ins("csrr", 4, n), ins("csrw", 1, n)
		if n != api.CCount {
			traps(t, "csrr in user mode", user(r), r, api.TPriv, r)
		} else if _, e := check(t, user(r)); e.Cause != 0 || e.Rd != 4 {
			t.Errorf("csrr of the counter in user mode: %+v", e)
		}
		traps(t, "csrw in user mode", user(w), w, api.TPriv, w)
		if n < 0 || n > 11 {
			traps(t, "csrr of no register", kernel(r), r, api.TIllegal, r)
			traps(t, "csrw of no register", kernel(w), w, api.TIllegal, w)
		}
	}
}

func TestCall(t *testing.T) { // Sm2, Sm4: a call in each mode
	w := ins("call")
	for s := range uint32(64) {
		m := with(paged(w), ctl(api.CStatus, s))
		traps(t, "call", m, w, api.TCall, 0)
		traps(t, "call, with a timer", with(m, ctl(api.CTimer, 5)), w, api.TCall, 0)
	}
}

// accesses are the loads, stores and atomic operations: their bytes, their cause when a page refuses, and the flags that its entry must have.
var accesses = []struct {
	name, flags string
	size        uint32
	cause       int
}{
	{"lb", "vrut", 1, 4}, {"lbu", "vrut", 1, 4}, {"lh", "vrut", 2, 4}, {"lhu", "vrut", 2, 4}, {"lw", "vrut", 4, 4}, {"lwp", "vrut", 4, 4},
	{"sb", "vwutd", 1, 6}, {"sh", "vwutd", 2, 6}, {"sw", "vwutd", 4, 6}, {"swap", "vwutd", 4, 6}, {"fadd", "vwutd", 4, 6}, {"cas", "vwutd", 4, 6},
}

// reach is the word of an operation whose access is at register 1, with an offset if it has one.
func reach(name string, offset int) uint32 {
	switch operations[opOf(name)].fields {
	case "dai":
		return ins(name, 4, 1, offset)
	case "abi":
		return ins(name, 1, 2, offset)
	}
	return ins(name, 4, 1, 2)
}

func TestAccess(t *testing.T) { // Sm2, Sm4: accesses at each address near the ends of memory and of all addresses
	for _, a := range accesses {
		for _, offset := range []int{0, 1, 4, -3, 8191, -8192} {
			w := reach(a.name, offset)
			if operations[opOf(a.name)].fields == "dab" || a.name == "lwp" {
				offset = 0 // the access is at the register itself
			}
			for _, near := range []uint32{0, 128, 508, 512, 1 << 14, 1 << 16, 1 << 31, 0xfffffff8} {
				for k := range uint32(12) {
					va := near + k - 4
					for _, m := range []api.Mach{kernel(w), user(w)} {
						m = with(m, reg(1, va-uint32(offset)))
						switch {
						case va%a.size != 0:
							traps(t, a.name, m, w, api.TAlign, va)
						case va > bytes-a.size:
							traps(t, a.name, m, w, api.TBus, va)
						default:
							if _, e := check(t, m); e.Cause != 0 {
								t.Errorf("%s at %#x: %+v", a.name, va, e)
							}
						}
					}
				}
			}
		}
	}
}

func TestAccessPaged(t *testing.T) { // Sm2, Sm4: accesses by pages with and without each flag, and by no page; the number is the virtual address
	all := "vrwxutd"
	for _, a := range accesses {
		w := reach(a.name, 0)
		m := paged(w)
		for set := range 1 << len(all) {
			letters, enough := "", true
			for k := range all {
				if set>>k%2 == 1 {
					letters += all[k : k+1]
				} else if slices.Contains([]byte(a.flags), all[k]) {
					enough = false
				}
			}
			for _, m := range []api.Mach{with(m, page(2, 6, letters), reg(1, 140)), with(m, page(15, 6, letters), reg(1, 15*64+60))} {
				if !enough {
					traps(t, a.name+" "+letters, m, w, a.cause, m.A.R[1])
				} else if _, e := check(t, m); e.Cause != 0 {
					t.Errorf("%s, %s: %+v", a.name, letters, e)
				}
			}
			// What comes first: unaligned, refused, beyond memory.
			m := with(m, page(2, 8, letters))
			if a.size > 1 {
				traps(t, a.name+" unaligned "+letters, with(m, reg(1, 140+a.size/2)), w, api.TAlign, 140+a.size/2)
				traps(t, a.name+" odd "+letters, with(m, reg(1, 141)), w, api.TAlign, 141)
			}
			if enough {
				traps(t, a.name+" beyond memory "+letters, with(m, reg(1, 140)), w, api.TBus, 140)
			} else {
				traps(t, a.name+" beyond memory "+letters, with(m, reg(1, 140)), w, a.cause, 140)
			}
		}
		for _, va := range []uint32{0, 4, 192, 500, 512, 1 << 10, 1<<14 - 4, 1 << 14, 1<<14 + 128, 1<<14 + 140, 1 << 16, 1 << 31, 1<<31 + 140, 0xfffffffc} {
			traps(t, a.name+" of no page", with(m, reg(1, va)), w, a.cause, va)
		}
		if _, e := check(t, with(m, reg(1, 140), ctl(api.CStatus, api.SPaged|api.SKernel))); e.Cause != 0 {
			t.Errorf("%s in kernel mode: %+v", a.name, e)
		}
		// The tables of memory do not count.
		traps(t, a.name+" by memory's table", with(m, reg(1, 192), memory(332, code(flags(all)+6<<8)...), memory(256, code(flags("v")+5<<8)...)), w, a.cause, 192)
		if _, e := check(t, with(m, reg(1, 140), memory(256, make([]byte, 128)...))); e.Cause != 0 {
			t.Errorf("%s by the shadow's table: %+v", a.name, e)
		}
	}
}

func TestTrapOrder(t *testing.T) { // Sm2: of traps that can apply together the first one
	type trap struct {
		applies   bool
		cause     int
		val, word uint32
	}
	type place struct {
		pc, page uint32
		cause    int
	}
	at140, at141 := reach("lw", 0), reach("lw", 1)
	for _, status := range []uint32{api.SKernel, api.SKernel | api.SEnable, 0, api.SEnable, api.SPaged, api.SPaged | api.SSingle} {
		inUser := status&api.SKernel == 0
		places := []place{{start, 1, 0}, {start + 2, 1, api.TAlign}, {bytes, 1, api.TBus}, {bytes + 2, 1, api.TAlign}}
		if status&api.SPaged != 0 {
			places = []place{{start, 1, 0}, {start + 2, 1, api.TAlign}, {bytes, 1, api.TFetch}, {bytes + 2, 1, api.TAlign}, {start, 8, api.TBus}, {start + 2, 8, api.TAlign}}
		}
		for _, p := range places {
			for _, c := range []struct {
				word uint32
				last trap
			}{
				{ins("nop"), trap{}}, {at140, trap{}},
				{0, trap{true, api.TIllegal, 0, 0}}, {ins("halt") + 1, trap{true, api.TIllegal, ins("halt") + 1, ins("halt") + 1}}, {ins("lw", 1, 2, 3) + 1<<14, trap{true, api.TIllegal, ins("lw", 1, 2, 3) + 1<<14, ins("lw", 1, 2, 3) + 1<<14}},
				{ins("halt"), trap{inUser, api.TPriv, ins("halt"), ins("halt")}}, {ins("tret"), trap{inUser, api.TPriv, ins("tret"), ins("tret")}},
				{ins("csrw", 1, 3), trap{inUser, api.TPriv, ins("csrw", 1, 3), ins("csrw", 1, 3)}}, {ins("csrr", 1, 3), trap{inUser, api.TPriv, ins("csrr", 1, 3), ins("csrr", 1, 3)}},
				{ins("call"), trap{true, api.TCall, 0, ins("call")}}, {at141, trap{true, api.TAlign, 141, at141}},
				{reach("sb", bytes), trap{true, map[bool]int{true: api.TStore, false: api.TBus}[status&api.SPaged != 0], bytes + 140, reach("sb", bytes)}},
			} {
				for _, raised := range []uint32{0, 4, 7} {
					for _, stop := range []uint32{0, p.pc + 1} {
						m := with(paged(c.word), ctl(api.CStatus, status), goes(p.pc), page(1, p.page, "vxut"), reg(1, 140), ctl(api.CEnable, 7), ctl(api.CPend, raised), ctl(api.CStop, stop))
						l := []trap{
							{raised != 0 && (inUser || status&api.SEnable != 0), map[uint32]int{4: api.TTimer, 7: api.TOut}[raised], 0, 0},
							{stop != 0 && inUser, api.TStop, p.pc, 0},
							{p.cause != 0, p.cause, p.pc, 0},
							c.last,
						}
						k := slices.IndexFunc(l, func(o trap) bool { return o.applies })
						if k < 0 {
							if _, e := check(t, m); e.Cause != 0 && e.Cause != api.TSingle {
								t.Errorf("%+v: %+v", l, e)
							}
							continue
						}
						traps(t, "the first one", m, l[k].word, l[k].cause, l[k].val)
					}
				}
			}
		}
	}
}

func TestComputes(t *testing.T) { // Sm3, Sm4: operations on registers and numbers, with results that are written out
	for _, c := range []struct {
		w, want uint32
	}{
		{ins("add", 4, 1, 2), 0x80000028}, {ins("sub", 4, 1, 2), 0x7fffffe6}, {ins("and", 4, 1, 2), 1}, {ins("or", 4, 1, 2), 0x80000027}, {ins("xor", 4, 1, 2), 0x80000026},
		{ins("sll", 4, 1, 2), 14}, {ins("srl", 4, 1, 2), 0x40000003}, {ins("sra", 4, 1, 2), 0xc0000003}, {ins("slt", 4, 1, 2), 1}, {ins("slt", 4, 2, 1), 0}, {ins("sltu", 4, 1, 2), 0}, {ins("sltu", 4, 2, 1), 1},
		{ins("mul", 4, 1, 3), 0x7fffffeb}, {ins("mulh", 4, 1, 3), 1}, {ins("mulhu", 4, 1, 3), 0x80000005},
		{ins("div", 4, 1, 3), 0x2aaaaaa8}, {ins("divu", 4, 3, 1), 1}, {ins("rem", 4, 1, 3), 0xffffffff}, {ins("remu", 4, 3, 1), 0x7ffffff6},
		{ins("div", 4, 1, 0), 0xffffffff}, {ins("divu", 4, 1, 0), 0xffffffff}, {ins("rem", 4, 1, 0), 0x80000007}, {ins("remu", 4, 1, 0), 0x80000007}, {ins("div", 4, 5, 6), 0x80000000}, {ins("rem", 4, 5, 6), 0},
		{ins("min", 4, 1, 2), 0x80000007}, {ins("max", 4, 1, 2), 33}, {ins("ror", 4, 1, 2), 0xc0000003},
		{ins("clz", 4, 2), 26}, {ins("pop", 4, 3), 31}, {ins("rev", 4, 1), 0x07000080}, {ins("clz", 4, 0), 32},
		{ins("cmov", 4, 1, 2), 0x80000007}, {ins("cmov", 4, 1, 0), 99}, {ins("cmov", 4, 0, 1), 0},
		{ins("addi", 4, 1, -8), 0x7fffffff}, {ins("andi", 4, 3, -4), 0xfffffffc}, {ins("ori", 4, 2, 8190), 0x1fff}, {ins("xori", 4, 2, -1), 0xffffffde}, {ins("slti", 4, 3, -2), 1}, {ins("slti", 4, 3, -3), 0}, {ins("slti", 4, 1, -8192), 1},
		{ins("slli", 4, 1, 31), 0x80000000}, {ins("srli", 4, 1, 31), 1}, {ins("srai", 4, 1, 31), 0xffffffff}, {ins("slli", 4, 1, 0), 0x80000007},
		{ins("lui", 4, 0x3ffff), 0xffffc000}, {ins("lui", 4, 1), 16384}, {ins("lui", 4, 0x20000), 0x80000000},
	} {
		for _, m := range []api.Mach{kernel(c.w), user(c.w), paged(c.w)} {
			m = with(m, reg(1, 0x80000007), reg(2, 33), reg(3, 0xfffffffd), reg(4, 99), reg(5, 0x80000000), reg(6, 0xffffffff))
			executes(t, "an operation", m, c.w, did(4, c.want), reg(4, c.want))
		}
	}
}

func TestNothingWritten(t *testing.T) { // Sm3, Sm4, Sm5: register 0 as the destination is not written, and no register is told
	for _, o := range operations[1:] {
		if !slices.Contains([]byte(o.fields), 'd') {
			continue
		}
		for _, number := range []int{0, 4, 7} {
			var fields []int
			for k := range o.fields {
				fields = append(fields, map[byte]int{'d': 0, 'a': 1, 'b': 2, 'i': number, 'n': number}[o.fields[k]])
			}
			w := ins(o.name, fields...)
			if o.name == "lh" || o.name == "lhu" || o.name == "lw" {
				w = ins(o.name, 0, 1, 4)
			}
			m, e := check(t, with(kernel(w), reg(1, 132)))
			if e.Cause != 0 || e.Rd != -1 || e.Val != 0 || m.A.R[0] != 0 || (e.Rd2 != -1) != (o.name == "lwp") {
				t.Errorf("%s: %+v, register 0 %#x", o.name, e, m.A.R[0])
			}
		}
	}
}

func TestJumps(t *testing.T) { // Sm3, Sm4: jumps forwards, backwards and to where they are, round both ends of the address range
	for _, n := range []int{0, 1, 2, -1, -16, -17, -18, 100, 131071, -131072, 1 << 16} {
		w := ins("jal", 4, n)
		want := uint32(start + 4*n)
		executes(t, "jal", kernel(w), w, did(4, start+4), reg(4, start+4), goes(want))
		executes(t, "jal", paged(w), w, did(4, start+4), reg(4, start+4), goes(want))
		w = ins("jal", 0, n)
		executes(t, "jal without a link", kernel(w), w, did(-1, 0), goes(want))
	}
	first, last := ins("jal", 3, -1), ins("jal", 3, 2)
	executes(t, "jal from the first word", with(kernel(), goes(0), shadow(0, first)), first, did(3, 4), reg(3, 4), goes(0xfffffffc))
	executes(t, "jal from the last word", with(kernel(), goes(bytes-4), shadow(bytes-4, last)), last, did(3, bytes), reg(3, bytes), goes(bytes+4))
	for _, c := range []struct {
		base uint32
		n    int
		want uint32
	}{
		{0, 0, 0}, {100, 0, 100}, {101, 0, 100}, {102, 0, 100}, {103, 0, 100}, {100, 3, 100}, {101, 3, 104}, {100, -1, 96}, {100, 8191, 8288}, {100, -100, 0}, {100, -101, 0xfffffffc}, {0, -8192, 0xffffe000},
		{0xffffffff, 0, 0xfffffffc}, {0xffffffff, 1, 0}, {0xfffffff0, 100, 84}, {0x80000000, -1, 0x7ffffffc}, {0x7fffffff, 1, 0x80000000}, {0xfffffffd, 3, 0},
	} {
		w := ins("jalr", 4, 1, c.n)
		executes(t, "jalr", with(kernel(w), reg(1, c.base)), w, did(4, start+4), reg(4, start+4), goes(c.want))
		w = ins("jalr", 1, 1, c.n)
		executes(t, "jalr by the register that it writes", with(kernel(w), reg(1, c.base)), w, did(1, start+4), reg(1, start+4), goes(c.want))
		w = ins("jalr", 0, 1, c.n)
		executes(t, "jalr without a link", with(paged(w), reg(1, c.base)), w, did(-1, 0), goes(c.want))
	}
	w := ins("jalr", 4, 0, -3)
	executes(t, "jalr by register 0", kernel(w), w, did(4, start+4), reg(4, start+4), goes(0xfffffffc))
}

func TestBranches(t *testing.T) { // Sm3, Sm4: each branch, taken or not, near and far, on pairs on both sides of the signs
	for _, c := range []struct {
		a, b  uint32
		taken string
	}{
		{0, 0, "beq bge bgeu"}, {5, 5, "beq bge bgeu"}, {0x80000000, 0x80000000, "beq bge bgeu"}, {0xffffffff, 0xffffffff, "beq bge bgeu"},
		{0, 1, "bne blt bltu"}, {1, 0, "bne bge bgeu"}, {0, 0xffffffff, "bne bge bltu"}, {0xffffffff, 0, "bne blt bgeu"},
		{0x7fffffff, 0x80000000, "bne bge bltu"}, {0x80000000, 0x7fffffff, "bne blt bgeu"}, {0xfffffffe, 0xffffffff, "bne blt bltu"}, {4, 0x10004, "bne blt bltu"}, {0x80000000, 0, "bne blt bgeu"},
	} {
		for _, name := range []string{"beq", "bne", "blt", "bge", "bltu", "bgeu"} {
			taken := slices.Contains(strings.Fields(c.taken), name)
			for _, n := range []int{0, 1, 2, -1, -16, -17, 8191, -8192} {
				w := ins(name, 1, 2, n)
				next := uint32(start + 4)
				if taken {
					next = uint32(start + 4*n)
				}
				m := with(kernel(w), reg(1, c.a), reg(2, c.b))
				executes(t, name, m, w, did(-1, 0), goes(next))
				executes(t, name, with(m, ctl(api.CStatus, 0)), w, did(-1, 0), goes(next))
			}
			w := ins(name, 3, 3, 5) // a register and itself
			next := uint32(start + 4)
			if name == "beq" || name == "bge" || name == "bgeu" {
				next = start + 20
			}
			executes(t, name, kernel(w), w, did(-1, 0), goes(next))
		}
	}
	first, last := ins("beq", 0, 0, -1), ins("beq", 0, 0, 1)
	executes(t, "a branch from the first word", with(kernel(), goes(0), shadow(0, first)), first, did(-1, 0), goes(0xfffffffc))
	executes(t, "a branch from the last word", with(kernel(), goes(bytes-4), shadow(bytes-4, last)), last, did(-1, 0), goes(bytes))
	over := ins("bne", 0, 0, 9)
	executes(t, "a branch at the last word", with(kernel(), goes(bytes-4), shadow(bytes-4, over)), over, did(-1, 0), goes(bytes))
}

func TestLoads(t *testing.T) { // Sm3, Sm4: numbers of each size with and without signs, at offsets, also round the end of all addresses; from memory, not from the shadow
	data := memory(128, 0x81, 0x92, 0xf3, 0x84, 0x7f, 0x01, 0xff, 0x7f)
	for _, c := range []struct {
		name     string
		at, want uint32
	}{
		{"lb", 128, 0xffffff81}, {"lb", 129, 0xffffff92}, {"lb", 132, 0x7f}, {"lb", 133, 1}, {"lb", 134, 0xffffffff}, {"lbu", 128, 0x81}, {"lbu", 131, 0x84}, {"lbu", 132, 0x7f}, {"lbu", 134, 0xff},
		{"lh", 128, 0xffff9281}, {"lh", 130, 0xffff84f3}, {"lh", 132, 0x17f}, {"lh", 134, 0x7fff}, {"lhu", 128, 0x9281}, {"lhu", 130, 0x84f3}, {"lhu", 134, 0x7fff},
		{"lw", 128, 0x84f39281}, {"lw", 132, 0x7fff017f},
	} {
		for _, offset := range []int{0, 1, -1, 100, -100, 128, 8191, -8192} {
			w := ins(c.name, 4, 1, offset)
			for _, m := range []api.Mach{kernel(w), user(w), with(paged(w), page(2, 2, "vrut"))} {
				executes(t, c.name, with(m, data, reg(1, c.at-uint32(offset))), w, did(4, c.want), reg(4, c.want))
			}
			w = ins(c.name, 1, 1, offset)
			executes(t, c.name+" into its base", with(kernel(w), data, reg(1, c.at-uint32(offset))), w, did(1, c.want), reg(1, c.want))
		}
		w := ins(c.name, 4, 0, int(c.at))
		executes(t, c.name+" by register 0", with(kernel(w), data), w, did(4, c.want), reg(4, c.want))
		w = ins(c.name, 4, 1, 5)
		executes(t, c.name+" elsewhere", with(paged(w), page(9, 2, "vrut"), data, reg(1, 9*64+c.at-128-5)), w, did(4, c.want), reg(4, c.want))
	}
}

func TestLoadAndMove(t *testing.T) { // Sm3, Sm4: lwp with each overlap of its registers; the access is at the register itself
	data := memory(128, 0x81, 0x92, 0xf3, 0x84)
	const v = 0x84f39281
	for _, n := range []int{0, 1, 4, -4, 8191, -8192, 8000, -200} {
		w := ins("lwp", 4, 1, n)
		moved := uint32(128 + n)
		two := api.Event{Rd: 4, Val: v, Rd2: 1, Val2: moved}
		for _, m := range []api.Mach{kernel(w), user(w), with(paged(w), page(2, 2, "vrut"))} {
			executes(t, "lwp", with(m, data, reg(1, 128)), w, two, reg(4, v), reg(1, moved))
		}
		w = ins("lwp", 1, 4, n)
		executes(t, "lwp, the other way", with(kernel(w), data, reg(4, 128)), w, api.Event{Rd: 1, Val: v, Rd2: 4, Val2: moved}, reg(1, v), reg(4, moved))
		w = ins("lwp", 1, 1, n)
		executes(t, "lwp of one register", with(kernel(w), data, reg(1, 128)), w, did(1, v), reg(1, v))
		w = ins("lwp", 0, 1, n)
		executes(t, "lwp into register 0", with(kernel(w), data, reg(1, 128)), w, api.Event{Rd: -1, Rd2: 1, Val2: moved}, reg(1, moved))
		w = ins("lwp", 4, 0, n)
		executes(t, "lwp by register 0", with(kernel(w), memory(0, 1, 2, 3, 4)), w, did(4, 0x04030201), reg(4, 0x04030201))
		w = ins("lwp", 0, 0, n)
		executes(t, "lwp of register 0 alone", kernel(w), w, did(-1, 0))
		w = ins("lwp", 15, 14, n)
		executes(t, "lwp of the last registers", with(kernel(w), data, reg(14, 128)), w, api.Event{Rd: 15, Val: v, Rd2: 14, Val2: moved}, reg(15, v), reg(14, moved))
	}
}

// stores is the event of an instruction that stores and writes a register, or none if that is -1.
func stores(rd int, v uint32, size int, addr, data uint32) api.Event {
	return api.Event{Rd: rd, Val: v, Rd2: -1, Size: size, Addr: addr, Data: data}
}

func TestStores(t *testing.T) { // Sm3, Sm4: the lowest bytes, at offsets; the physical address is told; memory is written, not the shadow
	for _, c := range []struct {
		name     string
		at, data uint32
		put      []byte
	}{
		{"sb", 128, 0x81, []byte{0x81}}, {"sb", 129, 0x81, []byte{0x81}}, {"sb", 135, 0x81, []byte{0x81}}, {"sb", 191, 0x81, []byte{0x81}},
		{"sh", 128, 0x9281, []byte{0x81, 0x92}}, {"sh", 130, 0x9281, []byte{0x81, 0x92}}, {"sh", 190, 0x9281, []byte{0x81, 0x92}},
		{"sw", 128, 0x84f39281, []byte{0x81, 0x92, 0xf3, 0x84}}, {"sw", 188, 0x84f39281, []byte{0x81, 0x92, 0xf3, 0x84}},
	} {
		for _, offset := range []int{0, 1, -1, 100, -100, 128, 8191, -8192} {
			w := ins(c.name, 1, 2, offset)
			now := stores(-1, 0, len(c.put), c.at, c.data)
			for _, m := range []api.Mach{kernel(w), user(w), with(paged(w), page(2, 2, "vwutd"))} {
				executes(t, c.name, with(m, reg(1, c.at-uint32(offset)), reg(2, 0x84f39281)), w, now, memory(int(c.at), c.put...))
			}
			now.Addr += 256
			executes(t, c.name+" by another page", with(paged(w), reg(1, c.at-uint32(offset)), reg(2, 0x84f39281)), w, now, memory(int(c.at)+256, c.put...))
		}
		w := ins(c.name, 0, 2, int(c.at))
		executes(t, c.name+" by register 0", with(kernel(w), reg(2, 0x84f39281)), w, stores(-1, 0, len(c.put), c.at, c.data), memory(int(c.at), c.put...))
		w = ins(c.name, 1, 0, 4)
		executes(t, c.name+" of register 0", with(kernel(w), reg(1, c.at-4)), w, stores(-1, 0, len(c.put), c.at, 0), memory(int(c.at), make([]byte, len(c.put))...))
		w = ins(c.name, 1, 1, 0)
		executes(t, c.name+" of its base", with(kernel(w), reg(1, c.at)), w, stores(-1, 0, len(c.put), c.at, c.at), memory(int(c.at), code(c.at)[:len(c.put)]...))
	}
	w := ins("sw", 0, 1, start)
	executes(t, "a store into the instruction", with(kernel(w), reg(1, 1)), w, stores(-1, 0, 4, start, 1), memory(start, 1, 0, 0, 0))
}

func TestAtomics(t *testing.T) { // Sm3, Sm4: each atomic operation, with each overlap of its registers; cas stores or does not
	const old, b = 0x84f39281, 0x90000001
	data, sum := memory(128, code(old)...), uint32(0x14f39282)
	for _, c := range []struct {
		name       string
		rd, ra, rb int
		was, put   uint32 // of rd; what is stored
		keeps      bool   // nothing is stored
	}{
		{"swap", 4, 1, 2, 5, b, false}, {"swap", 2, 1, 2, b, b, false}, {"swap", 1, 1, 2, 128, b, false}, {"swap", 4, 1, 1, 5, 128, false}, {"swap", 1, 1, 1, 128, 128, false}, {"swap", 0, 1, 2, 0, b, false}, {"swap", 4, 1, 0, 5, 0, false},
		{"fadd", 4, 1, 2, 5, sum, false}, {"fadd", 2, 1, 2, b, sum, false}, {"fadd", 1, 1, 2, 128, sum, false}, {"fadd", 4, 1, 1, 5, old + 128, false}, {"fadd", 1, 1, 1, 128, old + 128, false}, {"fadd", 0, 1, 2, 0, sum, false}, {"fadd", 4, 1, 0, 5, old, false},
		{"cas", 4, 1, 2, old, b, false}, {"cas", 4, 1, 1, old, 128, false}, {"cas", 4, 1, 0, old, 0, false}, {"cas", 4, 1, 4, old, old, false}, {"cas", 4, 1, 2, 5, 0, true}, {"cas", 4, 1, 2, old + 1, 0, true}, {"cas", 4, 1, 2, old ^ 1<<31, 0, true}, {"cas", 4, 1, 2, 0, 0, true}, {"cas", 2, 1, 2, b, 0, true}, {"cas", 1, 1, 2, 128, 0, true}, {"cas", 0, 1, 2, 0, 0, true},
	} {
		w := ins(c.name, c.rd, c.ra, c.rb)
		for _, m := range []api.Mach{kernel(w), user(w), with(paged(w), page(2, 2, "vwutd"))} {
			m = with(m, data, reg(1, 128), reg(2, b))
			m = with(m, reg(c.rd, c.was))
			now := stores(c.rd, old, 4, 128, c.put)
			changes := []change{reg(c.rd, old), memory(128, code(c.put)...)}
			if c.rd == 0 {
				now.Rd, now.Val = -1, 0
				changes[0] = reg(0, 0)
			}
			if c.keeps {
				now.Size, now.Addr, now.Data = 0, 0, 0
				changes = changes[:1]
			}
			executes(t, c.name, m, w, now, changes...)
		}
		if c.rb == 2 {
			now := stores(c.rd, old, 4, 6*64+12, c.put)
			m := with(paged(w), memory(6*64+12, code(old)...), reg(1, 140), reg(2, b))
			if c.rd == 4 && !c.keeps {
				executes(t, c.name+" by another page", with(m, reg(4, c.was)), w, now, reg(4, old), memory(6*64+12, code(c.put)...))
			}
		}
	}
	for _, name := range []string{"swap", "fadd", "cas"} { // register 0 as the place, and a word 0 that is expected in register 0
		w := ins(name, 0, 0, 2)
		executes(t, name+" of word 0", with(kernel(w), memory(0, 0, 0, 0, 0), reg(2, b)), w, stores(-1, 0, 4, 0, b), memory(0, code(b)...))
	}
}

func TestControl(t *testing.T) { // Sm3, Sm4: csrr and csrw of each control register, and counting after them
	for n := range api.Csrs {
		for _, v := range []uint32{0, 1, 5, 0x12345678, 0x80000000, math.MaxUint32} {
			w := ins("csrr", 4, n)
			m := with(kernel(w), ctl(api.CStatus, 61), ctl(api.CPend, 0))
			kept := v & []uint32{63, 31, math.MaxUint32, math.MaxUint32, math.MaxUint32, 0xffffffc0, math.MaxUint32, math.MaxUint32, math.MaxUint32, 7, 7, math.MaxUint32}[n]
			if n != api.CStatus && n != api.CTimer {
				r := with(m, ctl(n, kept))
				executes(t, "csrr", r, w, did(4, kept), reg(4, kept))
			}
			w = ins("csrw", 1, n)
			m = with(m, shadow(start, w), reg(1, v))
			want := []change{ctl(n, kept)}
			if n == api.CCount {
				want = []change{ctl(n, v+1)}
			}
			if n == api.CTimer && v != 0 && v <= 1001 {
				want = append(want, ctl(api.CPend, api.LineTimer))
			}
			executes(t, "csrw", m, w, did(-1, 0), want...)
		}
	}
	r, w := ins("csrr", 4, api.CStatus), ins("csrw", 0, api.CStatus)
	executes(t, "csrr of the status", with(kernel(r), ctl(api.CStatus, 61)), r, did(4, 61), reg(4, 61))
	executes(t, "csrw of register 0", with(kernel(w), ctl(api.CStatus, 61)), w, did(-1, 0), ctl(api.CStatus, 0))
	r = ins("csrr", 4, api.CTimer)
	executes(t, "csrr of the timer", with(kernel(r), ctl(api.CTimer, 5000)), r, did(4, 5000), reg(4, 5000))
	r = ins("csrr", 4, api.CCount)
	for _, m := range []api.Mach{user(r), paged(r)} {
		executes(t, "csrr of the counter in user mode", m, r, did(4, 1000), reg(4, 1000), ctl(api.CCount, 1001))
		executes(t, "csrr of the counter at its largest", with(m, ctl(api.CCount, math.MaxUint32)), r, did(4, math.MaxUint32), reg(4, math.MaxUint32), ctl(api.CCount, 0))
	}
	w = ins("csrw", 1, api.CPend)
	executes(t, "csrw of a line, then counting", with(kernel(w), reg(1, 1), ctl(api.CTimer, 3)), w, did(-1, 0), ctl(api.CPend, api.LineOut|api.LineTimer))
}

func TestReturn(t *testing.T) { // Sm3, Sm4: tret to CEpc as it stands, in the mode and with the interrupts of before
	w := ins("tret")
	for was, status := range map[uint32]uint32{
		api.SKernel: 0, api.SKernel | api.SWasK: api.SKernel | api.SWasK, api.SKernel | api.SWasE: api.SEnable | api.SWasE, 63: 63, api.SKernel | api.SPaged | api.SSingle: api.SPaged | api.SSingle,
	} {
		for _, epc := range []uint32{0, 1, 2, 3, start, start + 4, 510, bytes, 1 << 14, 1 << 31, math.MaxUint32} {
			m := with(kernel(w), ctl(api.CStatus, was), ctl(api.CEpc, epc))
			executes(t, "tret", m, w, did(-1, 0), ctl(api.CStatus, status), goes(epc))
			// A single step applies from the next instruction on.
			executes(t, "tret with the timer", with(m, ctl(api.CTimer, 1001), ctl(api.CEnable, 0)), w, did(-1, 0), ctl(api.CStatus, status), goes(epc), ctl(api.CPend, 2|api.LineTimer))
		}
	}
}

func TestOutside(t *testing.T) { // Sm3, Sm4: sync, out, send, halt, fence and nop
	for _, v := range []uint32{0, 1, 0x80000000, math.MaxUint32, 0x12345678} {
		out, send := ins("out", 1), ins("send", 1)
		for _, m := range []api.Mach{kernel(out), user(out), paged(out)} {
			now := did(-1, 0)
			now.Data = v
			executes(t, "out", with(m, reg(1, v)), out, now, outs(v))
			executes(t, "out for the first time", with(m, reg(1, v), func(m *api.Mach) { m.Out = nil }), out, now, outs(v))
			executes(t, "send", with(m, shadow(start, send), reg(1, v)), send, now)
		}
	}
	for _, name := range []string{"out", "send"} {
		w := ins(name, 0)
		m := kernel(w)
		after, e := check(t, m)
		if e.Data != 0 || e.Size != 0 || len(after.Out) != 2+int(one(name == "out")) {
			t.Errorf("%s of register 0: %+v", name, e)
		}
	}
	for _, name := range []string{"fence", "nop"} {
		w := ins(name)
		for _, m := range []api.Mach{kernel(w), user(w), paged(w)} {
			executes(t, name, m, w, did(-1, 0))
		}
	}
	halt, sync := ins("halt"), ins("sync")
	executes(t, "halt", kernel(halt), halt, did(-1, 0), halts)
	executes(t, "halt with the timer and all of the status", with(kernel(halt), ctl(api.CStatus, 61), ctl(api.CTimer, 1)), halt, did(-1, 0), halts, ctl(api.CPend, 2|api.LineTimer))
	executes(t, "sync", kernel(sync), sync, did(-1, 0), synced)
	executes(t, "sync of what is alike", with(kernel(sync), func(m *api.Mach) { copy(m.Mem, m.Shadow) }), sync, did(-1, 0))
	m := kernel(sync)
	m, _, _ = Step(m)
	m.Mem[5]++
	if m.Shadow[5] != 7*5+3 {
		t.Error("sync: the shadow is memory")
	}
}

func TestCount(t *testing.T) { // Sm3: counting, with the counter and the timer at their ends
	for _, c := range []struct{ count, timer, pend uint32 }{
		{0, 0, 2}, {0, 1, 6}, {0, 2, 2}, {4, 5, 6}, {5, 5, 6}, {3, 5, 2}, {math.MaxUint32, 0, 2}, {math.MaxUint32, 1, 2}, {math.MaxUint32 - 1, math.MaxUint32, 6}, {math.MaxUint32 - 1, 1, 6}, {math.MaxUint32 - 1, 0, 2}, {1<<31 - 1, 1 << 31, 6}, {1 << 31, 5, 6}, {5, 1 << 31, 2},
	} {
		for _, w := range every(4) {
			m := with(kernel(w), reg(1, 128), ctl(api.CCount, c.count), ctl(api.CTimer, c.timer))
			p, _ := apart(int64(w))
			after, e := check(t, m)
			counted := after.A.C[api.CCount] == c.count+1 && after.A.C[api.CPend] == c.pend
			if p.name == "call" {
				counted = after.A.C == with(m, ctl(0, 5), ctl(1, 7), ctl(2, 0), ctl(3, start)).A.C
			}
			if !counted || (e.Cause != 0) != (p.name == "call") {
				t.Errorf("%s with counter %#x, timer %#x: %v, %+v", p.name, c.count, c.timer, after.A.C, e)
			}
		}
	}
}

func TestSingle(t *testing.T) { // Sm3, Sm4: a single step with each instruction: what it did, and a trap behind it, if it was not a trap itself
	for _, number := range []int{4, 7, -4, 12} {
		for k, w := range every(number) {
			name := operations[k+1].name
			for _, status := range []uint32{0, api.SEnable, api.SPaged, api.SWasK | api.SWasE, api.SPaged | api.SEnable | api.SWasE} {
				m := with(paged(w), ctl(api.CStatus, status), reg(1, 140), reg(2, 8))
				one, e := check(t, m)
				m = with(m, ctl(api.CStatus, status|api.SSingle))
				if e.Cause != 0 {
					traps(t, name, m, w, e.Cause, e.Tval)
					continue
				}
				e.Cause = api.TSingle
				want := with(one, ctl(api.CStatus, status%4*4+status/16*16+api.SSingle+api.SKernel), ctl(api.CCause, 10), ctl(api.CVal, 0), ctl(api.CEpc, one.A.PC), goes(m.A.C[api.CVec]))
				expect(t, name, m, want, e)
			}
			// In kernel mode no trap follows, also where the instruction leaves it.
			for _, m := range []api.Mach{with(kernel(w), ctl(api.CStatus, api.SKernel|api.SSingle), reg(1, 140)), with(kernel(w), ctl(api.CStatus, api.SKernel|api.SSingle|api.SWasE), reg(1, api.SSingle))} {
				if _, e := check(t, m); e.Cause == api.TSingle {
					t.Errorf("%s in kernel mode: %+v", name, e)
				}
			}
		}
	}
	w := ins("csrw", 1, api.CStatus)
	executes(t, "csrw that goes to single steps", with(kernel(w), reg(1, api.SSingle)), w, did(-1, 0), ctl(api.CStatus, api.SSingle))
	w = ins("tret")
	executes(t, "tret that goes to single steps", with(kernel(w), ctl(api.CStatus, api.SKernel|api.SSingle)), w, did(-1, 0), ctl(api.CStatus, api.SSingle), goes(0x12345678))
	w = ins("halt")
	executes(t, "halt with the bit of single steps", with(kernel(w), ctl(api.CStatus, api.SKernel|api.SSingle)), w, did(-1, 0), halts, ctl(api.CStatus, api.SKernel|api.SSingle))
}

func TestSingleWhole(t *testing.T) { // Sm3, Sm4: single steps written out, with a jump, and with the timer's line that becomes pending
	memory, copied := make([]byte, 64), make([]byte, 64)
	memory[9] = 77
	copy(copied[8:], code(ins("jal", 5, 3)))
	m := api.Mach{
		A:   api.Arch{PC: 8, R: [16]uint32{0, 21, 22, 23, 24, 25, 26, 27, 28, 29, 30, 31, 32, 33, 34, 35}, C: [12]uint32{api.SEnable | api.SWasK | api.SSingle, 17, 42, 43, 44, 64, 46, 47, 48, 4, 3, 50}},
		Mem: memory, Shadow: copied, Out: []uint32{5, 6},
	}
	want := m
	want.A.PC, want.A.R[5] = 44, 12
	want.A.C = [12]uint32{api.SKernel | api.SWasE | api.SSingle, 10, 0, 20, 44, 64, 46, 48, 48, 4, 7, 50}
	expect(t, "jal", m, want, api.Event{Word: ins("jal", 5, 3), Rd: 5, Val: 12, Rd2: -1, Cause: api.TSingle})
	m = with(m, shadow(8, ins("out", 7)), ctl(api.CTimer, 0))
	want = with(m, goes(44), outs(27), ctl(api.CStatus, api.SKernel|api.SWasE|api.SSingle), ctl(api.CCause, 10), ctl(api.CVal, 0), ctl(api.CEpc, 12), ctl(api.CCount, 48))
	expect(t, "out", m, want, api.Event{Word: ins("out", 7), Rd: -1, Rd2: -1, Data: 27, Cause: api.TSingle})
	m = with(m, shadow(8, ins("sh", 8, 9, 4)))
	want = with(m, goes(44), func(m *api.Mach) { m.Mem[32], m.Mem[33] = 29, 0 }, ctl(api.CStatus, api.SKernel|api.SWasE|api.SSingle), ctl(api.CCause, 10), ctl(api.CVal, 0), ctl(api.CEpc, 12), ctl(api.CCount, 48))
	expect(t, "sh", m, want, api.Event{Word: ins("sh", 8, 9, 4), Rd: -1, Rd2: -1, Size: 2, Addr: 32, Data: 29, Cause: api.TSingle})
}

func TestSync(t *testing.T) { // Sm3, Sm5: what is stored is fetched from the next sync on, and tables of memory count from then on
	store, nop, sync, out := ins("sw", 0, 1, start+8), ins("nop"), ins("sync"), ins("out", 1)
	alike := func(m *api.Mach) { copy(m.Mem, m.Shadow) }
	m := with(kernel(store, nop, nop, sync), alike, reg(1, out))
	for k, word := range []uint32{store, nop, nop, sync, out} {
		if k == 4 {
			m.A.PC = start + 8
		}
		var e api.Event
		if m, e = check(t, m); e.Word != word || e.Cause != 0 {
			t.Errorf("event %d: %+v, want the word %#x", k, e, word)
		}
	}
	if !slices.Equal(m.Out, []uint32{7, 8, out}) {
		t.Errorf("output %v", m.Out)
	}
	p := with(paged(nop), alike, memory(324, code(flags("v")+1<<8)...)) // page 1 is no page any more, in memory
	executes(t, "tables of memory ahead of sync", p, nop, did(-1, 0))
	p, _ = check(t, with(p, ctl(api.CStatus, api.SKernel), shadow(start, sync)))
	traps(t, "tables of memory after sync", with(p, ctl(api.CStatus, api.SPaged), goes(start)), 0, api.TFetch, start)
}

// operands are words to stand in registers.
var operands = []uint32{0, 1, 2, 3, 31, 32, 128, 188, 0x12345678, 0x7fffffff, 0x80000000, 0x80000001, 0xfffffffe, 0xffffffff}

// counts is numbers to stand in an instruction with a number of so many values.
func counts(values int64) []int {
	half := int(values / 2)
	return []int{0, 1, 2, 3, 4, 5, 7, 8, 11, 12, 31, 32, 100, half - 1, half, half + 1, -1, -2, -3, -4, -5, -100}
}

func TestOperands(t *testing.T) { // Sm3, Sm4, Sm5: each operation with operands at the ends and in between, and with each overlap of its registers, against the model
	registers := [][3]int{{4, 1, 2}, {1, 1, 2}, {2, 1, 2}, {4, 1, 1}, {1, 1, 1}, {0, 1, 2}, {4, 0, 2}, {4, 1, 0}, {0, 0, 0}, {15, 14, 13}}
	steps := 0
	for _, o := range operations[1:] {
		numbers := []int{0}
		if last := o.fields[max(0, len(o.fields)-1):]; last == "i" || last == "n" {
			numbers = counts(rangeOf[last[0]])
		}
		for _, r := range registers {
			for _, n := range numbers {
				var fields []int
				for k := range o.fields {
					fields = append(fields, map[byte]int{'d': r[0], 'a': r[1], 'b': r[2], 'i': n, 'n': n}[o.fields[k]])
				}
				m := kernel(ins(o.name, fields...))
				m.Mem, m.Shadow = m.Mem[:192], m.Shadow[:192]
				for j, a := range operands {
					for k, b := range operands {
						if len(numbers) > 1 && (j+k+n)%5 != 0 {
							continue
						}
						m.A.R[r[0]], m.A.R[r[2]], m.A.R[r[1]], m.A.R[0] = operands[(j+k)%len(operands)], b, a, 0
						m.A.C[0] = []uint32{api.SKernel, 0, api.SSingle}[(j+k)%3]
						check(t, m)
						steps++
					}
				}
			}
		}
	}
	if steps < 50000 {
		t.Errorf("%d steps", steps)
	}
}

func TestEvents(t *testing.T) { // Sm4: a run of which each event is written out
	words := []uint32{
		ins("addi", 1, 0, 100), ins("lwp", 2, 1, 4), ins("lwp", 1, 1, -4), ins("lwp", 0, 1, 92), ins("sb", 1, 2, 13),
		ins("cas", 3, 1, 2), ins("cas", 3, 1, 1), ins("cas", 0, 1, 2), ins("out", 2), ins("send", 1), ins("jalr", 5, 0, 55),
		ins("csrw", 6, api.CStatus), ins("csrr", 7, api.CCount), ins("fadd", 8, 1, 5), ins("tret"),
	}
	m, e := New(api.Image{Start: 8, Segs: []api.Seg{{At: 8, Data: code(words...)}, {At: 100, Data: code(0x80f1e2d3, 8)}}}, 128)
	if e != api.OK {
		t.Fatal(e)
	}
	m = with(m, reg(6, api.SSingle), ctl(api.CVec, 64))
	last := words[14]
	for k, want := range []api.Event{
		{PC: 8, Word: words[0], Rd: 1, Val: 100, Rd2: -1, Next: 12},
		{PC: 12, Word: words[1], Rd: 2, Val: 0x80f1e2d3, Rd2: 1, Val2: 104, Next: 16},
		{PC: 16, Word: words[2], Rd: 1, Val: 8, Rd2: -1, Next: 20},
		{PC: 20, Word: words[3], Rd: -1, Rd2: 1, Val2: 100, Next: 24},
		{PC: 24, Word: words[4], Rd: -1, Rd2: -1, Size: 1, Addr: 113, Data: 0xd3, Next: 28},
		{PC: 28, Word: words[5], Rd: 3, Val: 0x80f1e2d3, Rd2: -1, Next: 32},
		{PC: 32, Word: words[6], Rd: 3, Val: 0x80f1e2d3, Rd2: -1, Size: 4, Addr: 100, Data: 100, Next: 36},
		{PC: 36, Word: words[7], Rd: -1, Rd2: -1, Next: 40},
		{PC: 40, Word: words[8], Rd: -1, Rd2: -1, Data: 0x80f1e2d3, Next: 44},
		{PC: 44, Word: words[9], Rd: -1, Rd2: -1, Data: 100, Next: 48},
		{PC: 48, Word: words[10], Rd: 5, Val: 52, Rd2: -1, Next: 52},
		{PC: 52, Word: words[11], Rd: -1, Rd2: -1, Next: 56},
		{PC: 56, Word: words[12], Rd: 7, Val: 12, Rd2: -1, Cause: api.TSingle, Next: 64},
		{PC: 64, Word: last, Rd: -1, Rd2: -1, Next: 60},
		{PC: 60, Word: words[13], Rd: 8, Val: 100, Rd2: -1, Size: 4, Addr: 100, Data: 152, Cause: api.TSingle, Next: 64},
		{PC: 64, Word: last, Rd: -1, Rd2: -1, Next: 64},
		{PC: 64, Word: last, Rd: -1, Rd2: -1, Cause: api.TPriv, Tval: last, Next: 64},
	} {
		var got api.Event
		if m, got = check(t, m); got != want {
			t.Errorf("event %d: %+v, want %+v", k, got, want)
		}
	}
}

// drawn is an instruction's word, most of them with registers 0 to 7 and small numbers, now and then any word.
func drawn(x *uint64) uint32 {
	if choose(x, 40) == 0 {
		return uint32(choose(x, 1<<16))<<16 | uint32(choose(x, 1<<16))
	}
	o := operations[1+choose(x, 63)]
	if choose(x, 3) == 0 { // accesses, and what only the kernel may do
		o = operations[opOf("lb")+choose(x, 9)]
		if choose(x, 3) == 0 {
			o = operations[opOf("swap")+choose(x, 8)]
		}
	}
	number := []int{choose(x, 32), 4 * choose(x, 4), choose(x, 12), -4 * choose(x, 8), choose(x, 1<<14) - 1<<13}[choose(x, 5)]
	var fields []int
	for k := range o.fields {
		fields = append(fields, map[byte]int{'d': choose(x, 8), 'a': choose(x, 8), 'b': choose(x, 8), 'i': number, 'n': number}[o.fields[k]])
	}
	return ins(o.name, fields...)
}

// someAddress is an address in the tests' machines or a little beyond, most often that of a word.
func someAddress(x *uint64) uint32 {
	return uint32([]int{4 * choose(x, bytes/4), 4 * choose(x, bytes/4), choose(x, bytes+100), 4 * choose(x, 300)}[choose(x, 4)])
}

// anyMachine is a valid machine with drawn words, tables, registers and control registers.
func anyMachine(x *uint64) api.Mach {
	m := api.Mach{Mem: make([]byte, bytes), Shadow: make([]byte, bytes), Out: make([]uint32, choose(x, 3))}
	for at := 0; at < bytes; at += 4 {
		copy(m.Shadow[at:], code(drawn(x)))
		copy(m.Mem[at:], code(drawn(x)))
	}
	for r := 1; r < api.Regs; r++ {
		m.A.R[r] = someAddress(x)
		if choose(x, 4) == 0 {
			m.A.R[r] = operands[choose(x, len(operands))]
		}
	}
	m.A.C = [12]uint32{uint32(choose(x, 64)), uint32(choose(x, 32)), someAddress(x), someAddress(x), someAddress(x), 256, 5, uint32(choose(x, 50)), uint32(choose(x, 50)), uint32(choose(x, 8)), 0, someAddress(x)}
	if choose(x, 3) == 0 {
		m.A.C[api.CStatus] = api.SPaged
	}
	m.A.PC = uint32(4 * choose(x, bytes/4))
	for v := range 16 {
		letters := []string{"vrwxutd", "vrwxutd", "vrwxut", "vrxut", "vwxutd", "vwxutd", "vxut", "vr", "xut"}[choose(x, 9)]
		page(v, uint32(choose(x, 9)), letters)(&m)
		shadow(256+4*v, flags([]string{"v", "v", "v", "v", "v", "v", "vr", ""}[choose(x, 8)])+5<<8)(&m)
	}
	return m
}

func TestRuns(t *testing.T) { // Sm2 to Sm5: runs of drawn words against the model; a valid machine remains valid, and what a trap changes is little
	x := uint64(1)
	causes, names := map[int]int{}, map[string]int{}
	for range 2500 {
		m := anyMachine(&x)
		if !valid(m) {
			t.Fatal("a machine that is not valid was drawn")
		}
		for range 12 {
			if choose(&x, 12) == 0 {
				m.A.C[api.CPend] |= 1 << choose(&x, 3)
			}
			if choose(&x, 30) == 0 {
				m.A.C[api.CStop] = m.A.PC + 1
			}
			after, e := check(t, m)
			causes[e.Cause]++
			if p, ok := apart(int64(e.Word)); ok && (e.Cause == 0 || e.Cause == api.TSingle) {
				names[p.name]++
			}
			if !valid(after) {
				t.Fatalf("%v, %+v: the machine is not valid any more", after.A, e)
			}
			if e.Cause != 0 && e.Cause != api.TSingle {
				still := after
				still.A.PC, still.A.C = m.A.PC, m.A.C
				if !same(still, m) {
					t.Fatalf("a trap: %s", differences(still, m))
				}
			}
			if m = after; m.A.Halt {
				break
			}
		}
	}
	for _, cause := range []int{0, 1, 2, 3, 4, 5, 6, 7, 8, 9, 10, 16, 17, 18} {
		if causes[cause] < 50 {
			t.Errorf("cause %d: %d times", cause, causes[cause])
		}
	}
	for _, o := range operations[1:] {
		if names[o.name] < 20 && o.name != "call" {
			t.Errorf("%s: %d times", o.name, names[o.name])
		}
	}
}

func TestFetchAlone(t *testing.T) { // Sm5: what is fetched does not depend on memory, output, registers or any control register but the status and the root
	x := uint64(2)
	words := 0
	for range 300 {
		m := anyMachine(&x)
		w, cause := Fetch(m)
		other := anyMachine(&x)
		other.Shadow, other.A.PC = m.Shadow, m.A.PC
		other.A.C[api.CStatus], other.A.C[api.CRoot] = m.A.C[api.CStatus], m.A.C[api.CRoot]
		other.A.Halt = choose(&x, 2) == 0
		if got, gotCause := Fetch(other); got != w || gotCause != cause {
			t.Fatalf("Fetch of %v: %#x, %d; of %v: %#x, %d", m.A, w, cause, other.A, got, gotCause)
		}
		words += int(one(cause == 0))
	}
	if words < 150 || words > 290 {
		t.Errorf("%d words", words)
	}
}

func TestRepeats(t *testing.T) { // R3, R4: the same answers for the second time, with other calls in between, and from machines that were returned before
	x := uint64(3)
	for range 100 {
		m := anyMachine(&x)
		was := Copy(m)
		first, e, ok := Step(m)
		kept := Copy(first)
		for range 3 {
			Step(first)
			Step(anyMachine(&x))
			Fetch(first)
			if again, f, more := Step(m); !same(again, kept) || f != e || more != ok || !same(m, was) || !same(first, kept) {
				t.Fatalf("Step of %v for the second time: %s", m.A, differences(again, kept))
			}
		}
		if !Same(first, kept) || Same(m, first) != same(m, first) {
			t.Fatalf("Same of %v", m.A)
		}
	}
}

func TestOutput(t *testing.T) { // Sm3, R3: output that was returned is not changed by what comes behind it, in either of two branches
	a, b := ins("out", 1), ins("out", 2)
	m := with(kernel(a, b), func(m *api.Mach) { m.Out = nil })
	var l []api.Mach
	for k := range uint32(40) {
		l = append(l, m)
		m, _, _ = Step(with(m, goes(start+k%2*4)))
		side, _, _ := Step(with(l[k], goes(start+4-k%2*4)))
		if len(side.Out) != int(k)+1 || side.Out[k] == m.Out[k] {
			t.Fatalf("output %v, %v", side.Out, m.Out)
		}
	}
	for k, n := range l {
		if !slices.Equal(n.Out, m.Out[:k]) {
			t.Errorf("output after %d steps: %v, want %v", k, n.Out, m.Out[:k])
		}
	}
}

func TestNotValid(t *testing.T) { // R1, R3: calls with machines that are not valid return, and change nothing
	words := append(every(7), 0, 1, math.MaxUint32)
	for _, w := range words {
		full := kernel(w)
		for _, m := range []api.Mach{
			{}, {A: full.A}, {A: full.A, Mem: full.Mem}, {A: full.A, Shadow: full.Shadow}, {A: full.A, Mem: full.Mem[:5], Shadow: full.Shadow}, {A: full.A, Mem: full.Mem, Shadow: full.Shadow[:start+2]}, {A: full.A, Mem: full.Mem, Shadow: full.Shadow[:start+4]},
			{A: full.A, Mem: make([]byte, 20000), Shadow: full.Shadow}, with(full, reg(0, 5)), with(full, reg(0, math.MaxUint32)),
		} {
			for _, status := range []uint32{api.SKernel, 0, api.SPaged, api.SSingle, 0xfffffffe, 0xffffffff, 1 << 31} {
				for _, other := range []uint32{0, 128, 0xffffffff} {
					m := m
					m.A.C = [12]uint32{status, other, other, other, other, other, other, other, other, 0, other, other}
					m.A.R[1] = other
					m, untouched := guard(m)
					got, _, ok := Step(m)
					Fetch(m)
					if !ok || !untouched() || !stands(got, untouched) || !Same(m, Copy(m)) {
						t.Fatalf("Step of %v, %#x", m.A, w)
					}
				}
			}
		}
	}
}

func TestUnequalLists(t *testing.T) { // Sm2: words are looked for in the shadow and numbers in memory, each with its own end
	fetches(t, "a longer shadow", with(kernel(5), func(m *api.Mach) { m.Mem = m.Mem[:0] }), 5, 0)
	fetches(t, "a shorter shadow", with(kernel(5), func(m *api.Mach) { m.Shadow = m.Shadow[:start+3] }), 0, api.TBus)
	fetches(t, "a shadow that ends behind the word", with(kernel(5), func(m *api.Mach) { m.Shadow = m.Shadow[:start+4] }), 5, 0)
	fetches(t, "no shadow", with(kernel(5), func(m *api.Mach) { m.Shadow = nil }), 0, api.TBus)
	w := ins("lbu", 4, 0, bytes+5)
	m := with(kernel(w), func(m *api.Mach) { m.Mem = append(m.Mem, 1, 2, 3, 4, 5, 6, 7, 8) })
	executes(t, "longer memory", m, w, did(4, 6), reg(4, 6))
	w = ins("lbu", 4, 0, 100)
	traps(t, "shorter memory", with(kernel(w), func(m *api.Mach) { m.Mem = m.Mem[:100] }), w, api.TBus, 100)
	traps(t, "no memory", with(kernel(w), func(m *api.Mach) { m.Mem = nil }), w, api.TBus, 100)
}
