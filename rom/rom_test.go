package rom

import (
	"bytes"
	"fmt"
	"math"
	"slices"
	"strings"
	"testing"

	"cotterel/api"
)

// seg is a segment of n bytes that differ from one another, and from those at other addresses.
func seg(at uint32, n int) api.Seg {
	var b []byte
	for k := range n {
		b = append(b, byte(int(at)*3+k*7+k/256+1))
	}
	return api.Seg{At: at, Data: b}
}

// image is an image of segments that starts at 0.
func image(segs ...api.Seg) api.Image {
	return api.Image{Segs: segs}
}

// apart is n segments of one byte, with a gap behind each.
func apart(n int) []api.Seg {
	var l []api.Seg
	for k := range n {
		l = append(l, seg(uint32(2*k), 1))
	}
	return l
}

// row is a line of a word, an address and bytes, with its right sum.
func row(word string, at uint32, b ...byte) string {
	s := fmt.Sprintf("%s %08x ", word, at)
	if len(b) > 0 {
		s += fmt.Sprintf("%x ", b)
	}
	return s + fmt.Sprintf("%02x\n", sumAt(at, b))
}

// fill is a line of a word, an address and n bytes, with its right sum.
func fill(word string, at uint32, n int) string {
	return row(word, at, seg(at, n).Data...)
}

// sumWrong is a line whose last digit is another one.
func sumWrong(line string) string {
	last := line[len(line)-2]
	other := byte('0')
	if last == '0' {
		other = '1'
	}
	return line[:len(line)-2] + string(other) + "\n"
}

const startLine = "start 00000000 00\n"

func TestExamples(t *testing.T) { // Ro1, Ro3, Ro4: the chapter's examples
	im := image(api.Seg{At: 0, Data: []byte{5, 0, 64, 100}})
	want := "seg 00000000 05004064 57\nstart 00000000 00\n"
	if got := Text(im); got != want {
		t.Errorf("Text: %q", got)
	}
	right(t, want, "0 0:05004064")
	if got := Sum([]byte{200, 100}); got != 212 {
		t.Errorf("Sum: %d", got)
	}
}

func TestSum(t *testing.T) { // Ro1: sums written out
	for _, c := range []struct {
		b    []byte
		want byte
	}{
		{nil, 0}, {[]byte{}, 0}, {[]byte{0}, 0}, {[]byte{1}, 255}, {[]byte{255}, 1}, {[]byte{128}, 128}, {[]byte{128, 128}, 0}, {[]byte{127, 128}, 1}, {[]byte{0, 0, 0, 0}, 0},
		{make([]byte, 1000), 0}, {[]byte{255, 1}, 0}, {[]byte{255, 255}, 2}, {[]byte{255, 255, 255}, 3}, {bytes.Repeat([]byte{255}, 256), 0}, {bytes.Repeat([]byte{255}, 300), 44},
		{[]byte{200, 100}, 212}, {[]byte{100, 200}, 212}, {[]byte{1, 2, 3}, 250}, {bytes.Repeat([]byte{1}, 256), 0}, {bytes.Repeat([]byte{3}, 100000), 32},
	} {
		if got := Sum(c.b); got != c.want {
			t.Errorf("Sum of %d bytes %.40x: %d, want %d", len(c.b), c.b, got, c.want)
		}
	}
}

func TestSums(t *testing.T) { // Ro1: every byte, every pair, and long lists
	for a := range 256 {
		if got, want := Sum([]byte{byte(a)}), byte(256-a); got != want {
			t.Errorf("Sum of %d: %d, want %d", a, got, want)
		}
		for b := range 256 {
			if got := int(Sum([]byte{byte(a), byte(b)})); (got+a+b)%256 != 0 {
				t.Errorf("Sum of %d, %d: %d", a, b, got)
			}
		}
		b := seg(uint32(a), a*17).Data
		if got, want := Sum(b), wantSum(b); got != want {
			t.Errorf("Sum of %d bytes: %d, want %d", len(b), got, want)
		}
	}
}

func TestRight(t *testing.T) { // Ro1: images written out
	one := func(at uint32) api.Seg { return seg(at, 1) }
	for k, c := range []struct {
		segs []api.Seg
		want api.Errno
	}{
		{nil, api.OK}, {[]api.Seg{}, api.OK}, {[]api.Seg{one(0)}, api.OK}, {[]api.Seg{one(9)}, api.OK}, {apart(63), api.OK}, {apart(64), api.OK}, {apart(65), api.ErrLong}, {apart(66), api.ErrLong}, {apart(1000), api.ErrLong},
		{[]api.Seg{{}}, api.ErrArg}, {[]api.Seg{{At: 0, Data: []byte{}}}, api.ErrArg}, {[]api.Seg{{}, one(0)}, api.ErrArg}, {[]api.Seg{one(0), {At: 1}}, api.ErrArg}, {[]api.Seg{one(0), {At: 5}, one(9)}, api.ErrArg},
		{[]api.Seg{one(16383)}, api.OK}, {[]api.Seg{seg(16368, 16)}, api.OK}, {[]api.Seg{seg(0, 16384)}, api.OK}, {[]api.Seg{seg(1, 16383)}, api.OK},
		{[]api.Seg{seg(16383, 2)}, api.ErrRange}, {[]api.Seg{seg(16368, 17)}, api.ErrRange}, {[]api.Seg{seg(0, 16385)}, api.ErrRange}, {[]api.Seg{seg(1, 16384)}, api.ErrRange},
		{[]api.Seg{one(16384)}, api.ErrRange}, {[]api.Seg{one(16385)}, api.ErrRange}, {[]api.Seg{one(1 << 15)}, api.ErrRange}, {[]api.Seg{one(1<<16 + 8)}, api.ErrRange}, {[]api.Seg{one(1<<31 - 1)}, api.ErrRange}, {[]api.Seg{one(1 << 31)}, api.ErrRange},
		{[]api.Seg{one(math.MaxUint32)}, api.ErrRange}, {[]api.Seg{seg(math.MaxUint32, 2)}, api.ErrRange}, {[]api.Seg{seg(math.MaxUint32-1, 2)}, api.ErrRange}, {[]api.Seg{seg(math.MaxUint32-7, 100)}, api.ErrRange}, {[]api.Seg{seg(1<<31, 20000)}, api.ErrRange},
		{[]api.Seg{seg(4, 2), one(6)}, api.OK}, {[]api.Seg{seg(4, 2), one(7)}, api.OK}, {[]api.Seg{seg(4, 2), one(5)}, api.ErrTwice}, {[]api.Seg{seg(4, 2), one(4)}, api.ErrTwice}, {[]api.Seg{seg(4, 2), one(3)}, api.ErrTwice}, {[]api.Seg{seg(4, 2), one(0)}, api.ErrTwice},
		{[]api.Seg{one(4), one(4)}, api.ErrTwice}, {[]api.Seg{one(4), one(0)}, api.ErrTwice}, {[]api.Seg{seg(4, 8), seg(0, 4)}, api.ErrTwice}, {[]api.Seg{seg(0, 9), seg(8, 8)}, api.ErrTwice}, {[]api.Seg{seg(0, 100), seg(20, 3)}, api.ErrTwice},
		{[]api.Seg{seg(0, 4), seg(4, 4), seg(8, 4)}, api.OK}, {[]api.Seg{seg(0, 4), seg(8, 4), seg(4, 4)}, api.ErrTwice}, {[]api.Seg{seg(0, 4), seg(8, 4), seg(11, 1)}, api.ErrTwice}, {[]api.Seg{seg(0, 4), seg(8, 4), seg(0, 4)}, api.ErrTwice}, {[]api.Seg{seg(8, 4), seg(12, 1), seg(12, 1)}, api.ErrTwice},
		{[]api.Seg{seg(0, 8192), seg(8192, 8192)}, api.OK}, {[]api.Seg{seg(0, 8192), seg(8192, 8193)}, api.ErrRange}, {[]api.Seg{seg(0, 16384), one(16384)}, api.ErrRange}, {[]api.Seg{seg(0, 16384), one(16383)}, api.ErrTwice},
	} {
		for _, start := range []uint32{0, 7, 16384, math.MaxUint32} {
			if got := checkImage(t, api.Image{Start: start, Segs: c.segs}); got != c.want {
				t.Errorf("%d: %d, want %d", k, got, c.want)
			}
		}
	}
}

func TestRightOrder(t *testing.T) { // Ro1: several faults in one image: too many segments, then the first segment with a fault, then the promise's order
	none, far, twice := api.Seg{At: 0}, seg(16384, 1), seg(0, 1)
	ok := seg(8, 8)
	for k, c := range []struct {
		segs []api.Seg
		want api.Errno
	}{
		{[]api.Seg{{At: 16385}}, api.ErrArg}, {[]api.Seg{{At: math.MaxUint32}}, api.ErrArg}, {[]api.Seg{ok, {At: 3}}, api.ErrArg}, {[]api.Seg{ok, none, far, twice}, api.ErrArg}, {[]api.Seg{none, far}, api.ErrArg},
		{[]api.Seg{ok, far, none, twice}, api.ErrRange}, {[]api.Seg{far, none}, api.ErrRange}, {[]api.Seg{ok, seg(9, 16384), none}, api.ErrRange}, {[]api.Seg{seg(16380, 4), seg(16382, 3)}, api.ErrRange}, {[]api.Seg{far, far}, api.ErrRange}, {[]api.Seg{far, twice}, api.ErrRange},
		{[]api.Seg{ok, twice, none, far}, api.ErrTwice}, {[]api.Seg{ok, twice, far, none}, api.ErrTwice}, {[]api.Seg{ok, ok, none}, api.ErrTwice},
		{make([]api.Seg, 65), api.ErrLong}, {make([]api.Seg, 64), api.ErrArg}, {slices.Repeat([]api.Seg{far}, 65), api.ErrLong}, {slices.Repeat([]api.Seg{far}, 64), api.ErrRange}, {slices.Repeat([]api.Seg{ok}, 65), api.ErrLong}, {slices.Repeat([]api.Seg{ok}, 64), api.ErrTwice},
		{append(apart(64), none), api.ErrLong}, {append(apart(64), far), api.ErrLong}, {append(apart(64), twice), api.ErrLong}, {append([]api.Seg{none}, apart(64)...), api.ErrLong},
		{append(apart(63), api.Seg{At: 200}), api.ErrArg}, {append(apart(63), far), api.ErrRange}, {append(apart(63), twice), api.ErrTwice}, {append(apart(63), seg(124, 1)), api.ErrTwice}, {append(apart(63), seg(125, 1)), api.OK},
	} {
		if got := checkImage(t, image(c.segs...)); got != c.want {
			t.Errorf("%d: %d, want %d", k, got, c.want)
		}
	}
}

// pool is segments with and without faults of their own.
func pool() []api.Seg {
	return []api.Seg{
		{}, {At: 4}, {At: 16384}, {At: math.MaxUint32}, seg(0, 1), seg(0, 16), seg(1, 3), seg(3, 2), seg(4, 17), seg(16, 32), seg(20, 44), seg(21, 43), seg(63, 1), seg(63, 2), seg(64, 1), seg(128, 64),
		seg(16380, 4), seg(16380, 5), seg(16383, 1), seg(16383, 2), seg(16384, 1), seg(math.MaxUint32, 1), seg(math.MaxUint32, 2), seg(1<<31, 1),
	}
}

func TestImages(t *testing.T) { // Ro1 to Ro3: every image of up to three segments of the pool
	l := pool()
	for _, a := range l {
		for _, b := range l {
			for _, c := range l {
				im := api.Image{Start: c.At, Segs: []api.Seg{a, b, c}}
				checkImage(t, im)
				for _, size := range []int{64, 100, 128} {
					checkLoad(t, size, im)
				}
			}
			im := image(a, b)
			checkImage(t, im)
			for _, size := range []int{0, 64, 128, 192, 16384, 16448} {
				checkLoad(t, size, im)
			}
		}
	}
}

func TestLoadSizes(t *testing.T) { // Ro2: sizes that are right and wrong
	for _, im := range []api.Image{image(), image(seg(0, 1)), image(seg(3, 5), seg(60, 4))} {
		for _, size := range []int{math.MinInt, math.MinInt64 + 64, -1 << 32, -16384, -128, -64, -63, -1, 0, 1, 2, 32, 63, 65, 96, 100, 127, 129, 16383, 16385, 16400, 16447, 16448, 16512, 32768, 1<<32 + 64, 1 << 32, math.MaxInt, math.MaxInt - 63} {
			if b, e := checkLoad(t, size, im); e != api.ErrArg || b != nil {
				t.Errorf("Load of %d: %d bytes, error %d", size, len(b), e)
			}
		}
		for _, size := range []int{64, 128, 192, 1024, 8192, 16320, 16384} {
			if b, e := checkLoad(t, size, im); e != api.OK || len(b) != size {
				t.Errorf("Load of %d: %d bytes, error %d", size, len(b), e)
			}
		}
	}
	for size := -200; size <= 16600; size++ {
		if b, e := Load(size, image()); (e == api.OK) != (size%64 == 0 && size >= 64 && size <= 16384) || e != api.OK && (e != api.ErrArg || b != nil) || e == api.OK && len(b) != size {
			t.Errorf("Load of %d: %d bytes, error %d", size, len(b), e)
		}
	}
}

func TestLoadWrongImages(t *testing.T) { // Ro2: the errors of Right, behind a wrong size and ahead of what ends beyond the size
	for _, c := range []struct {
		segs []api.Seg
		want api.Errno
	}{
		{apart(65), api.ErrLong}, {make([]api.Seg, 65), api.ErrLong}, {[]api.Seg{{}}, api.ErrArg}, {[]api.Seg{seg(0, 1), {At: 9}}, api.ErrArg}, {[]api.Seg{seg(16384, 1)}, api.ErrRange}, {[]api.Seg{seg(math.MaxUint32, 2)}, api.ErrRange}, {[]api.Seg{seg(4, 2), seg(5, 1)}, api.ErrTwice}, {[]api.Seg{seg(4, 2), seg(0, 1)}, api.ErrTwice},
		{[]api.Seg{seg(1000, 1), {At: 1001}}, api.ErrArg}, {[]api.Seg{seg(1000, 1), {At: 2}}, api.ErrArg}, {[]api.Seg{seg(1000, 2), seg(1001, 1)}, api.ErrTwice}, {[]api.Seg{seg(64, 1), seg(0, 1)}, api.ErrTwice}, {[]api.Seg{seg(63, 2), seg(64, 1)}, api.ErrTwice},
	} {
		for _, size := range []int{64, 128} {
			if b, e := checkLoad(t, size, image(c.segs...)); e != c.want || b != nil {
				t.Errorf("Load of %d, %.100s: error %d, want %d", size, show(image(c.segs...)), e, c.want)
			}
		}
		for _, size := range []int{-64, 0, 63, 100, 16385, 16448} {
			if b, e := checkLoad(t, size, image(c.segs...)); e != api.ErrArg || b != nil {
				t.Errorf("Load of %d, %.100s: error %d, want ErrArg", size, show(image(c.segs...)), e)
			}
		}
	}
}

func TestLoadEnds(t *testing.T) { // Ro2: segments that end at the size, and beyond
	for _, size := range []int{64, 128, 1024, 8256, 16320} {
		for _, n := range []int{1, 2, 16, 33, 64} {
			at := uint32(size - n)
			if b, e := checkLoad(t, size, image(seg(at, n))); e != api.OK || !bytes.Equal(b[at:], seg(at, n).Data) {
				t.Errorf("Load of %d, %d bytes at %d: error %d", size, n, at, e)
			}
			for _, segs := range [][]api.Seg{{seg(at+1, n)}, {seg(at, n+1)}, {seg(uint32(size), n)}, {seg(uint32(size)+1, 1)}, {seg(0, 1), seg(at+1, n)}, {seg(16383, 1)}} {
				if b, e := checkLoad(t, size, image(segs...)); e != api.ErrRange || b != nil {
					t.Errorf("Load of %d, %s: error %d", size, show(image(segs...)), e)
				}
			}
		}
	}
	checkLoad(t, 16384, image(seg(0, 16384)))
	checkLoad(t, 16320, image(seg(0, 16384)))
	checkLoad(t, 16384, image(seg(16383, 1)))
}

func TestLoadBytes(t *testing.T) { // Ro2, Ro5: the bytes at their addresses, and zeros
	want := func(size int, im api.Image, placed map[int]byte) {
		t.Helper()
		b, e := checkLoad(t, size, im)
		if e != api.OK || len(b) != size {
			t.Fatalf("Load of %d, %s: %d bytes, error %d", size, show(im), len(b), e)
		}
		for at, x := range b {
			if x != placed[at] {
				t.Errorf("Load of %d, %s: byte %d is %d, want %d", size, show(im), at, x, placed[at])
			}
		}
	}
	want(64, image(), nil)
	want(16384, api.Image{Start: math.MaxUint32}, nil)
	want(64, image(api.Seg{At: 0, Data: []byte{5, 0, 64, 100}}), map[int]byte{0: 5, 2: 64, 3: 100})
	want(128, image(api.Seg{At: 62, Data: []byte{1, 2, 3}}, api.Seg{At: 65, Data: []byte{4}}, api.Seg{At: 127, Data: []byte{255}}), map[int]byte{62: 1, 63: 2, 64: 3, 65: 4, 127: 255})
	want(64, image(api.Seg{At: 63, Data: []byte{9}}), map[int]byte{63: 9})
	want(64, image(api.Seg{At: 7, Data: make([]byte, 20)}), nil)
	for k := range 40 {
		want(1024, randomImage(uint64(k), 1024), placedBy(randomImage(uint64(k), 1024)))
	}
}

// placedBy is the bytes of an image, by their addresses.
func placedBy(im api.Image) map[int]byte {
	placed := map[int]byte{}
	for _, s := range im.Segs {
		for k, x := range s.Data {
			placed[int(s.At)+k] = x
		}
	}
	return placed
}

// choose is a number below n; x says which, and is another one afterwards.
func choose(x *uint64, n int) int {
	*x = *x*6364136223846793005 + 1442695040888963407
	return int(*x>>33) % n
}

// randomImage is a valid image that ends at or before a size.
func randomImage(x uint64, size int) api.Image {
	im := api.Image{Start: uint32(choose(&x, 1<<31)) << choose(&x, 2)}
	at := 0
	for range choose(&x, 65) {
		at += []int{0, 0, 0, 1, 3, 16, choose(&x, 100)}[choose(&x, 7)]
		n := []int{1, 2, 15, 16, 17, 32, 33, 1 + choose(&x, 200)}[choose(&x, 8)]
		if at+n > size {
			break
		}
		s := api.Seg{At: uint32(at)}
		for range n {
			s.Data = append(s.Data, []byte{0, 255, byte(choose(&x, 256))}[choose(&x, 3)])
		}
		im.Segs = append(im.Segs, s)
		at += n
	}
	return im
}

func TestKept(t *testing.T) { // Ro1 to Ro3, R3: what is handed in is not changed, nor is what lies behind it
	room := bytes.Repeat([]byte{0xee}, 200)
	copy(room[10:], seg(10, 40).Data)
	before := bytes.Clone(room)
	segs := []api.Seg{{At: 3, Data: room[10:13]}, {At: 6, Data: room[13:50]}, {At: 16384}}
	im := api.Image{Start: 9, Segs: segs[:2]}
	memory, e := Load(64, im)
	if e != api.OK || Right(im) != api.OK || Text(im) != wantText(im) || Sum(room[10:50]) != wantSum(before[10:50]) {
		t.Fatalf("Load: error %d", e)
	}
	Load(64, api.Image{Segs: segs})
	Text(api.Image{Segs: segs})
	if !bytes.Equal(room, before) || len(segs) != 3 || segs[0].At != 3 || segs[1].At != 6 || segs[2].At != 16384 || len(segs[0].Data) != 3 || len(segs[1].Data) != 37 || segs[2].Data != nil {
		t.Errorf("what was handed in is changed: %x", room)
	}
	// Memory is new memory: neither follows the other, nor another answer.
	again, _ := Load(64, im)
	for k := range memory {
		memory[k] ^= 0xff
	}
	if !bytes.Equal(room, before) {
		t.Error("memory is the segments' own")
	}
	for k := range room {
		room[k] = 0
	}
	if want, _ := wantLoad(64, api.Image{Segs: []api.Seg{{At: 3, Data: before[10:13]}, {At: 6, Data: before[13:50]}}}); !bytes.Equal(again, want) {
		t.Errorf("memory is shared: %x", again)
	}
}

func TestLoadWhole(t *testing.T) { // Ro2: memory that one segment fills is new memory, too
	im := image(seg(0, 64))
	for range 2 {
		b, e := Load(64, im)
		if e != api.OK || !bytes.Equal(b, seg(0, 64).Data) {
			t.Fatalf("%x, error %d", b, e)
		}
		for k := range b {
			b[k] = 0
		}
	}
}

func TestText(t *testing.T) { // Ro3, Ro4: texts written out
	ones := func(n int) []byte { return bytes.Repeat([]byte{1}, n) }
	s16, s15 := strings.Repeat("01", 16), strings.Repeat("01", 15)
	for _, c := range []struct {
		im   api.Image
		want string
	}{
		{api.Image{}, "start 00000000 00\n"}, {api.Image{Segs: []api.Seg{}}, "start 00000000 00\n"}, {api.Image{Start: 16384}, "start 00004000 c0\n"}, {api.Image{Start: math.MaxUint32}, "start ffffffff 04\n"}, {api.Image{Start: 0x12345678}, "start 12345678 ec\n"}, {api.Image{Start: 0xab}, "start 000000ab 55\n"}, {api.Image{Start: 1 << 31}, "start 80000000 80\n"},
		{image(api.Seg{At: 0, Data: []byte{0}}), "seg 00000000 00 00\nstart 00000000 00\n"},
		{image(api.Seg{At: 0, Data: []byte{0xab}}), "seg 00000000 ab 55\nstart 00000000 00\n"},
		{image(api.Seg{At: 0x3fff, Data: []byte{0xff}}), "seg 00003fff ff c3\nstart 00000000 00\n"},
		{image(api.Seg{At: 0x3fff, Data: []byte{0x0f}}), "seg 00003fff 0f b3\nstart 00000000 00\n"},
		{image(api.Seg{At: 0, Data: ones(15)}), "seg 00000000 " + s15 + " f1\nstart 00000000 00\n"},
		{image(api.Seg{At: 0, Data: ones(16)}), "seg 00000000 " + s16 + " f0\nstart 00000000 00\n"},
		{image(api.Seg{At: 0, Data: ones(17)}), "seg 00000000 " + s16 + " f0\nand 00000010 01 ef\nstart 00000000 00\n"},
		{image(api.Seg{At: 0, Data: ones(32)}), "seg 00000000 " + s16 + " f0\nand 00000010 " + s16 + " e0\nstart 00000000 00\n"},
		{image(api.Seg{At: 0, Data: ones(33)}), "seg 00000000 " + s16 + " f0\nand 00000010 " + s16 + " e0\nand 00000020 01 df\nstart 00000000 00\n"},
		{image(api.Seg{At: 5, Data: ones(20)}), "seg 00000005 " + s16 + " eb\nand 00000015 01010101 e7\nstart 00000000 00\n"},
		{image(api.Seg{At: 0, Data: ones(16)}, api.Seg{At: 16, Data: ones(1)}), "seg 00000000 " + s16 + " f0\nseg 00000010 01 ef\nstart 00000000 00\n"},
		{image(api.Seg{At: 0, Data: ones(1)}, api.Seg{At: 1, Data: ones(1)}, api.Seg{At: 2, Data: []byte{9, 8}}), "seg 00000000 01 ff\nseg 00000001 01 fe\nseg 00000002 0908 ed\nstart 00000000 00\n"},
		{api.Image{Start: 4, Segs: []api.Seg{{At: 250, Data: ones(17)}, {At: 300, Data: ones(1)}}}, "seg 000000fa " + s16 + " f6\nand 0000010a 01 f4\nseg 0000012c 01 d2\nstart 00000004 fc\n"},
	} {
		if e := checkImage(t, c.im); e != api.OK {
			t.Errorf("%s: error %d", show(c.im), e)
		}
		if got := Text(c.im); got != c.want {
			t.Errorf("Text of %s:\n got %q\nwant %q", show(c.im), got, c.want)
		}
		right(t, c.want, show(c.im))
	}
}

func TestTextInvalid(t *testing.T) { // Ro3: an empty text for each kind of image that is not valid
	for _, segs := range [][]api.Seg{apart(65), make([]api.Seg, 65), {{}}, {{At: 3, Data: []byte{}}}, {seg(0, 4), {At: 4}}, {{}, seg(0, 4)}, {seg(16384, 1)}, {seg(16383, 2)}, {seg(math.MaxUint32, 2)}, {seg(0, 16385)}, {seg(0, 4), seg(3, 1)}, {seg(8, 4), seg(0, 4)}, {seg(8, 4), seg(8, 4)}} {
		for _, start := range []uint32{0, 8} {
			if got := Text(api.Image{Start: start, Segs: segs}); got != "" {
				t.Errorf("Text of %.100s: %.200q", show(image(segs...)), got)
			}
		}
	}
}

// again holds Text and Parse of a valid image against each other.
func again(t *testing.T, im api.Image) string {
	t.Helper()
	if e := checkImage(t, im); e != api.OK {
		t.Fatalf("Right of %.200s: error %d", show(im), e)
	}
	s := Text(im)
	right(t, s, show(im))
	return s
}

func TestTextAndParse(t *testing.T) { // Ro3, Ro5: Parse inverts Text
	for n := 1; n <= 100; n++ {
		again(t, image(seg(0, n)))
		again(t, api.Image{Start: uint32(n), Segs: []api.Seg{seg(uint32(n), n), seg(uint32(2*n), 1), seg(uint32(16384-n), n)}})
	}
	for _, n := range []int{255, 256, 257, 8192, 16367, 16368, 16369, 16383, 16384} {
		again(t, image(seg(0, n)))
		again(t, image(seg(uint32(16384-n), n)))
	}
	again(t, api.Image{Start: 5, Segs: apart(64)})
	for k := range 33 {
		for d := range uint32(3) {
			again(t, api.Image{Start: 1<<k + d - 1})
			again(t, api.Image{Start: ^(1<<k + d - 1), Segs: apart(1)})
		}
	}
	for at := uint32(0); at < 16384; at += 61 {
		again(t, image(seg(at, 1)))
	}
	// All of memory, in 64 segments that touch.
	var segs []api.Seg
	at := 0
	for k := range 63 {
		segs = append(segs, seg(uint32(at), 1+k*8))
		at += 1 + k*8
	}
	again(t, image(append(segs, seg(uint32(at), 16384-at))...))
	for k := range 300 {
		again(t, randomImage(uint64(k), 16384))
	}
}

func TestParseNothing(t *testing.T) { // Ro4: no line start; the number is that of the line after the last one
	wrong(t, api.ErrNone, 1, "")
	wrong(t, api.ErrNone, 2, fill("seg", 0, 1), fill("seg", 0, 16), fill("seg", 16383, 1))
	wrong(t, api.ErrNone, 3, fill("seg", 0, 16)+fill("and", 16, 1), fill("seg", 0, 1)+fill("seg", 1, 1))
	full := Text(image(seg(0, 16384)))
	wrong(t, api.ErrNone, 1025, strings.TrimSuffix(full, startLine))
	many := strings.TrimSuffix(Text(image(apart(64)...)), startLine)
	wrong(t, api.ErrNone, 65, many)
	right(t, startLine, "0")
	right(t, "start ffffffff 04\n", "4294967295")
}

func TestParseLines(t *testing.T) { // Ro4: the errors of Lines, with line 0, ahead of all others
	ok := fill("seg", 0, 1) + startLine
	wrong(t, api.ErrForm, 0,
		"x", "start 00000000 00", ok+"x", ok+" ", fill("seg", 0, 1)+"start 00000000 00", "seg", "foo\n\x00\n", ok+"\x00\n", ok+"\x7f\n", "\x80\n", "\xff\n", "é\n", "start 00000000 00\r\n", "start 00000000 00\r", "\x00start 00000000 00\n", "start\v00000000 00\n", "start 00000000 0\x1f\n",
		startLine+startLine+"x", "seg 00000000 05 00\nx", sumWrong(fill("seg", 0, 1))+"\x01\n",
	)
	wrong(t, api.ErrLong, 0, strings.Repeat("\n", 4097), strings.Repeat("start 00000000\n", 4097), strings.Repeat("x", 65537), strings.Repeat(" ", 65536)+"\n", strings.Repeat("\x00\n", 4097), startLine+strings.Repeat("\n", 4096), strings.Repeat("\xff", 65537))
	wrong(t, api.ErrForm, 0, strings.Repeat("\n", 4096)+"x", strings.Repeat("x", 65536))
	wrong(t, api.ErrForm, 1, strings.Repeat("\n", 4096), strings.Repeat("x", 65535)+"\n", strings.Repeat(" ", 65535)+"\n", "seg 00000000 "+strings.Repeat("0", 60000)+" 00\n", "start "+strings.Repeat("0", 60000)+" 00\n")
	wrong(t, api.ErrForm, 2, startLine+strings.Repeat("\n", 4095), startLine+strings.Repeat("x", 65536-19)+"\n")
	// As many lines as there can be.
	segs := apart(63)
	for k := range segs {
		segs[k].At = uint32(k)
	}
	if s := again(t, image(append(segs, seg(63, 16321))...)); strings.Count(s, "\n") != 1085 {
		t.Errorf("%d lines", strings.Count(s, "\n"))
	}
}

// forms is lines of which none has a right form, made from a right one.
func forms(s string) []string {
	s = strings.TrimSuffix(s, "\n")
	p := strings.Split(s, " ")
	word, rest := p[0], s[len(p[0]):]
	digits, sum := p[len(p)-2], p[len(p)-1]
	added := func(k int, more ...string) string {
		return strings.Join(slices.Insert(slices.Clone(p), k, more...), " ")
	}
	swapped := func(k int, other string) string {
		l := slices.Clone(p)
		l[k] = other
		return strings.Join(l, " ")
	}
	l := []string{
		"", " ", "\t", word, word + " ", strings.Join(p[:len(p)-1], " "), strings.Join(p[1:], " "), strings.Join(slices.Delete(slices.Clone(p), 1, 2), " "), strings.Join(slices.Delete(slices.Clone(p), len(p)-2, len(p)-1), " ") + "x",
		s + " 00", s + " " + sum, added(1, p[1]), added(len(p)-1, digits), added(len(p)-1, "00", "00"), added(0, word), word + s, s + s, s + " " + s, added(1, ""), added(2, ""), added(len(p)-1, ""),
		" " + s, s + " ", "\t" + s, s + "\t", s + "  ", "  " + s, strings.Replace(s, " ", "\t", 1), strings.ReplaceAll(s, " ", "\t"), strings.Replace(s, " ", ",", 1), strings.ReplaceAll(s, " ", ", "), strings.ReplaceAll(s, " ", ""), word + "\t" + rest, word + rest[1:], s + ";", s + ",", ";" + s,
		"segs" + rest, "se" + rest, "ands" + rest, "an" + rest, "starts" + rest, "star" + rest, "SEG" + rest, "And" + rest, "START" + rest, "end" + rest, "or" + rest, "org" + rest, "s" + rest, "seg:" + rest, "0" + rest, "segand" + rest, "x" + rest, rest, ".seg" + rest, "word" + rest,
		swapped(1, p[1][1:]), swapped(1, p[1]+"0"), swapped(1, "0"+p[1]), swapped(1, "0"), swapped(1, "0x"+p[1]), swapped(1, "0x"+p[1][2:]), swapped(1, ""), swapped(1, "-"+p[1][1:]), swapped(1, "+"+p[1][1:]), swapped(1, p[1][:7]+"g"), swapped(1, "g"+p[1][1:]), swapped(1, p[1][:7]+"A"), swapped(1, "F"+p[1][1:]), swapped(1, p[1][:4]+" "+p[1][4:]), swapped(1, p[1][:4]+"."+p[1][5:]), swapped(1, p[1][:7]+"-"), swapped(1, "/"+p[1][1:]), swapped(1, p[1][:7]+":"), swapped(1, "`"+p[1][1:]), swapped(1, p[1]+":"),
		swapped(len(p)-1, sum[:1]), swapped(len(p)-1, sum+"0"), swapped(len(p)-1, "0"+sum), swapped(len(p)-1, "0"), swapped(len(p)-1, sum+sum), swapped(len(p)-1, sum[:1]+"g"), swapped(len(p)-1, "F"+sum[1:]), swapped(len(p)-1, "0x"), swapped(len(p)-1, "0x"+sum), swapped(len(p)-1, "-1"), swapped(len(p)-1, sum[:1]+" "+sum[1:]), swapped(len(p)-1, "+"+sum[1:]), swapped(len(p)-1, sum[:1]+"A"),
	}
	if word == "start" {
		return append(l, "seg"+rest, "and"+rest, added(2, "05"), added(2, "0505"))
	}
	return append(l, "start"+rest, word+" "+digits+" "+p[1]+" "+sum, swapped(2, ""), swapped(2, digits[1:]), swapped(2, digits+"0"), swapped(2, "0"+digits), swapped(2, digits[:1]), swapped(2, strings.Repeat("01", 17)), swapped(2, strings.Repeat("0", 33)), swapped(2, strings.Repeat("00", 18)), swapped(2, strings.Repeat("f", 31)), swapped(2, strings.Repeat("00", 32)),
		swapped(2, "0x"+digits[2:]), swapped(2, "0x"), swapped(2, "-1"), swapped(2, "0A"+digits[2:]), swapped(2, "Af"+digits[2:]), swapped(2, "g0"+digits[2:]), swapped(2, "0g"+digits[2:]), swapped(2, digits[:len(digits)-2]+"0G"), swapped(2, digits[:len(digits)-1]+"F"), swapped(2, digits[:len(digits)-1]+"-"), swapped(2, "01 02"), swapped(2, "01,02"), swapped(2, digits+" "), swapped(2, "+1"), swapped(2, "/0"), swapped(2, "0:"), swapped(2, "`0"), swapped(2, "0@"))
}

// heads is texts that are right up to where a line seg, and or start may follow; each with the address behind it.
func heads() []struct {
	text string
	at   uint32
} {
	full := fill("seg", 0, 16)
	return []struct {
		text string
		at   uint32
	}{
		{"", 0}, {fill("seg", 0, 1), 1}, {fill("seg", 4, 15), 19}, {full, 16}, {full + fill("and", 16, 16), 32}, {full + fill("and", 16, 3), 19}, {full + fill("and", 16, 16) + fill("and", 32, 1), 33}, {full + fill("seg", 16, 16), 32}, {full + fill("seg", 20, 2), 22},
	}
}

func TestParseForms(t *testing.T) { // Ro4: lines of a wrong form, of each kind and in each place
	for _, h := range heads() {
		n := strings.Count(h.text, "\n")
		for _, s := range []string{row("seg", h.at, 0xab), row("seg", h.at+3, 1, 2), fill("seg", h.at, 16), row("and", h.at, 0xab), fill("and", h.at, 16), "start 00000000 00\n", "start 0000abcd 88\n", row("start", math.MaxUint32)} {
			for _, f := range forms(s) {
				wrong(t, api.ErrForm, n+1, h.text+f+"\n", h.text+f+"\n"+startLine, h.text+f+"\n\x20\n")
				wrong(t, api.ErrForm, n+2, h.text+startLine+f+"\n")
			}
		}
	}
}

func TestParseBytes(t *testing.T) { // Ro4: from 1 to 16 bytes of a line
	for n := 1; n <= 16; n++ {
		right(t, fill("seg", 5, n)+startLine, show(image(seg(5, n))))
		right(t, fill("seg", 0, 16)+fill("and", 16, n)+startLine, fmt.Sprintf("0 0:%x%x", seg(0, 16).Data, seg(16, n).Data))
	}
	for n := 17; n <= 64; n++ {
		wrong(t, api.ErrForm, 1, fill("seg", 5, n)+startLine)
		wrong(t, api.ErrForm, 2, fill("seg", 0, 16)+fill("and", 16, n)+startLine)
	}
	wrong(t, api.ErrForm, 1, "seg 00000000 00\n", "seg 00000000  00\n", "seg 00000000 00"+"\n"+startLine)
	wrong(t, api.ErrForm, 2, fill("seg", 0, 16)+"and 00000010 f0\n", fill("seg", 0, 16)+"and 00000010  f0\n")
	for b := range 256 {
		right(t, row("seg", 9, byte(b))+startLine, fmt.Sprintf("0 9:%02x", b))
		right(t, row("seg", 9, 1, byte(b), 2)+startLine, fmt.Sprintf("0 9:01%02x02", b))
	}
}

func TestParseAnd(t *testing.T) { // Ro4: a line and that does not continue the line before
	wrong(t, api.ErrForm, 1, fill("and", 0, 1), fill("and", 0, 16), fill("and", 16, 1), fill("and", 0, 1)+startLine, fill("and", 16384, 1), sumWrong(fill("and", 0, 1)))
	for n := 1; n <= 15; n++ {
		wrong(t, api.ErrForm, 2, fill("seg", 0, n)+fill("and", uint32(n), 1), fill("seg", 0, n)+fill("and", 16, 1), fill("seg", 0, n)+sumWrong(fill("and", uint32(n), 16)))
		wrong(t, api.ErrForm, 3, fill("seg", 0, 16)+fill("and", 16, n)+fill("and", uint32(16+n), 1), fill("seg", 0, 16)+fill("and", 16, n)+fill("and", 32, 1), fill("seg", 0, 16)+fill("seg", 16, n)+fill("and", uint32(16+n), 1))
	}
	for at := range uint32(100) {
		s, a := fill("seg", 20, 16), fill("seg", 4, 16)+fill("and", 20, 16)
		if at == 36 {
			right(t, s+fill("and", at, 2)+startLine, fmt.Sprintf("0 20:%x%x", seg(20, 16).Data, seg(36, 2).Data))
			right(t, a+fill("and", at, 2)+startLine, fmt.Sprintf("0 4:%x%x%x", seg(4, 16).Data, seg(20, 16).Data, seg(36, 2).Data))
			continue
		}
		wrong(t, api.ErrForm, 2, s+fill("and", at, 2)+startLine)
		wrong(t, api.ErrForm, 3, a+fill("and", at, 2)+startLine)
	}
	wrong(t, api.ErrForm, 2, fill("seg", 0, 16)+fill("and", 16+1<<8, 1), fill("seg", 0, 16)+fill("and", 16+1<<16, 1), fill("seg", 0, 16)+fill("and", 16+1<<31, 1), fill("seg", 0, 16)+fill("and", math.MaxUint32, 2), fill("seg", 0, 16)+fill("and", math.MaxUint32-15, 16), startLine+fill("and", 0, 1), startLine+fill("and", 16, 1))
	wrong(t, api.ErrForm, 3, fill("seg", 0, 16)+startLine+fill("and", 16, 1), fill("seg", 0, 16)+fill("seg", 16, 1)+fill("and", 16, 1), fill("seg", 0, 16)+fill("seg", 20, 1)+fill("and", 16, 1), fill("seg", 0, 16)+fill("seg", 32, 16)+fill("and", 16, 16), fill("seg", 0, 16)+fill("seg", 32, 1)+fill("and", 33, 1))
	right(t, fill("seg", 0, 16)+fill("seg", 32, 16)+fill("and", 48, 1)+startLine, show(image(seg(0, 16), api.Seg{At: 32, Data: append(seg(32, 16).Data, seg(48, 1).Data...)})))
}

func TestParseBehindStart(t *testing.T) { // Ro4: a line behind start
	for _, head := range []string{"", fill("seg", 0, 1), fill("seg", 0, 16), fill("seg", 0, 16) + fill("and", 16, 16)} {
		n := strings.Count(head, "\n")
		for _, s := range []string{startLine, "start 00000004 fc\n", fill("seg", 64, 1), fill("seg", 0, 1), fill("and", 0, 1), fill("and", 16, 16), fill("and", 32, 1), "\n", " \n", "x\n", sumWrong(startLine), sumWrong(fill("seg", 64, 1)), fill("seg", 16384, 1)} {
			wrong(t, api.ErrForm, n+2, head+startLine+s, head+"start ffffffff 04\n"+s, head+startLine+s+startLine, head+startLine+s+"x\n")
		}
	}
}

func TestParseSum(t *testing.T) { // Ro4: wrong last digits in each kind of line
	for _, h := range heads() {
		n := strings.Count(h.text, "\n")
		kinds := []string{fill("seg", h.at, 1), fill("seg", h.at, 16), row("seg", h.at, 0, 0), "start 00000000 00\n", row("start", h.at), "start 12345678 ec\n"}
		if n == 3 || n == 0 {
			kinds = append(kinds, fill("seg", h.at+256, 2))
		}
		if strings.HasSuffix(h.text, fill("seg", 0, 16)) || strings.HasSuffix(h.text, fill("and", 16, 16)) || strings.HasSuffix(h.text, fill("seg", 16, 16)) {
			kinds = append(kinds, fill("and", h.at, 1), fill("and", h.at, 16))
		}
		for _, s := range kinds {
			if got := check(t, h.text+s); got.e != api.OK && got.e != api.ErrNone {
				t.Fatalf("%q: %s", h.text+s, got)
			}
			for x := range 256 {
				other := fmt.Sprintf("%s%02x\n", s[:len(s)-3], x)
				if other != s {
					wrong(t, api.ErrSum, n+1, h.text+other, h.text+other+startLine, h.text+other+"x\n")
				}
			}
		}
	}
	// The bytes of the address count each, and in every place.
	wrong(t, api.ErrSum, 1, "start 00000001 00\n", "start 00000100 00\n", "start 00010000 00\n", "start 01000000 00\n", "seg 00000001 01 00\n", "seg 00000100 01 ff\n", "seg 00000000 05 fc\n")
	right(t, "start 01020304 f6\n", "16909060")
	right(t, "start 04030201 f6\n", "67305985")
}

func TestParseLong(t *testing.T) { // Ro4: 64 and 65 lines seg
	many := func(n int) string { return strings.TrimSuffix(wantText(image(apart(n)...)), startLine) }
	right(t, many(64)+startLine, show(image(apart(64)...)))
	fifth := many(64) + fill("seg", 1000, 1)
	wrong(t, api.ErrLong, 65, fifth, fifth+startLine, fifth+"x\n", fifth+sumWrong(startLine), many(64)+fill("seg", 127, 1), many(64)+fill("seg", 1000, 16)+fill("and", 1016, 1))
	// Beside other faults of the line.
	wrong(t, api.ErrLong, 65, many(64)+fill("seg", 0, 1), many(64)+fill("seg", 126, 1), many(64)+fill("seg", 16384, 1), many(64)+fill("seg", 16383, 2), many(64)+fill("seg", math.MaxUint32, 2))
	wrong(t, api.ErrSum, 65, many(64)+sumWrong(fill("seg", 1000, 1)), many(64)+sumWrong(fill("seg", 0, 1)), many(64)+sumWrong(startLine))
	wrong(t, api.ErrForm, 65, many(64)+"seg 00000000 0 00\n", many(64)+"\n", many(64)+fill("and", 127, 1), many(64)+fill("seg", 1000, 17))
	wrong(t, api.ErrForm, 66, many(64)+startLine+fill("seg", 1000, 1))
	// Lines and do not count.
	wide, want := "", api.Image{}
	for k := range 64 {
		at := uint32(k * 256)
		wide += fill("seg", at, 16) + fill("and", at+16, 16) + fill("and", at+32, 1)
		want.Segs = append(want.Segs, api.Seg{At: at, Data: slices.Concat(seg(at, 16).Data, seg(at+16, 16).Data, seg(at+32, 1).Data)})
	}
	right(t, wide+startLine, show(want))
	wrong(t, api.ErrLong, 193, wide+fill("seg", 16300, 1), wide+fill("seg", 16300, 1)+startLine)
	wrong(t, api.ErrNone, 193, wide)
}

func TestParseRange(t *testing.T) { // Ro4: bytes that end at MaxMem, and beyond
	right(t, fill("seg", 16383, 1)+startLine, show(image(seg(16383, 1))))
	right(t, fill("seg", 16368, 16)+startLine, show(image(seg(16368, 16))))
	wrong(t, api.ErrRange, 1, fill("seg", 16384, 1), fill("seg", 16383, 2), fill("seg", 16369, 16), fill("seg", 16384, 16), fill("seg", 16385, 1), fill("seg", 1<<16, 1), fill("seg", 1<<31, 1), fill("seg", math.MaxUint32, 1), fill("seg", math.MaxUint32, 2), fill("seg", math.MaxUint32-14, 16), fill("seg", math.MaxUint32-15, 16), fill("seg", 16384, 1)+startLine, fill("seg", 16384, 1)+"x\n")
	for n := 1; n <= 16; n++ {
		at := uint32(16384 - n)
		s := fill("seg", at-16, 16)
		a := fill("seg", at-32, 16) + fill("and", at-16, 16)
		right(t, fill("seg", at, n)+startLine, show(image(seg(at, n))))
		right(t, s+fill("and", at, n)+startLine, fmt.Sprintf("0 %d:%x%x", at-16, seg(at-16, 16).Data, seg(at, n).Data))
		check(t, a+fill("and", at, n)+startLine)
		wrong(t, api.ErrRange, 1, fill("seg", at+1, n))
		for more := n + 1; more <= 16; more++ {
			wrong(t, api.ErrRange, 1, fill("seg", at, more))
			wrong(t, api.ErrRange, 2, s+fill("and", at, more), s+fill("and", at, more)+startLine, s+fill("seg", at, more), fill("seg", 0, 1)+fill("seg", at, more))
			wrong(t, api.ErrRange, 3, a+fill("and", at, more), a+fill("seg", at, more))
		}
	}
	wrong(t, api.ErrRange, 2, fill("seg", 16368, 16)+fill("and", 16384, 1), fill("seg", 16368, 16)+fill("and", 16384, 16), fill("seg", 16368, 16)+fill("seg", 16384, 1), fill("seg", 0, 1)+fill("seg", math.MaxUint32, 2))
	full := strings.TrimSuffix(wantText(image(seg(0, 16384))), startLine)
	wrong(t, api.ErrRange, 1025, full+fill("and", 16384, 1), full+fill("seg", 16384, 1))
	wrong(t, api.ErrTwice, 1025, full+fill("seg", 16383, 1), full+fill("seg", 0, 1))
	wrong(t, api.ErrForm, 1025, full+fill("and", 16383, 1), full+fill("and", 0, 1))
	wrong(t, api.ErrSum, 1, sumWrong(fill("seg", 16384, 1)), sumWrong(fill("seg", math.MaxUint32, 2)))
	wrong(t, api.ErrSum, 2, fill("seg", 16368, 16)+sumWrong(fill("and", 16384, 1)))
	// Start may be any number.
	for _, at := range []uint32{16383, 16384, 1 << 31, math.MaxUint32} {
		right(t, row("start", at), fmt.Sprint(at))
		right(t, fill("seg", 4, 1)+row("start", at), show(api.Image{Start: at, Segs: []api.Seg{seg(4, 1)}}))
	}
}

func TestParseTwice(t *testing.T) { // Ro4: a line seg that begins before the end of the previous segment
	for _, c := range []struct {
		head     string
		from, at uint32
	}{{fill("seg", 40, 1), 40, 41}, {fill("seg", 40, 16), 40, 56}, {fill("seg", 40, 16) + fill("and", 56, 16), 40, 72}, {fill("seg", 40, 16) + fill("and", 56, 3), 40, 59}, {fill("seg", 40, 16) + fill("and", 56, 16) + fill("and", 72, 2), 40, 74}, {fill("seg", 0, 4) + fill("seg", 40, 2), 40, 42}, {fill("seg", 0, 16) + fill("and", 16, 16) + fill("seg", 40, 16) + fill("and", 56, 1), 40, 57}} {
		n := strings.Count(c.head, "\n")
		for at := range uint32(90) {
			s := fill("seg", at, 2)
			if at >= c.at {
				if got := check(t, c.head+s+startLine); got.e != api.OK || got.im.Segs[len(got.im.Segs)-1].At != at {
					t.Errorf("%q: %s", c.head+s, got)
				}
				continue
			}
			wrong(t, api.ErrTwice, n+1, c.head+s, c.head+s+startLine, c.head+s+"x\n", c.head+fill("seg", at, 16)+fill("and", at+16, 1))
			wrong(t, api.ErrSum, n+1, c.head+sumWrong(s))
		}
	}
	right(t, fill("seg", 4, 4)+fill("seg", 8, 4)+fill("seg", 12, 4)+startLine, show(image(seg(4, 4), seg(8, 4), seg(12, 4))))
	wrong(t, api.ErrTwice, 2, fill("seg", 4, 4)+fill("seg", 4, 4), fill("seg", 4, 4)+fill("seg", 0, 4), fill("seg", 4, 4)+fill("seg", 0, 1), fill("seg", 4, 4)+fill("seg", 7, 1))
	wrong(t, api.ErrTwice, 3, fill("seg", 4, 4)+fill("seg", 20, 4)+fill("seg", 8, 4))
	// What ends beyond MaxMem goes ahead of what begins too early.
	wrong(t, api.ErrRange, 2, fill("seg", 16376, 8)+fill("seg", 16376, 9), fill("seg", 16376, 8)+fill("seg", 16383, 2))
}

func TestParseOrder(t *testing.T) { // Ro4: faults in two lines: the earlier line counts
	for _, a := range []struct {
		s string
		e api.Errno
	}{{"x\n", api.ErrForm}, {sumWrong(fill("seg", 64, 1)), api.ErrSum}, {fill("seg", 16384, 1), api.ErrRange}, {fill("seg", 0, 1), api.ErrTwice}, {fill("and", 3, 1), api.ErrForm}, {sumWrong(startLine), api.ErrSum}} {
		for _, b := range []string{"x\n", "\n", sumWrong(fill("seg", 64, 1)), fill("seg", 16384, 1), fill("seg", 0, 1), fill("and", 3, 1), sumWrong(startLine), startLine, startLine + startLine} {
			wrong(t, a.e, 2, fill("seg", 8, 8)+a.s+b)
			wrong(t, a.e, 3, fill("seg", 8, 8)+fill("seg", 20, 1)+a.s+b)
		}
	}
}

// lines is lines with and without faults of their own.
func lines() []string {
	return []string{
		"\n", "x\n", startLine, "start 00000010 f0\n", row("start", math.MaxUint32), sumWrong(startLine), fill("seg", 0, 1), fill("seg", 0, 16), fill("seg", 1, 15), fill("seg", 16, 1), fill("seg", 16, 16), fill("seg", 15, 2), fill("seg", 32, 4), fill("and", 0, 1), fill("and", 1, 1), fill("and", 16, 1), fill("and", 16, 16), fill("and", 32, 2), fill("and", 32, 16),
		sumWrong(fill("seg", 0, 16)), sumWrong(fill("and", 16, 16)), fill("seg", 16368, 16), fill("seg", 16367, 16), fill("and", 16383, 1), fill("and", 16383, 2), fill("and", 16384, 1), fill("seg", 16384, 1), fill("seg", math.MaxUint32, 2), sumWrong(fill("seg", 16384, 1)), "seg 00000000  00\n", fill("seg", 0, 17), fill("and", 16, 17),
	}
}

func TestLines(t *testing.T) { // Ro4, Ro5: every text of up to three lines of the pool; each that is accepted is the text of its image
	l := lines()
	accepted := 0
	try := func(s string) {
		if got := check(t, s); got.e == api.OK {
			accepted++
			if Text(got.im) != s || Right(got.im) != api.OK {
				t.Fatalf("%q is accepted, and its image is %q", s, Text(got.im))
			}
		}
	}
	for _, a := range l {
		try(a)
		for _, b := range l {
			try(a + b)
			for _, c := range l {
				try(a + b + c)
				try(a + b + c + startLine)
			}
		}
	}
	if accepted < 50 {
		t.Errorf("%d accepted", accepted)
	}
}

func TestTexts(t *testing.T) { // Ro4, Ro5: texts of valid images with lines that are left out, doubled, swapped or changed
	x := uint64(7)
	accepted := 0
	for k := range 2500 {
		l := strings.SplitAfter(wantText(randomImage(uint64(k), []int{100, 400, 16384}[k%3])), "\n")
		l = l[:len(l)-1]
		for range choose(&x, 3) {
			at, other := choose(&x, len(l)), choose(&x, len(l))
			switch choose(&x, 6) {
			case 0:
				l = slices.Delete(l, at, at+1)
			case 1:
				l = slices.Insert(l, at, l[other])
			case 2:
				l[at], l[other] = l[other], l[at]
			case 3:
				l[at] = sumWrong(l[at])
			case 4:
				l[at] = lines()[choose(&x, len(lines()))]
			case 5:
				s := []byte(l[at])
				s[choose(&x, len(s))] = "0123456789abcdef segantr\n"[choose(&x, 25)]
				l[at] = string(s)
			}
			if len(l) == 0 {
				break
			}
		}
		s := strings.Join(l, "")
		if got := check(t, s); got.e == api.OK {
			accepted++
			if Text(got.im) != s {
				t.Fatalf("%.300q is accepted, and its image is %.300q", s, Text(got.im))
			}
		}
	}
	if accepted < 500 || accepted > 2400 {
		t.Errorf("%d accepted", accepted)
	}
}

func TestEveryDigit(t *testing.T) { // Ro5: a text in which a single digit is changed is rejected
	for _, im := range []api.Image{{}, {Start: math.MaxUint32}, {Start: 0x9a5f0e61}, image(seg(0, 1)), image(seg(16, 16)), api.Image{Start: 64, Segs: []api.Seg{seg(3, 33), seg(36, 1), seg(200, 16)}}, image(seg(16352, 32)), image(apart(9)...)} {
		s := again(t, im)
		at := 0
		for _, l := range strings.SplitAfter(s, "\n") {
			word := strings.IndexByte(l, ' ')
			for k := range l {
				if k < word || l[k] == ' ' || l[k] == '\n' {
					continue
				}
				for _, d := range "0123456789abcdefABCDEF" {
					if byte(d) == l[k] {
						continue
					}
					changed := s[:at+k] + string(d) + s[at+k+1:]
					if got := check(t, changed); got.e == api.OK || got.line == 0 {
						t.Errorf("%q: %s", changed, got)
					}
				}
			}
			at += len(l)
		}
	}
}

func TestEveryByte(t *testing.T) { // Ro4: every byte in the place of a byte of a text, and behind it; a byte left out
	s := fill("seg", 3, 16) + fill("and", 19, 2) + row("seg", 21, 0xa0) + "start 0000abcd 88\n"
	for at := range s {
		check(t, s[:at]+s[at+1:])
		for b := range 256 {
			check(t, s[:at]+string([]byte{byte(b)})+s[at+1:])
			check(t, s[:at]+string([]byte{byte(b)})+s[at:])
		}
	}
}

func TestNewMemory(t *testing.T) { // Ro4, R4: answers are alike at every call, and no two lists share memory
	s := fill("seg", 0, 16) + fill("and", 16, 16) + fill("and", 32, 5) + fill("seg", 37, 1) + fill("seg", 40, 16) + fill("and", 56, 16) + fill("seg", 72, 3) + "start 00000009 f7\n"
	first, second := parsed(s), parsed(s)
	want := wantParse(s).String()
	if first.e != api.OK || first.String() != want {
		t.Fatalf("%s, want %s", first, want)
	}
	for k, g := range first.im.Segs {
		before := show(image(first.im.Segs[:k]...)) + show(image(first.im.Segs[k+1:]...))
		all := g.Data[:cap(g.Data)]
		for j := range all {
			all[j] ^= 0xff
		}
		if after := show(image(first.im.Segs[:k]...)) + show(image(first.im.Segs[k+1:]...)); after != before {
			t.Errorf("segment %d shares memory with another one", k)
		}
	}
	clear(first.im.Segs[:cap(first.im.Segs)])
	if second.String() != want || parsed(s).String() != want {
		t.Errorf("answers share memory: %s", second)
	}
	// An image without a segment has none, and an answer beside an error has none.
	for _, s := range []string{startLine, "", "x", "x\n", fill("seg", 0, 1), fill("seg", 0, 1) + "x\n", fill("seg", 0, 16) + sumWrong(fill("and", 16, 1)), row("start", 5) + "\n"} {
		if got := parsed(s); len(got.im.Segs) > 0 || got.im.Start != 0 {
			t.Errorf("%q: %s", s, got)
		}
	}
}
