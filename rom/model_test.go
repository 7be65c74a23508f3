package rom

import (
	"bytes"
	"encoding/binary"
	"encoding/hex"
	"fmt"
	"math/big"
	"regexp"
	"strings"
	"testing"

	"cotterel/api"
)

// show is an image in short: its start, and the addresses of its segments with their bytes in hexadecimal digits.
func show(im api.Image) string {
	s := fmt.Sprintf("%d", im.Start)
	for _, g := range im.Segs {
		s += fmt.Sprintf(" %d:%x", g.At, g.Data)
	}
	return s
}

// answer is all that Parse returns.
type answer struct {
	im   api.Image
	line int
	e    api.Errno
}

func (a answer) String() string {
	return fmt.Sprintf("%s line %d error %d", show(a.im), a.line, a.e)
}

func parsed(s string) answer {
	im, line, e := Parse(s)
	return answer{im, line, e}
}

// limit is MaxMem as the document tells it.
var limit = big.NewInt(16384)

// behind is the end of a segment, a number without bounds.
func behind(s api.Seg) *big.Int {
	return new(big.Int).Add(new(big.Int).SetUint64(uint64(s.At)), big.NewInt(int64(len(s.Data))))
}

// wantRight is what Right must return.
func wantRight(im api.Image) api.Errno {
	if len(im.Segs) >= 65 {
		return api.ErrLong
	}
	for k, s := range im.Segs {
		if len(s.Data) < 1 {
			return api.ErrArg
		}
		if behind(s).Cmp(limit) > 0 {
			return api.ErrRange
		}
		if k > 0 && new(big.Int).SetUint64(uint64(s.At)).Cmp(behind(im.Segs[k-1])) < 0 {
			return api.ErrTwice
		}
	}
	return api.OK
}

// wantSum is what Sum must return, found by trying.
func wantSum(b []byte) byte {
	total := 0
	for _, x := range b {
		total += int(x)
	}
	for x := range 256 {
		if (total+x)%256 == 0 {
			return byte(x)
		}
	}
	panic("no sum")
}

// wantLoad is what Load must return.
func wantLoad(size int, im api.Image) ([]byte, api.Errno) {
	sizes := map[int]bool{}
	for n := 1; n <= 256; n++ {
		sizes[64*n] = true
	}
	if !sizes[size] {
		return nil, api.ErrArg
	}
	if e := wantRight(im); e != api.OK {
		return nil, e
	}
	placed := map[int]byte{}
	for _, s := range im.Segs {
		for k, x := range s.Data {
			placed[int(s.At)+k] = x
		}
	}
	var memory []byte
	for at := range size {
		memory = append(memory, placed[at])
		delete(placed, at)
	}
	if len(placed) > 0 {
		return nil, api.ErrRange
	}
	return memory, api.OK
}

// unhex is the bytes of hexadecimal digits.
func unhex(digits string) []byte {
	b, e := hex.DecodeString(digits)
	if e != nil {
		panic(digits)
	}
	return b
}

// sumAt is the sum of an address and of bytes, by the digits of the address.
func sumAt(at uint32, b []byte) byte {
	return wantSum(append(unhex(fmt.Sprintf("%08x", at)), b...))
}

// wantText is what Text must return.
func wantText(im api.Image) string {
	if wantRight(im) != api.OK {
		return ""
	}
	s := ""
	for _, g := range im.Segs {
		for k := range g.Data {
			if k%16 > 0 {
				continue
			}
			word, at, b := "and", g.At+uint32(k), g.Data[k:]
			if k == 0 {
				word = "seg"
			}
			if len(b) > 16 {
				b = b[:16]
			}
			s += fmt.Sprintf("%s %08x %x %02x\n", word, at, b, sumAt(at, b))
		}
	}
	return s + fmt.Sprintf("start %08x %02x\n", im.Start, sumAt(im.Start, nil))
}

var (
	isLines = regexp.MustCompile(`\A([ -~\t]*\n)*\z`)
	isBytes = regexp.MustCompile(`\A(seg|and) ([0-9a-f]{8}) ((?:[0-9a-f]{2}){1,16}) ([0-9a-f]{2})\z`)
	isStart = regexp.MustCompile(`\A(start) ([0-9a-f]{8})() ([0-9a-f]{2})\z`)
)

// wantParse is what Parse must return: patterns, and each line held against the whole image up to it.
func wantParse(s string) answer {
	if len(s) > 65536 || strings.Count(s, "\n") > 4096 {
		return answer{e: api.ErrLong}
	}
	if !isLines.MatchString(s) {
		return answer{e: api.ErrForm}
	}
	lines := strings.Split(s, "\n")
	var im api.Image
	before, length := "", 0 // the word and the number of bytes of the line before
	for k, line := range lines[:len(lines)-1] {
		found := isBytes.FindStringSubmatch(line)
		if found == nil {
			found = isStart.FindStringSubmatch(line)
		}
		if found == nil {
			return answer{line: k + 1, e: api.ErrForm}
		}
		at, b, sum := binary.BigEndian.Uint32(unhex(found[2])), unhex(found[3]), unhex(found[4])[0]
		e := wantLine(im, before, length, found[1], api.Seg{At: at, Data: b}, sum)
		if e != api.OK {
			return answer{line: k + 1, e: e}
		}
		switch found[1] {
		case "seg":
			im.Segs = append(im.Segs, api.Seg{At: at, Data: b})
		case "and":
			g := im.Segs[len(im.Segs)-1]
			im.Segs[len(im.Segs)-1].Data = bytes.Join([][]byte{g.Data, b}, nil)
		default:
			im.Start = at
		}
		before, length = found[1], len(b)
	}
	if before != "start" {
		return answer{line: len(lines), e: api.ErrNone}
	}
	return answer{im: im}
}

// wantLine is why a line can't stand behind an image whose last line has a word and a number of bytes.
func wantLine(im api.Image, before string, length int, word string, s api.Seg, sum byte) api.Errno {
	free := big.NewInt(0)
	if len(im.Segs) > 0 {
		free = behind(im.Segs[len(im.Segs)-1])
	}
	from := new(big.Int).SetUint64(uint64(s.At))
	switch {
	case before == "start":
		return api.ErrForm
	case word == "and" && (before == "" || length != 16 || free.Cmp(from) != 0):
		return api.ErrForm
	case sum != sumAt(s.At, s.Data):
		return api.ErrSum
	case word == "seg" && len(im.Segs) == 64:
		return api.ErrLong
	case word != "start" && behind(s).Cmp(limit) > 0:
		return api.ErrRange
	case word == "seg" && from.Cmp(free) < 0:
		return api.ErrTwice
	}
	return api.OK
}

// check holds Parse against the model, and returns what both answer.
func check(t *testing.T, s string) answer {
	t.Helper()
	got, want := parsed(s), wantParse(s)
	if got.String() != want.String() {
		t.Fatalf("Parse of %d bytes %.400q:\n got %.300s\nwant %.300s", len(s), s, got, want)
	}
	return got
}

// wrong holds Parse against an error that is written out.
func wrong(t *testing.T, e api.Errno, line int, texts ...string) {
	t.Helper()
	for _, s := range texts {
		if got := check(t, s); got.line != line || got.e != e || got.im.Start != 0 || len(got.im.Segs) > 0 {
			t.Errorf("Parse of %d bytes %.300q: %.300s, want error %d in line %d alone", len(s), s, got, e, line)
		}
	}
}

// right holds Parse against an image that is written out, as show has it.
func right(t *testing.T, s, want string) {
	t.Helper()
	if got := check(t, s).String(); got != want+" line 0 error 0" {
		t.Errorf("Parse of %d bytes %.300q: %.300s, want %.300s", len(s), s, got, want)
	}
}

// checkImage holds Right and Text against the model.
func checkImage(t *testing.T, im api.Image) api.Errno {
	t.Helper()
	got, want := Right(im), wantRight(im)
	if got != want {
		t.Fatalf("Right of %d segments %.300s: %d, want %d", len(im.Segs), show(im), got, want)
	}
	if got, want := Text(im), wantText(im); got != want {
		t.Fatalf("Text of %d segments %.300s:\n got %.300q\nwant %.300q", len(im.Segs), show(im), got, want)
	}
	return got
}

// checkLoad holds Load against the model.
func checkLoad(t *testing.T, size int, im api.Image) ([]byte, api.Errno) {
	t.Helper()
	got, e := Load(size, im)
	want, wantE := wantLoad(size, im)
	if e != wantE || !bytes.Equal(got, want) {
		t.Fatalf("Load of %d, %d segments %.300s: %.300x error %d, want %.300x error %d", size, len(im.Segs), show(im), got, e, want, wantE)
	}
	return got, e
}
